import Derived.Test.YtjbfghnihnmpjaaLMF
import Derived.Test.YtjbfghnihnmpjaaLPB
import Derived.LaidEqlPtr
import Derived.Deep.QuietTactic
import Derived.BigQuiet
/- Package transform: a table in memory, and what reads it. -/
namespace Go.Proofs.Ytjbfghnihnmpjaa
open Go.RowKit
set_option linter.unusedVariables false

def Dim (n : Nat) : Prop := n = 2 ∨ n = 4 ∨ n = 8 ∨ n = 16 ∨ n = 32
/-- The numbers of a table. -/
structure Num (n q psi s : Nat) : Prop where
  dim : Dim n
  pr : Ob.Pr q
  le : q ≤ 2147483647
  div : (q - 1) % (2 * n) = 0
  least : Ob.LeastOrd q (2 * n) psi
  inv : IsInv n q s
theorem Num.dims {n q psi s : Nat} (h : Num n q psi s) : 2 ≤ n ∧ n ≤ 32 ∧ 2 ≤ q ∧ q ≤ 2147483647 ∧ psi < q ∧ s < q := by
  have h1 := h.dim
  have h2 := h.pr.1
  have h3 := h.least.2.1
  have h4 := h.inv.2.1
  unfold Dim at h1
  have := h.le
  refine ⟨by omega, by omega, h2, h.le, h3, by omega⟩
/-- A place that holds a table. -/
def IsTab (W : World) (T n q psi s : Nat) : Prop :=
  W.cell? ⟨T, 0, none⟩ = some (.int .i64 n) ∧ W.cell? ⟨T, 1, none⟩ = some (.int .u32 q) ∧
  (∀ k, k < 2 * n → W.cell? ⟨T, 2 + k, none⟩ = some (.int .u32 ((psi ^ k % q : Nat) : Int))) ∧
  W.cell? ⟨T, 66, none⟩ = some (.int .u32 s) ∧ W.cell? ⟨T, 67, none⟩ = some (.pointer (some ⟨T, 0, none⟩))
theorem IsTab.later {W W' : World} {T n q psi s : Nat} (h : IsTab W T n q psi s) (g : Gr W W') : IsTab W' T n q psi s :=
  ⟨g.keeps h.1, g.keeps h.2.1, fun k hk => g.keeps (h.2.2.1 k hk), g.keeps h.2.2.2.1, g.keeps h.2.2.2.2⟩
/-- No table: nil, or a zero value. -/
def NoTab (W : World) (v : Value) : Prop := v = .pointer none ∨ ∃ S, v = .pointer (some ⟨S, 0, none⟩) ∧ W.cell? ⟨S, 67, none⟩ = some (.pointer none)
theorem NoTab.later {W W' : World} {v : Value} (h : NoTab W v) (g : Gr W W') : NoTab W' v := by
  rcases h with rfl | ⟨S, rfl, h1⟩
  · exact .inl rfl
  · exact .inr ⟨S, rfl, g.keeps h1⟩
def IsB (b : Bool) (w : World) (e : Ending) (w' : World) : Prop := e = .returned (.bool b) ∧ Gr w w'
def IsU (x : Int) (w : World) (e : Ending) (w' : World) : Prop := e = .returned (.int .u32 x) ∧ Gr w w'
def IsE (x : Int) (w : World) (e : Ending) (w' : World) : Prop := e = .returned (.int .i64 x) ∧ Gr w w'

theorem dimension_any (n : Int) (w : World) : Calls Try.prog 36 #[.int .i64 n] w (fun e w' => e = .returned (.bool (decide (n = 2 ∨ n = 4 ∨ n = 8 ∨ n = 16 ∨ n = 32))) ∧ w = w') := by
  by_cases h : n = 2 ∨ n = 4 ∨ n = 8 ∨ n = 16 ∨ n = 32
  · rw [decide_eq_true h]
    rcases h with rfl | rfl | rfl | rfl | rfl
    all_goals
      go_enter Try.func36, Try.ntmps36
      go_wp2_with fail
      go_ret
      exact ⟨rfl, rfl⟩
  · rw [decide_eq_false h]
    have b1 : (n == 2) = false := by simp; omega
    have b2 : (n == 4) = false := by simp; omega
    have b3 : (n == 8) = false := by simp; omega
    have b4 : (n == 16) = false := by simp; omega
    have b5 : (n == 32) = false := by simp; omega
    clear h
    go_enter Try.func36, Try.ntmps36
    go_wp2_with fail
    go_ret
    exact ⟨rfl, rfl⟩

set_option maxHeartbeats 400000 in
theorem plus_any (q s x y : Int) (T : Nat) (w : World) (hq : 1 ≤ q ∧ q ≤ 2147483647) (h : w.cell? ⟨T, 1, none⟩ = some (.int .u32 q)) (hs : 0 ≤ s ∧ s ≤ 2147483647) (hx : 0 ≤ x ∧ x ≤ 2147483647) (hy : 0 ≤ y ∧ y ≤ 2147483647) :
    Calls Try.prog 33 #[.pointer (some ⟨T, 0, none⟩), .int .u32 s, .int .u32 x, .int .u32 y] w (fun e w' => e = .returned (.int .u32 ((s + x * y) % q)) ∧ w = w') := by
  obtain ⟨q1, q2⟩ := hq
  obtain ⟨s1, s2⟩ := hs
  obtain ⟨x1, x2⟩ := hx
  obtain ⟨y1, y2⟩ := hy
  have p0 := mul_lo x1 y1
  have p1 : x * y ≤ 4611686014132420609 := by
    have h1 : x * y ≤ 2147483647 * y := Int.mul_le_mul_of_nonneg_right (by omega) (by omega)
    omega
  have r0 := emod_lo (s + x * y) q (by omega)
  have r1 := emod_hi (s + x * y) q (by omega)
  go_enter Try.func33, Try.ntmps33
  go_wp2_with fail
  go_ret
  exact ⟨rfl, rfl⟩

theorem eql_self (w : World) (a : Addr) : (binOp .eql 23 (.pointer (some a)) (.pointer (some a))).run Try.prog w = .ok (.bool true) w := by
  obtain ⟨j, hj⟩ : ∃ j, Try.prog.info? 41 = some j := Option.isSome_iff_exists.1 (by kernel_rfl)
  exact run_eql_ptr_same w a Try.underlying23 hj
theorem eql_none (w : World) (a : Addr) : (binOp .eql 23 (.pointer none) (.pointer (some a))).run Try.prog w = .ok (.bool false) w := by
  have h : ∀ d : Nat, (Op.equalIn (d + 1) 23 (.pointer none) (.pointer (some a))).run Try.prog w = .ok false w := fun d => by
    simp [Op.equalIn, run_underlying Try.underlying23]
  simp only [binOp]
  simp [Op.equal, Op.maxDepth, h 9999]

set_option maxRecDepth 100000 in
set_option maxHeartbeats 1000000 in
theorem made_yes (T : Nat) (w : World) (h : w.cell? ⟨T, 67, none⟩ = some (.pointer (some ⟨T, 0, none⟩))) : Calls Try.prog 35 #[.pointer (some ⟨T, 0, none⟩)] w (IsB true w) := by
  have heq := eql_self w ⟨T, 0, none⟩
  go_enter Try.func35, Try.ntmps35
  go_wp2_with fail
  go_ret
  exact ⟨rfl, Gr.refl w⟩
set_option maxRecDepth 100000 in
set_option maxHeartbeats 1000000 in
theorem made_no (v : Value) (w : World) (h : NoTab w v) : Calls Try.prog 35 #[v] w (IsB false w) := by
  rcases h with rfl | ⟨S, rfl, h1⟩
  · go_enter Try.func35, Try.ntmps35
    go_wp2_with fail
    go_ret
    exact ⟨rfl, Gr.refl w⟩
  · have heq := eql_none w ⟨S, 0, none⟩
    go_enter Try.func35, Try.ntmps35
    go_wp2_with fail
    go_ret
    exact ⟨rfl, Gr.refl w⟩

theorem pow_period {q n psi : Nat} (hq : 2 ≤ q) (h : psi ^ (2 * n) % q = 1) (k : Nat) : psi ^ (k % (2 * n)) % q = psi ^ k % q := by
  have e : psi ^ k = psi ^ (2 * n * (k / (2 * n))) * psi ^ (k % (2 * n)) := by
    rw [← Nat.pow_add, Nat.div_add_mod]
  rw [e, Nat.mul_mod, Nat.pow_mul, Nat.pow_mod (psi ^ (2 * n)), h, Nat.one_pow, Nat.mod_eq_of_lt (show 1 < q by omega), Nat.one_mul, Nat.mod_mod]

set_option maxRecDepth 100000 in
set_option maxHeartbeats 1000000 in
theorem tpower_any (n q psi s T k : Nat) (w : World) (hN : Num n q psi s) (h : IsTab w T n q psi s) (hk : k ≤ 1000000) :
    Calls Try.prog 42 #[.pointer (some ⟨T, 0, none⟩), .int .i64 k] w (IsU ((psi ^ k % q : Nat) : Int) w) := by
  obtain ⟨d1, d2, d3, d4, d5, d6⟩ := hN.dims
  have hp := pow_period d3 hN.least.1.1 k
  rw [← hp]
  obtain ⟨h0, h1, h2, -, -⟩ := h
  have hlt : k % (2 * n) < 2 * n := Nat.mod_lt _ (by omega)
  have hc := h2 _ hlt
  obtain ⟨r, hr⟩ : ∃ r, r = k % (2 * n) := ⟨_, rfl⟩
  rw [← hr] at hc hlt ⊢
  obtain ⟨x, hx⟩ : ∃ x, x = psi ^ r % q := ⟨_, rfl⟩
  have hxq : x < q := by rw [hx]; exact Nat.mod_lt _ (by omega)
  rw [← hx] at hc ⊢
  have e1 : (k : Int) % (2 * (n : Int)) = (r : Int) := by rw [hr]; simp
  clear hr hx hp h2 hN h1
  go_enter Try.func42, Try.ntmps42
  go_wp2_with fail
  go_quiet (fail)
  go_wp2_with fail
  go_ret
  exact ⟨rfl, (Gr.refl w).drewN _⟩
end Go.Proofs.Ytjbfghnihnmpjaa
/- Package transform: forth, back, holds, check, sums. -/
namespace Go.Proofs.Ytjbfghnihnmpjaa
open Go.RowKit
set_option linter.unusedVariables false

theorem mul_small {a b : Int} (h1 : 0 ≤ a) (h2 : a ≤ 200) (h3 : 0 ≤ b) (h4 : b ≤ 200) : 0 ≤ a * b ∧ a * b ≤ 40000 := by
  have h5 := mul_lo h1 h3
  have h6 : a * b ≤ 200 * b := Int.mul_le_mul_of_nonneg_right h2 h3
  omega
set_option maxRecDepth 100000 in
set_option maxHeartbeats 1000000 in
theorem forth_any (n q psi s T i k : Nat) (w : World) (hN : Num n q psi s) (h : IsTab w T n q psi s) (hi : i < n) (hk : k < n) :
    Calls Try.prog 27 #[.pointer (some ⟨T, 0, none⟩), .int .i64 i, .int .i64 k] w (IsU ((psi ^ (i * (2 * k + 1)) % q : Nat) : Int) w) := by
  obtain ⟨d1, d2, d3, d4, d5, d6⟩ := hN.dims
  have HN := Lib.hid hN
  have H := Lib.hid h
  have m1 := mul_small (a := i) (b := 2 * (k : Int) + 1) (by omega) (by omega) (by omega) (by omega)
  have e1 : (i : Int) * (2 * (k : Int) + 1) = ((i * (2 * k + 1) : Nat) : Int) := by simp
  obtain ⟨j, hj⟩ : ∃ j, j = i * (2 * k + 1) := ⟨_, rfl⟩
  rw [← hj] at e1 ⊢
  obtain ⟨m1, m2⟩ := m1
  have HJ := Lib.hid (show j ≤ 1000000 by omega)
  have hw : (i : Int) * (2 * (k : Int) + 1) ≤ 40000 := m2
  clear hj hN h
  go_enter Try.func27, Try.ntmps27
  go_wp2_with fail
  refine (tpower_any n q psi s T j _ HN.out H.out HJ.out).mono ?_
  rintro e w1 ⟨rfl, hg⟩
  have HG := Lib.hid hg
  clear hg
  go_wp2_with fail
  go_ret
  exact ⟨rfl, HG.out⟩
set_option maxRecDepth 100000 in
set_option maxHeartbeats 1000000 in
theorem back_any (n q psi s T j i : Nat) (w : World) (hN : Num n q psi s) (h : IsTab w T n q psi s) (hj : j < n) (hi : i < n) :
    Calls Try.prog 28 #[.pointer (some ⟨T, 0, none⟩), .int .i64 j, .int .i64 i] w (IsU ((psi ^ ((2 * n - i) * (2 * j + 1)) % q : Nat) : Int) w) := by
  obtain ⟨d1, d2, d3, d4, d5, d6⟩ := hN.dims
  have HN := Lib.hid hN
  have H := Lib.hid h
  have h0 := h.1
  have m1 := mul_small (a := 2 * (n : Int) - i) (b := 2 * (j : Int) + 1) (by omega) (by omega) (by omega) (by omega)
  have e1 : (2 * (n : Int) - i) * (2 * (j : Int) + 1) = (((2 * n - i) * (2 * j + 1) : Nat) : Int) := by
    rw [Int.natCast_mul, Int.natCast_sub (by omega)]; simp
  obtain ⟨m, hm⟩ : ∃ m, m = (2 * n - i) * (2 * j + 1) := ⟨_, rfl⟩
  rw [← hm] at e1 ⊢
  obtain ⟨m1, m2⟩ := m1
  have HJ := Lib.hid (show m ≤ 1000000 by omega)
  clear hm hN h
  go_enter Try.func28, Try.ntmps28
  go_wp2_with fail
  refine (tpower_any n q psi s T m _ HN.out H.out HJ.out).mono ?_
  rintro e w1 ⟨rfl, hg⟩
  have HG := Lib.hid hg
  clear hg
  go_wp2_with fail
  go_ret
  exact ⟨rfl, HG.out⟩

/-- n residues modulo q. -/
def IsL (n q : Nat) (l : List Int) : Prop := l.length = n ∧ ∀ i, i < l.length → Op.cf l i < q
instance (n q : Nat) (l : List Int) : Decidable (IsL n q l) := by unfold IsL; infer_instance
def isLB (n q : Nat) (l : List Int) : Bool := decide (IsL n q l)
theorem isLB_true {n q : Nat} {l : List Int} (h : IsL n q l) : isLB n q l = true := decide_eq_true h
theorem isLB_false {n q : Nat} {l : List Int} (h : ¬ IsL n q l) : isLB n q l = false := decide_eq_false h

set_option maxRecDepth 100000 in
set_option maxHeartbeats 1000000 in
theorem holds_any (n q psi s T : Nat) (l : List Int) (v : Value) (w : World) (hN : Num n q psi s) (h : IsTab w T n q psi s) (hv : HasP w v l) :
    Calls Try.prog 41 #[.pointer (some ⟨T, 0, none⟩), v] w (fun e w' => e = .returned (.bool (isLB n q l)) ∧ w = w') := by
  obtain ⟨d1, d2, d3, d4, d5, d6⟩ := hN.dims
  have h0 := h.1
  have h1 := h.2.1
  have HV := Lib.hid hv
  obtain ⟨hd, a, cap, rfl, hl1, hl2, hc⟩ := hv
  obtain ⟨len, hlen⟩ : ∃ len, len = l.length := ⟨_, rfl⟩
  have HC := Lib.hid hc
  have HD := Lib.hid hd
  rw [← hlen] at hl1 HV ⊢
  have HLEN := Lib.hid hlen
  have hlb : (len : Int) ≤ 9223372036854775807 := by omega
  clear hc hd hlen h
  by_cases he : len = n
  · have hb : ((len : Int) != (n : Int)) = false := by simp [he]
    have HE := Lib.hid he
    clear he
    go_enter Try.func41, Try.ntmps41
    go_wp2_with fail
    go_loop [16] (fun t => ∃ k : Nat, t = .int .i64 k ∧ k ≤ len ∧ ∀ i, i < k → Op.cf l i < q) (fun t => len - (intOf t).toNat)
    case atStart => exact ⟨0, rfl, by omega, fun i hi => by omega⟩
    case round =>
      obtain ⟨k, rfl, hk, ht⟩ := hrel
      have HT := Lib.hid ht
      clear ht
      by_cases hlt : k < len
      · have hjl : k < l.length := by rw [← HLEN.out]; omega
        obtain ⟨g, o, rfl, hcell⟩ := HC.out k hjl
        have hx := HD.out.at_ k
        obtain ⟨x, hxe⟩ : ∃ x, x = Op.cf l k := ⟨_, rfl⟩
        rw [← hxe] at hcell hx
        obtain ⟨hx0, hx1⟩ := hx
        have HX := Lib.hid hxe
        have HJ := Lib.hid hjl
        clear hxe hjl
        have i1 : (k : Int) < (len : Int) := by omega
        by_cases hz : (q : Int) ≤ x
        · have e := isLB_false (show ¬ IsL n q l from fun h => by
            have := h.2 k HJ.out
            rw [← HX.out] at this
            omega)
          have E := Lib.hid e
          clear e
          go_wp2_with fail
          go_ret
          exact ⟨by rw [E.out]; rfl, rfl⟩
        · go_wp2_with fail
          go_round
          case rel => exact ⟨k + 1, by go_num, by omega, fun i hi => by
            by_cases h : i < k
            · exact HT.out i h
            · obtain rfl : i = k := by omega
              rw [← HX.out]; omega⟩
          case measure => simp [intOf]; omega
      · have e := isLB_true (show IsL n q l from ⟨by rw [← HLEN.out, HE.out], fun i hi => HT.out i (by have := HLEN.out; omega)⟩)
        have E := Lib.hid e
        clear e
        go_wp2_with fail
        go_ret
        exact ⟨by rw [E.out]; rfl, rfl⟩
  · have hb : ((len : Int) != (n : Int)) = true := by simp; omega
    have e := isLB_false (show ¬ IsL n q l from fun h => he (by rw [HLEN.out]; exact h.1))
    have E := Lib.hid e
    clear e he
    go_enter Try.func41, Try.ntmps41
    go_wp2_with fail
    go_ret
    exact ⟨by rw [E.out]; rfl, rfl⟩

/-- The error of some lists. -/
def chkT (n q : Nat) (ls : List (List Int)) : Int := if ∀ l ∈ ls, IsL n q l then 0 else 2
theorem chkT_no {n q : Nat} {ls : List (List Int)} {i : Nat} (hi : i < ls.length) (h : ¬ IsL n q ls[i]) : chkT n q ls = 2 := if_neg (fun k => h (k _ (List.getElem_mem hi)))
theorem chkT_yes {n q : Nat} {ls : List (List Int)} (h : ∀ i (hi : i < ls.length), IsL n q ls[i]) : chkT n q ls = 0 := if_pos (fun l hl => by
  obtain ⟨i, hi, rfl⟩ := List.mem_iff_getElem.1 hl
  exact h i hi)
theorem chkT_one (n q : Nat) (a : List Int) : (IsL n q a ∧ chkT n q [a] = 0) ∨ (¬ IsL n q a ∧ chkT n q [a] = 2) := by
  unfold chkT
  by_cases h : IsL n q a
  · exact .inl ⟨h, if_pos (by simpa using h)⟩
  · exact .inr ⟨h, if_neg (by simpa using h)⟩
theorem chkT_two (n q : Nat) (a b : List Int) : ((IsL n q a ∧ IsL n q b) ∧ chkT n q [a, b] = 0) ∨ (¬ (IsL n q a ∧ IsL n q b) ∧ chkT n q [a, b] = 2) := by
  unfold chkT
  by_cases h : IsL n q a ∧ IsL n q b
  · exact .inl ⟨h, if_pos (by simpa using h)⟩
  · exact .inr ⟨h, if_neg (by simpa using h)⟩

set_option maxRecDepth 100000 in
set_option maxHeartbeats 1000000 in
theorem check_any (n q psi s T : Nat) (g m : Nat) (vs : List Value) (ls : List (List Int)) (w : World) (hN : Num n q psi s) (h : IsTab w T n q psi s) (hL : HasLL w g m vs ls) (hm : m ≤ 100) :
    Calls Try.prog 25 #[.pointer (some ⟨T, 0, none⟩), .slice (some ⟨g, 0, none⟩) m m] w (IsE (chkT n q ls) w) := by
  have HN := Lib.hid hN
  have H := Lib.hid h
  have HL := Lib.hid hL
  have HM := Lib.hid hL.1
  clear hN h hL
  go_enter Try.func25, Try.ntmps25
  go_wp2_with fail
  refine (made_yes T _ H.out.2.2.2.2).mono ?_
  rintro e w1 ⟨rfl, hg⟩
  have HG := Lib.hid hg
  clear hg
  go_wp2_with fail
  go_loop [12] (fun t => ∃ k : Nat, t = .int .i64 k ∧ k ≤ m ∧ ∀ i (hi : i < ls.length), i < k → IsL n q ls[i]) (fun t => m - (intOf t).toNat)
  case atStart => exact ⟨0, rfl, by omega, fun i _ hi => by omega⟩
  case round =>
    obtain ⟨k, rfl, hk, ht⟩ := hrel
    have HT := Lib.hid ht
    clear ht
    by_cases hlt : k < m
    · have hkl : k < ls.length := by rw [← HM.out]; exact hlt
      obtain ⟨x, j, c, hcell, hp⟩ := HL.out.2.2 k hkl
      have hcell := HG.out.keeps hcell
      have HP := Lib.hid (hp.later HG.out)
      have hlt' : (k : Int) < (m : Int) := by omega
      have HKL := Lib.hid hkl
      clear hp
      go_wp2_with fail
      refine (holds_any n q psi s T (ls[k]'HKL.out) _ _ HN.out (H.out.later HG.out) HP.out).mono ?_
      rintro e w2 ⟨rfl, rfl⟩
      by_cases hb : IsL n q (ls[k]'HKL.out)
      · rw [isLB_true hb]
        have HT2 := Lib.hid (show ∀ i (hi : i < ls.length), i < k + 1 → IsL n q ls[i] from fun i hi h => by
          by_cases he : i < k
          · exact HT.out i hi he
          · obtain rfl : i = k := by omega
            exact hb)
        clear hb
        go_wp2_with fail
        go_round
        case rel => exact ⟨k + 1, by go_num, by omega, HT2.out⟩
        case measure => simp [intOf]; omega
      · rw [isLB_false hb]
        have HR := Lib.hid (chkT_no HKL.out hb)
        clear hb
        go_wp2_with fail
        go_ret
        exact ⟨by rw [HR.out]; rfl, HG.out⟩
    · have HR := Lib.hid (show chkT n q ls = 0 from chkT_yes (fun i hi => HT.out i hi (by have := HM.out; omega)))
      go_wp2_with fail
      go_ret
      exact ⟨by rw [HR.out]; rfl, HG.out⟩
set_option maxRecDepth 100000 in
set_option maxHeartbeats 1000000 in
theorem check_none (v u : Value) (w : World) (h : NoTab w v) :
    Calls Try.prog 25 #[v, u] w (IsE 1 w) := by
  have H := Lib.hid h
  clear h
  go_enter Try.func25, Try.ntmps25
  go_wp2_with fail
  refine (made_no v _ H.out).mono ?_
  rintro e w1 ⟨rfl, hg⟩
  have HG := Lib.hid hg
  clear hg
  go_wp2_with fail
  go_ret
  exact ⟨rfl, HG.out⟩
end Go.Proofs.Ytjbfghnihnmpjaa
/- Package transform: sums. -/
namespace Ot
set_option linter.unusedVariables false
/-- The sums of a transform. -/
def at_ (n q : Nat) (sc : Int) (g : Nat → Nat → Int) (a : List Int) (k : Nat) : Int := sc * (Op.S n (fun i => Op.cf a i * g i k) % q) % q
def tl (n q : Nat) (sc : Int) (g : Nat → Nat → Int) (a : List Int) : List Int := (List.range n).map (at_ n q sc g a)
theorem tl_len (n q : Nat) (sc : Int) (g : Nat → Nat → Int) (a : List Int) : (tl n q sc g a).length = n := by simp [tl]
theorem cf_tl {n q : Nat} {sc : Int} {g : Nat → Nat → Int} {a : List Int} {k : Nat} (h : k < n) : Op.cf (tl n q sc g a) k = at_ n q sc g a k := by
  rw [← Op.cf_at]; simp [tl, h]
theorem tl_ext {n q : Nat} {sc : Int} {g : Nat → Nat → Int} {a l : List Int} (h : l.length = n) (k : ∀ j, j < n → Op.cf l j = at_ n q sc g a j) : l = tl n q sc g a := by
  apply Op.ext_cf
  · rw [h, tl_len]
  · intro i
    by_cases hi : i < n
    · rw [k i hi, cf_tl hi]
    · rw [Op.cf_out (by omega), Op.cf_out (by rw [tl_len]; omega)]
/-- The powers of the transform and of its inverse. -/
def fo (q psi : Nat) (i k : Nat) : Int := ((psi ^ (i * (2 * k + 1)) % q : Nat) : Int)
def ba (n q psi : Nat) (j i : Nat) : Int := ((psi ^ ((2 * n - i) * (2 * j + 1)) % q : Nat) : Int)
theorem fo_lt {q psi i k : Nat} (h : 1 ≤ q) : 0 ≤ fo q psi i k ∧ fo q psi i k < q := by
  have := Nat.mod_lt (psi ^ (i * (2 * k + 1))) (show q > 0 by omega)
  unfold fo; omega
theorem ba_lt {n q psi j i : Nat} (h : 1 ≤ q) : 0 ≤ ba n q psi j i ∧ ba n q psi j i < q := by
  have := Nat.mod_lt (psi ^ ((2 * n - i) * (2 * j + 1))) (show q > 0 by omega)
  unfold ba; omega
theorem S_step (q : Int) (f : Nat → Int) (j : Nat) (z x y : Int) (hz : z = Op.S j f % q) (h : f j = x * y) : (z + x * y) % q = Op.S (j + 1) f % q := by
  rw [hz, Int.emod_add_emod, ← h]; rfl
end Ot
namespace Go.Proofs.Ytjbfghnihnmpjaa
open Go.RowKit
set_option linter.unusedVariables false

theorem cf_set (l : List Int) (k : Nat) (x : Int) (hk : k < l.length) (j : Nat) : Op.cf (l.set k x) j = if j = k then x else Op.cf l j := by
  rw [← Op.cf_at, ← Op.cf_at, List.getElem?_set]
  by_cases h : k = j
  · subst h; simp [hk]
  · rw [if_neg h, if_neg (fun e => h e.symm)]
theorem Row.setAt {W : World} {g : Nat} {l : List Int} (h : Row W g l) {k : Nat} {x : Int} (hk : k < l.length) (hx : 0 ≤ x ∧ x < 4294967296) : Row (W.setCell ⟨g, k, none⟩ (.int .u32 x)) g (l.set k x) := by
  obtain ⟨h0, cur, h1, h2, h3⟩ := h
  refine ⟨fun y hy => ?_, _, h1.set k _, by simpa using h2, fun j hj => ?_⟩
  · rcases List.mem_or_eq_of_mem_set hy with h | rfl
    · exact h0 y h
    · exact hx
  · rw [List.length_set] at hj
    rw [Array.getElem?_setIfInBounds, cf_set l k x hk]
    by_cases e : k = j
    · subst e; rw [if_pos rfl, if_pos rfl, if_pos (by omega)]
    · rw [if_neg e, if_neg (fun h => e h.symm)]; exact h3 j hj
/-- New numbers in a block of their own. -/
def RowP (l : List Int) (w : World) (e : Ending) (w' : World) : Prop :=
  ∃ g n, e = .returned (.slice (some ⟨g, 0, none⟩) n n) ∧ n = l.length ∧ w.heap.size ≤ g ∧ Row w' g l ∧ Gr w w'

/-- The function numbers of the powers. -/
def PowF (n q psi F : Nat) (g : Nat → Nat → Int) : Prop := (F = 27 ∧ g = Ot.fo q psi) ∨ (F = 28 ∧ g = Ot.ba n q psi)
theorem PowF.lt {n q psi F : Nat} {g : Nat → Nat → Int} (h : PowF n q psi F g) (hq : 1 ≤ q) (i k : Nat) : 0 ≤ g i k ∧ g i k < q := by
  rcases h with ⟨-, rfl⟩ | ⟨-, rfl⟩
  · exact Ot.fo_lt hq
  · exact Ot.ba_lt hq
theorem pow_any (n q psi s T F i k : Nat) (g : Nat → Nat → Int) (w : World) (hF : PowF n q psi F g) (hN : Num n q psi s) (h : IsTab w T n q psi s) (hi : i < n) (hk : k < n) :
    Calls Try.prog F #[.pointer (some ⟨T, 0, none⟩), .int .i64 i, .int .i64 k] w (IsU (g i k) w) := by
  rcases hF with ⟨rfl, rfl⟩ | ⟨rfl, rfl⟩
  · exact forth_any n q psi s T i k w hN h hi hk
  · exact back_any n q psi s T i k w hN h hi hk

set_option maxRecDepth 100000 in
set_option maxHeartbeats 2000000 in
theorem sums_any (n q psi s T F : Nat) (sc : Int) (a : List Int) (v : Value) (g : Nat → Nat → Int) (w : World) (hF : PowF n q psi F g) (hN : Num n q psi s) (h : IsTab w T n q psi s) (ha : IsL n q a) (hv : HasP w v a) (hsc : 0 ≤ sc ∧ sc < q) :
    Calls Try.prog 26 #[.pointer (some ⟨T, 0, none⟩), v, .int .u32 sc, .func (.func F) #[.pointer (some ⟨T, 0, none⟩)] #[]] w (RowP (Ot.tl n q sc g a) w) := by
  obtain ⟨d1, d2, d3, d4, d5, d6⟩ := hN.dims
  have HN := Lib.hid hN
  have H := Lib.hid h
  have HV := Lib.hid hv
  have HA := Lib.hid ha
  have HSC := Lib.hid (show 0 ≤ sc ∧ sc ≤ 2147483647 by omega)
  have HGL := Lib.hid (fun i k => hF.lt (n := n) (psi := psi) (show 1 ≤ q by omega) i k)
  have HP := Lib.hid (fun i k w hN h hi hk => pow_any n q psi s T F i k g w hF hN h hi hk)
  have h0 := h.1
  have HQ := Lib.hid (show 1 ≤ (q : Int) ∧ (q : Int) ≤ 2147483647 by omega)
  have hmk := mk_row n (n : Int) (by omega) (by omega)
  obtain ⟨-, xa, ca, rfl, a1, a2, -⟩ := hv
  obtain ⟨la, hla'⟩ : ∃ la, la = a.length := ⟨_, rfl⟩
  have hln : la = n := by rw [hla']; exact ha.1
  rw [← hla'] at HV a1 ⊢
  have HLA := Lib.hid hla'
  obtain rfl : la = n := hln
  clear hN h ha hsc hla'
  rcases hF with ⟨rfl, hg⟩ | ⟨rfl, hg⟩
  all_goals
    have HG0 := Lib.hid hg
    clear hg
    go_enter Try.func26, Try.ntmps26
    go_wp2_with fail
    clear hmk
    go_loopw [11, 12, 13, 21] (fun _ _ _ t wr => ∃ (k : Nat) (l : List Int), t = .int .i64 k ∧ k ≤ la ∧ l.length = la ∧ (∀ j, j < k → Op.cf l j = Ot.at_ la q sc g a j) ∧ Row wr w.heap.size l ∧ Gr w wr) (fun _ _ _ t _ => la - (intOf t).toNat)
    case atStart => exact ⟨0, List.replicate la 0, rfl, by omega, by simp, fun j hj => by omega, Row.zeros w la, Gr.new w _⟩
    case round =>
      obtain ⟨k, l, rfl, hk, hll, hval, hrow, hg⟩ := hrel
      have HLL := Lib.hid hll
      have HVAL := Lib.hid hval
      have HROW := Lib.hid hrow
      have HG := Lib.hid hg
      clear hll hval hrow hg
      by_cases hlt : k < la
      · have i1 : (k : Int) < (la : Int) := by omega
        go_wp2_with fail
        obtain ⟨wo, rfl⟩ : ∃ wo : World, wo = wr := ⟨_, rfl⟩
        go_loopw [11, 12, 13, 26] (fun z _ _ t wi => ∃ (j : Nat) (x : Int), z = .int .u32 x ∧ t = .int .i64 j ∧ j ≤ la ∧ 0 ≤ x ∧ x < q ∧ x = Op.S j (fun i => Op.cf a i * g i k) % q ∧ Gr wo wi) (fun _ _ _ t _ => la - (intOf t).toNat)
        case atStart => exact ⟨0, 0, rfl, rfl, by omega, by omega, by omega, by simp [Op.S], Gr.refl wo⟩
        case round =>
          obtain ⟨j, z, rfl, rfl, hj, hz0, hz1, hz, hgi⟩ := hrel
          have HZ := Lib.hid hz
          have HGI := Lib.hid hgi
          clear hz hgi
          by_cases hjl : j < la
          · have i2 : (j : Int) < (la : Int) := by omega
            obtain ⟨gx, ox, rfl, hcx⟩ : ∃ gx ox, xa = some ⟨gx, ox, none⟩ ∧ wr.cell? ⟨gx, ox + j, none⟩ = some (.int .u32 (Op.cf a j)) := by
              obtain ⟨_, b, c', e, _, _, h3⟩ := HV.out.later (HG.out.trans HGI.out)
              cases e
              obtain ⟨gx, ox, e, hc⟩ := h3 j (by have := HLA.out; omega)
              exact ⟨gx, ox, e, hc⟩
            obtain ⟨x, hx⟩ : ∃ x, x = Op.cf a j := ⟨_, rfl⟩
            have hxb := HA.out.2 j (by have := HLA.out; omega)
            have hxb0 := HV.out.1.at_ j
            rw [← hx] at hcx hxb hxb0
            have HX := Lib.hid hx
            have HT := Lib.hid (H.out.later (HG.out.trans HGI.out))
            clear hx
            go_wp2_with fail
            refine (HP.out j k _ HN.out HT.out hjl hlt).mono ?_
            rintro e w1 ⟨rfl, hg1⟩
            have HG1 := Lib.hid hg1
            have hb := HGL.out j k
            obtain ⟨y, hy⟩ : ∃ y, y = g j k := ⟨_, rfl⟩
            rw [← hy] at hb ⊢
            have HY := Lib.hid hy
            clear hg1 hy
            go_wp2_with fail
            refine (plus_any q z x y T _ HQ.out ((HT.out.later HG1.out).2.1) (by omega) (by omega) (by omega)).mono ?_
            rintro e w2 ⟨rfl, rfl⟩
            have r0 := emod_lo (z + x * y) q (by omega)
            have r1 := emod_hi (z + x * y) q (by omega)
            have HS := Lib.hid (Ot.S_step q (fun i => Op.cf a i * g i k) j z x y HZ.out (by rw [HX.out, HY.out]))
            go_wp2_with fail
            go_roundw
            case rel => exact ⟨j + 1, (z + x * y) % q, rfl, by go_num, by omega, r0, r1, HS.out, HGI.out.trans HG1.out⟩
            case measure => simp [intOf]; omega
          · obtain rfl : j = la := by omega
            have i2 : ¬ (j : Int) < (j : Int) := by omega
            have HR1 := Lib.hid (HROW.out.later HGI.out)
            have HT := Lib.hid (H.out.later (HG.out.trans HGI.out))
            go_wp2_with fail
            refine (plus_any q 0 sc z T _ HQ.out HT.out.2.1 (by omega) HSC.out (by omega)).mono ?_
            rintro e w2 ⟨rfl, rfl⟩
            rw [Int.zero_add]
            have r0 := emod_lo (sc * z) q (by omega)
            have r1 := emod_hi (sc * z) q (by omega)
            have hc1 := HR1.out.cell (j := k) (by rw [HLL.out]; exact hlt)
            have hf1 := HR1.out.frozen k
            have HR2 := Lib.hid (HR1.out.setAt (k := k) (x := sc * z % q) (by rw [HLL.out]; exact hlt) (by omega))
            have HEQ := Lib.hid (show sc * z % q = Ot.at_ j q sc g a k from by rw [HZ.out]; rfl)
            go_wp2_with fail
            go_roundw
            case rel => exact ⟨k + 1, l.set k (sc * z % q), by go_num, by omega, by rw [List.length_set]; exact HLL.out, fun i hi => by
              rw [cf_set l k _ (by rw [HLL.out]; exact hlt)]
              by_cases e : i = k
              · rw [if_pos e, e]; exact HEQ.out
              · rw [if_neg e]; exact HVAL.out i (by omega), HR2.out, (HG.out.trans HGI.out).setCell (Nat.le_refl _) _⟩
            case measure => simp [intOf]; omega
      · obtain rfl : k = la := by omega
        have i1 : ¬ (k : Int) < (k : Int) := by omega
        go_wp2_with fail
        go_ret
        have e := Ot.tl_ext HLL.out HVAL.out
        exact ⟨w.heap.size, k, rfl, by rw [Ot.tl_len], Nat.le_refl _, by rw [← e]; exact HROW.out, HG.out⟩
end Go.Proofs.Ytjbfghnihnmpjaa
/- Package transform: Forward, Inverse, Mul. -/
namespace Ot
set_option linter.unusedVariables false
/-- Products, place by place. -/
def pp (n q : Nat) (A B : List Int) : List Int := (List.range n).map (fun k => Op.cf A k * Op.cf B k % q)
theorem pp_len (n q : Nat) (A B : List Int) : (pp n q A B).length = n := by simp [pp]
theorem cf_pp {n q : Nat} {A B : List Int} {k : Nat} (h : k < n) : Op.cf (pp n q A B) k = Op.cf A k * Op.cf B k % q := by
  rw [← Op.cf_at]; simp [pp, h]
theorem at_lt {n q : Nat} {sc : Int} {g : Nat → Nat → Int} {a : List Int} {k : Nat} (hq : 1 ≤ q) : 0 ≤ at_ n q sc g a k ∧ at_ n q sc g a k < q := by
  unfold at_
  exact ⟨Int.emod_nonneg _ (by omega), Int.emod_lt_of_pos _ (by omega)⟩
theorem cf_tl_lt {n q : Nat} {sc : Int} {g : Nat → Nat → Int} {a : List Int} (hq : 1 ≤ q) (k : Nat) : 0 ≤ Op.cf (tl n q sc g a) k ∧ Op.cf (tl n q sc g a) k < q := by
  by_cases h : k < n
  · rw [cf_tl h]; exact at_lt hq
  · rw [Op.cf_out (by rw [tl_len]; omega)]; omega
theorem pp_ext {n q : Nat} {A B l : List Int} (h : l.length = n) (k : ∀ j, j < n → Op.cf l j = Op.cf A j * Op.cf B j % q) : l = pp n q A B := by
  apply Op.ext_cf
  · rw [h, pp_len]
  · intro i
    by_cases hi : i < n
    · rw [k i hi, cf_pp hi]
    · rw [Op.cf_out (by omega), Op.cf_out (by rw [pp_len]; omega)]
/-- The transform, its inverse, the product. -/
def fw (n q psi : Nat) (a : List Int) : List Int := tl n q 1 (fo q psi) a
def bw (n q psi : Nat) (s : Int) (a : List Int) : List Int := tl n q s (ba n q psi) a
def ml (n q psi : Nat) (s : Int) (a b : List Int) : List Int := bw n q psi s (pp n q (fw n q psi a) (fw n q psi b))
end Ot
namespace Go.Proofs.Ytjbfghnihnmpjaa
open Go.RowKit
set_option linter.unusedVariables false

theorem isL_tl {n q : Nat} {sc : Int} {g : Nat → Nat → Int} {a : List Int} (hq : 1 ≤ q) : IsL n q (Ot.tl n q sc g a) := ⟨Ot.tl_len .., fun i hi => (Ot.cf_tl_lt hq i).2⟩
theorem isL_pp {n q : Nat} {A B : List Int} (hq : 1 ≤ q) : IsL n q (Ot.pp n q A B) := ⟨Ot.pp_len .., fun i hi => by
  rw [Ot.pp_len] at hi
  rw [Ot.cf_pp hi]
  exact Int.emod_lt_of_pos _ (by omega)⟩
/-- Numbers and an error. -/
def ListE (l : List Int) (c : Int) (w : World) (e : Ending) (w' : World) : Prop :=
  ∃ a n cp, e = .returned (.tuple #[.slice a n cp, .int .i64 c]) ∧ HasP w' (.slice a n cp) l ∧ (∀ p, a = some p → w.heap.size ≤ p.block) ∧ Gr w w'
theorem ListE.nil (c : Int) {w w' : World} (g : Gr w w') : ListE [] c w (.returned (.tuple #[.slice none 0 0, .int .i64 c])) w' := ⟨_, _, _, rfl, HasP.nil w', (fun p hp => by cases hp), g⟩
/-- Forward's and Inverse's answers. -/
def fwL (n q psi : Nat) (a : List Int) : List Int := if IsL n q a then Ot.fw n q psi a else []
def bwL (n q psi : Nat) (s : Int) (a : List Int) : List Int := if IsL n q a then Ot.bw n q psi s a else []
def mlL (n q psi : Nat) (s : Int) (a b : List Int) : List Int := if IsL n q a ∧ IsL n q b then Ot.ml n q psi s a b else []

theorem load_share {w : World} {T n q psi s : Nat} (h : IsTab w T n q psi s) : w.cell? ⟨T, 66, none⟩ = some (.int .u32 s) := h.2.2.2.1

set_option maxRecDepth 100000 in
set_option maxHeartbeats 1000000 in
theorem pFwd_any (n q psi s T : Nat) (a : List Int) (v : Value) (w : World) (hN : Num n q psi s) (h : IsTab w T n q psi s) (hv : HasP w v a) :
    Calls Try.prog 14 #[.pointer (some ⟨T, 0, none⟩), v] w (ListE (fwL n q psi a) (chkT n q [a]) w) := by
  have HN := Lib.hid hN
  have H := Lib.hid h
  have HV := Lib.hid hv
  obtain ⟨d1, d2, d3, d4, d5, d6⟩ := hN.dims
  obtain ⟨-, xa, ca, rfl, a1, a2, -⟩ := hv
  obtain ⟨la, hla'⟩ : ∃ la, la = a.length := ⟨_, rfl⟩
  rw [← hla'] at HV a1 ⊢
  have HF := Lib.hid (show PowF n q psi 27 (Ot.fo q psi) from .inl ⟨rfl, rfl⟩)
  clear hN h hla'
  go_enter Try.func14, Try.ntmps14
  go_wp2_with fail
  refine (check_any n q psi s T w.heap.size 1 _ [a] _ HN.out (H.out.later (Gr.new w _)) (ll_one HV.out _ rfl) (by omega)).mono ?_
  rintro e w1 ⟨rfl, hg⟩
  have HG := Lib.hid ((Gr.new w _).trans hg)
  clear hg
  rcases chkT_one n q a with ⟨hl, hc⟩ | ⟨hl, hc⟩
  · rw [hc]
    have HL := Lib.hid hl
    have HE := Lib.hid (show fwL n q psi a = Ot.tl n q 1 (Ot.fo q psi) a from if_pos hl)
    have HC := Lib.hid hc
    clear hl hc
    go_wp2_with fail
    refine (sums_any n q psi s T _ 1 a _ _ _ HF.out HN.out (H.out.later HG.out) HL.out (HV.out.later HG.out) (by omega)).mono ?_
    rintro e w2 ⟨g, m, rfl, hm, hgw, hrow, hg⟩
    have HM := Lib.hid hm
    have HR := Lib.hid hrow
    have HG2 := Lib.hid (HG.out.trans hg)
    have hmb : m ≤ 100 := by rw [hm, Ot.tl_len]; omega
    have hgw0 := Nat.le_trans HG.out.size hgw
    clear hm hrow hg
    go_wp2_with fail
    go_ret2
    rw [HE.out, HC.out]
    refine ⟨some ⟨g, 0, none⟩, m, m, rfl, ?_, (fun p hp => by cases hp; exact hgw0), HG2.out⟩
    have := HR.out.hasP (cap := m) (by rw [← HM.out]; exact Nat.le_refl _) (by omega)
    rwa [← HM.out] at this
  · rw [hc]
    have HE := Lib.hid (show fwL n q psi a = [] from if_neg hl)
    have HC := Lib.hid hc
    clear hl hc
    go_wp2_with fail
    go_ret2
    rw [HE.out, HC.out]
    exact ListE.nil 2 HG.out
set_option maxRecDepth 100000 in
set_option maxHeartbeats 1000000 in
theorem pInv_any (n q psi s T : Nat) (a : List Int) (v : Value) (w : World) (hN : Num n q psi s) (h : IsTab w T n q psi s) (hv : HasP w v a) :
    Calls Try.prog 15 #[.pointer (some ⟨T, 0, none⟩), v] w (ListE (bwL n q psi s a) (chkT n q [a]) w) := by
  have HN := Lib.hid hN
  have H := Lib.hid h
  have HV := Lib.hid hv
  obtain ⟨d1, d2, d3, d4, d5, d6⟩ := hN.dims
  obtain ⟨-, xa, ca, rfl, a1, a2, -⟩ := hv
  obtain ⟨la, hla'⟩ : ∃ la, la = a.length := ⟨_, rfl⟩
  rw [← hla'] at HV a1 ⊢
  have HF := Lib.hid (show PowF n q psi 28 (Ot.ba n q psi) from .inr ⟨rfl, rfl⟩)
  clear hN h hla'
  go_enter Try.func15, Try.ntmps15
  go_wp2_with fail
  refine (check_any n q psi s T w.heap.size 1 _ [a] _ HN.out (H.out.later (Gr.new w _)) (ll_one HV.out _ rfl) (by omega)).mono ?_
  rintro e w1 ⟨rfl, hg⟩
  have HG := Lib.hid ((Gr.new w _).trans hg)
  clear hg
  rcases chkT_one n q a with ⟨hl, hc⟩ | ⟨hl, hc⟩
  · rw [hc]
    have HL := Lib.hid hl
    have HE := Lib.hid (show bwL n q psi s a = Ot.tl n q s (Ot.ba n q psi) a from if_pos hl)
    have hsh := load_share (H.out.later HG.out)
    have HC := Lib.hid hc
    clear hl hc
    go_wp2_with fail
    refine (sums_any n q psi s T _ s a _ _ _ HF.out HN.out (H.out.later HG.out) HL.out (HV.out.later HG.out) (by omega)).mono ?_
    rintro e w2 ⟨g, m, rfl, hm, hgw, hrow, hg⟩
    have HM := Lib.hid hm
    have HR := Lib.hid hrow
    have HG2 := Lib.hid (HG.out.trans hg)
    have hmb : m ≤ 100 := by rw [hm, Ot.tl_len]; omega
    have hgw0 := Nat.le_trans HG.out.size hgw
    clear hm hrow hg
    go_wp2_with fail
    go_ret2
    rw [HE.out, HC.out]
    refine ⟨some ⟨g, 0, none⟩, m, m, rfl, ?_, (fun p hp => by cases hp; exact hgw0), HG2.out⟩
    have := HR.out.hasP (cap := m) (by rw [← HM.out]; exact Nat.le_refl _) (by omega)
    rwa [← HM.out] at this
  · rw [hc]
    have HE := Lib.hid (show bwL n q psi s a = [] from if_neg hl)
    have HC := Lib.hid hc
    clear hl hc
    go_wp2_with fail
    go_ret2
    rw [HE.out, HC.out]
    exact ListE.nil 2 HG.out

set_option maxRecDepth 100000 in
set_option maxHeartbeats 2000000 in
theorem pMul_any (n q psi s T : Nat) (a b : List Int) (u v : Value) (w : World) (hN : Num n q psi s) (h : IsTab w T n q psi s) (hu : HasP w u a) (hv : HasP w v b) :
    Calls Try.prog 20 #[.pointer (some ⟨T, 0, none⟩), u, v] w (ListE (mlL n q psi s a b) (chkT n q [a, b]) w) := by
  have HN := Lib.hid hN
  have H := Lib.hid h
  have HU := Lib.hid hu
  have HV := Lib.hid hv
  obtain ⟨d1, d2, d3, d4, d5, d6⟩ := hN.dims
  have HQ := Lib.hid (show 1 ≤ (q : Int) ∧ (q : Int) ≤ 2147483647 by omega)
  obtain ⟨-, xa, ca, rfl, a1, a2, -⟩ := hu
  obtain ⟨-, xb, cb, rfl, b1, b2, -⟩ := hv
  obtain ⟨la, hla'⟩ : ∃ la, la = a.length := ⟨_, rfl⟩
  obtain ⟨lb, hlb'⟩ : ∃ lb, lb = b.length := ⟨_, rfl⟩
  rw [← hla'] at HU a1 ⊢
  rw [← hlb'] at HV b1 ⊢
  have HF := Lib.hid (show PowF n q psi 27 (Ot.fo q psi) from .inl ⟨rfl, rfl⟩)
  have HB := Lib.hid (show PowF n q psi 28 (Ot.ba n q psi) from .inr ⟨rfl, rfl⟩)
  clear hN h hla' hlb'
  go_enter Try.func20, Try.ntmps20
  go_wp2_with fail
  refine (check_any n q psi s T w.heap.size 2 _ [a, b] _ HN.out (H.out.later (Gr.new w _)) (ll_two HU.out HV.out _ rfl) (by omega)).mono ?_
  rintro e w1 ⟨rfl, hg⟩
  have HG := Lib.hid ((Gr.new w _).trans hg)
  clear hg
  rcases chkT_two n q a b with ⟨hl, hc⟩ | ⟨hl, hc⟩
  · rw [hc]
    have HL := Lib.hid hl
    have HE := Lib.hid (show mlL n q psi s a b = Ot.ml n q psi s a b from if_pos hl)
    have HC := Lib.hid hc
    clear hl hc
    go_wp2_with fail
    refine (sums_any n q psi s T _ 1 a _ _ _ HF.out HN.out (H.out.later HG.out) HL.out.1 (HU.out.later HG.out) (by omega)).mono ?_
    rintro e w2 ⟨g, m, rfl, hm, hgw, hrow, hg⟩
    have hmn : m = n := by rw [hm, Ot.tl_len]
    obtain rfl : m = n := hmn
    have HR := Lib.hid hrow
    have HG2 := Lib.hid (HG.out.trans hg)
    have hgw0 := Nat.le_trans HG.out.size hgw
    have hglt := hrow.lt
    clear hm hrow hg
    go_wp2_with fail
    refine (sums_any m q psi s T _ 1 b _ _ _ HF.out HN.out (H.out.later HG2.out) HL.out.2 (HV.out.later HG2.out) (by omega)).mono ?_
    rintro e w3 ⟨g2, m2, rfl, hm, hgw2, hrow, hg⟩
    have hmn : m2 = m := by rw [hm, Ot.tl_len]
    obtain rfl : m2 = m := hmn
    have HR2 := Lib.hid hrow
    have HR3 := Lib.hid (HR.out.later hg)
    have HG3 := Lib.hid (HG2.out.trans hg)
    have hg12 : ¬ g = g2 := by omega
    have hg21 : ¬ g2 = g := by omega
    clear hm hrow hg
    go_wp2_with fail
    go_loopw [10, 11, 31] (fun _ _ t wr => ∃ (k : Nat) (l : List Int), t = .int .i64 k ∧ k ≤ m2 ∧ l.length = m2 ∧ (∀ j, j < k → Op.cf l j = Op.cf (Ot.fw m2 q psi a) j * Op.cf (Ot.fw m2 q psi b) j % q) ∧ (∀ j, k ≤ j → Op.cf l j = Op.cf (Ot.fw m2 q psi a) j) ∧ Row wr g l ∧ Row wr g2 (Ot.fw m2 q psi b) ∧ Gr w wr) (fun _ _ t _ => m2 - (intOf t).toNat)
    case atStart => exact ⟨0, Ot.fw m2 q psi a, rfl, by omega, Ot.tl_len .., fun j hj => by omega, fun j _ => rfl, HR3.out, HR2.out, HG3.out⟩
    case round =>
      obtain ⟨k, l, rfl, hk, hll, hval, hrest, hrow, hrow2, hg⟩ := hrel
      have HLL := Lib.hid hll
      have HVAL := Lib.hid hval
      have HREST := Lib.hid hrest
      have HROW := Lib.hid hrow
      have HROW2 := Lib.hid hrow2
      have HG4 := Lib.hid hg
      clear hll hval hrest hrow hrow2 hg
      by_cases hlt : k < m2
      · have i1 : (k : Int) < (m2 : Int) := by omega
        have hc1 := HROW.out.cell (j := k) (by rw [HLL.out]; exact hlt)
        have hf1 := HROW.out.frozen k
        have hc2 := HROW2.out.cell (j := k) (by rw [show (Ot.fw m2 q psi b).length = m2 from Ot.tl_len ..]; exact hlt)
        rw [HREST.out k (Nat.le_refl _)] at hc1
        have hx := Ot.cf_tl_lt (n := m2) (sc := 1) (g := Ot.fo q psi) (a := a) (show 1 ≤ q by omega) k
        have hy := Ot.cf_tl_lt (n := m2) (sc := 1) (g := Ot.fo q psi) (a := b) (show 1 ≤ q by omega) k
        obtain ⟨x, hxe⟩ : ∃ x, x = Op.cf (Ot.fw m2 q psi a) k := ⟨_, rfl⟩
        obtain ⟨y, hye⟩ : ∃ y, y = Op.cf (Ot.fw m2 q psi b) k := ⟨_, rfl⟩
        have hx' : 0 ≤ x ∧ x < q := by rw [hxe]; exact hx
        have hy' : 0 ≤ y ∧ y < q := by rw [hye]; exact hy
        rw [← hxe] at hc1
        rw [← hye] at hc2
        have HXE := Lib.hid hxe
        have HYE := Lib.hid hye
        clear hx hy hxe hye
        go_wp2_with fail
        refine (plus_any q 0 x y T _ HQ.out (H.out.later HG4.out).2.1 (by omega) (by omega) (by omega)).mono ?_
        rintro e w4 ⟨rfl, rfl⟩
        rw [Int.zero_add]
        have r0 := emod_lo (x * y) q (by omega)
        have r1 := emod_hi (x * y) q (by omega)
        have HS := Lib.hid (HROW.out.setAt (k := k) (x := x * y % q) (by rw [HLL.out]; exact hlt) (by omega))
        go_wp2_with fail
        go_roundw
        case rel => exact ⟨k + 1, l.set k (x * y % q), by go_num, by omega, by rw [List.length_set]; exact HLL.out, fun i hi => by
          rw [cf_set l k _ (by rw [HLL.out]; exact hlt)]
          by_cases e : i = k
          · rw [if_pos e, e, HXE.out, HYE.out]
          · rw [if_neg e]; exact HVAL.out i (by omega), fun i hi => by
          rw [cf_set l k _ (by rw [HLL.out]; exact hlt), if_neg (by omega)]
          exact HREST.out i (by omega), HS.out, by
          obtain ⟨h0, cur, h1, h2⟩ := HROW2.out
          exact ⟨h0, cur, (Below.heap_setCell _ _ _ _ (by simpa using hg21)).trans h1, h2⟩, HG4.out.setCell (by exact hgw0) _⟩
        case measure => simp [intOf]; omega
      · obtain rfl : k = m2 := by omega
        have i1 : ¬ (k : Int) < (k : Int) := by omega
        have HV2 := Lib.hid (show l = Ot.pp k q (Ot.fw k q psi a) (Ot.fw k q psi b) from Ot.pp_ext HLL.out HVAL.out)
        have hp := HROW.out.hasP (cap := k) (by rw [HLL.out]; exact Nat.le_refl _) (by omega)
        rw [HLL.out] at hp
        have HPL := Lib.hid hp
        have HIL := Lib.hid (show IsL k q l from by rw [HV2.out]; exact isL_pp (by omega))
        have hsh := load_share (H.out.later HG4.out)
        clear hp
        go_wp2_with fail
        refine (sums_any k q psi s T _ s l _ _ _ HB.out HN.out (H.out.later HG4.out) HIL.out HPL.out (by omega)).mono ?_
        rintro e w5 ⟨g5, m5, rfl, hm, hgw5, hrow, hg⟩
        have HM := Lib.hid hm
        have HR5 := Lib.hid hrow
        have HG5 := Lib.hid (HG4.out.trans hg)
        have hmb : m5 ≤ 100 := by rw [hm, Ot.tl_len]; omega
        have hgw6 := Nat.le_trans HG4.out.size hgw5
        clear hm hrow hg
        go_wp2_with fail
        go_ret2
        rw [HE.out, HC.out]
        refine ⟨some ⟨g5, 0, none⟩, m5, m5, rfl, ?_, (fun p hp => by cases hp; exact hgw6), HG5.out⟩
        have := HR5.out.hasP (cap := m5) (by rw [← HM.out]; exact Nat.le_refl _) (by omega)
        rw [← HM.out] at this
        show HasP w5 _ (Ot.bw k q psi s (Ot.pp k q (Ot.fw k q psi a) (Ot.fw k q psi b)))
        rw [← HV2.out]
        exact this
  · rw [hc]
    have HE := Lib.hid (show mlL n q psi s a b = [] from if_neg hl)
    have HC := Lib.hid hc
    clear hl hc
    go_wp2_with fail
    go_ret2
    rw [HE.out, HC.out]
    exact ListE.nil 2 HG.out
end Go.Proofs.Ytjbfghnihnmpjaa
