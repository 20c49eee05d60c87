import Derived.Test.YtfmmkdmnondomaaLMC
/- What the functions of package modular that look for roots of unity return. -/
namespace Go.Proofs.Ytfmmkdmnondomaa
open Go.RowKit
set_option linter.unusedVariables false

/-- A slice holds a list of factors. -/
def HasFac (W : World) (v : Value) (L : List (Nat × Nat)) : Prop :=
  (v = .slice none 0 0 ∧ L = []) ∨ ∃ g cap, v = .slice (some ⟨g, 0, none⟩) L.length cap ∧ L.length ≤ cap ∧ cap ≤ maxLen ∧
    ∀ i, i < L.length → W.cell? ⟨g, i * 2, none⟩ = some (.int .u32 (((L.map (·.1))[i]?.getD 0 : Nat) : Int)) ∧ W.cell? ⟨g, i * 2 + 1, none⟩ = some (.int .i64 (((L.map (·.2))[i]?.getD 0 : Nat) : Int))

theorem fcells_at : ∀ (L : List (Nat × Nat)) (i : Nat), i < L.length → (fcells L)[i * 2]? = some (.int .u32 (((L.map (·.1))[i]?.getD 0 : Nat) : Int)) ∧ (fcells L)[i * 2 + 1]? = some (.int .i64 (((L.map (·.2))[i]?.getD 0 : Nat) : Int))
  | [], i, h => by simp at h
  | (p, e) :: L, 0, h => by simp [fcells]
  | (p, e) :: L, i + 1, h => by
    have := fcells_at L i (by simpa using h)
    have e1 : (i + 1) * 2 = i * 2 + 1 + 1 := by omega
    rw [e1]
    simpa [fcells] using this

theorem HasFac.of_row {W : World} {B : Nat} {v : Value} {L : List (Nat × Nat)} (h : W.ownsRow B 120 2 v L.length (fcells L)) : HasFac W v L := by
  rcases h.2 with ⟨rfl, h0⟩ | ⟨g, cap, cur, rfl, _, hg, h1, h2, h3, h4⟩
  · exact .inl ⟨rfl, List.length_eq_zero_iff.1 h0⟩
  · refine .inr ⟨g, cap, rfl, h1, h2, fun i hi => ?_⟩
    obtain ⟨a, b⟩ := fcells_at L i hi
    have hc : ∀ j, j < L.length * 2 → W.cell? ⟨g, j, none⟩ = (fcells L)[j]? := by
      intro j hj
      rw [← h4, List.getElem?_take_of_lt hj]
      simp [World.cell?, hg]
    exact ⟨(hc _ (by omega)).trans a, (hc _ (by omega)).trans b⟩

theorem HasFac.later {W W' : World} {v : Value} {L : List (Nat × Nat)} (h : HasFac W v L) (hg : Gr W W') : HasFac W' v L := by
  rcases h with h | ⟨g, cap, rfl, h1, h2, h3⟩
  · exact .inl h
  · exact .inr ⟨g, cap, rfl, h1, h2, fun i hi => ⟨hg.keeps (h3 i hi).1, hg.keeps (h3 i hi).2⟩⟩

/-- x has no lesser order that divides 'order' by one of its primes. -/
def Prim (n order : Nat) (L : List (Nat × Nat)) (x : Nat) : Prop := ∀ i, i < L.length → x ^ (order / (L.map (·.1))[i]?.getD 0) % n ≠ 1

theorem cast_pow' (x n o : Nat) : (x : Int) ^ (o : Int).toNat % n = ((x ^ o % n : Nat) : Int) := by
  rw [Int.toNat_natCast, Int.natCast_emod, Int.natCast_pow]

set_option maxHeartbeats 1000000 in
theorem primitive_any (x order n : Nat) (L : List (Nat × Nat)) (v : Value) (B : Nat) (w : World) (hn : 2 ≤ n) (hn' : n ≤ 4294967295) (hx : x ≤ 4294967295) (ho : order ≤ 4294967295) (hL : ∀ p ∈ L.map (·.1), 1 ≤ p ∧ p ≤ 4294967295)
    (hv : HasFac w v L) (hB : w.cell? ⟨B, 0, none⟩ = some (.int .u32 n)) :
    Calls Try.prog 87 #[.int .u32 x, .int .u32 order, v, .func (.func 92) #[] #[.pointer (some ⟨B, 0, none⟩)]] w (BoolPost (Prim n order L x) w) := by
  rcases hv with ⟨rfl, rfl⟩ | ⟨g, cap, rfl, h1, h2, hc⟩
  · go_enter Try.func87, Try.ntmps87
    go_wp2_with fail
    go_loop [13] (fun i => i = .int .i64 0) (fun _ => 0)
    case atStart => rfl
    case round =>
      obtain rfl := hrel
      go_wp2_with fail
      go_ret
      exact ⟨true, rfl, by simp [Prim], Gr.refl _⟩
  · have HC := Lib.hid hc
    have HB := Lib.hid hB
    have HL := Lib.hid hL
    clear hc hB hL
    unfold maxLen at h2
    obtain ⟨len, hlen⟩ : ∃ len, len = L.length := ⟨_, rfl⟩
    rw [← hlen] at h1 ⊢
    have HLEN := Lib.hid hlen
    clear hlen
    go_enter Try.func87, Try.ntmps87
    go_wp2_with fail
    go_loopw [13] (fun i wr => ∃ k : Nat, k ≤ len ∧ i = .int .i64 k ∧ Gr w wr ∧ ∀ j, j < k → x ^ (order / (L.map (·.1))[j]?.getD 0) % n ≠ 1) (fun i _ => len - (intOf i).toNat)
    case atStart => exact ⟨0, by omega, rfl, Gr.refl _, by intro j hj; omega⟩
    case round =>
      obtain ⟨k, hk, rfl, hgr, hall⟩ := hrel
      have HA := Lib.hid hall
      clear hall
      by_cases hlt : k < len
      · obtain ⟨c1, c2⟩ := HC.out k (by rw [← HLEN.out]; exact hlt)
        have c1' := hgr.keeps c1
        have c2' := hgr.keeps c2
        clear c1 c2
        have hmem : (L.map (·.1))[k]?.getD 0 ∈ L.map (·.1) := by
          have hk2 : k < (L.map (·.1)).length := by rw [List.length_map, ← HLEN.out]; exact hlt
          rw [List.getElem?_eq_getElem hk2]; exact List.getElem_mem hk2
        obtain ⟨p0, p1⟩ := HL.out _ hmem
        clear hmem
        generalize hp : (L.map (·.1))[k]?.getD 0 = p at *
        generalize hq : (L.map (·.2))[k]?.getD 0 = q at *
        have HP := Lib.hid hp
        clear hp hq
        obtain ⟨q0, q1⟩ := div_fits order p (by omega)
        go_wp2_with fail
        refine (power_any x _ n B _ (by omega) (by omega) q0 (by omega) (by omega) (by omega) (hgr.alloc _ |>.keeps HB.out)).mono ?_
        rintro e w' ⟨rfl, rfl⟩
        rw [← Int.natCast_ediv, cast_pow']
        have hyn : x ^ (order / p) % n < n := Nat.mod_lt _ (by omega)
        obtain ⟨y, hy⟩ : ∃ y, y = x ^ (order / p) % n := ⟨_, rfl⟩
        rw [← hy] at hyn ⊢
        have HY := Lib.hid hy
        clear hy
        by_cases hy1 : y = 1
        · have hb1 : ((y : Int) == 1) = true := by simp; omega
          have H1 := Lib.hid hy1
          clear hy1
          go_wp2_with fail
          go_ret
          refine ⟨false, rfl, ?_, hgr.alloc _⟩
          simp only [Bool.false_eq_true, false_iff]
          intro h
          exact h k (by rw [← HLEN.out]; exact hlt) (by rw [HP.out, ← HY.out, H1.out])
        · have hb1 : ((y : Int) == 1) = false := by simp; omega
          have H1 := Lib.hid hy1
          clear hy1
          go_wp2_with fail
          go_roundw
          case rel =>
            refine ⟨k + 1, by omega, by go_num, hgr.alloc _, ?_⟩
            intro j hj
            by_cases e : j = k
            · rw [e, HP.out, ← HY.out]; exact H1.out
            · exact HA.out j (by omega)
          case measure => simp [intOf]; omega
      · go_wp2_with fail
        go_ret
        refine ⟨true, rfl, ?_, hgr⟩
        simp only [true_iff]
        intro j hj
        exact HA.out j (by rw [← HLEN.out] at hj; omega)

theorem primeModulus_any (n : Nat) (w : World) (hn' : n ≤ 4294967295) :
    Calls Try.prog 73 #[.int .u32 n] w (BoolPost (n ≤ 2147483647 ∧ Prm n) w) := by
  by_cases hm : 2 ≤ n ∧ n ≤ 2147483647
  · obtain ⟨h1, h2⟩ := hm
    go_enter Try.func73, Try.ntmps73
    go_wp2_with fail
    refine (modulus_ok n _ (by omega) (by omega)).mono ?_
    rintro e w' ⟨rfl, rfl⟩
    go_wp2_with fail
    refine (prime_any n _ hn').mono ?_
    rintro e w' ⟨r, rfl, hr, hg⟩
    have HR := Lib.hid hr
    clear hr
    go_wp2_with fail
    go_ret
    exact ⟨r, rfl, by rw [HR.out]; simp [h2], hg⟩
  · have hbad : (n : Int) < 2 ∨ 2147483647 < (n : Int) := by omega
    have HB := Lib.hid hbad
    have hne : ¬ (n ≤ 2147483647 ∧ Prm n) := by
      rintro ⟨h1, h2⟩
      have : 2 ≤ n := by rcases h2 with h2 | h2 <;> omega
      exact hm ⟨this, h1⟩
    have HN := Lib.hid hne
    clear hbad hm hne
    go_enter Try.func73, Try.ntmps73
    go_wp2_with fail
    refine (modulus_bad n _ HB.out).mono ?_
    rintro e w' ⟨rfl, rfl⟩
    go_wp2_with fail
    go_ret
    exact ⟨false, rfl, by simp [HN.out], Gr.refl _⟩

/-- What someRoot returns: the power of the first candidate that is primitive, or 0 if there is none. -/
def SomeRoot (n order : Nat) (L : List (Nat × Nat)) (x : Nat) : Prop :=
  (∃ a, 1 ≤ a ∧ a < n ∧ x = a ^ ((n - 1) / order) % n ∧ Prim n order L x ∧ ∀ b, 1 ≤ b → b < a → ¬ Prim n order L (b ^ ((n - 1) / order) % n)) ∨
  (x = 0 ∧ ∀ b, 1 ≤ b → b < n → ¬ Prim n order L (b ^ ((n - 1) / order) % n))
def SomePost (n order : Nat) (w : World) (e : Ending) (w' : World) : Prop := ∃ L x : _, Ob.Fz order L ∧ e = .returned (.int .u32 (x : Nat)) ∧ SomeRoot n order L x ∧ x < n ∧ Gr w w'

theorem fz_le {n : Nat} {L : List (Nat × Nat)} (h : Ob.Fz n L) : ∀ p ∈ L.map (·.1), 1 ≤ p ∧ p ≤ n := by
  induction h with
  | one => simp
  | cons p e m L hp hd he hm hL ih =>
    intro q hq
    simp only [List.map_cons, List.mem_cons] at hq
    have h1 : 1 ≤ m := hL.pos
    have hpe : 1 ≤ p ^ e := Nat.pow_pos (by omega)
    rcases hq with rfl | hq
    · exact ⟨by omega, Nat.le_of_dvd (Nat.mul_pos hpe h1) (Ob.dvd_front he)⟩
    · have := ih q hq
      have h2 : 1 * m ≤ p ^ e * m := Nat.mul_le_mul_right _ hpe
      omega

set_option maxHeartbeats 1000000 in
theorem someRoot_any (order n : Nat) (w : World) (hn : 2 ≤ n) (hn' : n ≤ 2147483647) (ho : 1 ≤ order) (ho' : order ≤ 4294967295) :
    Calls Try.prog 75 #[.int .u32 order, .int .u32 n] w (SomePost n order w) := by
  go_enter Try.func75, Try.ntmps75
  go_wp2_with fail
  refine (factors_any order _ ho ho').mono ?_
  rintro e w1 ⟨v, L, rfl, hL, hrow, hg1⟩
  have hv := HasFac.of_row hrow
  clear hrow
  go_wp2_with fail
  refine (products_any n _).mono ?_
  rintro e w' ⟨rfl, rfl⟩
  have hB := cell_new w1 (.int .u32 n) 22
  have hg2 : Gr w1 (w1.alloc (.cells #[.int .u32 n] 22)) := Gr.new _ _
  have hv2 := hv.later hg2
  generalize hW : w1.alloc (.cells #[.int .u32 n] 22) = W at *
  clear hW hv
  have HB := Lib.hid hB
  have HV := Lib.hid hv2
  have HL := Lib.hid hL
  clear hB hv2 hL
  obtain ⟨q0, q1⟩ := div_fits (n - 1) order (by omega)
  rw [show ((n - 1 : Nat) : Int) = (n : Int) - 1 from by omega] at q0 q1
  go_wp2_with fail
  go_loopw [8] (fun a wr => ∃ k : Nat, 1 ≤ k ∧ k ≤ n ∧ a = .int .u32 k ∧ Gr W wr ∧ ∀ b, 1 ≤ b → b < k → ¬ Prim n order L (b ^ ((n - 1) / order) % n)) (fun a _ => n - (intOf a).toNat)
  case atStart => exact ⟨1, by omega, by omega, rfl, Gr.refl _, by intro b h1 h2; omega⟩
  case round =>
    obtain ⟨k, hk1, hk2, rfl, hgr, hall⟩ := hrel
    have HA := Lib.hid hall
    clear hall
    by_cases hlt : k < n
    · go_wp2_with fail
      refine (power_any k _ n w1.heap.size _ (by omega) (by omega) q0 (by omega) (by omega) (by omega) (hgr.keeps HB.out)).mono ?_
      rintro e w' ⟨rfl, rfl⟩
      rw [show ((n : Int) - 1) / (order : Int) = (((n - 1) / order : Nat) : Int) from by rw [Int.natCast_ediv]; congr 1; omega, cast_pow']
      have hyn : k ^ ((n - 1) / order) % n < n := Nat.mod_lt _ (by omega)
      obtain ⟨y, hy⟩ : ∃ y, y = k ^ ((n - 1) / order) % n := ⟨_, rfl⟩
      rw [← hy] at hyn ⊢
      have HY := Lib.hid hy
      clear hy
      go_wp2_with fail
      refine (primitive_any y order n L v w1.heap.size _ hn (by omega) (by omega) ho' (fun p hp => by have := fz_le HL.out p hp; omega) (HV.out.later hgr) (hgr.keeps HB.out)).mono ?_
      rintro e w' ⟨r, rfl, hr, hg⟩
      have HR := Lib.hid hr
      clear hr
      cases r
      · go_wp2_with fail
        go_roundw
        case rel =>
          refine ⟨k + 1, by omega, by omega, by go_num, hgr.trans hg, ?_⟩
          intro b h1 h2
          by_cases e : b = k
          · rw [e, ← HY.out]; intro hp; exact absurd (HR.out.2 hp) (by simp)
          · exact HA.out b h1 (by omega)
        case measure => simp [intOf]; omega
      · go_wp2_with fail
        go_ret
        exact ⟨L, y, HL.out, rfl, .inl ⟨k, hk1, hlt, HY.out, HR.out.1 (by simp), HA.out⟩, hyn, ((hg1.trans hg2).trans hgr).trans hg⟩
    · go_wp2_with fail
      go_ret
      exact ⟨L, 0, HL.out, rfl, .inr ⟨rfl, fun b h1 h2 => HA.out b h1 (by omega)⟩, by omega, (hg1.trans hg2).trans hgr⟩
end Go.Proofs.Ytfmmkdmnondomaa
/- What leastRoot and Root of package modular return. -/
namespace Go.Proofs.Ytfmmkdmnondomaa
open Go.RowKit
set_option linter.unusedVariables false

/-- m is the least power of x with an exponent below k that has no common divisor with 'order', or n if there is none. -/
def Least (n order x k m : Nat) : Prop := (∀ j, j < k → Nat.gcd j order = 1 → m ≤ x ^ j % n) ∧ (m = n ∨ ∃ j, j < k ∧ Nat.gcd j order = 1 ∧ m = x ^ j % n)

theorem Least.zero (n order x : Nat) : Least n order x 0 n := ⟨fun j hj => by omega, .inl rfl⟩
theorem Least.skip {n order x k m : Nat} (h : Least n order x k m) (hg : Nat.gcd k order ≠ 1 ∨ m ≤ x ^ k % n) : Least n order x (k + 1) m := by
  refine ⟨fun j hj hjg => ?_, ?_⟩
  · by_cases e : j = k
    · subst e; rcases hg with hg | hg
      · exact absurd hjg hg
      · exact hg
    · exact h.1 j (by omega) hjg
  · rcases h.2 with h | ⟨j, h1, h2⟩
    · exact .inl h
    · exact .inr ⟨j, by omega, h2⟩
theorem Least.take {n order x k m : Nat} (h : Least n order x k m) (hg : Nat.gcd k order = 1) (hm : x ^ k % n < m) : Least n order x (k + 1) (x ^ k % n) := by
  refine ⟨fun j hj hjg => ?_, .inr ⟨k, by omega, hg, rfl⟩⟩
  by_cases e : j = k
  · subst e; exact Nat.le_refl _
  · have := h.1 j (by omega) hjg; omega

set_option maxHeartbeats 1000000 in
theorem leastRoot_any (x order n : Nat) (w : World) (hn : 2 ≤ n) (hn' : n ≤ 2147483647) (ho : 1 ≤ order) (ho' : order ≤ 65536) (hx : x < n) :
    Calls Try.prog 74 #[.int .u32 x, .int .u32 order, .int .u32 n] w fun e w' => (∃ m : Nat, e = .returned (.int .u32 m) ∧ Least n order x order m ∧ m ≤ n) ∧ Gr w w' := by
  go_enter Try.func74, Try.ntmps74
  go_wp2_with fail
  refine (products_any n _).mono ?_
  rintro e w' ⟨rfl, rfl⟩
  have hB := cell_new w (.int .u32 n) 22
  have hg : Gr w (w.alloc (.cells #[.int .u32 n] 22)) := Gr.new _ _
  generalize hW : w.alloc (.cells #[.int .u32 n] 22) = W at *
  clear hW
  have HB := Lib.hid hB
  clear hB
  go_wp2_with fail
  go_loop [8, 9, 17] (fun a b c => ∃ m p k : Nat, a = .int .u32 m ∧ b = .int .u32 p ∧ c = .int .u32 k ∧ k ≤ order ∧ p < n ∧ m ≤ n ∧ p = x ^ k % n ∧ Least n order x k m) (fun _ _ c => order - (intOf c).toNat)
  case atStart => exact ⟨n, 1, 0, rfl, rfl, rfl, by omega, by omega, by omega, by simp; rw [Nat.mod_eq_of_lt (by omega)], Least.zero _ _ _⟩
  case round =>
    obtain ⟨m, p, k, rfl, rfl, rfl, hk, hp, hm, hpp, hl⟩ := hrel
    have HP := Lib.hid hpp
    have HL := Lib.hid hl
    clear hpp hl
    by_cases hlt : k < order
    · have hm0 := emod_lo ((p : Int) * x) n (by omega)
      have hm1 := emod_hi ((p : Int) * x) n (by omega)
      go_wp2_with fail
      refine (bezout_any k order _ (by omega) (by omega) (by omega)).mono ?_
      rintro e w' ⟨ξ, rfl, -, hx1, hx2, rfl⟩
      have hstep : ((p * x % n : Nat) : Int) = (p : Int) * x % n := by rw [Int.natCast_emod, Int.natCast_mul]
      have HS := Lib.hid hstep
      have hnext : p * x % n = x ^ (k + 1) % n := by
        rw [HP.out, Nat.pow_succ, Nat.mul_mod, Nat.mod_mod, ← Nat.mul_mod]
      have HN := Lib.hid hnext
      clear hstep hnext
      by_cases hgc : Nat.gcd k order = 1
      · rw [hgc]
        have HG := Lib.hid hgc
        clear hgc
        by_cases hpm : p < m
        · go_wp2_with fail
          refine (times_any p x n w.heap.size _ (by omega) (by omega) (by omega) (by omega) (by omega) (by omega) HB.out).mono ?_
          rintro e w' ⟨rfl, rfl⟩
          go_wp2_with fail
          refine ⟨⟨p, p * x % n, k + 1, rfl, by rw [HS.out], by go_num, by omega, Nat.mod_lt _ (by omega), by omega, HN.out, ?_⟩, by simp [intOf]; omega⟩
          have h1 := HL.out.take HG.out (by rw [← HP.out]; exact hpm)
          rwa [← HP.out] at h1
        · go_wp2_with fail
          refine (times_any p x n w.heap.size _ (by omega) (by omega) (by omega) (by omega) (by omega) (by omega) HB.out).mono ?_
          rintro e w' ⟨rfl, rfl⟩
          go_wp2_with fail
          exact ⟨⟨m, p * x % n, k + 1, rfl, by rw [HS.out], by go_num, by omega, Nat.mod_lt _ (by omega), hm, HN.out, HL.out.skip (.inr (by rw [← HP.out]; omega))⟩, by simp [intOf]; omega⟩
      · generalize hgg : Nat.gcd k order = gg at *
        have hgb : ((gg : Int) == 1) = false := by simp; omega
        have HG := Lib.hid hgc
        have HGG := Lib.hid hgg
        clear hgc hgg
        go_wp2_with fail
        refine (times_any p x n w.heap.size _ (by omega) (by omega) (by omega) (by omega) (by omega) (by omega) HB.out).mono ?_
        rintro e w' ⟨rfl, rfl⟩
        go_wp2_with fail
        exact ⟨⟨m, p * x % n, k + 1, rfl, by rw [HS.out], by go_num, by omega, Nat.mod_lt _ (by omega), hm, HN.out, HL.out.skip (.inl (by rw [HGG.out]; exact HG.out))⟩, by simp [intOf]; omega⟩
    · go_wp2_with fail
      go_ret
      exact ⟨⟨m, rfl, by have := HL.out; rwa [show k = order by omega] at this, hm⟩, hg⟩

/-- Root's result for a prime that is a modulus and an order that divides n - 1. -/
def RootPost (n order : Nat) (w : World) (e : Ending) (w' : World) : Prop :=
  ∃ L x m, Ob.Fz order L ∧ SomeRoot n order L x ∧ x < n ∧ Least n order x order m ∧ m ≤ n ∧ e = .returned (.tuple #[.int .u32 (m : Nat), .int .i64 0]) ∧ Gr w w'

theorem root_arg (order n : Nat) (w : World) (ho' : order ≤ 4294967295) (hn' : n ≤ 4294967295) (h : ¬ (n ≤ 2147483647 ∧ Prm n) ∨ order < 1) :
    Calls Try.prog 58 #[.int .u32 order, .int .u32 n] w (Two 0 2 w) := by
  by_cases hp : n ≤ 2147483647 ∧ Prm n
  · have ho : order < 1 := by rcases h with h | h; exact absurd hp h; exact h
    have HP := Lib.hid hp
    clear h hp
    go_enter Try.func58, Try.ntmps58
    go_wp2_with fail
    refine (primeModulus_any n _ hn').mono ?_
    rintro e w' ⟨r, rfl, hr, hg⟩
    obtain rfl : r = true := hr.2 HP.out
    clear hr
    go_wp2_with fail
    go_ret2
    exact ⟨rfl, hg⟩
  · have HP := Lib.hid hp
    clear h hp
    go_enter Try.func58, Try.ntmps58
    go_wp2_with fail
    refine (primeModulus_any n _ hn').mono ?_
    rintro e w' ⟨r, rfl, hr, hg⟩
    obtain rfl : r = false := by cases r; rfl; exact absurd (hr.1 rfl) HP.out
    clear hr
    go_wp2_with fail
    go_ret2
    exact ⟨rfl, hg⟩

theorem root_long (order n : Nat) (w : World) (ho' : order ≤ 4294967295) (hn' : n ≤ 4294967295) (hp : n ≤ 2147483647 ∧ Prm n) (ho : 65536 < order) :
    Calls Try.prog 58 #[.int .u32 order, .int .u32 n] w (Two 0 3 w) := by
  have HP := Lib.hid hp
  clear hp
  go_enter Try.func58, Try.ntmps58
  go_wp2_with fail
  refine (primeModulus_any n _ hn').mono ?_
  rintro e w' ⟨r, rfl, hr, hg⟩
  obtain rfl : r = true := hr.2 HP.out
  clear hr
  go_wp2_with fail
  go_ret2
  exact ⟨rfl, hg⟩

theorem root_none (order n : Nat) (w : World) (hn' : n ≤ 4294967295) (hp : n ≤ 2147483647 ∧ Prm n) (ho : 1 ≤ order) (ho' : order ≤ 65536) (hd : (n - 1) % order ≠ 0) :
    Calls Try.prog 58 #[.int .u32 order, .int .u32 n] w (Two 0 4 w) := by
  have h2 : 2 ≤ n := by rcases hp.2 with h | h <;> omega
  have HP := Lib.hid hp
  have HD := Lib.hid hd
  clear hp hd
  obtain ⟨m0, m1⟩ := mod_fits (n - 1) order (by omega)
  have hb : ((((n : Int) - 1) % (order : Int)) != 0) = true := by
    rw [show (n : Int) - 1 = ((n - 1 : Nat) : Int) from by omega]
    have := HD.out
    simp; omega
  rw [show ((n - 1 : Nat) : Int) = (n : Int) - 1 from by omega] at m0 m1
  go_enter Try.func58, Try.ntmps58
  go_wp2_with fail
  refine (primeModulus_any n _ hn').mono ?_
  rintro e w' ⟨r, rfl, hr, hg⟩
  obtain rfl : r = true := hr.2 HP.out
  clear hr
  go_wp2_with fail
  go_ret2
  exact ⟨rfl, hg⟩

set_option maxHeartbeats 1000000 in
theorem root_ok (order n : Nat) (w : World) (hn' : n ≤ 4294967295) (hp : n ≤ 2147483647 ∧ Prm n) (ho : 1 ≤ order) (ho' : order ≤ 65536) (hd : (n - 1) % order = 0) :
    Calls Try.prog 58 #[.int .u32 order, .int .u32 n] w (RootPost n order w) := by
  have h2 : 2 ≤ n := by rcases hp.2 with h | h <;> omega
  have h3 := hp.1
  have HP := Lib.hid hp
  have HD := Lib.hid hd
  clear hp hd
  obtain ⟨m0, m1⟩ := mod_fits (n - 1) order (by omega)
  have hb : ((((n : Int) - 1) % (order : Int)) != 0) = false := by
    rw [show (n : Int) - 1 = ((n - 1 : Nat) : Int) from by omega]
    have := HD.out
    simp; omega
  rw [show ((n - 1 : Nat) : Int) = (n : Int) - 1 from by omega] at m0 m1
  go_enter Try.func58, Try.ntmps58
  go_wp2_with fail
  refine (primeModulus_any n _ hn').mono ?_
  rintro e w' ⟨r, rfl, hr, hg⟩
  obtain rfl : r = true := hr.2 HP.out
  clear hr
  go_wp2_with fail
  refine (someRoot_any order n _ h2 h3 ho (by omega)).mono ?_
  rintro e w2 ⟨L, x, hL, rfl, hs, hx, hg2⟩
  go_wp2_with fail
  refine (leastRoot_any x order n _ h2 h3 ho ho' hx).mono ?_
  rintro e w3 ⟨⟨m, rfl, hl, hm⟩, hg3⟩
  go_wp2_with fail
  go_ret2
  exact ⟨L, x, m, hL, hs, hx, hl, hm, rfl, (hg.trans hg2).trans hg3⟩
end Go.Proofs.Ytfmmkdmnondomaa
