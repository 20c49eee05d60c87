import Derived.Test.YtlfiakpmnkhcdaaRows
import Derived.WalkKit
import Derived.WalkSpells
import Derived.WalkLawsBesides
import Derived.IntWalk
import Derived.Lib.Hide
import Derived.Carry
import Derived.WalkSmall
import Derived.Deep.QuietTactic
import Derived.BigQuiet
namespace Go.Proofs.Ytlfiakpmnkhcdaa
open Go.RowKit
set_option linter.unusedVariables false
def Gr (w w' : World) : Prop := Below w.heap.size w w'
theorem Gr.refl (w : World) : Gr w w := Below.refl _ _
theorem Gr.trans {a b c : World} (h : Gr a b) (k : Gr b c) : Gr a c := Below.trans h (Below.mono k (Below.size h))
theorem Gr.size {a b : World} (h : Gr a b) : a.heap.size ≤ b.heap.size := Below.size h
theorem Gr.alloc {a b : World} (h : Gr a b) (o : Obj) : Gr a (b.alloc o) := Below.alloc h h.size o
def Truth (w : World) (e : Ending) (w' : World) : Prop := e = .returned (.bool true) ∧ Gr w w'
theorem Gr.new (w : World) (o : Obj) : Gr w (w.alloc o) := (Gr.refl w).alloc o
theorem Gr.setCell {a b : World} (h : Gr a b) {p : Addr} (hp : a.heap.size ≤ p.block) (u : Value) : Gr a (b.setCell p u) := Below.setCell h hp u
theorem Gr.cell {a b : World} (h : Gr a b) {p : Addr} (hp : p.block < a.heap.size) : b.cell? p = a.cell? p := Below.cell h hp
theorem Gr.keeps {a b : World} (h : Gr a b) {p : Addr} {v : Value} (hv : a.cell? p = some v) : b.cell? p = some v := by
  have hp : p.block < a.heap.size := by
    apply Classical.byContradiction; intro hn
    have : a.heap[p.block]? = none := by simp; omega
    simp [World.cell?, this] at hv
  rw [h.cell hp]; exact hv
theorem Gr.drewN {a b : World} (h : Gr a b) (n : Nat) : Gr a (b.drewN n) := below_drewN h n
theorem cell_new (w : World) (v : Value) (t : TypeId) : (w.alloc (.cells #[v] t)).cell? ⟨w.heap.size, 0, none⟩ = some v := by
  simp [go_sem]
theorem ret_int {k : IntKind} {a b : Int} (h : a = b) : Ending.returned (.int k a) = .returned (.int k b) := by rw [h]
theorem ret_bool {a b : Bool} (h : a = b) : Ending.returned (.bool a) = .returned (.bool b) := by rw [h]
theorem emod_lo (x n : Int) (h : 1 ≤ n) : 0 ≤ x % n := Int.emod_nonneg _ (by omega)
theorem emod_hi (x n : Int) (h : 1 ≤ n) : x % n < n := Int.emod_lt_of_pos _ (by omega)
theorem mul_lo {a b : Int} (ha : 0 ≤ a) (hb : 0 ≤ b) : 0 ≤ a * b := Int.mul_nonneg ha hb
theorem mul_hi {a b : Int} (ha : 0 ≤ a) (hb : 0 ≤ b) (ha' : a ≤ 4294967295) (hb' : b ≤ 4294967295) : a * b ≤ 18446744065119617025 := by
  have h1 : a * b ≤ 4294967295 * b := Int.mul_le_mul_of_nonneg_right ha' hb
  omega
theorem tmod_emod (v n : Int) : v % n = v.tmod n % n := by
  have h : v = v.tmod n + n * v.tdiv n := (Int.tmod_add_mul_tdiv v n).symm
  conv => lhs; rw [h]
  exact Int.add_mul_emod_self_left _ _ _
theorem emod_neg_case (v n : Int) (h : v.tmod n < 0) (h2 : - n < v.tmod n) : v % n = v.tmod n + n := by
  rw [tmod_emod, ← Int.add_emod_right]
  exact Int.emod_eq_of_lt (by omega) (by omega)
theorem emod_pos_case (v n : Int) (h : ¬ v.tmod n < 0) (h2 : v.tmod n < n) : v % n = v.tmod n := by
  rw [tmod_emod]
  exact Int.emod_eq_of_lt (by omega) (by omega)
end Go.Proofs.Ytlfiakpmnkhcdaa
namespace Ow
set_option linter.unusedVariables false
def val : List Nat → Nat
  | [] => 0
  | d :: l => d + 4294967296 * val l
def tr : List Nat → List Nat
  | [] => []
  | d :: l => if d = 0 ∧ tr l = [] then [] else d :: tr l
theorem val_tr : ∀ l, val (tr l) = val l
  | [] => rfl
  | d :: l => by
    have ih := val_tr l
    unfold tr
    split
    · rename_i h
      rw [h.2] at ih
      simp only [val] at ih ⊢
      rw [← ih, h.1]
    · simp only [val, ih]
theorem tr_len : ∀ l, (tr l).length ≤ l.length
  | [] => Nat.le_refl _
  | d :: l => by
    have := tr_len l
    unfold tr
    split
    · simp
    · simp; omega
theorem tr_zero : ∀ l, tr (l ++ [0]) = tr l
  | [] => rfl
  | d :: l => by
    show tr (d :: (l ++ [0])) = tr (d :: l)
    unfold tr
    rw [tr_zero l]
theorem tr_last : ∀ (l : List Nat) (x : Nat), x ≠ 0 → tr (l ++ [x]) = l ++ [x]
  | [], x, h => by simp [tr, h]
  | d :: l, x, h => by
    show tr (d :: (l ++ [x])) = d :: (l ++ [x])
    unfold tr
    rw [tr_last l x h, if_neg (fun hh => by simpa using hh.2)]
def Dg (l : List Nat) : Prop := ∀ x ∈ l, x < 4294967296
theorem val_lt : ∀ l, Dg l → val l < 4294967296 ^ l.length
  | [], _ => by simp [val]
  | d :: l, h => by
    have h1 := h d (List.mem_cons_self ..)
    have ih := val_lt l (fun x hx => h x (List.mem_cons_of_mem _ hx))
    simp only [val, List.length_cons, Nat.pow_succ]
    omega
def Nm (l : List Nat) : Prop := Dg l ∧ tr l = l
theorem tr_tr : ∀ l, tr (tr l) = tr l
  | [] => rfl
  | d :: l => by
    have ih := tr_tr l
    rw [tr]
    split
    · rfl
    · rename_i h
      rw [tr, ih, if_neg h]
theorem dg_tr : ∀ l, Dg l → Dg (tr l)
  | [], _ => by intro x hx; cases hx
  | d :: l, h => by
    have ih := dg_tr l (fun x hx => h x (List.mem_cons_of_mem _ hx))
    unfold tr
    split
    · intro x hx; cases hx
    · intro x hx
      rw [List.mem_cons] at hx
      rcases hx with rfl | hx
      · exact h _ (List.mem_cons_self ..)
      · exact ih x hx
theorem nm_tr {l : List Nat} (h : Dg l) : Nm (tr l) := ⟨dg_tr l h, tr_tr l⟩
end Ow
namespace Go.Proofs.Ytlfiakpmnkhcdaa
open Go.RowKit
set_option linter.unusedVariables false
def HasD (W : World) (v : Value) (l : List Nat) : Prop :=
  Ow.Dg l ∧ ∃ a cap, v = .slice a l.length cap ∧ l.length ≤ cap ∧ cap ≤ 9223372036854775807 ∧
    ∀ i, i < l.length → ∃ g o, a = some ⟨g, o, none⟩ ∧ W.cell? ⟨g, o + i, none⟩ = some (.int .u32 ((l[i]?.getD 0 : Nat) : Int))
theorem HasD.later {W W' : World} {v : Value} {l : List Nat} (h : HasD W v l) (hg : Gr W W') : HasD W' v l := by
  obtain ⟨hd, a, cap, rfl, h1, h2, h3⟩ := h
  refine ⟨hd, a, cap, rfl, h1, h2, fun i hi => ?_⟩
  obtain ⟨g, o, e, hc⟩ := h3 i hi
  exact ⟨g, o, e, hg.keeps hc⟩
end Go.Proofs.Ytlfiakpmnkhcdaa
namespace Ow
set_option linter.unusedVariables false
theorem tr_take_zero {l : List Nat} {j : Nat} (h : j < l.length) (hz : l[j]?.getD 0 = 0) : tr (l.take (j + 1)) = tr (l.take j) := by
  rw [List.take_succ_eq_append_getElem h]
  rw [List.getElem?_eq_getElem h] at hz
  simp at hz
  rw [hz, tr_zero]
theorem tr_take_last {l : List Nat} {j : Nat} (h : j < l.length) (hz : l[j]?.getD 0 ≠ 0) : tr (l.take (j + 1)) = l.take (j + 1) := by
  rw [List.take_succ_eq_append_getElem h]
  rw [List.getElem?_eq_getElem h] at hz
  exact tr_last _ _ (by simpa using hz)
end Ow
namespace Go.Proofs.Ytlfiakpmnkhcdaa
open Go.RowKit
set_option linter.unusedVariables false
def sliceLen (t : Value) : Nat := match t with | .slice _ n _ => n | _ => 0
def CutPost (v : Value) (l m : List Nat) (w : World) (e : Ending) (w' : World) : Prop := (∃ v', e = .returned v' ∧ ∀ W, HasD W v l → HasD W v' m) ∧ w = w'
theorem HasD.take {w : World} {a : Option Addr} {l : List Nat} {cap : Nat} (hd : Ow.Dg l) (h1 : l.length ≤ cap) (h2 : cap ≤ 9223372036854775807)
    (hc : ∀ i, i < l.length → ∃ g o, a = some ⟨g, o, none⟩ ∧ w.cell? ⟨g, o + i, none⟩ = some (.int .u32 ((l[i]?.getD 0 : Nat) : Int))) {k : Nat} (hk : k ≤ l.length) : HasD w (.slice a k cap) (l.take k) := by
  have hlen : (l.take k).length = k := by rw [List.length_take]; omega
  refine ⟨fun x hx => hd x (List.mem_of_mem_take hx), a, cap, by rw [hlen], by omega, h2, fun i hi => ?_⟩
  rw [hlen] at hi
  obtain ⟨g, o, e, hcell⟩ := hc i (by omega)
  exact ⟨g, o, e, by rw [List.getElem?_take_of_lt hi]; exact hcell⟩
theorem HasD.cut {W : World} {a : Option Addr} {l : List Nat} {len cap k : Nat} (h : HasD W (.slice a len cap) l) (hk : k ≤ l.length) : HasD W (.slice a k cap) (l.take k) := by
  obtain ⟨hd, a', cap', e, h1, h2, hc⟩ := h
  simp only [Value.slice.injEq] at e
  obtain ⟨rfl, -, rfl⟩ := e
  exact HasD.take hd h1 h2 hc hk
set_option maxRecDepth 100000 in
set_option maxHeartbeats 1000000 in
theorem trim_any (l : List Nat) (v : Value) (w : World) (h : HasD w v l) :
    Calls Try.prog 68 #[v] w (CutPost v l (Ow.tr l) w) := by
  obtain ⟨hd, a, cap, rfl, h1, h2, hc⟩ := h
  obtain ⟨len, hlen⟩ : ∃ len, len = l.length := ⟨_, rfl⟩
  have HC := Lib.hid hc
  have HD := Lib.hid hd
  rw [← hlen] at h1 ⊢
  have HLEN := Lib.hid hlen
  clear hc hd hlen
  go_enter Try.func68, Try.ntmps68
  go_wp2_with fail
  go_loop [0] (fun t => ∃ k : Nat, t = .slice a k cap ∧ k ≤ len ∧ Ow.tr (l.take k) = Ow.tr l) (fun t => sliceLen t)
  case atStart => exact ⟨len, rfl, by omega, by rw [HLEN.out, List.take_length]⟩
  case round =>
    obtain ⟨k, rfl, hk, ht⟩ := hrel
    have HT := Lib.hid ht
    clear ht
    rcases k with _ | j
    · go_wp2_with fail
      go_ret
      refine ⟨⟨_, rfl, fun W hW => ?_⟩, rfl⟩
      have e : Ow.tr l = l.take 0 := by rw [← HT.out]; rfl
      rw [e]
      exact hW.cut (by omega)
    · have hjl : j < l.length := by rw [← HLEN.out]; omega
      obtain ⟨g, o, rfl, hcell⟩ := HC.out j hjl
      have hx := HD.out (l[j]?.getD 0) (by rw [List.getElem?_eq_getElem hjl]; exact List.getElem_mem hjl)
      obtain ⟨x, hxe⟩ : ∃ x, x = l[j]?.getD 0 := ⟨_, rfl⟩
      rw [← hxe] at hcell hx
      have HX := Lib.hid hxe
      have HJ := Lib.hid hjl
      clear hxe hjl
      by_cases hz : x = 0
      · have hb : ((x : Int) == 0) = true := by simp; omega
        have HZ := Lib.hid hz
        clear hz
        have i1 : (j : Int) < ((j + 1 : Nat) : Int) := by omega
        go_wp2_with fail
        go_round
        case rel => exact ⟨j, rfl, by omega, by rw [← Ow.tr_take_zero HJ.out (HX.out.symm.trans HZ.out)]; exact HT.out⟩
        case measure => simp [sliceLen]
      · have hb : ((x : Int) == 0) = false := by simp; omega
        have HZ := Lib.hid hz
        clear hz
        go_wp2_with fail
        go_ret
        refine ⟨⟨_, rfl, fun W hW => ?_⟩, rfl⟩
        have e : Ow.tr l = l.take (j + 1) := by
          rw [← HT.out]; exact Ow.tr_take_last HJ.out (by rw [← HX.out]; exact HZ.out)
        rw [e]
        exact hW.cut (by have := HJ.out; omega)
end Go.Proofs.Ytlfiakpmnkhcdaa
namespace Go.Proofs.Ytlfiakpmnkhcdaa
open Go.RowKit
set_option linter.unusedVariables false
def BoolPost (P : Prop) (w : World) (e : Ending) (w' : World) : Prop := ∃ r : Bool, e = .returned (.bool r) ∧ (r = true ↔ P) ∧ Gr w w'
theorem loop_len (s : ByteArray) : ∀ (k i : Nat) (r : List UInt8), s.size - i = k → (ByteArray.toList.loop s i r).length = r.length + k
  | 0, i, r, h => by
    unfold ByteArray.toList.loop
    rw [if_neg (by omega)]; simp
  | k + 1, i, r, h => by
    unfold ByteArray.toList.loop
    rw [if_pos (by omega), loop_len s k (i + 1) _ (by omega)]
    simp; omega
theorem toList_len (s : ByteArray) : s.toList.length = s.size := by
  unfold ByteArray.toList
  rw [loop_len s s.size 0 [] (by omega)]; simp
theorem empty_iff (s : ByteArray) : s.toList.isEmpty = decide (s.size = 0) := by
  rw [← toList_len]
  cases s.toList <;> simp
def Form (neg : Bool) (s : ByteArray) : Prop := (s.size = 0 ∧ neg = false) ∨ (1 ≤ s.size ∧ s.size ≤ 256 ∧ ∃ h : 0 < s.size, s[0] ≠ 0)
set_option maxRecDepth 100000 in
set_option maxHeartbeats 1000000 in
theorem valid_any (neg : Bool) (s : ByteArray) (w : World) (hs : s.size ≤ 9223372036854775807) :
    Calls Try.prog 69 #[.agg #[.bool neg, .string s]] w (BoolPost (Form neg s) w) := by
  by_cases h0 : s.size = 0
  · have he : s.toList.isEmpty = true := by rw [empty_iff]; simpa using h0
    have H0 := Lib.hid h0
    clear h0
    go_enter Try.func69, Try.ntmps69
    go_wp2_with fail
    go_ret
    exact ⟨!neg, rfl, by unfold Form; simp [H0.out], Gr.new _ _⟩
  · have he : s.toList.isEmpty = false := by rw [empty_iff]; simpa using h0
    have h1 : 0 < s.size := by omega
    by_cases h2 : s.size ≤ 256
    · go_enter Try.func69, Try.ntmps69
      go_wp2_with fail
      go_ret
      refine ⟨_, rfl, ?_, Gr.new _ _⟩
      unfold Form
      have e : (((s[0].toNat : Int) != 0) = true) ↔ s[0] ≠ 0 := by
        simp only [bne_iff_ne, ne_eq]
        constructor
        · intro h h'; apply h; rw [h']; rfl
        · intro h h'
          apply h
          have h3 : s[0].toNat = 0 := by omega
          exact UInt8.toNat_inj.1 (by rw [h3]; rfl)
      rw [e]
      constructor
      · intro h; exact .inr ⟨h1, h2, h1, h⟩
      · rintro (⟨h, _⟩ | ⟨_, _, _, h⟩)
        · omega
        · exact h
    · go_enter Try.func69, Try.ntmps69
      go_wp2_with fail
      go_ret
      refine ⟨false, rfl, ?_, Gr.new _ _⟩
      simp only [Bool.false_eq_true, false_iff]
      rintro (⟨h, _⟩ | ⟨_, h, _⟩)
      · omega
      · omega
end Go.Proofs.Ytlfiakpmnkhcdaa
namespace Go.Proofs.Ytlfiakpmnkhcdaa
open Go.RowKit
set_option linter.unusedVariables false
def sgn (x y : Int) : Int := if x < y then -1 else if y < x then 1 else 0
theorem sgn_lt {x y : Int} (h : x < y) : sgn x y = -1 := by unfold sgn; rw [if_pos h]
theorem sgn_gt {x y : Int} (h : y < x) : sgn x y = 1 := by unfold sgn; rw [if_neg (by omega), if_pos h]
theorem sgn_eq {x y : Int} (h : x = y) : sgn x y = 0 := by unfold sgn; rw [if_neg (by omega), if_neg (by omega)]
theorem nan_int (x : Int) (w : World) : Calls Try.prog 95 #[.int .i64 x] w fun e w' => e = .returned (.bool false) ∧ w = w' := by
  have h : (x != x) = false := by simp
  go_enter Try.func95, Try.ntmps95
  go_wp2_with fail
  go_ret
  exact ⟨rfl, rfl⟩
set_option maxHeartbeats 1000000 in
theorem cmp_int (x y : Int) (w : World) : Calls Try.prog 86 #[.int .i64 x, .int .i64 y] w fun e w' => e = .returned (.int .i64 (sgn x y)) ∧ w = w' := by
  rcases Int.lt_trichotomy x y with h | h | h
  · rw [sgn_lt h]
    go_enter Try.func86, Try.ntmps86
    go_wp2_with (go_at_call 95; refine (nan_int _ _).mono ?_; rintro e w' ⟨rfl, rfl⟩)
    go_ret
    exact ⟨rfl, rfl⟩
  · subst h
    rw [sgn_eq rfl]
    have h1 : ¬ x < x := by omega
    go_enter Try.func86, Try.ntmps86
    go_wp2_with (go_at_call 95; refine (nan_int _ _).mono ?_; rintro e w' ⟨rfl, rfl⟩)
    go_ret
    exact ⟨rfl, rfl⟩
  · rw [sgn_gt h]
    have h1 : ¬ x < y := by omega
    go_enter Try.func86, Try.ntmps86
    go_wp2_with (go_at_call 95; refine (nan_int _ _).mono ?_; rintro e w' ⟨rfl, rfl⟩)
    go_ret
    exact ⟨rfl, rfl⟩
theorem nan_u32 (x : Int) (w : World) : Calls Try.prog 96 #[.int .u32 x] w fun e w' => e = .returned (.bool false) ∧ w = w' := by
  have h : (x != x) = false := by simp
  go_enter Try.func96, Try.ntmps96
  go_wp2_with fail
  go_ret
  exact ⟨rfl, rfl⟩
set_option maxHeartbeats 1000000 in
theorem cmp_u32 (x y : Int) (w : World) : Calls Try.prog 87 #[.int .u32 x, .int .u32 y] w fun e w' => e = .returned (.int .i64 (sgn x y)) ∧ w = w' := by
  rcases Int.lt_trichotomy x y with h | h | h
  · rw [sgn_lt h]
    go_enter Try.func87, Try.ntmps87
    go_wp2_with (go_at_call 96; refine (nan_u32 _ _).mono ?_; rintro e w' ⟨rfl, rfl⟩)
    go_ret
    exact ⟨rfl, rfl⟩
  · subst h
    rw [sgn_eq rfl]
    have h1 : ¬ x < x := by omega
    go_enter Try.func87, Try.ntmps87
    go_wp2_with (go_at_call 96; refine (nan_u32 _ _).mono ?_; rintro e w' ⟨rfl, rfl⟩)
    go_ret
    exact ⟨rfl, rfl⟩
  · rw [sgn_gt h]
    have h1 : ¬ x < y := by omega
    go_enter Try.func87, Try.ntmps87
    go_wp2_with (go_at_call 96; refine (nan_u32 _ _).mono ?_; rintro e w' ⟨rfl, rfl⟩)
    go_ret
    exact ⟨rfl, rfl⟩
end Go.Proofs.Ytlfiakpmnkhcdaa
namespace Ow
set_option linter.unusedVariables false
theorem val_split : ∀ (k : Nat) (l : List Nat), k ≤ l.length → val l = val (l.take k) + 4294967296 ^ k * val (l.drop k)
  | 0, l, _ => by simp [val]
  | k + 1, [], h => by simp at h
  | k + 1, d :: l, h => by
    have ih := val_split k l (by simpa using h)
    simp only [List.take_succ_cons, List.drop_succ_cons, val]
    rw [ih, Nat.mul_add, Nat.pow_succ, Nat.mul_comm (4294967296 ^ k) 4294967296, Nat.mul_assoc]
    omega
theorem dg_take {l : List Nat} (h : Dg l) (k : Nat) : Dg (l.take k) := fun x hx => h x (List.mem_of_mem_take hx)
theorem val_lt_of {l m : List Nat} {i : Nat} (hl : Dg l) (hm : Dg m) (h1 : i < l.length) (h2 : i < m.length) (hd : l.drop (i + 1) = m.drop (i + 1)) (hlt : l[i]?.getD 0 < m[i]?.getD 0) : val l < val m := by
  rw [val_split i l (by omega), val_split i m (by omega), List.drop_eq_getElem_cons h1, List.drop_eq_getElem_cons h2, hd]
  rw [List.getElem?_eq_getElem h1, List.getElem?_eq_getElem h2] at hlt
  simp only [Option.getD_some] at hlt
  have a := val_lt (l.take i) (dg_take hl i)
  rw [List.length_take, Nat.min_eq_left (by omega)] at a
  simp only [val]
  have b := Nat.mul_le_mul_left (4294967296 ^ i) (show l[i] + 1 ≤ m[i] by omega)
  rw [Nat.mul_add, Nat.mul_one] at b
  rw [Nat.mul_add, Nat.mul_add]
  omega
theorem drop_prev {l m : List Nat} {i : Nat} (h1 : i < l.length) (h2 : i < m.length) (hd : l.drop (i + 1) = m.drop (i + 1)) (he : l[i]?.getD 0 = m[i]?.getD 0) : l.drop i = m.drop i := by
  rw [List.drop_eq_getElem_cons h1, List.drop_eq_getElem_cons h2, hd]
  rw [List.getElem?_eq_getElem h1, List.getElem?_eq_getElem h2] at he
  simp only [Option.getD_some] at he
  rw [he]
theorem val_ge : ∀ l : List Nat, tr l = l → l ≠ [] → 4294967296 ^ (l.length - 1) ≤ val l
  | [], _, h => absurd rfl h
  | [d], h, _ => by
    have : d ≠ 0 := fun h0 => by rw [h0] at h; simp [tr] at h
    simp [val]; omega
  | d :: e :: l, h, _ => by
    have h1 : tr (e :: l) = e :: l := by
      rw [tr] at h
      split at h
      · cases h
      · exact (List.cons.inj h).2
    have ih := val_ge (e :: l) h1 (by simp)
    simp only [List.length_cons, Nat.add_sub_cancel] at ih ⊢
    show 4294967296 ^ (l.length + 1) ≤ d + 4294967296 * val (e :: l)
    rw [Nat.pow_succ]
    have := Nat.mul_le_mul_left 4294967296 ih
    omega
theorem val_short {l m : List Nat} (hl : Nm l) (hm : Nm m) (h : l.length < m.length) : val l < val m := by
  have a := val_lt l hl.1
  have b := val_ge m hm.2 (fun h0 => by rw [h0] at h; simp at h)
  have c : 4294967296 ^ l.length ≤ 4294967296 ^ (m.length - 1) := Nat.pow_le_pow_right (by omega) (by omega)
  omega
end Ow
namespace Go.Proofs.Ytlfiakpmnkhcdaa
open Go.RowKit
set_option linter.unusedVariables false
def CmpPost (c : Int) (w : World) (e : Ending) (w' : World) : Prop := e = .returned (.int .i64 c) ∧ Gr w w'
set_option maxRecDepth 100000 in
set_option maxHeartbeats 2000000 in
theorem compare_any (l m : List Nat) (u v : Value) (w : World) (hu : HasD w u l) (hv : HasD w v m) (hl : Ow.Nm l) (hm : Ow.Nm m) :
    Calls Try.prog 71 #[u, v] w (CmpPost (sgn (Ow.val l) (Ow.val m)) w) := by
  obtain ⟨du, a, cap, rfl, u1, u2, uc⟩ := hu
  obtain ⟨dv, b, cap', rfl, v1, v2, vc⟩ := hv
  obtain ⟨len, hlen⟩ : ∃ len, len = l.length := ⟨_, rfl⟩
  obtain ⟨len', hlen'⟩ : ∃ len', len' = m.length := ⟨_, rfl⟩
  rw [← hlen] at u1 ⊢
  rw [← hlen'] at v1 ⊢
  have HU := Lib.hid uc
  have HV := Lib.hid vc
  have HDU := Lib.hid du
  have HDV := Lib.hid dv
  have HL := Lib.hid hlen
  have HM := Lib.hid hlen'
  have HNL := Lib.hid hl
  have HNM := Lib.hid hm
  clear uc vc du dv hlen hlen' hl hm
  by_cases hne : len = len'
  · have HE := Lib.hid hne
    have hb : ((len : Int) != (len' : Int)) = false := by simp; omega
    clear hne
    go_enter Try.func71, Try.ntmps71
    go_wp2_with fail
    go_loopw [5] (fun i wr => ∃ k : Nat, i = .int .i64 ((k : Int) - 1) ∧ k ≤ len ∧ l.drop k = m.drop k ∧ Gr w wr) (fun i _ => (intOf i + 1).toNat)
    case atStart => exact ⟨len, rfl, by omega, by rw [HL.out, List.drop_length, ← HL.out, HE.out, HM.out, List.drop_length], Gr.refl _⟩
    case round =>
      obtain ⟨k, rfl, hk, hd, g1⟩ := hrel
      have HDR := Lib.hid hd
      clear hd
      rcases k with _ | j
      · have HEQ := Lib.hid (show Ow.val l = Ow.val m from by have := HDR.out; simp at this; rw [this])
        have t0 : decide ((0 : Int) ≤ ((0 : Nat) : Int) - 1) = false := by simp
        go_wp2_with fail
        go_ret
        exact ⟨ret_int (by rw [sgn_eq (by have := HEQ.out; omega)]), g1⟩
      · rw [show ((j + 1 : Nat) : Int) - 1 = (j : Int) by omega]
        have hjl : j < l.length := by rw [← HL.out]; omega
        have hjm : j < m.length := by rw [← HM.out, ← HE.out]; omega
        obtain ⟨ga, oa, rfl, ca⟩ := HU.out j hjl
        obtain ⟨gb, ob, rfl, cb⟩ := HV.out j hjm
        have ca' := g1.keeps ca
        have cb' := g1.keeps cb
        have hx := HDU.out (l[j]?.getD 0) (by rw [List.getElem?_eq_getElem hjl]; exact List.getElem_mem hjl)
        have hy := HDV.out (m[j]?.getD 0) (by rw [List.getElem?_eq_getElem hjm]; exact List.getElem_mem hjm)
        obtain ⟨x, hxe⟩ : ∃ x, x = l[j]?.getD 0 := ⟨_, rfl⟩
        obtain ⟨y, hye⟩ : ∃ y, y = m[j]?.getD 0 := ⟨_, rfl⟩
        rw [← hxe] at ca' hx
        rw [← hye] at cb' hy
        have HX := Lib.hid hxe
        have HY := Lib.hid hye
        have HJL := Lib.hid hjl
        have HJM := Lib.hid hjm
        clear hxe hye hjl hjm ca cb
        have i1 : (j : Int) < (len : Int) := by omega
        have i2 : (j : Int) < (len' : Int) := by have := HE.out; omega
        have i3 : (0 : Int) ≤ (j : Int) := by omega
        by_cases hxy : x = y
        · have t1 : ((x : Int) != (y : Int)) = false := by simp; omega
          have HXY := Lib.hid hxy
          clear hxy
          go_wp2_with fail
          go_quiet (fail)
          go_wp2_with fail
          go_roundw
          case rel => exact ⟨j, by simp, by omega, Ow.drop_prev HJL.out HJM.out HDR.out (by rw [← HX.out, ← HY.out]; exact HXY.out), g1.drewN _⟩
          case measure => simp [intOf]
        · have t1 : ((x : Int) != (y : Int)) = true := by simp; omega
          have HS := Lib.hid (show sgn x y = sgn (Ow.val l) (Ow.val m) from by
            rcases Nat.lt_or_gt_of_ne hxy with h | h
            · have := Ow.val_lt_of HDU.out HDV.out HJL.out HJM.out HDR.out (by rw [← HX.out, ← HY.out]; exact h)
              rw [sgn_lt (by omega), sgn_lt (by omega)]
            · have := Ow.val_lt_of HDV.out HDU.out HJM.out HJL.out HDR.out.symm (by rw [← HX.out, ← HY.out]; exact h)
              rw [sgn_gt (by omega), sgn_gt (by omega)])
          clear hxy
          go_wp2_with fail
          go_quiet (fail)
          have g2 : Gr w (wr.drewN nq) := g1.drewN _
          have ca2 : (wr.drewN nq).cell? _ = _ := (show Gr wr (wr.drewN nq) from (Gr.refl wr).drewN _).keeps ca'
          have cb2 : (wr.drewN nq).cell? _ = _ := (show Gr wr (wr.drewN nq) from (Gr.refl wr).drewN _).keeps cb'
          clear ca' cb' g1
          generalize wr.drewN nq = w2 at *
          go_wp2_with fail
          go_quiet ((go_at_call 87; exact Calls.quiet_of_same ((cmp_u32 _ _ _).mono fun e w' ⟨h1, h2⟩ => ⟨h1, h2.symm⟩)))
          go_wp2_with fail
          go_ret
          exact ⟨ret_int HS.out, g2.drewN _⟩
  · have hb : ((len : Int) != (len' : Int)) = true := by simp; omega
    have HE := Lib.hid hne
    have HS := Lib.hid (show sgn len len' = sgn (Ow.val l) (Ow.val m) from by
      rcases Nat.lt_or_gt_of_ne hne with h | h
      · have := Ow.val_short HNL.out HNM.out (by rw [← HL.out, ← HM.out]; exact h)
        rw [sgn_lt (by omega), sgn_lt (by omega)]
      · have := Ow.val_short HNM.out HNL.out (by rw [← HL.out, ← HM.out]; exact h)
        rw [sgn_gt (by omega), sgn_gt (by omega)])
    clear hne
    go_enter Try.func71, Try.ntmps71
    go_wp2_with (go_at_call 86; refine (cmp_int _ _ _).mono ?_; rintro e w' ⟨rfl, rfl⟩)
    go_ret
    exact ⟨ret_int HS.out, Gr.refl _⟩
end Go.Proofs.Ytlfiakpmnkhcdaa
namespace Go.Proofs.Ytlfiakpmnkhcdaa
open Go.RowKit
set_option linter.unusedVariables false
set_option maxRecDepth 100000 in
set_option maxHeartbeats 1000000 in
theorem add32_any (x y c : Nat) (w : World) (hx : x < 4294967296) (hy : y < 4294967296) (hc : c ≤ 1) :
    Calls Try.prog 98 #[.int .u32 x, .int .u32 y, .int .u32 c] w fun e w' => e = .returned (.tuple #[.int .u32 (((x + y + c) % 4294967296 : Nat) : Int), .int .u32 (((x + y + c) / 4294967296 : Nat) : Int)]) ∧ w = w' := by
  have q0 : (0 : Int) ≤ ((x : Int) + y + c) / 4294967296 := by omega
  have q1 : ((x : Int) + y + c) / 4294967296 ≤ 1 := by omega
  go_enter Try.func98, Try.ntmps98
  go_wp2_with fail
  go_ret2
  rw [show (((x + y + c) % 4294967296 : Nat) : Int) = ((x : Int) + y + c) % 4294967296 by omega, show (((x + y + c) / 4294967296 : Nat) : Int) = ((x : Int) + y + c) / 4294967296 by omega]
  exact ⟨rfl, rfl⟩
end Go.Proofs.Ytlfiakpmnkhcdaa
namespace Go.Proofs.Ytlfiakpmnkhcdaa
open Go.RowKit
set_option linter.unusedVariables false
theorem signs_any (neg : Bool) (w : World) :
    Calls Try.prog 46 #[.bool neg] w fun e w' => e = .returned (.func (.func 67) #[] #[.pointer (some ⟨w.heap.size, 0, none⟩)]) ∧ w.alloc (.cells #[.bool neg] 4) = w' := by
  go_enter Try.func46, Try.ntmps46
  go_wp2_with fail
  go_ret
  exact ⟨rfl, rfl⟩
def IntPost (neg : Bool) (l : List Nat) (w : World) (e : Ending) (w' : World) : Prop := ∃ v, e = .returned (.agg #[.bool neg, v]) ∧ HasD w' v l ∧ Gr w w'
set_option maxRecDepth 100000 in
set_option maxHeartbeats 1000000 in
theorem signs1_any (neg : Bool) (l : List Nat) (v : Value) (B : Nat) (w : World) (h : HasD w v l) (hB : w.cell? ⟨B, 0, none⟩ = some (.bool neg)) :
    Calls Try.prog 67 #[v, .pointer (some ⟨B, 0, none⟩)] w (IntPost (neg && decide (0 < (Ow.tr l).length)) (Ow.tr l) w) := by
  have HH := Lib.hid h
  have HB := Lib.hid hB
  have hBl : B < w.heap.size := by
    apply Classical.byContradiction; intro hn
    have : w.heap[B]? = none := by simp; omega
    simp [World.cell?, this] at hB
  clear h hB
  go_enter Try.func67, Try.ntmps67
  go_wp2_with fail
  have gA : Gr w (w.alloc (.cells #[.bool false, .slice none 0 0] 87)) := Gr.new _ _
  refine (trim_any l v _ (HH.out.later gA)).mono ?_
  rintro e w' ⟨⟨v', rfl, hcut⟩, rfl⟩
  have hB2 := gA.keeps HB.out
  have HCUT := Lib.hid hcut
  obtain ⟨-, a, cap, rfl, h1, h2, -⟩ := hcut _ HH.out
  clear hcut
  obtain ⟨len, hlen⟩ : ∃ len, len = (Ow.tr l).length := ⟨_, rfl⟩
  rw [← hlen] at h1 HCUT ⊢
  have HLEN := Lib.hid hlen
  clear hlen
  cases neg with
  | false =>
    go_wp2_with fail
    refine bodyPost_ret (v := .agg #[.bool false, .slice a len cap]) (by simp [results, Try.results67, go_sem]) rfl ?_
    exact ⟨_, by simp, HCUT.out _ (HH.out.later (Gr.new _ _)), Gr.new _ _⟩
  | true =>
    by_cases h0 : 0 < len
    · have t0 : decide ((0 : Int) < (len : Int)) = true := by simp; omega
      go_wp2_with fail
      refine bodyPost_ret (v := .agg #[.bool true, .slice a len cap]) (by simp [results, Try.results67, go_sem]) rfl ?_
      exact ⟨_, by simp [← HLEN.out, h0], HCUT.out _ (HH.out.later (Gr.new _ _)), Gr.new _ _⟩
    · have t0 : decide ((0 : Int) < (len : Int)) = false := by simp; omega
      go_wp2_with fail
      refine bodyPost_ret (v := .agg #[.bool false, .slice a len cap]) (by simp [results, Try.results67, go_sem]) rfl ?_
      exact ⟨_, by simp [← HLEN.out, h0], HCUT.out _ (HH.out.later (Gr.new _ _)), Gr.new _ _⟩
end Go.Proofs.Ytlfiakpmnkhcdaa
