import Derived.Test.YtlfiakpmnkhcdaaGreatLJw
/- Sums and products of elements, pure. -/
namespace Go.Proofs.YtlfiakpmnkhcdaaGreat.Mo
open Go.RowKit Go.Shelf
set_option linter.unusedVariables false

def sumE (M : List Int) (s : Int) (rA rB : List (List Int)) : List (List Int) := rwA M (fun i m => (fun m x y => Oj.sumR x.length m x s y) m (rw_ rA i) (rw_ rB i))
theorem ev_rlen {N : Int} {ch : List Int} {S : Int} {lv : Int} {sp : Bool} {rA : List (List Int)} (hv : VP N ch S) (h : EV N ch S lv sp rA) {i : Nat} (hi : i < (Oj.mods ch S lv.toNat sp).length) :
    ∃ n : Nat, N = n ∧ 1 ≤ n ∧ n ≤ 32 ∧ 3 ≤ Op.cf (Oj.mods ch S lv.toNat sp) i ∧ (rw_ rA i).length = n ∧ (((Op.cf (Oj.mods ch S lv.toNat sp) i).toNat : Nat) : Int) = Op.cf (Oj.mods ch S lv.toNat sp) i := by
  obtain ⟨n, rfl, h4, h32⟩ := vp_dim hv
  obtain ⟨l, hl0⟩ := Int.eq_ofNat_of_zero_le (show 0 ≤ lv by have := h.1.1; omega)
  subst hl0
  have hm := (mods_ok hv h.1 hi).1
  have hr := (h.2.2 i hi).1
  exact ⟨n, rfl, by omega, h32, hm, by omega, Int.toNat_of_nonneg (by
    have : Oj.mods ch S (l : Int).toNat sp = Oj.mods ch S l sp := rfl
    rw [this]; omega)⟩
/-- A sum is an element. -/
theorem ev_sum {N : Int} {ch : List Int} {S lv : Int} {sp : Bool} {rA rB : List (List Int)} (s : Int) (hv : VP N ch S) (hA : EV N ch S lv sp rA) : EV N ch S lv sp (sumE (Oj.mods ch S lv.toNat sp) s rA rB) := by
  refine ev_rwA hA fun i hi => ?_
  obtain ⟨n, e, -, -, hm, hr, -⟩ := ev_rlen hv hA hi
  show RowOK N _ (Oj.sumR (rw_ rA i).length _ _ _ _)
  rw [hr]
  exact rws_ok e (Oj.sumR_rws (by omega) _ _ _)
theorem ev_prodE {N : Int} {ch : List Int} {S lv : Int} {sp : Bool} {rA rB : List (List Int)} (hv : VP N ch S) (hA : EV N ch S lv sp rA) : EV N ch S lv sp (prodE (Oj.mods ch S lv.toNat sp) rA rB) := ev_prod hv hA
theorem prodE_comm {N : Int} {ch : List Int} {S lv : Int} {sp : Bool} {rA rB : List (List Int)} (hv : VP N ch S) (hA : EV N ch S lv sp rA) (hB : EV N ch S lv sp rB) :
    prodE (Oj.mods ch S lv.toNat sp) rA rB = prodE (Oj.mods ch S lv.toNat sp) rB rA := by
  refine rows_eq (by unfold prodE; rw [rwA_len, rwA_len]) fun i hi => ?_
  unfold prodE at hi
  rw [rwA_len] at hi
  obtain ⟨n, e, h1, -, hm, hr, e2⟩ := ev_rlen hv hA hi
  obtain ⟨n', e', -, -, -, hs, -⟩ := ev_rlen hv hB hi
  obtain rfl : n' = n := by omega
  unfold prodE
  rw [rwA_at _ _ hi, rwA_at _ _ hi]
  simp only [e2, hr, hs]
  exact Oj.prod_comm h1 (by omega) hr hs
theorem prodE_assoc {N : Int} {ch : List Int} {S lv : Int} {sp : Bool} {rA rB rC : List (List Int)} (hv : VP N ch S) (hA : EV N ch S lv sp rA) (hB : EV N ch S lv sp rB) (hC : EV N ch S lv sp rC) :
    prodE (Oj.mods ch S lv.toNat sp) (prodE (Oj.mods ch S lv.toNat sp) rA rB) rC = prodE (Oj.mods ch S lv.toNat sp) rA (prodE (Oj.mods ch S lv.toNat sp) rB rC) := by
  refine rows_eq (by unfold prodE; rw [rwA_len, rwA_len]) fun i hi => ?_
  unfold prodE at hi
  rw [rwA_len] at hi
  obtain ⟨n, e, h1, -, hm, hr, e2⟩ := ev_rlen hv hA hi
  obtain ⟨n', e', -, -, -, hs, -⟩ := ev_rlen hv hB hi
  obtain ⟨n2, e3, -, -, -, ht, -⟩ := ev_rlen hv hC hi
  obtain rfl : n' = n := by omega
  obtain rfl : n2 = n' := by omega
  unfold prodE
  rw [rwA_at _ _ hi, rwA_at _ _ hi, rwA_at _ _ hi, rwA_at _ _ hi]
  simp only [e2, hr, hs, Oj.prodR_len]
  exact Oj.prod_assoc h1 (by omega) hr hs ht
theorem prodE_dist {N : Int} {ch : List Int} {S lv : Int} {sp : Bool} {rA rB rC : List (List Int)} (hv : VP N ch S) (hA : EV N ch S lv sp rA) (hB : EV N ch S lv sp rB) (hC : EV N ch S lv sp rC) :
    prodE (Oj.mods ch S lv.toNat sp) (sumE (Oj.mods ch S lv.toNat sp) 1 rA rC) rB = sumE (Oj.mods ch S lv.toNat sp) 1 (prodE (Oj.mods ch S lv.toNat sp) rA rB) (prodE (Oj.mods ch S lv.toNat sp) rB rC) := by
  refine rows_eq (by unfold prodE sumE; rw [rwA_len, rwA_len]) fun i hi => ?_
  unfold prodE at hi
  rw [rwA_len] at hi
  obtain ⟨n, e, h1, -, hm, hr, e2⟩ := ev_rlen hv hA hi
  obtain ⟨n', e', -, -, -, hs, -⟩ := ev_rlen hv hB hi
  obtain ⟨n2, e3, -, -, -, ht, -⟩ := ev_rlen hv hC hi
  obtain rfl : n' = n := by omega
  obtain rfl : n2 = n' := by omega
  unfold prodE sumE
  rw [rwA_at _ _ hi, rwA_at _ _ hi, rwA_at _ _ hi, rwA_at _ _ hi, rwA_at _ _ hi]
  simp only [e2, hr, hs, Oj.prodR_len, Oj.sumR_len]
  exact Oj.prod_dist h1 (by omega) hr hs ht
theorem sumE_back {N : Int} {ch : List Int} {S lv : Int} {sp : Bool} {rA rC : List (List Int)} (hv : VP N ch S) (hA : EV N ch S lv sp rA) (nA : Nn rA) :
    sumE (Oj.mods ch S lv.toNat sp) (-1) (sumE (Oj.mods ch S lv.toNat sp) 1 rA rC) rC = rA := by
  have hl := hA.2.1
  refine rows_eq (by unfold sumE; rw [rwA_len, hl]) fun i hi => ?_
  unfold sumE at hi
  rw [rwA_len] at hi
  obtain ⟨n, e, hd, hm, hr⟩ := ev_rws hv hA nA hi
  unfold sumE
  rw [rwA_at _ _ hi, rwA_at _ _ hi]
  simp only [hr.1, Oj.sumR_len]
  exact Oj.sum_back (by omega) hr
end Go.Proofs.YtlfiakpmnkhcdaaGreat.Mo
