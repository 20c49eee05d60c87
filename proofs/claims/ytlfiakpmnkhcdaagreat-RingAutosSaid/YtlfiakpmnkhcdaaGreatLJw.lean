import Derived.Test.YtlfiakpmnkhcdaaGreatLJv
/- Automorphisms of elements, pure. -/
namespace Go.Proofs.YtlfiakpmnkhcdaaGreat.Mo
open Go.RowKit Go.Shelf
set_option linter.unusedVariables false

/-- Rows of numbers that are not negative. -/
def Nn (ls : List (List Int)) : Prop := ∀ i, i < ls.length → ∀ j, 0 ≤ Op.cf (rw_ ls i) j
theorem hasR_nn {W : World} {u : Value} {ls : List (List Int)} (h : HasR W u ls) : Nn ls := by
  intro i hi j
  obtain ⟨a, c, rfl⟩ := h.form
  obtain ⟨g, o, x, m, c, rfl, -, hm, hp⟩ := HasB.at_ h hi
  exact (hp.1.at_ j).1
theorem au_zero {N : Int} {ch : List Int} {S lv : Int} {sp : Bool} {rA : List (List Int)} {k : Int} (h : auE N ch S lv sp rA k = 0) : (1 ≤ k ∧ k < 2 * N ∧ k % 2 ≠ 0) ∧ VP N ch S ∧ EV N ch S lv sp rA := by
  unfold auE at h
  split at h
  · assumption
  · omega
/-- A row of a valid element: n residues. -/
theorem ev_rws {N : Int} {ch : List Int} {S : Int} {lv : Int} {sp : Bool} {rA : List (List Int)} (hv : VP N ch S) (h : EV N ch S lv sp rA) (hn : Nn rA) {i : Nat} (hi : i < (Oj.mods ch S lv.toNat sp).length) :
    ∃ n : Nat, N = n ∧ Oj.Dim n ∧ 3 ≤ Op.cf (Oj.mods ch S lv.toNat sp) i ∧ Oj.Rws n (Op.cf (Oj.mods ch S lv.toNat sp) i) (rw_ rA i) := by
  obtain ⟨n, rfl, h4, h32⟩ := vp_dim hv
  obtain ⟨l, hl0⟩ := Int.eq_ofNat_of_zero_le (show 0 ≤ lv by have := h.1.1; omega)
  subst hl0
  have hm := mods_ok hv h.1 hi
  have hr := h.2.2 i hi
  have hir : i < rA.length := by rw [h.2.1]; exact hi
  refine ⟨n, rfl, ?_, hm.1, ⟨by have := hr.1; omega, fun j hj => ⟨hn i hir j, of_decide_eq_true hr.2 j (by have := hr.1; omega)⟩⟩⟩
  have hd := hv.1
  unfold DimI at hd
  unfold Oj.Dim
  omega
def autoE (M : List Int) (k : Nat) (rA : List (List Int)) : List (List Int) := rwA M (fun i m => (fun m x => Oj.autoR x.length m k x) m (rw_ rA i))
def prodE (M : List Int) (rA rB : List (List Int)) : List (List Int) := rwA M (fun i m => (fun m x y => Oj.prodR x.length m.toNat x y) m (rw_ rA i) (rw_ rB i))
theorem Nn.rwA {M : List Int} {F : Nat → Int → List Int} (h : ∀ i, i < M.length → ∀ j, 0 ≤ Op.cf (F i (Op.cf M i)) j) : Nn (rwA M F) := by
  intro i hi j
  rw [rwA_len] at hi
  rw [rwA_at _ _ hi]
  exact h i hi j
theorem ev_auto {N : Int} {ch : List Int} {S lv : Int} {sp : Bool} {rA : List (List Int)} (k : Nat) (hv : VP N ch S) (h : EV N ch S lv sp rA) (hn : Nn rA) : EV N ch S lv sp (autoE (Oj.mods ch S lv.toNat sp) k rA) ∧ Nn (autoE (Oj.mods ch S lv.toNat sp) k rA) := by
  have key : ∀ i, i < (Oj.mods ch S lv.toNat sp).length → ∃ n : Nat, N = n ∧ 3 ≤ Op.cf (Oj.mods ch S lv.toNat sp) i ∧ Oj.Rws n (Op.cf (Oj.mods ch S lv.toNat sp) i) (Oj.autoR (rw_ rA i).length (Op.cf (Oj.mods ch S lv.toNat sp) i) k (rw_ rA i)) := fun i hi => by
    obtain ⟨n, e, hd, hm, hr⟩ := ev_rws hv h hn hi
    rw [hr.1]
    exact ⟨n, e, hm, Oj.autoR_rws (by rcases hd with rfl | rfl | rfl | rfl <;> omega) (by omega) hr⟩
  refine ⟨ev_rwA h fun i hi => ?_, Nn.rwA fun i hi j => ?_⟩
  · obtain ⟨n, e, hm, hr⟩ := key i hi
    exact rws_ok e hr
  · obtain ⟨n, e, hm, hr⟩ := key i hi
    exact (hr.all (by omega) j).1
/-- The automorphism of a product is the product of the automorphisms. -/
theorem autoE_prod {N : Int} {ch : List Int} {S lv : Int} {sp : Bool} {rA rB : List (List Int)} {k : Nat} (hk : k % 2 = 1) (hv : VP N ch S) (hA : EV N ch S lv sp rA) (nA : Nn rA) (hB : EV N ch S lv sp rB) (nB : Nn rB) :
    autoE (Oj.mods ch S lv.toNat sp) k (prodE (Oj.mods ch S lv.toNat sp) rA rB) = prodE (Oj.mods ch S lv.toNat sp) (autoE (Oj.mods ch S lv.toNat sp) k rA) (autoE (Oj.mods ch S lv.toNat sp) k rB) := by
  refine rows_eq (by unfold autoE prodE; rw [rwA_len, rwA_len]) fun i hi => ?_
  unfold autoE at hi
  rw [rwA_len] at hi
  obtain ⟨n, e, hd, hm, hr⟩ := ev_rws hv hA nA hi
  obtain ⟨n', e', -, -, hs⟩ := ev_rws hv hB nB hi
  obtain rfl : n' = n := by omega
  have e2 : (((Op.cf (Oj.mods ch S lv.toNat sp) i).toNat : Nat) : Int) = Op.cf (Oj.mods ch S lv.toNat sp) i := Int.toNat_of_nonneg (by omega)
  unfold autoE prodE
  rw [rwA_at _ _ hi, rwA_at _ _ hi, rwA_at _ _ hi, rwA_at _ _ hi, rwA_at _ _ hi]
  simp only [e2, hr.1, hs.1, Oj.prodR_len, Oj.autoR_len]
  exact Oj.auto_prod hd hk (by omega) hr hs
/-- One after another. -/
theorem autoE_auto {N : Int} {ch : List Int} {S lv : Int} {sp : Bool} {rA : List (List Int)} {k l n : Nat} (hN : N = n) (hk : k % 2 = 1) (hl : l % 2 = 1) (hv : VP N ch S) (hA : EV N ch S lv sp rA) (nA : Nn rA) :
    autoE (Oj.mods ch S lv.toNat sp) (k * l % (2 * n)) rA = autoE (Oj.mods ch S lv.toNat sp) l (autoE (Oj.mods ch S lv.toNat sp) k rA) := by
  refine rows_eq (by unfold autoE; rw [rwA_len, rwA_len]) fun i hi => ?_
  unfold autoE at hi
  rw [rwA_len] at hi
  obtain ⟨n', e, hd, hm, hr⟩ := ev_rws hv hA nA hi
  obtain rfl : n' = n := by omega
  unfold autoE
  rw [rwA_at _ _ hi, rwA_at _ _ hi, rwA_at _ _ hi]
  simp only [hr.1, Oj.autoR_len]
  exact Oj.auto_auto hd hk hl (by omega) hr
end Go.Proofs.YtlfiakpmnkhcdaaGreat.Mo
