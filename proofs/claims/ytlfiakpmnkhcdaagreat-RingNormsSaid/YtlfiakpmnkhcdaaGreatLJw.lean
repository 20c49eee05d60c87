import Derived.Test.YtlfiakpmnkhcdaaGreatLJu
/- The law RingRestricts. -/
namespace Go.Proofs.YtlfiakpmnkhcdaaGreat.Mo
open Go.RowKit Go.Shelf
set_option linter.unusedVariables false

end Go.Proofs.YtlfiakpmnkhcdaaGreat.Mo
/- Automorphisms of elements, pure. -/
namespace Go.Proofs.YtlfiakpmnkhcdaaGreat.Mo
open Go.RowKit Go.Shelf
set_option linter.unusedVariables false

/-- Rows of numbers that are not negative. -/
def Nn (ls : List (List Int)) : Prop := ∀ i, i < ls.length → ∀ j, 0 ≤ Op.cf (rw_ ls i) j
theorem hasR_nn {W : World} {u : Value} {ls : List (List Int)} (h : HasR W u ls) : Nn ls := by
  intro i hi j
  obtain ⟨a, c, rfl⟩ := h.form
  obtain ⟨g, o, x, m, c, rfl, -, hm, hp⟩ := HasB.at_ h hi
  exact (hp.1.at_ j).1
theorem au_zero {N : Int} {ch : List Int} {S lv : Int} {sp : Bool} {rA : List (List Int)} {k : Int} (h : auE N ch S lv sp rA k = 0) : (1 ≤ k ∧ k < 2 * N ∧ k % 2 ≠ 0) ∧ VP N ch S ∧ EV N ch S lv sp rA := by
  unfold auE at h
  split at h
  · assumption
  · omega
/-- A row of a valid element: n residues. -/
theorem ev_rws {N : Int} {ch : List Int} {S : Int} {lv : Int} {sp : Bool} {rA : List (List Int)} (hv : VP N ch S) (h : EV N ch S lv sp rA) (hn : Nn rA) {i : Nat} (hi : i < (Oj.mods ch S lv.toNat sp).length) :
    ∃ n : Nat, N = n ∧ Oj.Dim n ∧ 3 ≤ Op.cf (Oj.mods ch S lv.toNat sp) i ∧ Oj.Rws n (Op.cf (Oj.mods ch S lv.toNat sp) i) (rw_ rA i) := by
  obtain ⟨n, rfl, h4, h32⟩ := vp_dim hv
  obtain ⟨l, hl0⟩ := Int.eq_ofNat_of_zero_le (show 0 ≤ lv by have := h.1.1; omega)
  subst hl0
  have hm := mods_ok hv h.1 hi
  have hr := h.2.2 i hi
  have hir : i < rA.length := by rw [h.2.1]; exact hi
  refine ⟨n, rfl, ?_, hm.1, ⟨by have := hr.1; omega, fun j hj => ⟨hn i hir j, of_decide_eq_true hr.2 j (by have := hr.1; omega)⟩⟩⟩
  have hd := hv.1
  unfold DimI at hd
  unfold Oj.Dim
  omega
def autoE (M : List Int) (k : Nat) (rA : List (List Int)) : List (List Int) := rwA M (fun i m => (fun m x => Oj.autoR x.length m k x) m (rw_ rA i))
def prodE (M : List Int) (rA rB : List (List Int)) : List (List Int) := rwA M (fun i m => (fun m x y => Oj.prodR x.length m.toNat x y) m (rw_ rA i) (rw_ rB i))
theorem Nn.rwA {M : List Int} {F : Nat → Int → List Int} (h : ∀ i, i < M.length → ∀ j, 0 ≤ Op.cf (F i (Op.cf M i)) j) : Nn (rwA M F) := by
  intro i hi j
  rw [rwA_len] at hi
  rw [rwA_at _ _ hi]
  exact h i hi j
theorem ev_auto {N : Int} {ch : List Int} {S lv : Int} {sp : Bool} {rA : List (List Int)} (k : Nat) (hv : VP N ch S) (h : EV N ch S lv sp rA) (hn : Nn rA) : EV N ch S lv sp (autoE (Oj.mods ch S lv.toNat sp) k rA) ∧ Nn (autoE (Oj.mods ch S lv.toNat sp) k rA) := by
  have key : ∀ i, i < (Oj.mods ch S lv.toNat sp).length → ∃ n : Nat, N = n ∧ 3 ≤ Op.cf (Oj.mods ch S lv.toNat sp) i ∧ Oj.Rws n (Op.cf (Oj.mods ch S lv.toNat sp) i) (Oj.autoR (rw_ rA i).length (Op.cf (Oj.mods ch S lv.toNat sp) i) k (rw_ rA i)) := fun i hi => by
    obtain ⟨n, e, hd, hm, hr⟩ := ev_rws hv h hn hi
    rw [hr.1]
    exact ⟨n, e, hm, Oj.autoR_rws (by rcases hd with rfl | rfl | rfl | rfl <;> omega) (by omega) hr⟩
  refine ⟨ev_rwA h fun i hi => ?_, Nn.rwA fun i hi j => ?_⟩
  · obtain ⟨n, e, hm, hr⟩ := key i hi
    exact rws_ok e hr
  · obtain ⟨n, e, hm, hr⟩ := key i hi
    exact (hr.all (by omega) j).1
end Go.Proofs.YtlfiakpmnkhcdaaGreat.Mo
