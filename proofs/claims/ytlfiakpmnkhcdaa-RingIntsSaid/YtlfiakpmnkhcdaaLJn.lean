import Derived.Test.YtlfiakpmnkhcdaaLJm
namespace Go.Proofs.Ytlfiakpmnkhcdaa.Mo
open Go.RowKit Go.Shelf
set_option linter.unusedVariables false
theorem Boxed.newk {W : World} {k : Nat} (t : TypeId) (v : Value) (hk : k = W.heap.size) : Boxed (W.alloc (.cells #[v] t)) k t v := by subst hk; exact Boxed.new W t v
theorem put3 {w W0 w1 : World} {k : Nat} {u : Value} {ls : List (List Int)} (hb : HasB w1 W0.heap.size w1.heap.size u ls) (hg : Gr w W0) (hg1 : Gr W0 w1) (h1 : w.heap.size ≤ k) (h2 : k < W0.heap.size) (a b c : Value) :
    HasB (((w1.setCell ⟨k, 0, none⟩ a).setCell ⟨k, 1, none⟩ b).setCell ⟨k, 2, none⟩ c) w.heap.size (((w1.setCell ⟨k, 0, none⟩ a).setCell ⟨k, 1, none⟩ b).setCell ⟨k, 2, none⟩ c).heap.size u ls ∧ Gr w (((w1.setCell ⟨k, 0, none⟩ a).setCell ⟨k, 1, none⟩ b).setCell ⟨k, 2, none⟩ c) := by
  have h := ((hb.grown (grown_cell w1 k 0 a) (fun r e => by cases e; exact .inl (by omega))).grown (grown_cell _ k 1 b) (fun r e => by cases e; exact .inl (by omega))).grown (grown_cell _ k 2 c) (fun r e => by cases e; exact .inl (by omega))
  exact ⟨(h.mono (by have := hg.size; omega) (Nat.le_refl _)).cut, (((hg.trans hg1).setCell (p := ⟨k, 0, none⟩) h1 _).setCell (p := ⟨k, 1, none⟩) h1 _).setCell (p := ⟨k, 2, none⟩) h1 _⟩
end Go.Proofs.Ytlfiakpmnkhcdaa.Mo
