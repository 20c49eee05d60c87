import Derived.Test.YtlfiakpmnkhcdaaGreatLWI
namespace Go.Proofs.YtlfiakpmnkhcdaaGreat
open Go.RowKit
set_option linter.unusedVariables false
set_option linter.unusedSimpArgs false
theorem chain_any {P : Program} {md : Region.Mode} {ops : Array Oper} {Q : Exit → Act → World → Prop} {S : World → Prop} {f0 : Nat} {l0 : Array Bool} {a0 : Act} {w0 : World}
  (h : ∀ G : Nat → Array Bool → Act → World → Prop, (∀ f l a w, G f l a w → wpAnyH P md ops Q S f l a w) → (∀ f l a w, wpAnyH P md ops Q S f l a w → G f l a w) → wpAnyH P md ops Q S f0 l0 a0 w0) :
  wpAnyH P md ops Q S f0 l0 a0 w0 := h _ (fun _ _ _ _ h => h) (fun _ _ _ _ h => h)
def Fresh (W w : World) (B : Nat) : Prop := W.heap.size ≤ B ∧ w.cell? ⟨B, 0, none⟩ = some (.bool false) ∧ w.cell? ⟨B, 1, none⟩ = some (.slice none 0 0) ∧ w.frozen? ⟨B, 0, none⟩ = false ∧ w.frozen? ⟨B, 1, none⟩ = false
theorem Fresh.later {W w w' : World} {B : Nat} (h : Fresh W w B) (g : Gr w w') : Fresh W w' B :=
 ⟨h.1, g.keeps h.2.1, g.keeps h.2.2.1, g.frozen h.2.1 h.2.2.2.1, g.frozen h.2.2.1 h.2.2.2.2⟩
theorem Fresh.new {W w : World} (h : Gr W w) (t : TypeId) : Fresh W (w.alloc (.cells #[.bool false, .slice none 0 0] t)) w.heap.size :=
 ⟨h.size, (two_cells _ _ _ _).1, (two_cells _ _ _ _).2, froz0 _ _ _ _, froz1 _ _ _ _⟩
theorem Fresh.ne {W w : World} {B : Nat} (h : Fresh W w B) : ¬ (w.heap.size = B) := fun e => ne_of_cell h.2.1 e.symm
theorem Gr.drewOne {a b : World} (h : Gr a b) : Gr a b.drew := Below.drew h
end Go.Proofs.YtlfiakpmnkhcdaaGreat
