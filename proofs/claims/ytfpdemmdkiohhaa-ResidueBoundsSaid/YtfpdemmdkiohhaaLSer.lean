import Derived.Test.YtfpdemmdkiohhaaLSd
/- The law ResidueBack: the region that draws. -/
namespace Go.Proofs.Ytfpdemmdkiohhaa.Mo
open Go.RowKit
set_option linter.unusedVariables false
set_option linter.unusedSimpArgs false

/-- A place for a number of package wide, made behind W, still zero. -/
def FreshW (W w : World) (B : Nat) : Prop := W.heap.size ≤ B ∧ w.cell? ⟨B, 0, none⟩ = some (.bool false) ∧ w.cell? ⟨B, 1, none⟩ = some (.string ⟨#[]⟩) ∧ w.frozen? ⟨B, 0, none⟩ = false ∧ w.frozen? ⟨B, 1, none⟩ = false
theorem FreshW.later {W w w' : World} {B : Nat} (h : FreshW W w B) (g : Gr w w') : FreshW W w' B :=
  ⟨h.1, g.keeps h.2.1, g.keeps h.2.2.1, (Below.frozen g (World.block_lt_of_cell? w _ h.2.1)).trans h.2.2.2.1, (Below.frozen g (World.block_lt_of_cell? w _ h.2.2.1)).trans h.2.2.2.2⟩
theorem FreshW.new {W w : World} (h : Gr W w) (t : TypeId) : FreshW W (w.alloc (.cells #[.bool false, .string ⟨#[]⟩] t)) w.heap.size :=
  ⟨h.size, by simp [go_sem], by simp [go_sem], by simp [go_sem], by simp [go_sem]⟩

end Go.Proofs.Ytfpdemmdkiohhaa.Mo
