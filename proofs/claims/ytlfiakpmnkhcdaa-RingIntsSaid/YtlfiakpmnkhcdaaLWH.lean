import Derived.Test.YtlfiakpmnkhcdaaLWG
namespace Go.Proofs.Ytlfiakpmnkhcdaa
open Go.RowKit
set_option linter.unusedVariables false
theorem cell_other {W : World} {p q : Addr} (h : p ≠ q) (u : Value) : (W.setCell p u).cell? q = W.cell? q := World.cell?_setCell_other W p q u h
end Go.Proofs.Ytlfiakpmnkhcdaa
namespace Go.Proofs.Ytlfiakpmnkhcdaa
open Go.RowKit
set_option linter.unusedVariables false
theorem ne_of_cell {W : World} {B o : Nat} {v : Value} (h : W.cell? ⟨B, o, none⟩ = some v) : ¬ (B = W.heap.size) := fun e => Nat.lt_irrefl _ (e ▸ World.block_lt_of_cell? W _ h)
theorem keep2 {W : World} {B C o : Nat} {v a b : Value} (h : W.cell? ⟨B, o, none⟩ = some v) (hne : ¬ (B = C)) : ((W.setCell ⟨C, 0, none⟩ a).setCell ⟨C, 1, none⟩ b).cell? ⟨B, o, none⟩ = some v := by
  rw [cell_other (fun e => hne (congrArg Addr.block e).symm), cell_other (fun e => hne (congrArg Addr.block e).symm)]; exact h
theorem frozen_set (W : World) (p q : Addr) (u : Value) : (W.setCell p u).frozen? q = W.frozen? q := by simp [go_sem]
def bal (x y : Int) : Int := if y < 2 * (x % y) then x % y - y else x % y
end Go.Proofs.Ytlfiakpmnkhcdaa
