import Derived.Test.YtlfiakpmnkhcdaaGreatLWG
/- divide: quotient and rest of integers. -/
namespace Go.Proofs.YtlfiakpmnkhcdaaGreat
open Go.RowKit
set_option linter.unusedVariables false

theorem HasI.set {N : Nat} {W : World} {v : Value} {z : Int} (h : HasI N W v z) {p : Addr} {u0 : Value} (hc : W.cell? p = some u0) (hu : ∀ n, u0 ≠ .int .u32 n) (u : Value) : HasI N (W.setCell p u) v z := by
  obtain ⟨s, l, h1, h2, h3⟩ := h
  exact ⟨s, l, h1, h2.setAt hc hu u, h3⟩
theorem cell_other {W : World} {p q : Addr} (h : p ≠ q) (u : Value) : (W.setCell p u).cell? q = W.cell? q := World.cell?_setCell_other W p q u h
end Go.Proofs.YtlfiakpmnkhcdaaGreat
/- balanced: the rest of least absolute value. -/
namespace Go.Proofs.YtlfiakpmnkhcdaaGreat
open Go.RowKit
set_option linter.unusedVariables false

theorem ne_of_cell {W : World} {B o : Nat} {v : Value} (h : W.cell? ⟨B, o, none⟩ = some v) : ¬ (B = W.heap.size) := fun e => Nat.lt_irrefl _ (e ▸ World.block_lt_of_cell? W _ h)
theorem keep2 {W : World} {B C o : Nat} {v a b : Value} (h : W.cell? ⟨B, o, none⟩ = some v) (hne : ¬ (B = C)) : ((W.setCell ⟨C, 0, none⟩ a).setCell ⟨C, 1, none⟩ b).cell? ⟨B, o, none⟩ = some v := by
  rw [cell_other (fun e => hne (congrArg Addr.block e).symm), cell_other (fun e => hne (congrArg Addr.block e).symm)]; exact h
theorem frozen_set (W : World) (p q : Addr) (u : Value) : (W.setCell p u).frozen? q = W.frozen? q := by simp [go_sem]
/-- The rest of least absolute value. -/
def bal (x y : Int) : Int := if y < 2 * (x % y) then x % y - y else x % y

end Go.Proofs.YtlfiakpmnkhcdaaGreat
