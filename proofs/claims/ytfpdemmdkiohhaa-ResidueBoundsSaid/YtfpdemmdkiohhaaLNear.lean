import Derived.Test.YtfpdemmdkiohhaaLRnd
/- The program: nearest, Round. -/
namespace Go.Proofs.Ytfpdemmdkiohhaa
open Go.RowKit
set_option linter.unusedVariables false

theorem HasI.fields {N : Nat} {W : World} {b : Bool} {s : Value} {z : Int} (h : HasI N W (.agg #[.bool b, s]) z) : b = decide (z < 0) ∧ ∃ l, HasD W s l ∧ Ow.Nm l ∧ Ow.val l = z.natAbs ∧ l.length ≤ N := by
  obtain ⟨s', l, e, h⟩ := h
  simp only [Value.agg.injEq, Array.mk.injEq, List.cons.injEq, Value.bool.injEq, and_true] at e
  obtain ⟨rfl, rfl⟩ := e
  exact ⟨rfl, l, h⟩
end Go.Proofs.Ytfpdemmdkiohhaa
