import Derived.Test.YtfpdemmdkiohhaaRnd
/- The program: nearest, Round. -/
namespace Go.Proofs.Ytfpdemmdkiohhaa
open Go.RowKit
set_option linter.unusedVariables false

/-- The nearest integer. -/
def near (x y : Int) : Int := if 0 ≤ sgn (x % y) (y + -(x % y)) then x / y + 1 else x / y
theorem Gr.drw2 {a b : World} (h : Gr a b) : Gr a b.drew := Below.drew h
theorem HasI.fields {N : Nat} {W : World} {b : Bool} {s : Value} {z : Int} (h : HasI N W (.agg #[.bool b, s]) z) : b = decide (z < 0) ∧ ∃ l, HasD W s l ∧ Ow.Nm l ∧ Ow.val l = z.natAbs ∧ l.length ≤ N := by
  obtain ⟨s', l, e, h⟩ := h
  simp only [Value.agg.injEq, Array.mk.injEq, List.cons.injEq, Value.bool.injEq, and_true] at e
  obtain ⟨rfl, rfl⟩ := e
  exact ⟨rfl, l, h⟩
theorem nine_sg : sg false (Ow.val [1]) = 1 := by simp [sg, Ow.val]

end Go.Proofs.Ytfpdemmdkiohhaa
