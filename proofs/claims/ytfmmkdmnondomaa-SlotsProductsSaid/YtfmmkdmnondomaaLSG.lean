import Derived.Test.YtfmmkdmnondomaaLSF
/- The reference: Modulus, Valid, zeta. -/
namespace Go.Proofs.Ytfmmkdmnondomaa
open Go.RowKit
set_option linter.unusedVariables false

theorem prod_bd {A y B Y : Int} (h1 : -B ≤ A) (h2 : A ≤ B) (h3 : 0 ≤ y) (h4 : y ≤ Y) (h5 : 0 ≤ B) : -(B * Y) ≤ A * y ∧ A * y ≤ B * Y := by
  have e1 : A * y ≤ B * y := Int.mul_le_mul_of_nonneg_right h2 h3
  have e2 : B * y ≤ B * Y := Int.mul_le_mul_of_nonneg_left h4 h5
  have e3 : (-B) * y ≤ A * y := Int.mul_le_mul_of_nonneg_right h1 h3
  rw [Int.neg_mul] at e3
  omega
end Go.Proofs.Ytfmmkdmnondomaa
