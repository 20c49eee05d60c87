/- What the reference's functions return for arguments that are not valid, and its Inverse. -/
import Derived.Test.YtaenjbemkeghgaaRef
namespace Go.Proofs.Ytaenjbemkeghgaa
open Go.RowKit
set_option linter.unusedVariables false
theorem Bez.start' (a0 n0 : Nat) (h : 1 ≤ n0) : Bez a0 n0 n0 a0 0 1 where
  ma := by simp
  mn := by simp
  g := Nat.gcd_comm _ _
  x1 := by omega
  x2 := by omega
  y1 := by omega
  y2 := by omega
  s := .inr ⟨by omega, by omega, by simp⟩

/-- The reference's Inverse: the inverse, or the error ErrNone. -/
def RInv (a0 n0 : Nat) (w : World) (e : Ending) (w' : World) : Prop := (Nat.gcd a0 n0 = 1 → InvPost a0 n0 w e w') ∧ (Nat.gcd a0 n0 ≠ 1 → Two 0 4 w e w')

end Go.Proofs.Ytaenjbemkeghgaa
