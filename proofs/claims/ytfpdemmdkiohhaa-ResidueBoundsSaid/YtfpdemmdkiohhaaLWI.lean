import Derived.Test.YtfpdemmdkiohhaaLWH
import Derived.Test.YtfpdemmdkiohhaaLWG
import Derived.Test.YtfpdemmdkiohhaaLWL
/- positive, inShift, Balanced, Cmp, Shl on forms. -/
namespace Go.Proofs.Ytfpdemmdkiohhaa
open Go.RowKit
set_option linter.unusedVariables false

end Go.Proofs.Ytfpdemmdkiohhaa
/- Shl and Cmp on forms. -/
namespace Go.Proofs.Ytfpdemmdkiohhaa
open Go.RowKit
set_option linter.unusedVariables false

end Go.Proofs.Ytfpdemmdkiohhaa
namespace Ow
end Ow
namespace Go.Proofs.Ytfpdemmdkiohhaa
open Go.RowKit
set_option linter.unusedVariables false
end Go.Proofs.Ytfpdemmdkiohhaa
/- The program: Bits, Neg, Abs, Max. -/
namespace Go.Proofs.Ytfpdemmdkiohhaa
open Go.RowKit
set_option linter.unusedVariables false
theorem HasI.cut {N : Nat} {W : World} {v : Value} {z : Int} (h : HasI N W v z) : ∃ (neg : Bool) (a : Option Addr) (n c : Nat) (l : List Nat), v = .agg #[.bool neg, .slice a n c] ∧ neg = decide (z < 0) ∧ HasD W (.slice a n c) l ∧ Ow.Nm l ∧ Ow.val l = z.natAbs ∧ l.length ≤ N := by
  obtain ⟨s, l, rfl, hd, hn, hv, hl⟩ := h
  obtain ⟨-, a, cap, rfl, -⟩ := id hd
  exact ⟨_, a, _, cap, l, rfl, rfl, hd, hn, hv, hl⟩

theorem bitLen_ex (V : Nat) : ∀ n, V < 2 ^ n → ∃ k, Ow.BitLen V k
  | 0, h => ⟨0, Oh.bitLen_none h⟩
  | n + 1, h => by
    by_cases hb : V / 2 ^ n % 2 = 0
    · exact bitLen_ex V n (Oh.bitLen_step h hb)
    · exact ⟨n + 1, Oh.bitLen_stop h hb⟩
end Go.Proofs.Ytfpdemmdkiohhaa
