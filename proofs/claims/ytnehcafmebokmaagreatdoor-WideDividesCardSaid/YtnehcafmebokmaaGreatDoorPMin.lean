/- The program: Bits, Neg, Abs, Max. -/
import Derived.Test.YtnehcafmebokmaaGreatDoorPGi
import Derived.Test.YtnehcafmebokmaaGreatDoorPGl
namespace Go.Proofs.YtnehcafmebokmaaGreatDoor
open Go.RowKit
set_option linter.unusedVariables false
theorem HasI.cut {N : Nat} {W : World} {v : Value} {z : Int} (h : HasI N W v z) : ∃ (neg : Bool) (a : Option Addr) (n c : Nat) (l : List Nat), v = .agg #[.bool neg, .slice a n c] ∧ neg = decide (z < 0) ∧ HasD W (.slice a n c) l ∧ Ow.Nm l ∧ Ow.val l = z.natAbs ∧ l.length ≤ N := by
  obtain ⟨s, l, rfl, hd, hn, hv, hl⟩ := h
  obtain ⟨-, a, cap, rfl, -⟩ := id hd
  exact ⟨_, a, _, cap, l, rfl, rfl, hd, hn, hv, hl⟩

theorem bitLen_ex (V : Nat) : ∀ n, V < 2 ^ n → ∃ k, Ow.BitLen V k
  | 0, h => ⟨0, Oh.bitLen_none h⟩
  | n + 1, h => by
    by_cases hb : V / 2 ^ n % 2 = 0
    · exact bitLen_ex V n (Oh.bitLen_step h hb)
    · exact ⟨n + 1, Oh.bitLen_stop h hb⟩
theorem field_intd (b : Bool) (a : Option Addr) (n c : Nat) (W : World) : (Instr.field 44 (.agg #[.bool b, .slice a n c]) 1).run Tryz.prog W = .ok (.slice a n c) W := by
  unfold Instr.field
  rw [Sem.run_bind, run_underlying Tryz.underlying44 W]
  simp [part, isAgg, Sem.run_bind, run_underlying Tryz.underlying42, asAgg]

end Go.Proofs.YtnehcafmebokmaaGreatDoor

