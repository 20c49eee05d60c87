import Derived.Test.YtfpdemmdkiohhaaGreatLWH
import Derived.Test.YtfpdemmdkiohhaaGreatLWG
import Derived.Test.YtfpdemmdkiohhaaGreatLWL
/- positive, inShift, Balanced, Cmp, Shl on forms. -/
namespace Go.Proofs.YtfpdemmdkiohhaaGreat
open Go.RowKit
set_option linter.unusedVariables false

theorem zOf_pos {neg : Bool} {s : ByteArray} (h : Form neg s) : 0 < zOf neg s ↔ (s.size ≠ 0 ∧ neg = false) := by
  rcases Nat.eq_zero_or_pos s.size with h0 | h0
  · have e := zOf_abs neg s
    have hl := list_len s
    rw [h0] at hl
    rw [List.length_eq_zero_iff.1 hl] at e
    simp [Ow.mg] at e
    simp [h0]; omega
  · have hp := form_pos h h0
    have : 0 < (zOf neg s).natAbs := Nat.lt_of_lt_of_le (Nat.pow_pos (by omega)) hp
    have hn := form_neg h
    constructor
    · intro hz; refine ⟨by omega, ?_⟩; rw [hn]; simp; omega
    · rintro ⟨_, rfl⟩
      have : ¬ (zOf false s < 0) := by simpa using hn.symm
      omega
end Go.Proofs.YtfpdemmdkiohhaaGreat
/- Shl and Cmp on forms. -/
namespace Go.Proofs.YtfpdemmdkiohhaaGreat
open Go.RowKit
set_option linter.unusedVariables false

end Go.Proofs.YtfpdemmdkiohhaaGreat
namespace Ow
end Ow
namespace Go.Proofs.YtfpdemmdkiohhaaGreat
open Go.RowKit
set_option linter.unusedVariables false
end Go.Proofs.YtfpdemmdkiohhaaGreat
/- The program: Bits, Neg, Abs, Max. -/
namespace Go.Proofs.YtfpdemmdkiohhaaGreat
open Go.RowKit
set_option linter.unusedVariables false
theorem HasI.cut {N : Nat} {W : World} {v : Value} {z : Int} (h : HasI N W v z) : ∃ (neg : Bool) (a : Option Addr) (n c : Nat) (l : List Nat), v = .agg #[.bool neg, .slice a n c] ∧ neg = decide (z < 0) ∧ HasD W (.slice a n c) l ∧ Ow.Nm l ∧ Ow.val l = z.natAbs ∧ l.length ≤ N := by
  obtain ⟨s, l, rfl, hd, hn, hv, hl⟩ := h
  obtain ⟨-, a, cap, rfl, -⟩ := id hd
  exact ⟨_, a, _, cap, l, rfl, rfl, hd, hn, hv, hl⟩

theorem bitLen_ex (V : Nat) : ∀ n, V < 2 ^ n → ∃ k, Ow.BitLen V k
  | 0, h => ⟨0, Oh.bitLen_none h⟩
  | n + 1, h => by
    by_cases hb : V / 2 ^ n % 2 = 0
    · exact bitLen_ex V n (Oh.bitLen_step h hb)
    · exact ⟨n + 1, Oh.bitLen_stop h hb⟩
end Go.Proofs.YtfpdemmdkiohhaaGreat
