import Derived.Test.YtfpdemmdkiohhaaWH
import Derived.Test.YtfpdemmdkiohhaaWG
import Derived.Test.YtfpdemmdkiohhaaWL
/- positive, inShift, Balanced, Cmp, Shl on forms. -/
namespace Go.Proofs.Ytfpdemmdkiohhaa
open Go.RowKit
set_option linter.unusedVariables false

theorem zOf_pos {neg : Bool} {s : ByteArray} (h : Form neg s) : 0 < zOf neg s ↔ (s.size ≠ 0 ∧ neg = false) := by
  rcases Nat.eq_zero_or_pos s.size with h0 | h0
  · have e := zOf_abs neg s
    have hl := list_len s
    rw [h0] at hl
    rw [List.length_eq_zero_iff.1 hl] at e
    simp [Ow.mg] at e
    simp [h0]; omega
  · have hp := form_pos h h0
    have : 0 < (zOf neg s).natAbs := Nat.lt_of_lt_of_le (Nat.pow_pos (by omega)) hp
    have hn := form_neg h
    constructor
    · intro hz; refine ⟨by omega, ?_⟩; rw [hn]; simp; omega
    · rintro ⟨_, rfl⟩
      have : ¬ (zOf false s < 0) := by simpa using hn.symm
      omega
def Pos (neg : Bool) (s : ByteArray) : Prop := Form neg s ∧ 0 < zOf neg s

end Go.Proofs.Ytfpdemmdkiohhaa
/- Shl and Cmp on forms. -/
namespace Go.Proofs.Ytfpdemmdkiohhaa
open Go.RowKit
set_option linter.unusedVariables false

end Go.Proofs.Ytfpdemmdkiohhaa
namespace Ow
theorem two_pow_le {k n : Nat} (h : k ≤ 32 * n) : 2 ^ k ≤ 4294967296 ^ n := by
  rw [show (4294967296 : Nat) = 2 ^ 32 from rfl, ← Nat.pow_mul]
  exact Nat.pow_le_pow_right (by omega) h
theorem R_shl {a k : Nat} (ha : a < R) (hk : k ≤ 4096) : a * 2 ^ k < 4294967296 ^ 256 := by
  rw [R_digits] at ha
  have h1 : 2 ^ k ≤ 4294967296 ^ 128 := two_pow_le (by omega)
  have h2 : a * 2 ^ k ≤ a * 4294967296 ^ 128 := Nat.mul_le_mul_left _ h1
  have h3 : a * 4294967296 ^ 128 < 4294967296 ^ 64 * 4294967296 ^ 128 := Nat.mul_lt_mul_of_pos_right ha (Nat.pow_pos (by omega))
  rw [← Nat.pow_add] at h3
  exact Nat.lt_of_le_of_lt h2 (Nat.lt_of_lt_of_le h3 (Nat.pow_le_pow_right (by omega) (by omega)))
end Ow
namespace Go.Proofs.Ytfpdemmdkiohhaa
open Go.RowKit
set_option linter.unusedVariables false
theorem sg_times (z : Int) (p : Nat) (hp : 0 < p) : sg (decide (z < 0)) (z.natAbs * p) = z * (p : Int) := by
  unfold sg
  by_cases h : z < 0
  · have hz : (z.natAbs : Int) = -z := by omega
    simp [h, hz, Int.neg_mul]
  · have hz : (z.natAbs : Int) = z := by omega
    simp [h, hz]

end Go.Proofs.Ytfpdemmdkiohhaa
/- The program: Bits, Neg, Abs, Max. -/
namespace Go.Proofs.Ytfpdemmdkiohhaa
open Go.RowKit
set_option linter.unusedVariables false
theorem HasI.cut {N : Nat} {W : World} {v : Value} {z : Int} (h : HasI N W v z) : ∃ (neg : Bool) (a : Option Addr) (n c : Nat) (l : List Nat), v = .agg #[.bool neg, .slice a n c] ∧ neg = decide (z < 0) ∧ HasD W (.slice a n c) l ∧ Ow.Nm l ∧ Ow.val l = z.natAbs ∧ l.length ≤ N := by
  obtain ⟨s, l, rfl, hd, hn, hv, hl⟩ := h
  obtain ⟨-, a, cap, rfl, -⟩ := id hd
  exact ⟨_, a, _, cap, l, rfl, rfl, hd, hn, hv, hl⟩

theorem bitLen_ex (V : Nat) : ∀ n, V < 2 ^ n → ∃ k, Ow.BitLen V k
  | 0, h => ⟨0, Oh.bitLen_none h⟩
  | n + 1, h => by
    by_cases hb : V / 2 ^ n % 2 = 0
    · exact bitLen_ex V n (Oh.bitLen_step h hb)
    · exact ⟨n + 1, Oh.bitLen_stop h hb⟩
theorem field_intd (b : Bool) (a : Option Addr) (n c : Nat) (W : World) : (Instr.field 89 (.agg #[.bool b, .slice a n c]) 1).run Try.prog W = .ok (.slice a n c) W := by
  unfold Instr.field
  rw [Sem.run_bind, run_underlying Try.underlying89 W]
  simp [part, isAgg, Sem.run_bind, run_underlying Try.underlying22, asAgg]

end Go.Proofs.Ytfpdemmdkiohhaa
