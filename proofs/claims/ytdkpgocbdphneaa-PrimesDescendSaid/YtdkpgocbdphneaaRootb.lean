/- What leastRoot and Root of package modular return. -/
import Derived.Test.YtdkpgocbdphneaaRoot
namespace Go.Proofs.Ytdkpgocbdphneaa
open Go.RowKit
set_option linter.unusedVariables false

/-- m is the least power of x with an exponent below k that has no common divisor with 'order', or n if there is none. -/
def Least (n order x k m : Nat) : Prop := (∀ j, j < k → Nat.gcd j order = 1 → m ≤ x ^ j % n) ∧ (m = n ∨ ∃ j, j < k ∧ Nat.gcd j order = 1 ∧ m = x ^ j % n)

theorem Least.zero (n order x : Nat) : Least n order x 0 n := ⟨fun j hj => by omega, .inl rfl⟩
theorem Least.skip {n order x k m : Nat} (h : Least n order x k m) (hg : Nat.gcd k order ≠ 1 ∨ m ≤ x ^ k % n) : Least n order x (k + 1) m := by
  refine ⟨fun j hj hjg => ?_, ?_⟩
  · by_cases e : j = k
    · subst e; rcases hg with hg | hg
      · exact absurd hjg hg
      · exact hg
    · exact h.1 j (by omega) hjg
  · rcases h.2 with h | ⟨j, h1, h2⟩
    · exact .inl h
    · exact .inr ⟨j, by omega, h2⟩
theorem Least.take {n order x k m : Nat} (h : Least n order x k m) (hg : Nat.gcd k order = 1) (hm : x ^ k % n < m) : Least n order x (k + 1) (x ^ k % n) := by
  refine ⟨fun j hj hjg => ?_, .inr ⟨k, by omega, hg, rfl⟩⟩
  by_cases e : j = k
  · subst e; exact Nat.le_refl _
  · have := h.1 j (by omega) hjg; omega

/-- Root's result for a prime that is a modulus and an order that divides n - 1. -/
def RootPost (n order : Nat) (w : World) (e : Ending) (w' : World) : Prop :=
  ∃ L x m, Ob.Fz order L ∧ SomeRoot n order L x ∧ x < n ∧ Least n order x order m ∧ m ≤ n ∧ e = .returned (.tuple #[.int .u32 (m : Nat), .int .i64 0]) ∧ Gr w w'

end Go.Proofs.Ytdkpgocbdphneaa
