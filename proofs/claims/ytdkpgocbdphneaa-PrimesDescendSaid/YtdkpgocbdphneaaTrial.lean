/- The reference's trial division returns whether a number is a prime. -/
import Derived.Test.YtdkpgocbdphneaaPrimes
import Derived.Test.YtdkpgocbdphneaaAddm
namespace Ob
/-- No number from 2 to d - 1 divides n. -/
def NoDiv (n d : Nat) : Prop := ∀ k, 2 ≤ k → k < d → ¬ k ∣ n

theorem NoDiv.two (n : Nat) : NoDiv n 2 := fun k h1 h2 => by omega
theorem NoDiv.next {n d : Nat} (h : NoDiv n d) (hd : n % d ≠ 0) : NoDiv n (d + 1) := fun k h1 h2 hk => by
  by_cases e : k = d
  · exact hd (Nat.mod_eq_zero_of_dvd (e ▸ hk))
  · exact h k h1 (by omega) hk
theorem NoDiv.pr {n d : Nat} (h : NoDiv n d) (hn : 2 ≤ n) (hd : n < d * d) : Pr n := by
  refine ⟨hn, fun k h1 h2 hk => ?_⟩
  by_cases e : k < d
  · exact h k h1 e hk
  · obtain ⟨j, hj⟩ := hk
    have hj2 : 2 ≤ j := by
      rcases j with _ | _ | j
      · omega
      · omega
      · omega
    by_cases f : j < d
    · exact h j hj2 f ⟨k, by rw [hj, Nat.mul_comm]⟩
    · have := Nat.mul_le_mul (show d ≤ k by omega) (show d ≤ j by omega)
      omega
theorem not_pr {n d : Nat} (h2 : 2 ≤ d) (hd : d * d ≤ n) (h : n % d = 0) : ¬ Pr n := fun hp => by
  have : d * 2 ≤ d * d := Nat.mul_le_mul_left d h2
  exact hp.2 d h2 (by omega) (Nat.dvd_of_mod_eq_zero h)
theorem sq_small {d : Nat} (h : d * d ≤ 4294967295) : d ≤ 65535 := by
  apply Classical.byContradiction
  intro hn
  have := Nat.mul_le_mul (show 65536 ≤ d by omega) (show 65536 ≤ d by omega)
  omega
end Ob
namespace Go.Proofs.Ytdkpgocbdphneaa
open Go.RowKit
set_option linter.unusedVariables false
end Go.Proofs.Ytdkpgocbdphneaa
