/- The law ModularTrials returns true, whatever its argument: what passes the strong tests is a prime. -/
import Derived.Test.YtaenjbemkeghgaaTrial
import Derived.Test.YtaenjbemkeghgaaExi
namespace Go.Proofs.Ytaenjbemkeghgaa
open Go.RowKit
set_option linter.unusedVariables false

theorem pr7 : Ob.Pr 7 := ⟨by omega, fun d h1 h2 => (by decide +kernel : ∀ d, d < 7 → 2 ≤ d → ¬ d ∣ 7) d h2 h1⟩
theorem pr61 : Ob.Pr 61 := ⟨by omega, fun d h1 h2 => (by decide +kernel : ∀ d, d < 61 → 2 ≤ d → ¬ d ∣ 61) d h2 h1⟩
theorem pr2 : Ob.Pr 2 := ⟨by omega, fun d h1 h2 => by omega⟩

theorem dvd_prime {n b : Nat} (hb : Ob.Pr b) (hn : 3 ≤ n) (h : b % n = 0) : n = b := by
  have hd := Nat.dvd_of_mod_eq_zero h
  have hle := Nat.le_of_dvd (by have := hb.1; omega) hd
  apply Classical.byContradiction
  intro hne
  exact hb.2 n (by omega) (by omega) hd

/-- What the program takes for a prime is one. -/
theorem prm_pr {n : Nat} (hn : n ≤ 4294967295) : Prm n ↔ Ob.Pr n := by
  refine ⟨?_, pr_prm⟩
  rintro (rfl | ⟨h3, ho, a, b, c⟩)
  · exact pr2
  · rcases a with a | a
    · have := dvd_prime pr2 h3 a; omega
    rcases b with b | b
    · have := dvd_prime pr7 h3 b; rw [this]; exact pr7
    rcases c with c | c
    · have := dvd_prime pr61 h3 c; rw [this]; exact pr61
    exact Ob.exact_tests h3 ho (by omega) ⟨a, b, c⟩

end Go.Proofs.Ytaenjbemkeghgaa
