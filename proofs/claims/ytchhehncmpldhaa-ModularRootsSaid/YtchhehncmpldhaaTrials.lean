/- The law ModularTrials returns true, whatever its argument: what passes the strong tests is a prime. -/
import Derived.Test.YtchhehncmpldhaaTrial
import Derived.Test.YtchhehncmpldhaaExi
namespace Go.Proofs.Ytchhehncmpldhaa
open Go.RowKit
set_option linter.unusedVariables false

theorem pr7 : Ob.Pr 7 := ⟨by omega, fun d h1 h2 => (by decide +kernel : ∀ d, d < 7 → 2 ≤ d → ¬ d ∣ 7) d h2 h1⟩
theorem pr61 : Ob.Pr 61 := ⟨by omega, fun d h1 h2 => (by decide +kernel : ∀ d, d < 61 → 2 ≤ d → ¬ d ∣ 61) d h2 h1⟩
theorem pr2 : Ob.Pr 2 := ⟨by omega, fun d h1 h2 => by omega⟩

theorem dvd_prime {n b : Nat} (hb : Ob.Pr b) (hn : 3 ≤ n) (h : b % n = 0) : n = b := by
  have hd := Nat.dvd_of_mod_eq_zero h
  have hle := Nat.le_of_dvd (by have := hb.1; omega) hd
  apply Classical.byContradiction
  intro hne
  exact hb.2 n (by omega) (by omega) hd

/-- What the program takes for a prime is one. -/
theorem prm_pr {n : Nat} (hn : n ≤ 4294967295) : Prm n ↔ Ob.Pr n := by
  refine ⟨?_, pr_prm⟩
  rintro (rfl | ⟨h3, ho, a, b, c⟩)
  · exact pr2
  · rcases a with a | a
    · have := dvd_prime pr2 h3 a; omega
    rcases b with b | b
    · have := dvd_prime pr7 h3 b; rw [this]; exact pr7
    rcases c with c | c
    · have := dvd_prime pr61 h3 c; rw [this]; exact pr61
    exact Ob.exact_tests h3 ho (by omega) ⟨a, b, c⟩

set_option maxRecDepth 100000 in
set_option maxHeartbeats 1000000 in
theorem trials_all (n : Nat) (w : World) (hn : n ≤ 4294967295) : Calls Try.prog 6 #[.int .u32 n] w (Truth w) := by
  go_enter Try.func6, Try.ntmps6
  go_wp2_with fail
  refine (prime_any n _ hn).mono ?_
  rintro e w1 ⟨r, rfl, hr, g1⟩
  have HR := Lib.hid hr
  clear hr
  go_wp2_with fail
  refine (trial_any n _ hn).mono ?_
  rintro e w2 ⟨s, rfl, hs, g2⟩
  obtain rfl : r = s := by rw [Bool.eq_iff_iff, HR.out, hs]; exact prm_pr hn
  have HS := Lib.hid hs
  clear hs
  go_wp2_with fail
  refine (rprime_any n _ hn).mono ?_
  rintro e w3 ⟨s, rfl, hs', g3⟩
  obtain rfl : r = s := by rw [Bool.eq_iff_iff, HR.out, hs']; exact prm_iff n
  clear hs'
  go_wp2_with fail
  refine (trial_any n _ hn).mono ?_
  rintro e w4 ⟨s, rfl, hs'', g4⟩
  obtain rfl : r = s := by rw [Bool.eq_iff_iff, HS.out, hs'']
  clear hs''
  go_wp2_with fail
  refine (shown_any _).mono ?_
  rintro e w5 ⟨rfl, g5⟩
  go_wp2_with fail
  go_ret
  exact ⟨rfl, (((g1.trans g2).trans g3).trans g4).trans g5⟩
end Go.Proofs.Ytchhehncmpldhaa
