/- The law ModularPrimes returns true, whatever its argument. -/
import Derived.Test.YtchhehncmpldhaaRfac
import Derived.Deep.QuietTactic
import Derived.BigQuiet
import Derived.WalkSmall
namespace Go.Proofs.Ytchhehncmpldhaa
open Go.RowKit
set_option linter.unusedVariables false



theorem dvd_of_pow_mod {n b k p : Nat} (hp : p ∣ n) (hb : p ∣ b) (hk : 1 ≤ k) (hn : 2 ≤ n) (h : b ^ k % n = 1 ∨ b ^ k % n = n - 1) : p ∣ 1 := by
  have h1 : p ∣ b ^ k := by
    obtain ⟨j, rfl⟩ : ∃ j, k = j + 1 := ⟨k - 1, by omega⟩
    rw [Nat.pow_succ]; exact Nat.dvd_mul_left_of_dvd hb _
  have h2 : p ∣ b ^ k % n := (Nat.dvd_mod_iff hp).2 h1
  rcases h with h | h
  · rwa [h] at h2
  · rw [h] at h2
    have h3 : n = (n - 1) + 1 := by omega
    rw [h3] at hp
    exact (Nat.dvd_add_right h2).1 hp

theorem sp_not_dvd {n b p : Nat} (hn : 3 ≤ n) (hp : p ∣ n) (hb : p ∣ b) (h : Ob.SP n b) : p ∣ 1 := by
  obtain ⟨o, t, h1, h2, h3⟩ := h
  rcases h3 with h3 | ⟨i, hi, h3⟩
  · exact dvd_of_pow_mod hp hb (by omega) (by omega) (.inl h3)
  · exact dvd_of_pow_mod hp hb (Nat.mul_pos (by omega) (Nat.two_pow_pos i)) (by omega) (.inr h3)

theorem sp_7_2 : Ob.SP 7 2 := Ob.sp_of (o := 3) (t := 1) (i := 0) (by decide +kernel)
theorem sp_7_61 : Ob.SP 7 61 := Ob.sp_of (o := 3) (t := 1) (i := 0) (by decide +kernel)
theorem sp_61_2 : Ob.SP 61 2 := Ob.sp_of (o := 15) (t := 2) (i := 1) (by decide +kernel)
theorem sp_61_7 : Ob.SP 61 7 := Ob.sp_of (o := 15) (t := 2) (i := 1) (by decide +kernel)

theorem prm_iff (n : Nat) : Prm n ↔ RPrm n := by
  constructor
  · rintro (h | ⟨hn, ho, h2, h7, h61⟩)
    · exact .inl (.inl h)
    · by_cases e7 : n = 7
      · exact .inl (.inr (.inl e7))
      by_cases e61 : n = 61
      · exact .inl (.inr (.inr e61))
      have s2 : Ob.SP n 2 := by
        rcases h2 with h2 | h2
        · rw [Nat.mod_eq_of_lt (by omega)] at h2; omega
        · exact h2
      have s7 : Ob.SP n 7 := by
        rcases h7 with h7 | h7
        · have := Nat.le_of_dvd (by omega) (Nat.dvd_of_mod_eq_zero h7)
          have h5 : n = 3 ∨ n = 5 := by omega
          rcases h5 with rfl | rfl <;> omega
        · exact h7
      have s61 : Ob.SP n 61 := by
        rcases h61 with h61 | h61
        · have h1 := Nat.dvd_of_mod_eq_zero h61
          have h2 := Nat.le_of_dvd (by omega) h1
          obtain ⟨c, hc⟩ := h1
          exfalso
          have hc2 : c < 21 := by
            apply Classical.byContradiction; intro hcc
            have := Nat.mul_le_mul hn (show 21 ≤ c by omega)
            omega
          have key : ∀ m, m < 61 → 3 ≤ m → ∀ c, c < 21 → 61 ≠ m * c := by decide
          exact key n (by omega) hn c hc2 hc
        · exact h61
      refine .inr ⟨hn, ho, ?_, ?_, s2, s7, s61⟩
      · apply Nat.pos_of_ne_zero; intro h
        have := Nat.le_of_dvd (by omega) (sp_not_dvd hn (Nat.dvd_of_mod_eq_zero h) (Nat.dvd_refl 7) s7); omega
      · apply Nat.pos_of_ne_zero; intro h
        have := Nat.le_of_dvd (by omega) (sp_not_dvd hn (Nat.dvd_of_mod_eq_zero h) (Nat.dvd_refl 61) s61); omega
  · rintro ((rfl | rfl | rfl) | ⟨hn, ho, _, _, s2, s7, s61⟩)
    · exact .inl rfl
    · exact .inr ⟨by omega, by omega, .inr sp_7_2, .inl rfl, .inr sp_7_61⟩
    · exact .inr ⟨by omega, by omega, .inr sp_61_2, .inr sp_61_7, .inl rfl⟩
    · exact .inr ⟨hn, ho, .inr s2, .inr s7, .inr s61⟩

theorem HasFac.form {W : World} {v : Value} {L : List (Nat × Nat)} (h : HasFac W v L) : ∃ a cap, v = .slice a L.length cap ∧ L.length ≤ cap ∧ cap ≤ 9223372036854775807 ∧
    ∀ i, i < L.length → ∃ g, a = some ⟨g, 0, none⟩ ∧ W.cell? ⟨g, i * 2, none⟩ = some (.int .u32 (((L.map (·.1))[i]?.getD 0 : Nat) : Int)) ∧ W.cell? ⟨g, i * 2 + 1, none⟩ = some (.int .i64 (((L.map (·.2))[i]?.getD 0 : Nat) : Int)) := by
  rcases h with ⟨rfl, rfl⟩ | ⟨g, cap, rfl, h1, h2, h3⟩
  · exact ⟨none, 0, rfl, Nat.le_refl _, by omega, fun i hi => absurd hi (by simp)⟩
  · exact ⟨_, cap, rfl, h1, by unfold maxLen at h2; omega, fun i hi => ⟨g, rfl, h3 i hi⟩⟩

set_option maxRecDepth 100000 in
set_option maxHeartbeats 2000000 in
theorem primes_zero (w : World) : Calls Try.prog 5 #[.int .u32 0] w (Truth w) := by
  go_enter Try.func5, Try.ntmps5
  go_wp2_with fail
  refine (factors_zero _).mono ?_
  rintro e w1 ⟨rfl, rfl⟩
  go_wp2_with fail
  refine (rfactors_zero _).mono ?_
  rintro e w1 ⟨rfl, rfl⟩
  go_wp2_with fail
  refine (prime_any 0 _ (by omega)).mono ?_
  rintro e w1 ⟨r, rfl, hr, g1⟩
  obtain rfl : r = false := by cases r; rfl; exact absurd (hr.1 rfl) (by rintro (h | ⟨h, _⟩) <;> omega)
  clear hr
  go_wp2_with fail
  refine (rprime_any 0 _ (by omega)).mono ?_
  rintro e w2 ⟨r, rfl, hr, g2⟩
  obtain rfl : r = false := by cases r; rfl; exact absurd (hr.1 rfl) (by rintro ((h | h | h) | ⟨h, _⟩) <;> omega)
  clear hr
  go_wp2_with fail
  go_loop [7] (fun i => i = .int .i64 0) (fun _ => 0)
  case atStart => rfl
  case round =>
    obtain rfl := hrel
    go_wp2_with fail
    refine (shown_any _).mono ?_
    rintro e w3 ⟨rfl, g3⟩
    go_wp2_with fail
    go_ret
    exact ⟨rfl, (g1.trans g2).trans g3⟩

set_option maxRecDepth 100000 in
set_option maxHeartbeats 2000000 in
theorem primes_any (n : Nat) (w : World) (hn : 1 ≤ n) (hn' : n ≤ 4294967295) : Calls Try.prog 5 #[.int .u32 n] w (Truth w) := by
  go_enter Try.func5, Try.ntmps5
  go_wp2_with fail
  refine (factors_any n _ hn hn').mono ?_
  rintro e w1 ⟨v, L, rfl, hL, hrow, g1⟩
  have hv := HasFac.of_row hrow
  clear hrow
  go_wp2_with fail
  refine (rfactors_any n _ hn hn').mono ?_
  rintro e w2 ⟨v2, L2, rfl, hL2, hrow2, g2⟩
  obtain rfl := hL.unique hL2
  have hv2 := HasFac.of_row hrow2
  clear hrow2 hL hL2
  obtain ⟨a, cap, rfl, hc1, hc2, hc⟩ := (hv.later g2).form
  obtain ⟨a', cap', rfl, hc1', hc2', hc'⟩ := hv2.form
  clear hv hv2
  obtain ⟨len, hlen⟩ : ∃ len, len = L.length := ⟨_, rfl⟩
  rw [← hlen] at hc1 hc1' ⊢
  have HLEN := Lib.hid hlen
  have HC := Lib.hid hc
  have HC' := Lib.hid hc'
  clear hlen hc hc'
  go_wp2_with fail
  refine (prime_any n _ hn').mono ?_
  rintro e w3 ⟨r, rfl, hr, g3⟩
  go_wp2_with fail
  refine (rprime_any n _ hn').mono ?_
  rintro e w4 ⟨r', rfl, hr', g4⟩
  obtain rfl : r = r' := by
    rw [Bool.eq_iff_iff, hr, hr']; exact prm_iff n
  clear hr hr'
  go_wp2_with fail
  go_loopw [7] (fun i wr => ∃ k : Nat, k ≤ len ∧ i = .int .i64 k ∧ Gr w4 wr) (fun i _ => len - (intOf i).toNat)
  case atStart => exact ⟨0, by omega, rfl, Gr.refl _⟩
  case round =>
    obtain ⟨k, hk, rfl, g5⟩ := hrel
    by_cases hlt : k < len
    · obtain ⟨g, rfl, c1, c2⟩ := HC.out k (by rw [← HLEN.out]; exact hlt)
      obtain ⟨g', rfl, d1, d2⟩ := HC'.out k (by rw [← HLEN.out]; exact hlt)
      have c1' := (g3.trans (g4.trans g5)).keeps c1
      have c2' := (g3.trans (g4.trans g5)).keeps c2
      have d1' := (g3.trans (g4.trans g5)).keeps d1
      have d2' := (g3.trans (g4.trans g5)).keeps d2
      clear c1 c2 d1 d2
      generalize (L.map (·.1))[k]?.getD 0 = p at *
      generalize (L.map (·.2))[k]?.getD 0 = q at *
      go_wp2_with fail
      go_quiet (fail)
      go_wp2_with fail
      exact ⟨⟨k + 1, by omega, by go_num, g5.drewN _⟩, by simp [intOf]; omega⟩
    · go_wp2_with fail
      refine (shown_any _).mono ?_
      rintro e w5 ⟨rfl, g6⟩
      go_wp2_with fail
      go_ret
      exact ⟨rfl, ((((g1.trans g2).trans g3).trans g4).trans g5).trans g6⟩

theorem primes_all (n : Nat) (w : World) (hn' : n ≤ 4294967295) : Calls Try.prog 5 #[.int .u32 n] w (Truth w) := by
  rcases Nat.eq_zero_or_pos n with rfl | hn
  · exact primes_zero w
  · exact primes_any n w hn hn'
end Go.Proofs.Ytchhehncmpldhaa
