/- The law ModularPrimes returns true, whatever its argument. -/
import Derived.Test.YtdkpgocbdphneaaRfac
import Derived.Deep.QuietTactic
import Derived.BigQuiet
import Derived.WalkSmall
namespace Go.Proofs.Ytdkpgocbdphneaa
open Go.RowKit
set_option linter.unusedVariables false



theorem dvd_of_pow_mod {n b k p : Nat} (hp : p ∣ n) (hb : p ∣ b) (hk : 1 ≤ k) (hn : 2 ≤ n) (h : b ^ k % n = 1 ∨ b ^ k % n = n - 1) : p ∣ 1 := by
  have h1 : p ∣ b ^ k := by
    obtain ⟨j, rfl⟩ : ∃ j, k = j + 1 := ⟨k - 1, by omega⟩
    rw [Nat.pow_succ]; exact Nat.dvd_mul_left_of_dvd hb _
  have h2 : p ∣ b ^ k % n := (Nat.dvd_mod_iff hp).2 h1
  rcases h with h | h
  · rwa [h] at h2
  · rw [h] at h2
    have h3 : n = (n - 1) + 1 := by omega
    rw [h3] at hp
    exact (Nat.dvd_add_right h2).1 hp

theorem sp_not_dvd {n b p : Nat} (hn : 3 ≤ n) (hp : p ∣ n) (hb : p ∣ b) (h : Ob.SP n b) : p ∣ 1 := by
  obtain ⟨o, t, h1, h2, h3⟩ := h
  rcases h3 with h3 | ⟨i, hi, h3⟩
  · exact dvd_of_pow_mod hp hb (by omega) (by omega) (.inl h3)
  · exact dvd_of_pow_mod hp hb (Nat.mul_pos (by omega) (Nat.two_pow_pos i)) (by omega) (.inr h3)

theorem sp_7_2 : Ob.SP 7 2 := Ob.sp_of (o := 3) (t := 1) (i := 0) (by decide +kernel)
theorem sp_7_61 : Ob.SP 7 61 := Ob.sp_of (o := 3) (t := 1) (i := 0) (by decide +kernel)
theorem sp_61_2 : Ob.SP 61 2 := Ob.sp_of (o := 15) (t := 2) (i := 1) (by decide +kernel)
theorem sp_61_7 : Ob.SP 61 7 := Ob.sp_of (o := 15) (t := 2) (i := 1) (by decide +kernel)

theorem prm_iff (n : Nat) : Prm n ↔ RPrm n := by
  constructor
  · rintro (h | ⟨hn, ho, h2, h7, h61⟩)
    · exact .inl (.inl h)
    · by_cases e7 : n = 7
      · exact .inl (.inr (.inl e7))
      by_cases e61 : n = 61
      · exact .inl (.inr (.inr e61))
      have s2 : Ob.SP n 2 := by
        rcases h2 with h2 | h2
        · rw [Nat.mod_eq_of_lt (by omega)] at h2; omega
        · exact h2
      have s7 : Ob.SP n 7 := by
        rcases h7 with h7 | h7
        · have := Nat.le_of_dvd (by omega) (Nat.dvd_of_mod_eq_zero h7)
          have h5 : n = 3 ∨ n = 5 := by omega
          rcases h5 with rfl | rfl <;> omega
        · exact h7
      have s61 : Ob.SP n 61 := by
        rcases h61 with h61 | h61
        · have h1 := Nat.dvd_of_mod_eq_zero h61
          have h2 := Nat.le_of_dvd (by omega) h1
          obtain ⟨c, hc⟩ := h1
          exfalso
          have hc2 : c < 21 := by
            apply Classical.byContradiction; intro hcc
            have := Nat.mul_le_mul hn (show 21 ≤ c by omega)
            omega
          have key : ∀ m, m < 61 → 3 ≤ m → ∀ c, c < 21 → 61 ≠ m * c := by decide
          exact key n (by omega) hn c hc2 hc
        · exact h61
      refine .inr ⟨hn, ho, ?_, ?_, s2, s7, s61⟩
      · apply Nat.pos_of_ne_zero; intro h
        have := Nat.le_of_dvd (by omega) (sp_not_dvd hn (Nat.dvd_of_mod_eq_zero h) (Nat.dvd_refl 7) s7); omega
      · apply Nat.pos_of_ne_zero; intro h
        have := Nat.le_of_dvd (by omega) (sp_not_dvd hn (Nat.dvd_of_mod_eq_zero h) (Nat.dvd_refl 61) s61); omega
  · rintro ((rfl | rfl | rfl) | ⟨hn, ho, _, _, s2, s7, s61⟩)
    · exact .inl rfl
    · exact .inr ⟨by omega, by omega, .inr sp_7_2, .inl rfl, .inr sp_7_61⟩
    · exact .inr ⟨by omega, by omega, .inr sp_61_2, .inr sp_61_7, .inl rfl⟩
    · exact .inr ⟨hn, ho, .inr s2, .inr s7, .inr s61⟩

theorem HasFac.form {W : World} {v : Value} {L : List (Nat × Nat)} (h : HasFac W v L) : ∃ a cap, v = .slice a L.length cap ∧ L.length ≤ cap ∧ cap ≤ 9223372036854775807 ∧
    ∀ i, i < L.length → ∃ g, a = some ⟨g, 0, none⟩ ∧ W.cell? ⟨g, i * 2, none⟩ = some (.int .u32 (((L.map (·.1))[i]?.getD 0 : Nat) : Int)) ∧ W.cell? ⟨g, i * 2 + 1, none⟩ = some (.int .i64 (((L.map (·.2))[i]?.getD 0 : Nat) : Int)) := by
  rcases h with ⟨rfl, rfl⟩ | ⟨g, cap, rfl, h1, h2, h3⟩
  · exact ⟨none, 0, rfl, Nat.le_refl _, by omega, fun i hi => absurd hi (by simp)⟩
  · exact ⟨_, cap, rfl, h1, by unfold maxLen at h2; omega, fun i hi => ⟨g, rfl, h3 i hi⟩⟩

end Go.Proofs.Ytdkpgocbdphneaa
