/- The program's functions for residues return what the reference's return. -/
import Derived.Test.YteebdlneeglefaaShown
namespace Go.Proofs.Yteebdlneeglefaa
open Go.RowKit
set_option linter.unusedVariables false

theorem add_pair (a b n : Nat) : ∃ x e : Int, (∀ w, Calls Try.prog 11 #[.int .u32 a, .int .u32 b, .int .u32 n] w (Two x e w)) ∧ (∀ w, Calls Try.prog 12 #[.int .u32 a, .int .u32 b, .int .u32 n] w (Two x e w)) := by
  by_cases h : ((n : Int) < 2 ∨ 2147483647 < (n : Int)) ∨ (n : Int) ≤ a ∨ (n : Int) ≤ b
  · exact ⟨0, 2, fun w => add_bad _ _ _ w h, fun w => radd_bad _ _ _ w h⟩
  · exact ⟨_, 0, fun w => add_ok _ _ _ w (by omega) (by omega) (by omega) (by omega) (by omega) (by omega), fun w => radd_ok _ _ _ w (by omega) (by omega) (by omega) (by omega) (by omega) (by omega)⟩

theorem sub_pair (a b n : Nat) : ∃ x e : Int, (∀ w, Calls Try.prog 13 #[.int .u32 a, .int .u32 b, .int .u32 n] w (Two x e w)) ∧ (∀ w, Calls Try.prog 14 #[.int .u32 a, .int .u32 b, .int .u32 n] w (Two x e w)) := by
  by_cases h : ((n : Int) < 2 ∨ 2147483647 < (n : Int)) ∨ (n : Int) ≤ a ∨ (n : Int) ≤ b
  · exact ⟨0, 2, fun w => sub_bad _ _ _ w h, fun w => rsub_bad _ _ _ w h⟩
  · refine ⟨_, 0, fun w => sub_ok _ _ _ w (by omega) (by omega) (by omega) (by omega) (by omega) (by omega), fun w => ?_⟩
    rw [show (a : Int) + (n - b) = a + n - b from by omega]
    exact rsub_ok _ _ _ w (by omega) (by omega) (by omega) (by omega) (by omega) (by omega)

theorem mul_pair (a b n : Nat) : ∃ x e : Int, (∀ w, Calls Try.prog 15 #[.int .u32 a, .int .u32 b, .int .u32 n] w (Two x e w)) ∧ (∀ w, Calls Try.prog 16 #[.int .u32 a, .int .u32 b, .int .u32 n] w (Two x e w)) := by
  by_cases h : ((n : Int) < 2 ∨ 2147483647 < (n : Int)) ∨ (n : Int) ≤ a ∨ (n : Int) ≤ b
  · exact ⟨0, 2, fun w => mul_bad _ _ _ w h, fun w => rmul_bad _ _ _ w h⟩
  · exact ⟨_, 0, fun w => mul_ok _ _ _ w (by omega) (by omega) (by omega) (by omega) (by omega) (by omega), fun w => rmul_ok _ _ _ w (by omega) (by omega) (by omega) (by omega) (by omega) (by omega)⟩

theorem of_pair (v : Int) (n : Nat) (hv : -9223372036854775808 ≤ v) (hv' : v ≤ 9223372036854775807) : ∃ x e : Int, (∀ w, Calls Try.prog 17 #[.int .i64 v, .int .u32 n] w (Two x e w)) ∧ (∀ w, Calls Try.prog 18 #[.int .i64 v, .int .u32 n] w (Two x e w)) := by
  by_cases h : (n : Int) < 2 ∨ 2147483647 < (n : Int)
  · exact ⟨0, 2, fun w => of_bad _ _ w h, fun w => rof_bad _ _ w h⟩
  · exact ⟨_, 0, fun w => of_ok _ _ w (by omega) (by omega) hv hv', fun w => rof_ok _ _ w (by omega) (by omega) hv hv'⟩

theorem balanced_pair (a n : Nat) : ∃ x e : Int, (∀ w, Calls Try.prog 19 #[.int .u32 a, .int .u32 n] w (TwoI x e w)) ∧ (∀ w, Calls Try.prog 20 #[.int .u32 a, .int .u32 n] w (TwoI x e w)) := by
  by_cases h : ((n : Int) < 2 ∨ 2147483647 < (n : Int)) ∨ (n : Int) ≤ a
  · exact ⟨0, 2, fun w => balanced_bad _ _ w h, fun w => rbalanced_bad _ _ w h⟩
  · exact ⟨_, 0, fun w => balanced_ok _ _ w (by omega) (by omega) (by omega) (by omega), fun w => rbalanced_ok _ _ w (by omega) (by omega) (by omega) (by omega)⟩

theorem pow_pair (a k n : Nat) (hk : k ≤ 18446744073709551615) : ∃ x e : Int, (∀ w, Calls Try.prog 22 #[.int .u32 a, .int .u64 k, .int .u32 n] w (Two x e w)) ∧ (∀ w, Calls Try.prog 23 #[.int .u32 a, .int .u64 k, .int .u32 n] w (Two x e w)) := by
  by_cases h : ((n : Int) < 2 ∨ 2147483647 < (n : Int)) ∨ (n : Int) ≤ a
  · exact ⟨0, 2, fun w => pow_bad _ _ _ w h, fun w => rpow_bad _ _ _ w h⟩
  · exact ⟨_, 0, fun w => pow_ok _ _ _ w (by omega) (by omega) (by omega) (by omega) (by omega) (by omega), fun w => rpow_ok _ _ _ w (by omega) (by omega) (by omega) (by omega) (by omega) (by omega)⟩

theorem bez_end {a0 n0 : Nat} : ∀ (k n a : Nat) (x y : Int), n ≤ k → Bez a0 n0 a n x y → ∃ x' : Int, (n0 : Int) ∣ a0 * x' - (Nat.gcd a0 n0 : Nat) := by
  intro k
  induction k with
  | zero =>
    intro n a x y hn hb
    obtain rfl : n = 0 := by omega
    have hg := hb.g
    rw [Nat.gcd_zero_right] at hg
    exact ⟨x, by rw [← hg]; exact hb.ma⟩
  | succ k ih =>
    intro n a x y hn hb
    by_cases h0 : 1 ≤ n
    · have hlt : a % n < n := Nat.mod_lt _ (by omega)
      exact ih _ _ _ _ (by omega) (hb.step h0).1
    · exact ih n a x y (by omega) hb

theorem inv_exists {a n : Nat} (h : 2 ≤ n) (hg : Nat.gcd a n = 1) (h' : n ≤ 2147483647) (ha : a < n) : ∃ b, IsInv a n b := by
  obtain ⟨x, hx⟩ := bez_end n n a 1 0 (Nat.le_refl _) (Bez.start a n (by omega))
  exact ⟨_, IsInv.of_bezout h hg hx⟩

theorem inverse_pair (a n : Nat) : ∃ x e : Int, (∀ w, Calls Try.prog 24 #[.int .u32 a, .int .u32 n] w (Two x e w)) ∧ (∀ w, Calls Try.prog 25 #[.int .u32 a, .int .u32 n] w (Two x e w)) := by
  by_cases h : ((n : Int) < 2 ∨ 2147483647 < (n : Int)) ∨ (n : Int) ≤ a
  · exact ⟨0, 2, fun w => inverse_bad _ _ w h, fun w => rinverse_bad _ _ w h⟩
  · by_cases hg : Nat.gcd a n = 1
    · obtain ⟨b, hb⟩ := inv_exists (by omega) hg (by omega) (by omega)
      refine ⟨b, 0, fun w => (inverse_ok a n w (by omega) (by omega) (by omega) hg).mono ?_, fun w => (rinverse_any a n w (by omega) (by omega) (by omega)).mono ?_⟩
      · rintro e w' ⟨c, h1, h2⟩; rw [hb.unique h2]; exact h1
      · rintro e w' ⟨h1, _⟩; obtain ⟨c, h1, h2⟩ := h1 hg; rw [hb.unique h2]; exact h1
    · exact ⟨0, 4, fun w => inverse_none a n w (by omega) (by omega) (by omega) hg, fun w => (rinverse_any a n w (by omega) (by omega) (by omega)).mono fun e w' h => h.2 hg⟩
end Go.Proofs.Yteebdlneeglefaa
