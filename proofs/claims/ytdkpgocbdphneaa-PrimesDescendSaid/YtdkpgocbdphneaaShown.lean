/- The examples that each statement asks for first: they are as the document has them. -/
import Derived.Test.YtdkpgocbdphneaaRootb
namespace Ob
set_option linter.unusedVariables false

/-- Powers modulo n by squaring. -/
def pm (n : Nat) : Nat → Nat → Nat → Nat → Nat
  | 0, _, _, r => r
  | f + 1, a, e, r => bif e == 0 then r else pm n f (a * a % n) (e / 2) (bif e % 2 == 1 then r * a % n else r)

theorem pm_eq (n : Nat) : ∀ (f a e r : Nat), e < 2 ^ f → pm n f a e r % n = r * a ^ e % n
  | 0, a, e, r, h => by
    obtain rfl : e = 0 := by simpa using h
    simp [pm]
  | f + 1, a, e, r, h => by
    unfold pm
    by_cases he : e = 0
    · simp [he]
    · rw [show (e == 0) = false from by simp [he]]
      simp only [cond_false]
      have h2 : e / 2 < 2 ^ f := by rw [Nat.pow_succ] at h; omega
      rw [pm_eq n f _ _ _ h2]
      have hsq : (a * a % n) ^ (e / 2) % n = (a * a) ^ (e / 2) % n := by rw [← Nat.pow_mod]
      rcases Nat.mod_two_eq_zero_or_one e with ho | ho
      · rw [show (e % 2 == 1) = false from by simp [ho]]
        simp only [cond_false]
        rw [Nat.mul_mod, hsq, ← Nat.mul_mod]
        congr 2
        rw [← Nat.pow_two, ← Nat.pow_mul, show 2 * (e / 2) = e by omega]
      · rw [show (e % 2 == 1) = true from by simp [ho]]
        simp only [cond_true]
        rw [Nat.mul_mod, hsq, Nat.mod_mod, ← Nat.mul_mod, Nat.mul_assoc]
        congr 2
        rw [← Nat.pow_two, ← Nat.pow_mul, Nat.mul_comm a, ← Nat.pow_succ]
        congr 1
        omega

theorem pow_of_pm {n f a e x : Nat} (h : e < 2 ^ f) (hp : pm n f a e 1 % n = x) : a ^ e % n = x := by
  rw [← hp, pm_eq n f a e 1 h, Nat.one_mul]

/-- A check of the strong test, by squaring. -/
def spC (n b o t i : Nat) : Bool := (n - 1 == o * 2 ^ t) && (o % 2 == 1) && Nat.blt (o * 2 ^ i) (2 ^ 40) && Nat.blt o (2 ^ 40) && ((pm n 40 b o 1 % n == 1) || (Nat.blt i t && (pm n 40 b (o * 2 ^ i) 1 % n == n - 1)))

theorem sp_of {n b o t i : Nat} (h : spC n b o t i = true) : SP n b := by
  simp only [spC, Bool.and_eq_true, Bool.or_eq_true, beq_iff_eq, Nat.blt_eq] at h
  obtain ⟨⟨⟨⟨h1, h2⟩, h3⟩, h4⟩, h5⟩ := h
  refine ⟨o, t, h1, h2, ?_⟩
  rcases h5 with h5 | ⟨h5, h6⟩
  · exact .inl (pow_of_pm h4 h5)
  · exact .inr ⟨i, h5, pow_of_pm h3 h6⟩

theorem sp_m2 : SP 2147483647 2 := sp_of (o := 1073741823) (t := 1) (i := 0) (by decide +kernel)
theorem sp_m7 : SP 2147483647 7 := sp_of (o := 1073741823) (t := 1) (i := 0) (by decide +kernel)
theorem sp_m61 : SP 2147483647 61 := sp_of (o := 1073741823) (t := 1) (i := 0) (by decide +kernel)
theorem sp_17_2 : SP 17 2 := sp_of (o := 1) (t := 4) (i := 2) (by decide +kernel)
theorem sp_17_7 : SP 17 7 := sp_of (o := 1) (t := 4) (i := 3) (by decide +kernel)
theorem sp_17_61 : SP 17 61 := sp_of (o := 1) (t := 4) (i := 3) (by decide +kernel)

theorem fz8 : Fz 8 [(2, 3)] := by
  have := Fz.cons 2 3 1 [] (by omega) (by intro d h1 h2; omega) (by omega) (by omega) Fz.one
  simpa using this
end Ob
namespace Go.Proofs.Ytdkpgocbdphneaa
open Go.RowKit
set_option linter.unusedVariables false

theorem prm17 : Prm 17 := .inr ⟨by omega, by omega, .inr Ob.sp_17_2, .inr Ob.sp_17_7, .inr Ob.sp_17_61⟩
theorem prmM : Prm 2147483647 := .inr ⟨by omega, by omega, .inr Ob.sp_m2, .inr Ob.sp_m7, .inr Ob.sp_m61⟩

theorem prim8 (x : Nat) : Prim 17 8 [(2, 3)] x ↔ x ^ 4 % 17 ≠ 1 := by
  unfold Prim
  constructor
  · intro h; have := h 0 (by simp); simpa using this
  · intro h i hi
    obtain rfl : i = 0 := by simpa using hi
    simpa using h

theorem root_8_17 {L : List (Nat × Nat)} {x m : Nat} (hL : Ob.Fz 8 L) (hs : SomeRoot 17 8 L x) (hl : Least 17 8 x 8 m) : m = 2 := by
  obtain rfl := Ob.fz8.unique hL
  have h3 : Prim 17 8 [(2, 3)] (3 ^ 2 % 17) := (prim8 _).2 (by decide)
  obtain rfl : x = 9 := by
    rcases hs with ⟨a, h1, h2, rfl, hp, hall⟩ | ⟨_, hall⟩
    · have ha : ¬ 3 < a := fun h => hall 3 (by omega) h h3
      have h12 : a = 1 ∨ a = 2 ∨ a = 3 := by omega
      rcases h12 with rfl | rfl | rfl
      · exact absurd rfl ((prim8 _).1 hp)
      · exact absurd rfl ((prim8 _).1 hp)
      · rfl
    · exact absurd h3 (hall 3 (by omega) (by omega))
  have h7 := hl.1 7 (by omega) (by decide)
  have e7 : 9 ^ 7 % 17 = 2 := by decide
  rw [e7] at h7
  rcases hl.2 with h | ⟨j, h1, h2, h3⟩
  · omega
  · have hj : j = 0 ∨ j = 1 ∨ j = 2 ∨ j = 3 ∨ j = 4 ∨ j = 5 ∨ j = 6 ∨ j = 7 := by omega
    rcases hj with rfl | rfl | rfl | rfl | rfl | rfl | rfl | rfl <;> first | (simp at h3; omega) | (simp at h2)

end Go.Proofs.Ytdkpgocbdphneaa
