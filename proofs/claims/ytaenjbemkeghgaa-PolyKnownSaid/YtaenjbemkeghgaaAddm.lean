/- What ModularAdds asks of factors: they are ascending primes that pass the program's test, their exponents are small, and their powers multiply to the number. -/
import Derived.Test.YtaenjbemkeghgaaNt
import Derived.Test.YtaenjbemkeghgaaPrime
import Derived.Test.YtaenjbemkeghgaaRoot
namespace Ob
set_option linter.unusedVariables false

/-- The product of the powers of the first k factors. -/
def pp : List (Nat × Nat) → Nat → Nat
  | _, 0 => 1
  | [], _ => 1
  | (p, e) :: L, k + 1 => p ^ e * pp L k
abbrev pr (L : List (Nat × Nat)) (k : Nat) : Nat := (L.map (·.1))[k]?.getD 0
abbrev ex (L : List (Nat × Nat)) (k : Nat) : Nat := (L.map (·.2))[k]?.getD 0

theorem pp_zero (L : List (Nat × Nat)) : pp L 0 = 1 := by cases L <;> rfl
theorem pp_succ : ∀ (L : List (Nat × Nat)) (k : Nat), k < L.length → pp L (k + 1) = pp L k * pr L k ^ ex L k
  | [], k, h => by simp at h
  | (p, e) :: L, 0, h => by simp [pp, pp_zero, pr, ex]
  | (p, e) :: L, k + 1, h => by
    have ih := pp_succ L k (by simpa using h)
    simp only [pp] at ih ⊢
    rw [ih]
    simp [pr, ex, Nat.mul_assoc]

theorem Fz.pp_all {n : Nat} {L : List (Nat × Nat)} (h : Fz n L) : pp L L.length = n := by
  induction h with
  | one => rfl
  | cons p e m L _ _ _ _ _ ih => simp [pp, ih]

theorem Fz.at {n : Nat} {L : List (Nat × Nat)} (h : Fz n L) : ∀ k, k < L.length → Pr (pr L k) ∧ pr L k ∣ n ∧ 1 ≤ ex L k ∧ pr L k ^ ex L k ∣ n := by
  induction h with
  | one => intro k hk; simp at hk
  | cons p e m L hp hd he hm hL ih =>
    intro k hk
    rcases k with _ | k
    · refine ⟨?_, ?_, by simpa [ex] using he, ?_⟩
      · exact least_prime hp (dvd_front (m := m) he) hd
      · exact dvd_front he
      · simp only [pr, ex, List.map_cons, List.getElem?_cons_zero, Option.getD_some]; exact Nat.dvd_mul_right _ _
    · obtain ⟨h1, h2, h3, h4⟩ := ih k (by simpa using hk)
      have e1 : pr ((p, e) :: L) (k + 1) = pr L k := by simp [pr]
      have e2 : ex ((p, e) :: L) (k + 1) = ex L k := by simp [ex]
      rw [e1, e2]
      exact ⟨h1, Nat.dvd_trans h2 (Nat.dvd_mul_left _ _), h3, Nat.dvd_trans h4 (Nat.dvd_mul_left _ _)⟩

theorem Fz.ascend {n : Nat} {L : List (Nat × Nat)} (h : Fz n L) : ∀ k, k + 1 < L.length → pr L k < pr L (k + 1) := by
  induction h with
  | one => intro k hk; simp at hk
  | cons p e m L hp hd he hm hL ih =>
    intro k hk
    rcases k with _ | k
    · have e1 : pr ((p, e) :: L) 0 = p := by simp [pr]
      have e2 : pr ((p, e) :: L) (0 + 1) = pr L 0 := by simp [pr]
      rw [e1, e2]
      obtain ⟨h1, h2, _, _⟩ := hL.at 0 (by simpa using hk)
      have h3 : ¬ pr L 0 < p := fun hlt => hd _ h1.1 hlt (Nat.dvd_trans h2 (Nat.dvd_mul_left _ _))
      have h4 : pr L 0 ≠ p := fun he => hm (he ▸ h2)
      omega
    · have e1 : pr ((p, e) :: L) (k + 1) = pr L k := by simp [pr]
      have e2 : pr ((p, e) :: L) (k + 1 + 1) = pr L (k + 1) := by simp [pr]
      rw [e1, e2]
      exact ih k (by simpa using hk)

theorem Fz.pp_le {n : Nat} {L : List (Nat × Nat)} (h : Fz n L) (k : Nat) (hk : k ≤ L.length) : pp L k ≤ n := by
  have key : ∀ j, k + j ≤ L.length → pp L k ≤ pp L (k + j) := by
    intro j
    induction j with
    | zero => intro _; exact Nat.le_refl _
    | succ j ih =>
      intro hj
      have h1 := ih (by omega)
      rw [show k + (j + 1) = (k + j) + 1 by omega, pp_succ L (k + j) (by omega)]
      obtain ⟨h2, _, _, _⟩ := h.at (k + j) (by omega)
      have h3 : 1 ≤ pr L (k + j) ^ ex L (k + j) := Nat.pow_pos (by have := h2.1; omega)
      have h4 := Nat.mul_le_mul_left (pp L (k + j)) h3
      omega
  have := key (L.length - k) (by omega)
  rw [show k + (L.length - k) = L.length by omega, h.pp_all] at this
  exact this

theorem Fz.pp_part {n : Nat} {L : List (Nat × Nat)} (h : Fz n L) (k m : Nat) (hk : k < L.length) (hm : m ≤ ex L k) : pp L k * pr L k ^ m ≤ n := by
  obtain ⟨h2, _, _, _⟩ := h.at k hk
  have h1 : pr L k ^ m ≤ pr L k ^ ex L k := Nat.pow_le_pow_right (by have := h2.1; omega) hm
  have h3 := Nat.mul_le_mul_left (pp L k) h1
  have h4 := h.pp_le (k + 1) (by omega)
  rw [pp_succ L k hk] at h4
  omega

theorem Fz.ex_small {n : Nat} {L : List (Nat × Nat)} (h : Fz n L) (hn : 1 ≤ n) (hn' : n < 2 ^ 32) (k : Nat) (hk : k < L.length) : ex L k ≤ 31 := by
  obtain ⟨h2, _, _, h4⟩ := h.at k hk
  have h5 := Nat.le_of_dvd (by omega) h4
  have h6 : 2 ^ ex L k ≤ pr L k ^ ex L k := Nat.pow_le_pow_left h2.1 _
  apply Classical.byContradiction; intro hgt
  have h7 : 2 ^ 32 ≤ 2 ^ ex L k := Nat.pow_le_pow_right (by omega) (by omega)
  omega
end Ob
namespace Go.Proofs.Ytaenjbemkeghgaa
theorem pr_prm {p : Nat} (hp : Ob.Pr p) : Prm p := by
  by_cases h2 : p = 2
  · exact .inl h2
  · have hp2 := hp.1
    have ho : p % 2 = 1 := by
      apply Classical.byContradiction; intro h
      exact hp.2 2 (by omega) (by omega) (Nat.dvd_of_mod_eq_zero (by omega))
    have pas : ∀ b, Passes p b := fun b => by
      by_cases hb : p ∣ b
      · exact .inl (Nat.mod_eq_zero_of_dvd hb)
      · exact .inr (hp.sp hb)
    exact .inr ⟨by omega, ho, pas 2, pas 7, pas 61⟩
end Go.Proofs.Ytaenjbemkeghgaa
