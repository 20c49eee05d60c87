import Derived.Test.YtfmmkdmnondomaaLME
/- Orders modulo a prime, as they are needed to show that the strong tests to 2, 7 and 61 are exact: what a number that passes is 1 modulo. -/
namespace Ob
set_option linter.unusedVariables false

theorem pow_one_mod {n b o : Nat} (hn : 2 ≤ n) (h : b ^ o % n = 1) (k : Nat) : b ^ (o * k) % n = 1 := by
  rw [Nat.pow_mul, Nat.pow_mod, h, Nat.one_pow, Nat.mod_eq_of_lt (by omega)]

theorem neg_one_sq {n : Nat} (hn : 2 ≤ n) : (n - 1) * (n - 1) % n = 1 := by
  obtain ⟨m, rfl⟩ : ∃ m, n = m + 2 := ⟨n - 2, by omega⟩
  have : (m + 2 - 1) * (m + 2 - 1) = 1 + (m + 2) * m := by
    show (m + 1) * (m + 1) = 1 + (m + 2) * m
    have h1 := Nat.add_mul m 2 m
    have h2 := Nat.add_mul m 1 (m + 1)
    have h3 := Nat.mul_add m m 1
    omega
  rw [this, Nat.add_mul_mod_self_left, Nat.mod_eq_of_lt (by omega)]

theorem SP.fermat {n b : Nat} (hn : 2 ≤ n) (h : SP n b) : b ^ (n - 1) % n = 1 := by
  obtain ⟨o, t, h1, h2, h3⟩ := h
  rw [h1]
  rcases h3 with h3 | ⟨i, hi, h3⟩
  · exact pow_one_mod hn h3 _
  · have hsq : b ^ (o * 2 ^ (i + 1)) % n = 1 := by
      rw [← sq_step, h3]; exact neg_one_sq hn
    obtain ⟨s, rfl⟩ : ∃ s, t = i + 1 + s := ⟨t - (i + 1), by omega⟩
    rw [Nat.pow_add, ← Nat.mul_assoc]
    exact pow_one_mod hn hsq _

/-- The exponents at which the powers of 2, 7 and 61 are 1 modulo p. -/
def H (p x : Nat) : Prop := 2 ^ x % p = 1 ∧ 7 ^ x % p = 1 ∧ 61 ^ x % p = 1

theorem one_sub {p b x y : Nat} (hx : b ^ x % p = 1) (hy : b ^ (x + y) % p = 1) : b ^ y % p = 1 := by
  rw [Nat.pow_add, Nat.mul_mod, hx, Nat.one_mul, Nat.mod_mod] at hy
  exact hy

theorem H.sub {p x y : Nat} (hx : H p x) (hy : H p (x + y)) : H p y :=
  ⟨one_sub hx.1 hy.1, one_sub hx.2.1 hy.2.1, one_sub hx.2.2 hy.2.2⟩

theorem H.mul {p x : Nat} (hp : 2 ≤ p) (hx : H p x) (k : Nat) : H p (x * k) :=
  ⟨pow_one_mod hp hx.1 k, pow_one_mod hp hx.2.1 k, pow_one_mod hp hx.2.2 k⟩

theorem H.mod {p x y : Nat} (hp : 2 ≤ p) (hx : H p x) (hy : H p y) : H p (y % x) := by
  refine (hx.mul hp (y / x)).sub ?_
  rw [Nat.div_add_mod]; exact hy

theorem H.gcd {p : Nat} (hp : 2 ≤ p) : ∀ x y : Nat, H p x → H p y → H p (Nat.gcd x y) := by
  intro x y
  induction x, y using Nat.gcd.induction with
  | H0 y => intro _ hy; simpa using hy
  | H1 x y hx ih =>
    intro h1 h2
    rw [Nat.gcd_rec]
    exact ih (h1.mod hp h2) h1

theorem exists_prime : ∀ n : Nat, 2 ≤ n → ∃ r, Pr r ∧ r ∣ n := by
  intro n
  induction n using Nat.strongRecOn with
  | ind n ih =>
    intro hn
    by_cases h : ∃ d, 2 ≤ d ∧ d < n ∧ d ∣ n
    · obtain ⟨d, h1, h2, h3⟩ := h
      obtain ⟨r, hr, hd⟩ := ih d h2 h1
      exact ⟨r, hr, Nat.dvd_trans hd h3⟩
    · exact ⟨n, ⟨hn, fun d h1 h2 h3 => h ⟨d, h1, h2, h3⟩⟩, Nat.dvd_refl _⟩

theorem H.least {p M x : Nat} (hp : 2 ≤ p) (hM0 : 1 ≤ M) (hM : H p M) (hmin : ∀ r, Pr r → r ∣ M → ¬ H p (M / r)) (hx : H p x) : M ∣ x := by
  have hg := H.gcd hp M x hM hx
  obtain ⟨s, hs⟩ := Nat.gcd_dvd_left M x
  by_cases h1 : s = 1
  · rw [h1, Nat.mul_one] at hs
    rw [hs]; exact Nat.gcd_dvd_right M x
  · have h0 : s ≠ 0 := fun h => by rw [h] at hs; omega
    obtain ⟨r, hr, u, hu⟩ := exists_prime s (by omega)
    exfalso
    refine hmin r hr ⟨Nat.gcd M x * u, ?_⟩ ?_
    · conv => lhs; rw [hs]
      rw [hu, Nat.mul_left_comm]
    · have : M / r = Nat.gcd M x * u := by
        conv => lhs; rw [hs]
        rw [hu, Nat.mul_left_comm, Nat.mul_div_cancel_left _ (by have := hr.1; omega)]
      rw [this]
      exact hg.mul hp u

/-- What passes all three tests. -/
def Pass (n : Nat) : Prop := SP n 2 ∧ SP n 7 ∧ SP n 61

theorem mod_of_dvd {n p x : Nat} (hp : 2 ≤ p) (hd : p ∣ n) (h : x % n = 1) : x % p = 1 := by
  rw [← Nat.mod_mod_of_dvd x hd, h, Nat.mod_eq_of_lt (by omega)]

theorem Pass.H {n p : Nat} (h : Pass n) (hn : 2 ≤ n) (hp : 2 ≤ p) (hd : p ∣ n) : H p (n - 1) :=
  ⟨mod_of_dvd hp hd (h.1.fermat hn), mod_of_dvd hp hd (h.2.1.fermat hn), mod_of_dvd hp hd (h.2.2.fermat hn)⟩

theorem H.not_dvd {p b x : Nat} (hp : 2 ≤ p) (hx : 1 ≤ x) (h : b ^ x % p = 1) : ¬ p ∣ b := by
  intro hd
  have : p ∣ b ^ x := Nat.dvd_trans hd ⟨b ^ (x - 1), by rw [Nat.mul_comm, ← Nat.pow_succ]; congr 1; omega⟩
  rw [Nat.mod_eq_zero_of_dvd this] at h
  omega

theorem Pr.H {p : Nat} (hp : Pr p) {x : Nat} (hx : 1 ≤ x) (h : Ob.H p x) : Ob.H p (p - 1) :=
  ⟨Ob.fermat hp (H.not_dvd hp.1 hx h.1), Ob.fermat hp (H.not_dvd hp.1 hx h.2.1), Ob.fermat hp (H.not_dvd hp.1 hx h.2.2)⟩

/-- The cofactor of a prime in what passes. -/
theorem Pass.cofactor {p k : Nat} (h : Pass (p * k)) (hp : Pr p) (hk : 1 ≤ k) (hn : 3 ≤ p * k) : Ob.H p (k - 1) ∧ Ob.H p (p - 1) := by
  have h1 := h.H (by omega) hp.1 (Nat.dvd_mul_right p k)
  have h2 := hp.H (by omega) h1
  refine ⟨(h2.mul hp.1 k).sub ?_, h2⟩
  have : (p - 1) * k + (k - 1) = p * k - 1 := by
    obtain ⟨q, rfl⟩ : ∃ q, p = q + 1 := ⟨p - 1, by have := hp.1; omega⟩
    rw [Nat.add_mul]; simp; omega
  rw [this]; exact h1

/-- The primes below 256. -/
def sml : List Nat := [2, 3, 5, 7, 11, 13, 17, 19, 23, 29, 31, 37, 41, 43, 47, 53, 59, 61, 67, 71, 73, 79, 83, 89, 97, 101, 103, 107, 109, 113, 127, 131, 137, 139, 149, 151, 157, 163, 167, 173, 179, 181, 191, 193, 197, 199, 211, 223, 227, 229, 233, 239, 241, 251]

theorem sml_all : ∀ d, d < 256 → 2 ≤ d → ∃ r, r ∈ sml ∧ r ∣ d ∧ 2 ≤ r ∧ r < 256 := by decide +kernel

theorem Pr.small {r : Nat} (hr : Pr r) (h : r < 256) : r ∈ sml := by
  obtain ⟨s, h1, h2, h3, h4⟩ := sml_all r h hr.1
  by_cases e : s = r
  · exact e ▸ h1
  · have := Nat.le_of_dvd (by have := hr.1; omega) h2
    exact absurd h2 (hr.2 s h3 (by omega))

theorem sml_lt : ∀ r ∈ sml, 2 ≤ r ∧ r < 256 := by decide +kernel

/-- What no prime below 256 divides is a prime, if it is below 65536. -/
theorem no_small {u : Nat} (h2 : 2 ≤ u) (hu : u < 65536) (h : ∀ r ∈ sml, ¬ r ∣ u) : Pr u := by
  refine ⟨h2, fun d h3 h4 hd => ?_⟩
  obtain ⟨e, he⟩ := hd
  have key : ∀ a, 2 ≤ a → a ∣ u → 256 ≤ a := fun a ha hau => by
    apply Classical.byContradiction
    intro hlt
    obtain ⟨s, s1, s2, _, _⟩ := sml_all a (by omega) ha
    exact h s s1 (Nat.dvd_trans s2 hau)
  have h5 := key d h3 ⟨e, he⟩
  have h6 : 2 ≤ e := by
    rcases e with _ | _ | e
    · omega
    · omega
    · omega
  have h7 := key e h6 ⟨d, by rw [he, Nat.mul_comm]⟩
  have := Nat.mul_le_mul h5 h7
  omega
end Ob
