import Derived.Test.YtfmmkdmnondomaaLMB
import Derived.Test.YtfmmkdmnondomaaLMC
import Derived.Test.YtfmmkdmnondomaaLMD
/- Primes, powers modulo a prime (Fermat), and that a prime passes the strong tests. -/
namespace Ob
set_option linter.unusedVariables false

/-- p is a prime. -/
def Pr (p : Nat) : Prop := 2 ≤ p ∧ ∀ d, 2 ≤ d → d < p → ¬ d ∣ p

theorem Pr.coprime {p a : Nat} (hp : Pr p) (h : ¬ p ∣ a) : Nat.Coprime p a := by
  have h1 : Nat.gcd p a ∣ p := Nat.gcd_dvd_left _ _
  have h2 : Nat.gcd p a ∣ a := Nat.gcd_dvd_right _ _
  have h3 : Nat.gcd p a ≤ p := Nat.le_of_dvd (by have := hp.1; omega) h1
  have h0 : 0 < Nat.gcd p a := Nat.gcd_pos_of_pos_left _ (by have := hp.1; omega)
  show Nat.gcd p a = 1
  apply Classical.byContradiction
  intro hne
  by_cases e : Nat.gcd p a = p
  · rw [e] at h2; exact h h2
  · exact hp.2 _ (by omega) (by omega) h1

theorem Pr.mul {p a b : Nat} (hp : Pr p) (h : p ∣ a * b) : p ∣ a ∨ p ∣ b := by
  by_cases ha : p ∣ a
  · exact .inl ha
  · exact .inr (Nat.Coprime.dvd_of_dvd_mul_left (hp.coprime ha) h)

/-- A list of different numbers, all of them in another list of different numbers that is not longer, is a permutation of it. -/
theorem perm_of_subset : ∀ (l m : List Nat), l.Nodup → (∀ x ∈ l, x ∈ m) → m.length ≤ l.length → l.Perm m
  | [], m, _, _, h => by
    have : m = [] := List.length_eq_zero_iff.1 (by simpa using h)
    rw [this]
  | x :: l, m, hn, hs, h => by
    have hx : x ∈ m := hs x (List.mem_cons_self ..)
    have hp := List.perm_cons_erase hx
    rw [List.nodup_cons] at hn
    refine (List.Perm.cons x (perm_of_subset l (m.erase x) hn.2 (fun y hy => ?_) ?_)).trans hp.symm
    · have hym := hs y (List.mem_cons_of_mem _ hy)
      have hne : y ≠ x := fun e => hn.1 (e ▸ hy)
      exact (List.mem_erase_of_ne hne).2 hym
    · have := hp.length_eq
      simp at this h
      omega

def prod : List Nat → Nat
  | [] => 1
  | x :: l => x * prod l
theorem prod_perm {l m : List Nat} (h : l.Perm m) : prod l = prod m := by
  induction h with
  | nil => rfl
  | cons x _ ih => simp [prod, ih]
  | swap x y l => simp only [prod]; rw [← Nat.mul_assoc, ← Nat.mul_assoc, Nat.mul_comm x y]
  | trans _ _ ih1 ih2 => exact ih1.trans ih2

theorem prod_mul_mod (a p : Nat) : ∀ l : List Nat, prod (l.map fun i => a * i % p) % p = a ^ l.length * prod l % p
  | [] => by simp [prod]
  | x :: l => by
    simp only [List.map_cons, prod, List.length_cons]
    rw [Nat.mul_mod, prod_mul_mod a p l, Nat.mod_mod, ← Nat.mul_mod]
    congr 1
    rw [Nat.pow_succ]
    simp only [Nat.mul_assoc, Nat.mul_comm, Nat.mul_left_comm]

theorem prod_not_dvd {p : Nat} (hp : Pr p) : ∀ l : List Nat, (∀ x ∈ l, ¬ p ∣ x) → ¬ p ∣ prod l
  | [], _, h => by
    have := Nat.le_of_dvd (by simp [prod]) h; have := hp.1; simp [prod] at *; omega
  | x :: l, hl, h => by
    rcases hp.mul h with h | h
    · exact hl x (List.mem_cons_self ..) h
    · exact prod_not_dvd hp l (fun y hy => hl y (List.mem_cons_of_mem _ hy)) h

theorem mod_iff_dvd {p x y : Nat} (h : x ≤ y) : x % p = y % p ↔ p ∣ y - x := by
  constructor
  · intro e; exact Nat.dvd_of_mod_eq_zero (Nat.sub_mod_eq_zero_of_mod_eq e.symm)
  · rintro ⟨c, hc⟩
    have : y = x + p * c := by omega
    rw [this, Nat.add_mul_mod_self_left]

theorem cancel_mod {p c x y : Nat} (hp : Pr p) (hc : ¬ p ∣ c) (h : c * x % p = c * y % p) : x % p = y % p := by
  rcases Nat.le_total x y with hxy | hxy
  · have h1 : p ∣ c * y - c * x := (mod_iff_dvd (Nat.mul_le_mul_left c hxy)).1 h
    rw [← Nat.mul_sub] at h1
    rcases hp.mul h1 with h2 | h2
    · exact absurd h2 hc
    · exact (mod_iff_dvd hxy).2 h2
  · have h1 : p ∣ c * x - c * y := (mod_iff_dvd (Nat.mul_le_mul_left c hxy)).1 h.symm
    rw [← Nat.mul_sub] at h1
    rcases hp.mul h1 with h2 | h2
    · exact absurd h2 hc
    · exact ((mod_iff_dvd hxy).2 h2).symm

/-- The numbers from 1 to n. -/
def upto (n : Nat) : List Nat := (List.range n).map (· + 1)
theorem mem_upto {n x : Nat} : x ∈ upto n ↔ 1 ≤ x ∧ x ≤ n := by
  simp only [upto, List.mem_map, List.mem_range]
  constructor
  · rintro ⟨a, h, rfl⟩; omega
  · intro h; exact ⟨x - 1, by omega, by omega⟩
theorem nodup_upto (n : Nat) : (upto n).Nodup := by
  unfold upto
  rw [List.nodup_iff_pairwise_ne, List.pairwise_map]
  exact List.Pairwise.imp (fun h e => h (by omega)) (List.nodup_iff_pairwise_ne.1 List.nodup_range)

theorem fermat {p a : Nat} (hp : Pr p) (ha : ¬ p ∣ a) : a ^ (p - 1) % p = 1 := by
  have h2 := hp.1
  have hperm : ((upto (p - 1)).map fun i => a * i % p).Perm (upto (p - 1)) := by
    refine perm_of_subset _ _ ?_ ?_ (by simp)
    · rw [List.nodup_iff_pairwise_ne, List.pairwise_map]
      refine List.Pairwise.imp_of_mem ?_ (List.nodup_iff_pairwise_ne.1 (nodup_upto (p - 1)))
      intro x y hx hy hne e
      have h1 := cancel_mod hp ha e
      rw [mem_upto] at hx hy
      rw [Nat.mod_eq_of_lt (by omega), Nat.mod_eq_of_lt (by omega)] at h1
      exact hne h1
    · intro x hx
      simp only [List.mem_map] at hx
      obtain ⟨i, hi, rfl⟩ := hx
      rw [mem_upto] at hi ⊢
      have hlt : a * i % p < p := Nat.mod_lt _ (by omega)
      refine ⟨Nat.pos_of_ne_zero fun h0 => ?_, by omega⟩
      rcases hp.mul (Nat.dvd_of_mod_eq_zero h0) with h | h
      · exact ha h
      · have := Nat.le_of_dvd (by omega) h; omega
  have e1 := prod_mul_mod a p (upto (p - 1))
  rw [prod_perm hperm, show (upto (p - 1)).length = p - 1 by simp [upto]] at e1
  have hnd : ¬ p ∣ prod (upto (p - 1)) := prod_not_dvd hp _ fun x hx h => by
    rw [mem_upto] at hx; have := Nat.le_of_dvd (by omega) h; omega
  have e2 : prod (upto (p - 1)) * 1 % p = prod (upto (p - 1)) * a ^ (p - 1) % p := by
    rw [Nat.mul_one, Nat.mul_comm _ (a ^ (p - 1))]; exact e1
  have e3 := cancel_mod hp hnd e2
  rw [Nat.mod_eq_of_lt (by omega)] at e3
  exact e3.symm

/-- The square roots of 1 modulo a prime. -/
theorem sqrt_one {p y : Nat} (hp : Pr p) (h : y * y % p = 1) : y % p = 1 ∨ y % p = p - 1 := by
  have h2 := hp.1
  have hy1 : 1 ≤ y := by
    rcases y with _ | y
    · simp at h
    · omega
  have hd : p ∣ y * y - 1 := (mod_iff_dvd (Nat.mul_pos hy1 hy1)).1 (by rw [Nat.mod_eq_of_lt (show 1 < p by omega)]; exact h.symm)
  have hf : y * y - 1 = (y - 1) * (y + 1) := by
    obtain ⟨z, rfl⟩ : ∃ z, y = z + 1 := ⟨y - 1, by omega⟩
    simp only [Nat.add_sub_cancel]
    have e1 : (z + 1) * (z + 1) = z * z + z + z + 1 := by rw [Nat.mul_add, Nat.add_mul]; simp; omega
    have e2 : z * (z + 1 + 1) = z * z + z + z := by rw [Nat.mul_add, Nat.mul_add]; simp
    omega
  rw [hf] at hd
  rcases hp.mul hd with h1 | h1
  · left
    have : 1 % p = y % p := (mod_iff_dvd hy1).2 h1
    rw [← this, Nat.mod_eq_of_lt (by omega)]
  · right
    obtain ⟨c, hc⟩ := h1
    rcases c with _ | c
    · omega
    · have : y = (p - 1) + p * c := by rw [Nat.mul_add] at hc; omega
      rw [this, Nat.add_mul_mod_self_left, Nat.mod_eq_of_lt (by omega)]

theorem pass_or {p b o : Nat} (hp : Pr p) : ∀ t, b ^ (o * 2 ^ t) % p = 1 → b ^ o % p = 1 ∨ ∃ i, i < t ∧ b ^ (o * 2 ^ i) % p = p - 1
  | 0, h => .inl (by simpa using h)
  | t + 1, h => by
    have hsq : b ^ (o * 2 ^ t) * b ^ (o * 2 ^ t) % p = 1 := by
      rw [← Nat.pow_add, ← h, Nat.pow_succ, ← Nat.mul_assoc, Nat.mul_two]
    rcases sqrt_one hp hsq with h1 | h1
    · rcases pass_or hp t h1 with h2 | ⟨i, hi, h2⟩
      · exact .inl h2
      · exact .inr ⟨i, by omega, h2⟩
    · exact .inr ⟨t, by omega, h1⟩

theorem odd_part : ∀ n, 1 ≤ n → ∃ o t, n = o * 2 ^ t ∧ o % 2 = 1 := by
  intro n
  induction n using Nat.strongRecOn with
  | ind n ih =>
    intro hn
    by_cases h : n % 2 = 1
    · exact ⟨n, 0, by simp, h⟩
    · obtain ⟨o, t, h1, h2⟩ := ih (n / 2) (by omega) (by omega)
      exact ⟨o, t + 1, by rw [Nat.pow_succ, ← Nat.mul_assoc, ← h1]; omega, h2⟩

/-- A prime passes the strong test to every base that it does not divide. -/
theorem Pr.sp {p b : Nat} (hp : Pr p) (hb : ¬ p ∣ b) : SP p b := by
  obtain ⟨o, t, h1, h2⟩ := odd_part (p - 1) (by have := hp.1; omega)
  exact ⟨o, t, h1, h2, pass_or hp t (by rw [← h1]; exact fermat hp hb)⟩

/-- The first of the factors is a prime, and so are all of them; they ascend. -/
theorem least_prime {n p : Nat} (hp : 2 ≤ p) (hn : p ∣ n) (h : ∀ d, 2 ≤ d → d < p → ¬ d ∣ n) : Pr p :=
  ⟨hp, fun d h1 h2 hd => h d h1 h2 (Nat.dvd_trans hd hn)⟩
end Ob
/- What ModularAdds asks of factors: they are ascending primes that pass the program's test, their exponents are small, and their powers multiply to the number. -/
namespace Ob
set_option linter.unusedVariables false

/-- The product of the powers of the first k factors. -/
def pp : List (Nat × Nat) → Nat → Nat
  | _, 0 => 1
  | [], _ => 1
  | (p, e) :: L, k + 1 => p ^ e * pp L k
abbrev pr (L : List (Nat × Nat)) (k : Nat) : Nat := (L.map (·.1))[k]?.getD 0
abbrev ex (L : List (Nat × Nat)) (k : Nat) : Nat := (L.map (·.2))[k]?.getD 0

theorem pp_zero (L : List (Nat × Nat)) : pp L 0 = 1 := by cases L <;> rfl
theorem pp_succ : ∀ (L : List (Nat × Nat)) (k : Nat), k < L.length → pp L (k + 1) = pp L k * pr L k ^ ex L k
  | [], k, h => by simp at h
  | (p, e) :: L, 0, h => by simp [pp, pp_zero, pr, ex]
  | (p, e) :: L, k + 1, h => by
    have ih := pp_succ L k (by simpa using h)
    simp only [pp] at ih ⊢
    rw [ih]
    simp [pr, ex, Nat.mul_assoc]

theorem Fz.pp_all {n : Nat} {L : List (Nat × Nat)} (h : Fz n L) : pp L L.length = n := by
  induction h with
  | one => rfl
  | cons p e m L _ _ _ _ _ ih => simp [pp, ih]

theorem Fz.at {n : Nat} {L : List (Nat × Nat)} (h : Fz n L) : ∀ k, k < L.length → Pr (pr L k) ∧ pr L k ∣ n ∧ 1 ≤ ex L k ∧ pr L k ^ ex L k ∣ n := by
  induction h with
  | one => intro k hk; simp at hk
  | cons p e m L hp hd he hm hL ih =>
    intro k hk
    rcases k with _ | k
    · refine ⟨?_, ?_, by simpa [ex] using he, ?_⟩
      · exact least_prime hp (dvd_front (m := m) he) hd
      · exact dvd_front he
      · simp only [pr, ex, List.map_cons, List.getElem?_cons_zero, Option.getD_some]; exact Nat.dvd_mul_right _ _
    · obtain ⟨h1, h2, h3, h4⟩ := ih k (by simpa using hk)
      have e1 : pr ((p, e) :: L) (k + 1) = pr L k := by simp [pr]
      have e2 : ex ((p, e) :: L) (k + 1) = ex L k := by simp [ex]
      rw [e1, e2]
      exact ⟨h1, Nat.dvd_trans h2 (Nat.dvd_mul_left _ _), h3, Nat.dvd_trans h4 (Nat.dvd_mul_left _ _)⟩

theorem Fz.ascend {n : Nat} {L : List (Nat × Nat)} (h : Fz n L) : ∀ k, k + 1 < L.length → pr L k < pr L (k + 1) := by
  induction h with
  | one => intro k hk; simp at hk
  | cons p e m L hp hd he hm hL ih =>
    intro k hk
    rcases k with _ | k
    · have e1 : pr ((p, e) :: L) 0 = p := by simp [pr]
      have e2 : pr ((p, e) :: L) (0 + 1) = pr L 0 := by simp [pr]
      rw [e1, e2]
      obtain ⟨h1, h2, _, _⟩ := hL.at 0 (by simpa using hk)
      have h3 : ¬ pr L 0 < p := fun hlt => hd _ h1.1 hlt (Nat.dvd_trans h2 (Nat.dvd_mul_left _ _))
      have h4 : pr L 0 ≠ p := fun he => hm (he ▸ h2)
      omega
    · have e1 : pr ((p, e) :: L) (k + 1) = pr L k := by simp [pr]
      have e2 : pr ((p, e) :: L) (k + 1 + 1) = pr L (k + 1) := by simp [pr]
      rw [e1, e2]
      exact ih k (by simpa using hk)

end Ob
namespace Go.Proofs.Ytfmmkdmnondomaa
theorem pr_prm {p : Nat} (hp : Ob.Pr p) : Prm p := by
  by_cases h2 : p = 2
  · exact .inl h2
  · have hp2 := hp.1
    have ho : p % 2 = 1 := by
      apply Classical.byContradiction; intro h
      exact hp.2 2 (by omega) (by omega) (Nat.dvd_of_mod_eq_zero (by omega))
    have pas : ∀ b, Passes p b := fun b => by
      by_cases hb : p ∣ b
      · exact .inl (Nat.mod_eq_zero_of_dvd hb)
      · exact .inr (hp.sp hb)
    exact .inr ⟨by omega, ho, pas 2, pas 7, pas 61⟩
end Go.Proofs.Ytfmmkdmnondomaa
