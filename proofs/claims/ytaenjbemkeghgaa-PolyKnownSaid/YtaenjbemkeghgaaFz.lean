/- The factors of a number as a relation: the least divisor above 1 with its exponent first. It determines the list. Trial division, by all numbers or by 2 and the odd ones, comes to it. -/
namespace Ob
set_option linter.unusedVariables false

/-- L are the factors of n, ascending, with their exponents. -/
inductive Fz : Nat → List (Nat × Nat) → Prop
  | one : Fz 1 []
  | cons (p e m : Nat) (L : List (Nat × Nat)) : 2 ≤ p → (∀ d, 2 ≤ d → d < p → ¬ d ∣ p ^ e * m) → 1 ≤ e → ¬ p ∣ m → Fz m L → Fz (p ^ e * m) ((p, e) :: L)

theorem Fz.pos {n : Nat} {L : List (Nat × Nat)} (h : Fz n L) : 1 ≤ n := by
  induction h with
  | one => omega
  | cons p e m L hp _ _ _ _ ih => exact Nat.mul_pos (Nat.pow_pos (by omega)) ih

theorem exp_unique {p : Nat} (hp : 2 ≤ p) : ∀ {e f m k : Nat}, p ^ e * m = p ^ f * k → ¬ p ∣ m → ¬ p ∣ k → e = f ∧ m = k := by
  intro e
  induction e with
  | zero =>
    intro f m k h hm hk
    rcases f with _ | f
    · simp at h; exact ⟨rfl, h⟩
    · exfalso; apply hm; simp at h; rw [h, Nat.pow_succ, Nat.mul_comm _ p, Nat.mul_assoc]; exact Nat.dvd_mul_right _ _
  | succ e ih =>
    intro f m k h hm hk
    rcases f with _ | f
    · exfalso; apply hk; simp at h; rw [← h, Nat.pow_succ, Nat.mul_comm _ p, Nat.mul_assoc]; exact Nat.dvd_mul_right _ _
    · rw [Nat.pow_succ, Nat.pow_succ, Nat.mul_comm _ p, Nat.mul_comm _ p, Nat.mul_assoc, Nat.mul_assoc] at h
      obtain ⟨h1, h2⟩ := ih (Nat.eq_of_mul_eq_mul_left (by omega) h) hm hk
      exact ⟨by omega, h2⟩

theorem dvd_front {p e m : Nat} (he : 1 ≤ e) : p ∣ p ^ e * m := by
  obtain ⟨f, rfl⟩ : ∃ f, e = f + 1 := ⟨e - 1, by omega⟩
  rw [Nat.pow_succ, Nat.mul_comm _ p, Nat.mul_assoc]; exact Nat.dvd_mul_right _ _

theorem Fz.unique {n : Nat} {L : List (Nat × Nat)} (h : Fz n L) : ∀ {M : List (Nat × Nat)}, Fz n M → L = M := by
  induction h with
  | one =>
    intro M hM
    generalize hn : 1 = n at hM
    cases hM with
    | one => rfl
    | cons p e m L hp hd he hm hL =>
      have h1 : 1 ≤ m := hL.pos
      have h2 : p ∣ p ^ e * m := dvd_front he
      rw [← hn] at h2
      have := Nat.le_of_dvd (by omega) h2
      omega
  | cons p e m L hp hd he hm hL ih =>
    intro M hM
    generalize hn : p ^ e * m = n at hM
    cases hM with
    | one =>
      have h2 : p ∣ p ^ e * m := dvd_front he
      rw [hn] at h2
      have := Nat.le_of_dvd (by omega) h2
      omega
    | cons q f k K hq hd' hf hk hK =>
      have hpq : p = q := by
        have h1 : ¬ q < p := fun hlt => hd q hq hlt (by rw [hn]; exact dvd_front hf)
        have h2 : ¬ p < q := fun hlt => hd' p hp hlt (by rw [← hn]; exact dvd_front he)
        omega
      subst hpq
      obtain ⟨rfl, rfl⟩ := exp_unique hp hn hm hk
      rw [ih hK]

theorem Fz.prime {r : Nat} (h1 : 2 ≤ r) (h : ∀ d, 2 ≤ d → d < r → ¬ d ∣ r) : Fz r [(r, 1)] := by
  have := Fz.cons r 1 1 [] h1 (by simpa using h) (by omega) (by intro hd; have := Nat.le_of_dvd (by omega) hd; omega) Fz.one
  simpa using this

/-- If no number below d divides r, and r is below d², r is 1 or a prime. -/
theorem small_rest {r d : Nat} (h : ∀ x, 2 ≤ x → x < d → ¬ x ∣ r) (hr : r < d * d) : ∀ x, 2 ≤ x → x < r → ¬ x ∣ r := by
  intro x hx hxr hd
  by_cases hxd : x < d
  · exact h x hx hxd hd
  · obtain ⟨y, hy⟩ := hd
    have hy2 : 2 ≤ y := by
      rcases y with _ | _ | y
      · simp at hy; omega
      · simp at hy; omega
      · omega
    have hyd : y < d := by
      apply Classical.byContradiction
      intro hn
      have h1 : d * d ≤ x * y := Nat.mul_le_mul (by omega) (by omega)
      omega
    exact h y hy2 hyd ⟨x, by rw [hy, Nat.mul_comm]⟩

/-- Where trial division stands: what has been found, and what is left; the last divisor tried first. -/
def St (n : Nat) : List Nat → List (Nat × Nat) → Nat → Prop
  | [], acc, r => acc = [] ∧ r = n
  | x :: l, acc, r => (¬ x ∣ r ∧ St n l acc r) ∨ (∃ acc' e, acc = acc' ++ [(x, e)] ∧ 1 ≤ e ∧ ¬ x ∣ r ∧ St n l acc' (x ^ e * r))

theorem St.not_dvd {n x : Nat} {l : List Nat} {acc : List (Nat × Nat)} {r : Nat} (h : St n (x :: l) acc r) : ¬ x ∣ r := by
  rcases h with h | ⟨_, _, _, _, h, _⟩
  · exact h.1
  · exact h

theorem St.len {n : Nat} : ∀ {l : List Nat} {acc : List (Nat × Nat)} {r : Nat}, St n l acc r → acc.length ≤ l.length
  | [], _, _, h => by simp [h.1]
  | x :: l, acc, r, h => by
    rcases h with ⟨_, h⟩ | ⟨acc', e, rfl, _, _, h⟩
    · have := St.len h; simp; omega
    · have := St.len h; simp; omega

/-- What is left is at most n, and at least 1. -/
theorem St.le {n : Nat} (hn : 1 ≤ n) : ∀ {l : List Nat} {acc : List (Nat × Nat)} {r : Nat}, (∀ x ∈ l, 2 ≤ x) → St n l acc r → 1 ≤ r ∧ r ≤ n
  | [], _, _, _, h => by rw [h.2]; omega
  | x :: l, acc, r, hl, h => by
    have hl' : ∀ y ∈ l, 2 ≤ y := fun y hy => hl y (List.mem_cons_of_mem _ hy)
    rcases h with ⟨_, h⟩ | ⟨acc', e, rfl, _, _, h⟩
    · exact St.le hn hl' h
    · have h3 := St.le hn hl' h
      have hx := hl x (List.mem_cons_self ..)
      have hp : 1 ≤ x ^ e := Nat.pow_pos (by omega)
      have hr : 1 ≤ r := by
        rcases r with _ | r
        · simp at h3
        · omega
      have : 1 * r ≤ x ^ e * r := Nat.mul_le_mul_right _ hp
      omega

/-- The divisors that are tried, the last one first: m odd ones behind 2. -/
def tried : Nat → List Nat
  | 0 => [2]
  | m + 1 => (2 * m + 3) :: tried m

theorem tried_two : ∀ m x, x ∈ tried m → 2 ≤ x
  | 0, x, h => by simp [tried] at h; omega
  | m + 1, x, h => by
    simp [tried] at h
    rcases h with h | h
    · omega
    · exact tried_two m x h

/-- A divisor of what is left that is below the next odd one: there is none. -/
theorem St.none {n : Nat} : ∀ {m : Nat} {acc : List (Nat × Nat)} {r : Nat}, St n (tried m) acc r → ∀ x, 2 ≤ x → x < 2 * m + 3 → ¬ x ∣ r
  | 0, acc, r, h, x, h1, h2, hd => by
    obtain rfl : x = 2 := by omega
    exact h.not_dvd hd
  | m + 1, acc, r, h, x, h1, h2, hd => by
    have hx := h.not_dvd
    -- the state before
    have hbefore : ∃ acc' r', St n (tried m) acc' r' ∧ r ∣ r' := by
      rcases h with ⟨_, h⟩ | ⟨acc', e, rfl, _, _, h⟩
      · exact ⟨acc, r, h, Nat.dvd_refl _⟩
      · exact ⟨acc', _, h, Nat.dvd_mul_left _ _⟩
    obtain ⟨acc', r', h', hrr⟩ := hbefore
    have ih := St.none h'
    by_cases hx1 : x < 2 * m + 3
    · exact ih x h1 hx1 (Nat.dvd_trans hd hrr)
    · by_cases hx2 : x = 2 * m + 3
      · subst hx2; exact hx hd
      · obtain rfl : x = 2 * m + 4 := by omega
        exact ih 2 (by omega) (by omega) (Nat.dvd_trans (Nat.dvd_trans ⟨m + 2, by omega⟩ hd) hrr)

/-- What has been found, with the factors of what is left, are the factors. -/
theorem St.fz {n : Nat} : ∀ {m : Nat} {acc : List (Nat × Nat)} {r : Nat}, St n (tried m) acc r → ∀ L, Fz r L → Fz n (acc ++ L)
  | 0, acc, r, h, L, hL => by
    rcases h with ⟨_, h1, rfl⟩ | ⟨acc', e, rfl, he, hd, h1, h2⟩
    · rw [h1]; exact hL
    · rw [h1, ← h2]
      exact Fz.cons 2 e r L (by omega) (by intro d h3 h4; omega) he hd hL
  | m + 1, acc, r, h, L, hL => by
    rcases h with ⟨_, h⟩ | ⟨acc', e, rfl, he, hd, h⟩
    · exact St.fz h L hL
    · rw [List.append_assoc]
      refine St.fz h _ (Fz.cons _ e r L (by omega) (fun d h3 h4 => St.none h d h3 h4) he hd hL)

/-- The end of trial division. -/
theorem St.end {n m : Nat} {acc : List (Nat × Nat)} {r : Nat} (hn : 1 ≤ n) (h : St n (tried m) acc r) (hr : r < (2 * m + 3) * (2 * m + 3)) :
    (r = 1 → Fz n acc) ∧ (1 < r → Fz n (acc ++ [(r, 1)])) := by
  constructor
  · rintro rfl; have := St.fz h [] Fz.one; simpa using this
  · intro h1; exact St.fz h _ (Fz.prime h1 (small_rest (St.none h) hr))

/-- The end at the first divisor, 2. -/
theorem St.end0 {n : Nat} (hr : n < 4) (hn : 1 ≤ n) : (n = 1 → Fz n []) ∧ (1 < n → Fz n [(n, 1)]) := by
  constructor
  · rintro rfl; exact Fz.one
  · intro h; refine Fz.prime h ?_
    intro d h1 h2 hd
    obtain rfl : d = 2 := by omega
    obtain rfl : n = 3 := by omega
    omega
end Ob
namespace Ob
/-- Where trial division by all numbers stands before d. -/
def Tr (n : Nat) (acc : List (Nat × Nat)) (r d : Nat) : Prop := (∀ x, 2 ≤ x → x < d → ¬ x ∣ r) ∧ (∀ L, Fz r L → Fz n (acc ++ L))

theorem Tr.start (n : Nat) : Tr n [] n 2 := ⟨fun x h1 h2 => by omega, fun L h => h⟩
theorem Tr.jump {n : Nat} {acc : List (Nat × Nat)} {r d : Nat} (h : Tr n acc r d) (hr : r < d * d) : Tr n acc r r := ⟨small_rest h.1 hr, h.2⟩
theorem Tr.le {n : Nat} {acc : List (Nat × Nat)} {r d : Nat} (h : Tr n acc r d) (hr : 1 < r) : d ≤ r := by
  apply Classical.byContradiction; intro hd; exact h.1 r hr (by omega) (Nat.dvd_refl _)
theorem Tr.skip {n : Nat} {acc : List (Nat × Nat)} {r d : Nat} (h : Tr n acc r d) (hd : ¬ d ∣ r) : Tr n acc r (d + 1) := by
  refine ⟨fun x h1 h2 => ?_, h.2⟩
  by_cases e : x = d
  · rw [e]; exact hd
  · exact h.1 x h1 (by omega)
theorem Tr.hit {n : Nat} {acc : List (Nat × Nat)} {r d e m : Nat} (h : Tr n acc r d) (hd2 : 2 ≤ d) (hr : r = d ^ e * m) (he : 1 ≤ e) (hd : ¬ d ∣ m) : Tr n (acc ++ [(d, e)]) m (d + 1) := by
  subst hr
  refine ⟨fun x h1 h2 hx => ?_, fun L hL => ?_⟩
  · by_cases e : x = d
    · rw [e] at hx; exact hd hx
    · exact h.1 x h1 (by omega) (Nat.dvd_trans hx (Nat.dvd_mul_left _ _))
  · rw [List.append_assoc]; exact h.2 _ (Fz.cons d e m L hd2 h.1 he hd hL)
theorem Tr.end {n : Nat} {acc : List (Nat × Nat)} {d : Nat} (h : Tr n acc 1 d) : Fz n acc := by simpa using h.2 [] Fz.one

theorem two_pow_step {l r n d e m : Nat} (h : 2 ^ l * r ≤ n) (hr : r = d ^ e * m) (hd : 2 ≤ d) (he : 1 ≤ e) : 2 ^ (l + 1) * m ≤ n := by
  have h1 : 2 ^ 1 ≤ d ^ e := Nat.le_trans (Nat.pow_le_pow_left hd 1) (Nat.pow_le_pow_right (by omega) he)
  have h2 : 2 ^ l * (2 ^ 1 * m) ≤ 2 ^ l * (d ^ e * m) := Nat.mul_le_mul_left _ (Nat.mul_le_mul_right _ h1)
  rw [Nat.pow_succ, Nat.mul_assoc]
  rw [hr] at h
  simp only [Nat.pow_one] at h2
  omega
theorem len_small {l r n : Nat} (h : 2 ^ l * r ≤ n) (hr : 1 ≤ r) (hn : n < 2 ^ 32) : l < 32 := by
  apply Classical.byContradiction; intro hl
  have h1 : 2 ^ 32 ≤ 2 ^ l := Nat.pow_le_pow_right (by omega) (by omega)
  have h2 : 2 ^ l * 1 ≤ 2 ^ l * r := Nat.mul_le_mul_left _ hr
  omega
end Ob
