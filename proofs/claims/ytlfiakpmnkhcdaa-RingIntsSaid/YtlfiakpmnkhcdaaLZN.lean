import Derived.Test.YtlfiakpmnkhcdaaLZB
namespace Ob
set_option linter.unusedVariables false
inductive Fz : Nat → List (Nat × Nat) → Prop
  | one : Fz 1 []
  | cons (p e m : Nat) (L : List (Nat × Nat)) : 2 ≤ p → (∀ d, 2 ≤ d → d < p → ¬ d ∣ p ^ e * m) → 1 ≤ e → ¬ p ∣ m → Fz m L → Fz (p ^ e * m) ((p, e) :: L)
theorem Fz.pos {n : Nat} {L : List (Nat × Nat)} (h : Fz n L) : 1 ≤ n := by
  induction h with
  | one => omega
  | cons p e m L hp _ _ _ _ ih => exact Nat.mul_pos (Nat.pow_pos (by omega)) ih
theorem exp_unique {p : Nat} (hp : 2 ≤ p) : ∀ {e f m k : Nat}, p ^ e * m = p ^ f * k → ¬ p ∣ m → ¬ p ∣ k → e = f ∧ m = k := by
  intro e
  induction e with
  | zero =>
    intro f m k h hm hk
    rcases f with _ | f
    · simp at h; exact ⟨rfl, h⟩
    · exfalso; apply hm; simp at h; rw [h, Nat.pow_succ, Nat.mul_comm _ p, Nat.mul_assoc]; exact Nat.dvd_mul_right _ _
  | succ e ih =>
    intro f m k h hm hk
    rcases f with _ | f
    · exfalso; apply hk; simp at h; rw [← h, Nat.pow_succ, Nat.mul_comm _ p, Nat.mul_assoc]; exact Nat.dvd_mul_right _ _
    · rw [Nat.pow_succ, Nat.pow_succ, Nat.mul_comm _ p, Nat.mul_comm _ p, Nat.mul_assoc, Nat.mul_assoc] at h
      obtain ⟨h1, h2⟩ := ih (Nat.eq_of_mul_eq_mul_left (by omega) h) hm hk
      exact ⟨by omega, h2⟩
theorem dvd_front {p e m : Nat} (he : 1 ≤ e) : p ∣ p ^ e * m := by
  obtain ⟨f, rfl⟩ : ∃ f, e = f + 1 := ⟨e - 1, by omega⟩
  rw [Nat.pow_succ, Nat.mul_comm _ p, Nat.mul_assoc]; exact Nat.dvd_mul_right _ _
theorem Fz.unique {n : Nat} {L : List (Nat × Nat)} (h : Fz n L) : ∀ {M : List (Nat × Nat)}, Fz n M → L = M := by
  induction h with
  | one =>
    intro M hM
    generalize hn : 1 = n at hM
    cases hM with
    | one => rfl
    | cons p e m L hp hd he hm hL =>
      have h1 : 1 ≤ m := hL.pos
      have h2 : p ∣ p ^ e * m := dvd_front he
      rw [← hn] at h2
      have := Nat.le_of_dvd (by omega) h2
      omega
  | cons p e m L hp hd he hm hL ih =>
    intro M hM
    generalize hn : p ^ e * m = n at hM
    cases hM with
    | one =>
      have h2 : p ∣ p ^ e * m := dvd_front he
      rw [hn] at h2
      have := Nat.le_of_dvd (by omega) h2
      omega
    | cons q f k K hq hd' hf hk hK =>
      have hpq : p = q := by
        have h1 : ¬ q < p := fun hlt => hd q hq hlt (by rw [hn]; exact dvd_front hf)
        have h2 : ¬ p < q := fun hlt => hd' p hp hlt (by rw [← hn]; exact dvd_front he)
        omega
      subst hpq
      obtain ⟨rfl, rfl⟩ := exp_unique hp hn hm hk
      rw [ih hK]
def St (n : Nat) : List Nat → List (Nat × Nat) → Nat → Prop
  | [], acc, r => acc = [] ∧ r = n
  | x :: l, acc, r => (¬ x ∣ r ∧ St n l acc r) ∨ (∃ acc' e, acc = acc' ++ [(x, e)] ∧ 1 ≤ e ∧ ¬ x ∣ r ∧ St n l acc' (x ^ e * r))
theorem St.not_dvd {n x : Nat} {l : List Nat} {acc : List (Nat × Nat)} {r : Nat} (h : St n (x :: l) acc r) : ¬ x ∣ r := by
  rcases h with h | ⟨_, _, _, _, h, _⟩
  · exact h.1
  · exact h
def tried : Nat → List Nat
  | 0 => [2]
  | m + 1 => (2 * m + 3) :: tried m
theorem St.none {n : Nat} : ∀ {m : Nat} {acc : List (Nat × Nat)} {r : Nat}, St n (tried m) acc r → ∀ x, 2 ≤ x → x < 2 * m + 3 → ¬ x ∣ r
  | 0, acc, r, h, x, h1, h2, hd => by
    obtain rfl : x = 2 := by omega
    exact h.not_dvd hd
  | m + 1, acc, r, h, x, h1, h2, hd => by
    have hx := h.not_dvd
    -- the state before
    have hbefore : ∃ acc' r', St n (tried m) acc' r' ∧ r ∣ r' := by
      rcases h with ⟨_, h⟩ | ⟨acc', e, rfl, _, _, h⟩
      · exact ⟨acc, r, h, Nat.dvd_refl _⟩
      · exact ⟨acc', _, h, Nat.dvd_mul_left _ _⟩
    obtain ⟨acc', r', h', hrr⟩ := hbefore
    have ih := St.none h'
    by_cases hx1 : x < 2 * m + 3
    · exact ih x h1 hx1 (Nat.dvd_trans hd hrr)
    · by_cases hx2 : x = 2 * m + 3
      · subst hx2; exact hx hd
      · obtain rfl : x = 2 * m + 4 := by omega
        exact ih 2 (by omega) (by omega) (Nat.dvd_trans (Nat.dvd_trans ⟨m + 2, by omega⟩ hd) hrr)
end Ob
namespace Ob
end Ob
namespace Ob
set_option linter.unusedVariables false
def Pr (p : Nat) : Prop := 2 ≤ p ∧ ∀ d, 2 ≤ d → d < p → ¬ d ∣ p
theorem Pr.coprime {p a : Nat} (hp : Pr p) (h : ¬ p ∣ a) : Nat.Coprime p a := by
  have h1 : Nat.gcd p a ∣ p := Nat.gcd_dvd_left _ _
  have h2 : Nat.gcd p a ∣ a := Nat.gcd_dvd_right _ _
  have h3 : Nat.gcd p a ≤ p := Nat.le_of_dvd (by have := hp.1; omega) h1
  have h0 : 0 < Nat.gcd p a := Nat.gcd_pos_of_pos_left _ (by have := hp.1; omega)
  show Nat.gcd p a = 1
  apply Classical.byContradiction
  intro hne
  by_cases e : Nat.gcd p a = p
  · rw [e] at h2; exact h h2
  · exact hp.2 _ (by omega) (by omega) h1
theorem Pr.mul {p a b : Nat} (hp : Pr p) (h : p ∣ a * b) : p ∣ a ∨ p ∣ b := by
  by_cases ha : p ∣ a
  · exact .inl ha
  · exact .inr (Nat.Coprime.dvd_of_dvd_mul_left (hp.coprime ha) h)
theorem perm_of_subset : ∀ (l m : List Nat), l.Nodup → (∀ x ∈ l, x ∈ m) → m.length ≤ l.length → l.Perm m
  | [], m, _, _, h => by
    have : m = [] := List.length_eq_zero_iff.1 (by simpa using h)
    rw [this]
  | x :: l, m, hn, hs, h => by
    have hx : x ∈ m := hs x (List.mem_cons_self ..)
    have hp := List.perm_cons_erase hx
    rw [List.nodup_cons] at hn
    refine (List.Perm.cons x (perm_of_subset l (m.erase x) hn.2 (fun y hy => ?_) ?_)).trans hp.symm
    · have hym := hs y (List.mem_cons_of_mem _ hy)
      have hne : y ≠ x := fun e => hn.1 (e ▸ hy)
      exact (List.mem_erase_of_ne hne).2 hym
    · have := hp.length_eq
      simp at this h
      omega
def prod : List Nat → Nat
  | [] => 1
  | x :: l => x * prod l
theorem prod_perm {l m : List Nat} (h : l.Perm m) : prod l = prod m := by
  induction h with
  | nil => rfl
  | cons x _ ih => simp [prod, ih]
  | swap x y l => simp only [prod]; rw [← Nat.mul_assoc, ← Nat.mul_assoc, Nat.mul_comm x y]
  | trans _ _ ih1 ih2 => exact ih1.trans ih2
theorem prod_mul_mod (a p : Nat) : ∀ l : List Nat, prod (l.map fun i => a * i % p) % p = a ^ l.length * prod l % p
  | [] => by simp [prod]
  | x :: l => by
    simp only [List.map_cons, prod, List.length_cons]
    rw [Nat.mul_mod, prod_mul_mod a p l, Nat.mod_mod, ← Nat.mul_mod]
    congr 1
    rw [Nat.pow_succ]
    simp only [Nat.mul_assoc, Nat.mul_comm, Nat.mul_left_comm]
theorem prod_not_dvd {p : Nat} (hp : Pr p) : ∀ l : List Nat, (∀ x ∈ l, ¬ p ∣ x) → ¬ p ∣ prod l
  | [], _, h => by
    have := Nat.le_of_dvd (by simp [prod]) h; have := hp.1; simp [prod] at *; omega
  | x :: l, hl, h => by
    rcases hp.mul h with h | h
    · exact hl x (List.mem_cons_self ..) h
    · exact prod_not_dvd hp l (fun y hy => hl y (List.mem_cons_of_mem _ hy)) h
theorem mod_iff_dvd {p x y : Nat} (h : x ≤ y) : x % p = y % p ↔ p ∣ y - x := by
  constructor
  · intro e; exact Nat.dvd_of_mod_eq_zero (Nat.sub_mod_eq_zero_of_mod_eq e.symm)
  · rintro ⟨c, hc⟩
    have : y = x + p * c := by omega
    rw [this, Nat.add_mul_mod_self_left]
theorem cancel_mod {p c x y : Nat} (hp : Pr p) (hc : ¬ p ∣ c) (h : c * x % p = c * y % p) : x % p = y % p := by
  rcases Nat.le_total x y with hxy | hxy
  · have h1 : p ∣ c * y - c * x := (mod_iff_dvd (Nat.mul_le_mul_left c hxy)).1 h
    rw [← Nat.mul_sub] at h1
    rcases hp.mul h1 with h2 | h2
    · exact absurd h2 hc
    · exact (mod_iff_dvd hxy).2 h2
  · have h1 : p ∣ c * x - c * y := (mod_iff_dvd (Nat.mul_le_mul_left c hxy)).1 h.symm
    rw [← Nat.mul_sub] at h1
    rcases hp.mul h1 with h2 | h2
    · exact absurd h2 hc
    · exact ((mod_iff_dvd hxy).2 h2).symm
def upto (n : Nat) : List Nat := (List.range n).map (· + 1)
theorem mem_upto {n x : Nat} : x ∈ upto n ↔ 1 ≤ x ∧ x ≤ n := by
  simp only [upto, List.mem_map, List.mem_range]
  constructor
  · rintro ⟨a, h, rfl⟩; omega
  · intro h; exact ⟨x - 1, by omega, by omega⟩
theorem nodup_upto (n : Nat) : (upto n).Nodup := by
  unfold upto
  rw [List.nodup_iff_pairwise_ne, List.pairwise_map]
  exact List.Pairwise.imp (fun h e => h (by omega)) (List.nodup_iff_pairwise_ne.1 List.nodup_range)
theorem fermat {p a : Nat} (hp : Pr p) (ha : ¬ p ∣ a) : a ^ (p - 1) % p = 1 := by
  have h2 := hp.1
  have hperm : ((upto (p - 1)).map fun i => a * i % p).Perm (upto (p - 1)) := by
    refine perm_of_subset _ _ ?_ ?_ (by simp)
    · rw [List.nodup_iff_pairwise_ne, List.pairwise_map]
      refine List.Pairwise.imp_of_mem ?_ (List.nodup_iff_pairwise_ne.1 (nodup_upto (p - 1)))
      intro x y hx hy hne e
      have h1 := cancel_mod hp ha e
      rw [mem_upto] at hx hy
      rw [Nat.mod_eq_of_lt (by omega), Nat.mod_eq_of_lt (by omega)] at h1
      exact hne h1
    · intro x hx
      simp only [List.mem_map] at hx
      obtain ⟨i, hi, rfl⟩ := hx
      rw [mem_upto] at hi ⊢
      have hlt : a * i % p < p := Nat.mod_lt _ (by omega)
      refine ⟨Nat.pos_of_ne_zero fun h0 => ?_, by omega⟩
      rcases hp.mul (Nat.dvd_of_mod_eq_zero h0) with h | h
      · exact ha h
      · have := Nat.le_of_dvd (by omega) h; omega
  have e1 := prod_mul_mod a p (upto (p - 1))
  rw [prod_perm hperm, show (upto (p - 1)).length = p - 1 by simp [upto]] at e1
  have hnd : ¬ p ∣ prod (upto (p - 1)) := prod_not_dvd hp _ fun x hx h => by
    rw [mem_upto] at hx; have := Nat.le_of_dvd (by omega) h; omega
  have e2 : prod (upto (p - 1)) * 1 % p = prod (upto (p - 1)) * a ^ (p - 1) % p := by
    rw [Nat.mul_one, Nat.mul_comm _ (a ^ (p - 1))]; exact e1
  have e3 := cancel_mod hp hnd e2
  rw [Nat.mod_eq_of_lt (by omega)] at e3
  exact e3.symm
end Ob
namespace Ob
set_option linter.unusedVariables false
theorem pow_one_mod {n b o : Nat} (hn : 2 ≤ n) (h : b ^ o % n = 1) (k : Nat) : b ^ (o * k) % n = 1 := by
  rw [Nat.pow_mul, Nat.pow_mod, h, Nat.one_pow, Nat.mod_eq_of_lt (by omega)]
theorem neg_one_sq {n : Nat} (hn : 2 ≤ n) : (n - 1) * (n - 1) % n = 1 := by
  obtain ⟨m, rfl⟩ : ∃ m, n = m + 2 := ⟨n - 2, by omega⟩
  have : (m + 2 - 1) * (m + 2 - 1) = 1 + (m + 2) * m := by
    show (m + 1) * (m + 1) = 1 + (m + 2) * m
    have h1 := Nat.add_mul m 2 m
    have h2 := Nat.add_mul m 1 (m + 1)
    have h3 := Nat.mul_add m m 1
    omega
  rw [this, Nat.add_mul_mod_self_left, Nat.mod_eq_of_lt (by omega)]
theorem SP.fermat {n b : Nat} (hn : 2 ≤ n) (h : SP n b) : b ^ (n - 1) % n = 1 := by
  obtain ⟨o, t, h1, h2, h3⟩ := h
  rw [h1]
  rcases h3 with h3 | ⟨i, hi, h3⟩
  · exact pow_one_mod hn h3 _
  · have hsq : b ^ (o * 2 ^ (i + 1)) % n = 1 := by
      rw [← sq_step, h3]; exact neg_one_sq hn
    obtain ⟨s, rfl⟩ : ∃ s, t = i + 1 + s := ⟨t - (i + 1), by omega⟩
    rw [Nat.pow_add, ← Nat.mul_assoc]
    exact pow_one_mod hn hsq _
def H (p x : Nat) : Prop := 2 ^ x % p = 1 ∧ 7 ^ x % p = 1 ∧ 61 ^ x % p = 1
theorem one_sub {p b x y : Nat} (hx : b ^ x % p = 1) (hy : b ^ (x + y) % p = 1) : b ^ y % p = 1 := by
  rw [Nat.pow_add, Nat.mul_mod, hx, Nat.one_mul, Nat.mod_mod] at hy
  exact hy
theorem H.sub {p x y : Nat} (hx : H p x) (hy : H p (x + y)) : H p y :=
  ⟨one_sub hx.1 hy.1, one_sub hx.2.1 hy.2.1, one_sub hx.2.2 hy.2.2⟩
theorem H.mul {p x : Nat} (hp : 2 ≤ p) (hx : H p x) (k : Nat) : H p (x * k) :=
  ⟨pow_one_mod hp hx.1 k, pow_one_mod hp hx.2.1 k, pow_one_mod hp hx.2.2 k⟩
theorem H.mod {p x y : Nat} (hp : 2 ≤ p) (hx : H p x) (hy : H p y) : H p (y % x) := by
  refine (hx.mul hp (y / x)).sub ?_
  rw [Nat.div_add_mod]; exact hy
theorem H.gcd {p : Nat} (hp : 2 ≤ p) : ∀ x y : Nat, H p x → H p y → H p (Nat.gcd x y) := by
  intro x y
  induction x, y using Nat.gcd.induction with
  | H0 y => intro _ hy; simpa using hy
  | H1 x y hx ih =>
    intro h1 h2
    rw [Nat.gcd_rec]
    exact ih (h1.mod hp h2) h1
theorem exists_prime : ∀ n : Nat, 2 ≤ n → ∃ r, Pr r ∧ r ∣ n := by
  intro n
  induction n using Nat.strongRecOn with
  | ind n ih =>
    intro hn
    by_cases h : ∃ d, 2 ≤ d ∧ d < n ∧ d ∣ n
    · obtain ⟨d, h1, h2, h3⟩ := h
      obtain ⟨r, hr, hd⟩ := ih d h2 h1
      exact ⟨r, hr, Nat.dvd_trans hd h3⟩
    · exact ⟨n, ⟨hn, fun d h1 h2 h3 => h ⟨d, h1, h2, h3⟩⟩, Nat.dvd_refl _⟩
theorem H.least {p M x : Nat} (hp : 2 ≤ p) (hM0 : 1 ≤ M) (hM : H p M) (hmin : ∀ r, Pr r → r ∣ M → ¬ H p (M / r)) (hx : H p x) : M ∣ x := by
  have hg := H.gcd hp M x hM hx
  obtain ⟨s, hs⟩ := Nat.gcd_dvd_left M x
  by_cases h1 : s = 1
  · rw [h1, Nat.mul_one] at hs
    rw [hs]; exact Nat.gcd_dvd_right M x
  · have h0 : s ≠ 0 := fun h => by rw [h] at hs; omega
    obtain ⟨r, hr, u, hu⟩ := exists_prime s (by omega)
    exfalso
    refine hmin r hr ⟨Nat.gcd M x * u, ?_⟩ ?_
    · conv => lhs; rw [hs]
      rw [hu, Nat.mul_left_comm]
    · have : M / r = Nat.gcd M x * u := by
        conv => lhs; rw [hs]
        rw [hu, Nat.mul_left_comm, Nat.mul_div_cancel_left _ (by have := hr.1; omega)]
      rw [this]
      exact hg.mul hp u
def Pass (n : Nat) : Prop := SP n 2 ∧ SP n 7 ∧ SP n 61
theorem mod_of_dvd {n p x : Nat} (hp : 2 ≤ p) (hd : p ∣ n) (h : x % n = 1) : x % p = 1 := by
  rw [← Nat.mod_mod_of_dvd x hd, h, Nat.mod_eq_of_lt (by omega)]
theorem Pass.H {n p : Nat} (h : Pass n) (hn : 2 ≤ n) (hp : 2 ≤ p) (hd : p ∣ n) : H p (n - 1) :=
  ⟨mod_of_dvd hp hd (h.1.fermat hn), mod_of_dvd hp hd (h.2.1.fermat hn), mod_of_dvd hp hd (h.2.2.fermat hn)⟩
theorem H.not_dvd {p b x : Nat} (hp : 2 ≤ p) (hx : 1 ≤ x) (h : b ^ x % p = 1) : ¬ p ∣ b := by
  intro hd
  have : p ∣ b ^ x := Nat.dvd_trans hd ⟨b ^ (x - 1), by rw [Nat.mul_comm, ← Nat.pow_succ]; congr 1; omega⟩
  rw [Nat.mod_eq_zero_of_dvd this] at h
  omega
theorem Pr.H {p : Nat} (hp : Pr p) {x : Nat} (hx : 1 ≤ x) (h : Ob.H p x) : Ob.H p (p - 1) :=
  ⟨Ob.fermat hp (H.not_dvd hp.1 hx h.1), Ob.fermat hp (H.not_dvd hp.1 hx h.2.1), Ob.fermat hp (H.not_dvd hp.1 hx h.2.2)⟩
theorem Pass.cofactor {p k : Nat} (h : Pass (p * k)) (hp : Pr p) (hk : 1 ≤ k) (hn : 3 ≤ p * k) : Ob.H p (k - 1) ∧ Ob.H p (p - 1) := by
  have h1 := h.H (by omega) hp.1 (Nat.dvd_mul_right p k)
  have h2 := hp.H (by omega) h1
  refine ⟨(h2.mul hp.1 k).sub ?_, h2⟩
  have : (p - 1) * k + (k - 1) = p * k - 1 := by
    obtain ⟨q, rfl⟩ : ∃ q, p = q + 1 := ⟨p - 1, by have := hp.1; omega⟩
    rw [Nat.add_mul]; simp; omega
  rw [this]; exact h1
def sml : List Nat := [2, 3, 5, 7, 11, 13, 17, 19, 23, 29, 31, 37, 41, 43, 47, 53, 59, 61, 67, 71, 73, 79, 83, 89, 97, 101, 103, 107, 109, 113, 127, 131, 137, 139, 149, 151, 157, 163, 167, 173, 179, 181, 191, 193, 197, 199, 211, 223, 227, 229, 233, 239, 241, 251]
theorem sml_all : ∀ d, d < 256 → 2 ≤ d → ∃ r, r ∈ sml ∧ r ∣ d ∧ 2 ≤ r ∧ r < 256 := by decide +kernel
theorem Pr.small {r : Nat} (hr : Pr r) (h : r < 256) : r ∈ sml := by
  obtain ⟨s, h1, h2, h3, h4⟩ := sml_all r h hr.1
  by_cases e : s = r
  · exact e ▸ h1
  · have := Nat.le_of_dvd (by have := hr.1; omega) h2
    exact absurd h2 (hr.2 s h3 (by omega))
theorem sml_lt : ∀ r ∈ sml, 2 ≤ r ∧ r < 256 := by decide +kernel
theorem no_small {u : Nat} (h2 : 2 ≤ u) (hu : u < 65536) (h : ∀ r ∈ sml, ¬ r ∣ u) : Pr u := by
  refine ⟨h2, fun d h3 h4 hd => ?_⟩
  obtain ⟨e, he⟩ := hd
  have key : ∀ a, 2 ≤ a → a ∣ u → 256 ≤ a := fun a ha hau => by
    apply Classical.byContradiction
    intro hlt
    obtain ⟨s, s1, s2, _, _⟩ := sml_all a (by omega) ha
    exact h s s1 (Nat.dvd_trans s2 hau)
  have h5 := key d h3 ⟨e, he⟩
  have h6 : 2 ≤ e := by
    rcases e with _ | _ | e
    · omega
    · omega
    · omega
  have h7 := key e h6 ⟨d, by rw [he, Nat.mul_comm]⟩
  have := Nat.mul_le_mul h5 h7
  omega
end Ob
namespace Ob
set_option linter.unusedVariables false
def force {α : Type} (n : Nat) (f : Nat → α) : α := match n with
  | 0 => f 0
  | m + 1 => f (Nat.succ m)
theorem force_eq {α : Type} (n : Nat) (f : Nat → α) : force n f = f n := by cases n <;> rfl
def pwb (b p x : Nat) : Nat := Nat.mod (Nat.mul (Nat.pow (Nat.mod (Nat.pow b (Nat.div x (nat_lit 256))) p) (nat_lit 256)) (Nat.pow b (Nat.mod x (nat_lit 256)))) p
theorem pwb_eq (b p x : Nat) : pwb b p x = b ^ x % p := by
  show (b ^ (x / 256) % p) ^ 256 * b ^ (x % 256) % p = b ^ x % p
  rw [Nat.mul_mod, ← Nat.pow_mod, ← Nat.mul_mod, ← Nat.pow_mul, ← Nat.pow_add]
  congr 2
  omega
def inH (p x : Nat) : Bool := Nat.beq (pwb (nat_lit 2) p x) (nat_lit 1) && (Nat.beq (pwb (nat_lit 7) p x) (nat_lit 1) && Nat.beq (pwb (nat_lit 61) p x) (nat_lit 1))
theorem inH_iff {p x : Nat} : inH p x = true ↔ H p x := by
  simp only [inH, Bool.and_eq_true, Nat.beq_eq, pwb_eq]
  exact Iff.rfl
def strip (p r : Nat) : Nat → Nat → Nat
  | 0, M => M
  | f + 1, M => match Nat.beq (Nat.mod M r) (nat_lit 0) && inH p (Nat.div M r) with
    | true => strip p r f (Nat.div M r)
    | false => M
def stripAll (p : Nat) : List Nat → Nat → Nat
  | [], M => M
  | r :: l, M => match Nat.beq (Nat.mod M r) (nat_lit 0) with
    | true => force (strip p r 16 M) fun M => stripAll p l M
    | false => stripAll p l M
def dv (s : Nat) : Nat → Nat → Nat
  | 0, M => M
  | f + 1, M => match Nat.beq (Nat.mod M s) (nat_lit 0) with
    | true => dv s f (Nat.div M s)
    | false => M
def cof : List Nat → Nat → Nat
  | [], M => M
  | s :: l, M => match Nat.beq (Nat.mod M s) (nat_lit 0) with
    | true => force (dv s 16 M) fun M => cof l M
    | false => cof l M
theorem div_dvd {M s : Nat} (h : M % s = 0) : M = s * (M / s) := by
  have := Nat.div_add_mod M s; omega
theorem dv_dvd (s : Nat) : ∀ f M, dv s f M ∣ M
  | 0, M => Nat.dvd_refl _
  | f + 1, M => by
    unfold dv
    split
    · rename_i h
      have h' : M % s = 0 := Nat.eq_of_beq_eq_true h
      exact Nat.dvd_trans (dv_dvd s f _) ⟨s, by rw [Nat.mul_comm]; exact div_dvd h'⟩
    · exact Nat.dvd_refl _
theorem cof_dvd : ∀ l M, cof l M ∣ M
  | [], M => Nat.dvd_refl _
  | s :: l, M => by
    unfold cof
    split
    · rw [force_eq]
      exact Nat.dvd_trans (cof_dvd l _) (dv_dvd s 16 M)
    · exact cof_dvd l M
theorem dvd_dv {r s : Nat} (hr : Pr r) (hs : ¬ r ∣ s) : ∀ f M, r ∣ M → r ∣ dv s f M
  | 0, M, h => h
  | f + 1, M, h => by
    unfold dv
    split
    · rename_i h1
      have h' : M % s = 0 := Nat.eq_of_beq_eq_true h1
      refine dvd_dv hr hs f _ ?_
      rw [div_dvd h'] at h
      rcases hr.mul h with h2 | h2
      · exact absurd h2 hs
      · exact h2
    · exact h
theorem dvd_cof {r : Nat} (hr : Pr r) : ∀ l M, (∀ s ∈ l, ¬ r ∣ s) → r ∣ M → r ∣ cof l M
  | [], M, _, h => h
  | s :: l, M, hl, h => by
    unfold cof
    split
    · rw [force_eq]
      exact dvd_cof hr l _ (fun x hx => hl x (List.mem_cons_of_mem _ hx)) (dvd_dv hr (hl s (List.mem_cons_self ..)) 16 M h)
    · exact dvd_cof hr l _ (fun x hx => hl x (List.mem_cons_of_mem _ hx)) h
def okMin (p M : Nat) : List Nat → Bool
  | [] => true
  | r :: l => match Nat.beq (Nat.mod M r) (nat_lit 0) with
    | true => (not (inH p (Nat.div M r))) && okMin p M l
    | false => okMin p M l
theorem okMin_ok {p M : Nat} : ∀ l, okMin p M l = true → ∀ r ∈ l, r ∣ M → ¬ H p (M / r)
  | [], _, r, h, _ => by cases h
  | s :: l, h, r, hr, hd => by
    unfold okMin at h
    rw [List.mem_cons] at hr
    split at h
    · rw [Bool.and_eq_true] at h
      rcases hr with rfl | hr
      · intro hH
        have := inH_iff.2 hH
        have h1 := h.1
        change (!inH p (M / r)) = true at h1
        rw [this] at h1; cases h1
      · exact okMin_ok l h.2 r hr hd
    · rename_i hb
      rcases hr with rfl | hr
      · exfalso
        have : M % r = 0 := Nat.mod_eq_zero_of_dvd hd
        rw [show Nat.mod M r = 0 from this] at hb
        cases hb
      · exact okMin_ok l h r hr hd
def noSm (u : Nat) : List Nat → Bool
  | [] => true
  | r :: l => match Nat.beq (Nat.mod u r) (nat_lit 0) with
    | true => false
    | false => noSm u l
theorem noSm_iff {u : Nat} : ∀ l, noSm u l = true ↔ ∀ r ∈ l, ¬ r ∣ u
  | [] => by simp [noSm]
  | s :: l => by
    unfold noSm
    split
    · rename_i hb
      have h' : u % s = 0 := Nat.eq_of_beq_eq_true hb
      constructor
      · intro h; cases h
      · intro h; exact absurd (Nat.dvd_of_mod_eq_zero h') (h s (List.mem_cons_self ..))
    · rename_i hb
      rw [noSm_iff l]
      constructor
      · intro h r hr
        rw [List.mem_cons] at hr
        rcases hr with rfl | hr
        · intro hd
          rw [show Nat.mod u r = 0 from Nat.mod_eq_zero_of_dvd hd] at hb
          cases hb
        · exact h r hr
      · intro h r hr; exact h r (List.mem_cons_of_mem _ hr)
def okU (p M u : Nat) : Bool := Nat.beq u (nat_lit 1) || (noSm u sml && not (inH p (Nat.div M u)))
def okL (p M : Nat) : Bool := Nat.ble (nat_lit 1) M && (Nat.ble M (nat_lit 65535) && (inH p M && (okMin p M sml && force (cof sml M) (okU p M))))
theorem okL_ok {p M : Nat} (hp : 2 ≤ p) (h : okL p M = true) : 1 ≤ M ∧ ∀ x, H p x → M ∣ x := by
  simp only [okL, Bool.and_eq_true, Nat.ble_eq, force_eq] at h
  obtain ⟨h1, h2, h3, h4, h5⟩ := h
  refine ⟨h1, fun x hx => H.least hp h1 (inH_iff.1 h3) ?_ hx⟩
  intro r hr hd hH
  by_cases hs : r < 256
  · exact okMin_ok sml h4 r (hr.small hs) hd hH
  · have hu : r ∣ cof sml M := dvd_cof hr sml M (fun s hs' hd' => by
      have := sml_lt s hs'
      have := Nat.le_of_dvd (by omega) hd'
      omega) hd
    have hM := Nat.le_of_dvd (by omega) (cof_dvd sml M)
    have h0 : cof sml M ≠ 0 := fun h0 => by
      have := cof_dvd sml M; rw [h0] at this; have := Nat.eq_zero_of_zero_dvd this; omega
    have hle := Nat.le_of_dvd (by omega) hu
    have hr2 := hr.1
    simp only [okU, Bool.or_eq_true, Nat.beq_eq, Bool.and_eq_true] at h5
    rcases h5 with h5 | ⟨h5, h6⟩
    · have h5' : cof sml M = 1 := h5
      omega
    · have hpu := no_small (by omega) (Nat.lt_of_le_of_lt hM (Nat.lt_of_le_of_lt h2 (by decide))) ((noSm_iff sml).1 h5)
      have e : r = cof sml M := by
        apply Classical.byContradiction
        intro hne
        exact hpu.2 r hr2 (by omega) hu
      have h7 : (!inH p (M / cof sml M)) = true := h6
      rw [← e, inH_iff.2 hH] at h7
      cases h7
def Lof (p : Nat) : Nat := force (Nat.sub p (nat_lit 1)) fun q => force (stripAll p sml q) fun M => force (cof sml q) fun u => match Nat.beq u (nat_lit 1) with | true => M | false => strip p u 2 M
/-! Powers of 2, by 8 bits at once. -/
def stp (n x b : Nat) : Nat := Nat.mod (Nat.mul (Nat.pow x (nat_lit 256)) (Nat.pow (nat_lit 2) b)) n
def pw (n e : Nat) : Nat := stp n (stp n (stp n (Nat.mod (Nat.pow (nat_lit 2) (Nat.div e (nat_lit 16777216))) n) (Nat.mod (Nat.div e (nat_lit 65536)) (nat_lit 256))) (Nat.mod (Nat.div e (nat_lit 256)) (nat_lit 256))) (Nat.mod e (nat_lit 256))
theorem stp_eq {n x a b : Nat} (h : x = 2 ^ a % n) : stp n x b = 2 ^ (a * 256 + b) % n := by
  show x ^ 256 * 2 ^ b % n = _
  rw [h, Nat.mul_mod, ← Nat.pow_mod, ← Nat.mul_mod, ← Nat.pow_mul, ← Nat.pow_add]
theorem pw_eq (n e : Nat) : pw n e = 2 ^ e % n := by
  unfold pw
  have h1 : Nat.mod (Nat.pow (nat_lit 2) (Nat.div e (nat_lit 16777216))) n = 2 ^ (e / 16777216) % n := rfl
  rw [stp_eq (stp_eq (stp_eq h1))]
  congr 2
  show ((e / 16777216 * 256 + e / 65536 % 256) * 256 + e / 256 % 256) * 256 + e % 256 = e
  omega
/-! The strong test, as a calculation. -/
def pq (n : Nat) : Nat → Nat → Nat → Nat → Nat
  | 0, _, _, r => r
  | f + 1, a, e, r => match Nat.beq e (nat_lit 0) with
    | true => r
    | false => match Nat.beq (Nat.mod e (nat_lit 2)) (nat_lit 1) with
      | true => pq n f (Nat.mod (Nat.mul a a) n) (Nat.div e (nat_lit 2)) (Nat.mod (Nat.mul r a) n)
      | false => pq n f (Nat.mod (Nat.mul a a) n) (Nat.div e (nat_lit 2)) r
theorem pq_eq (n : Nat) : ∀ (f a e r : Nat), e < 2 ^ f → pq n f a e r % n = r * a ^ e % n
  | 0, a, e, r, h => by
    obtain rfl : e = 0 := by simpa using h
    simp [pq]
  | f + 1, a, e, r, h => by
    have h2 : e / 2 < 2 ^ f := by rw [Nat.pow_succ] at h; omega
    have hsq : (a * a % n) ^ (e / 2) % n = (a * a) ^ (e / 2) % n := by rw [← Nat.pow_mod]
    unfold pq
    split
    · rename_i hb
      obtain rfl : e = 0 := Nat.eq_of_beq_eq_true hb
      simp
    · split
      · rename_i hb
        have ho : e % 2 = 1 := Nat.eq_of_beq_eq_true hb
        show pq n f (a * a % n) (e / 2) (r * a % n) % n = _
        rw [pq_eq n f _ _ _ h2, Nat.mul_mod, hsq, Nat.mod_mod, ← Nat.mul_mod, Nat.mul_assoc]
        congr 2
        rw [← Nat.pow_two, ← Nat.pow_mul, Nat.mul_comm a, ← Nat.pow_succ]
        congr 1
        omega
      · rename_i hb
        have ho : e % 2 = 0 := by
          rcases Nat.mod_two_eq_zero_or_one e with h0 | h0
          · exact h0
          · rw [show Nat.mod e 2 = 1 from h0] at hb; cases hb
        show pq n f (a * a % n) (e / 2) r % n = _
        rw [pq_eq n f _ _ _ h2, Nat.mul_mod, hsq, ← Nat.mul_mod]
        congr 2
        rw [← Nat.pow_two, ← Nat.pow_mul, show 2 * (e / 2) = e by omega]
def spl (n : Nat) : Nat → Nat → Bool
  | 0, _ => false
  | t + 1, x => Nat.beq x (Nat.sub n (nat_lit 1)) || spl n t (Nat.mod (Nat.mul x x) n)
theorem spl_ok {n b o : Nat} : ∀ (t j : Nat), (∃ i, j ≤ i ∧ i < j + t ∧ b ^ (o * 2 ^ i) % n = n - 1) → spl n t (b ^ (o * 2 ^ j) % n) = true
  | 0, j, ⟨i, h1, h2, _⟩ => by omega
  | t + 1, j, ⟨i, h1, h2, h3⟩ => by
    unfold spl
    rw [Bool.or_eq_true]
    by_cases e : i = j
    · left; rw [Nat.beq_eq, ← e]; exact h3
    · right
      show spl n t ((b ^ (o * 2 ^ j) % n) * (b ^ (o * 2 ^ j) % n) % n) = true
      rw [sq_step]
      exact spl_ok t (j + 1) ⟨i, by omega, by omega, h3⟩
def spE (n t x : Nat) : Bool := Nat.beq x (nat_lit 1) || spl n t x
def spGo (n b : Nat) : Nat → Nat → Nat → Bool
  | 0, _, _ => true
  | f + 1, o, t => match Nat.beq (Nat.mod o (nat_lit 2)) (nat_lit 0) with
    | true => spGo n b f (Nat.div o (nat_lit 2)) (Nat.succ t)
    | false => spE n t (Nat.mod (pq n 40 b o (nat_lit 1)) n)
theorem spGo_ok {n b : Nat} (hs : SP n b) (hn : n < 4294967296) : ∀ (f o t : Nat), n - 1 = o * 2 ^ t → spGo n b f o t = true
  | 0, _, _, _ => rfl
  | f + 1, o, t, h => by
    unfold spGo
    split
    · rename_i hb
      have h0 : o % 2 = 0 := Nat.eq_of_beq_eq_true hb
      refine spGo_ok hs hn f _ _ ?_
      show n - 1 = o / 2 * 2 ^ (t + 1)
      rw [h, Nat.pow_succ, Nat.mul_comm (2 ^ t) 2, ← Nat.mul_assoc]
      congr 1; omega
    · rename_i hb
      have ho : o % 2 = 1 := by
        rcases Nat.mod_two_eq_zero_or_one o with h0 | h0
        · rw [show Nat.mod o 2 = 0 from h0] at hb; cases hb
        · exact h0
      have h1 := (SP.iff h ho).1 hs
      have hle : o * 1 ≤ o * 2 ^ t := Nat.mul_le_mul_left o (Nat.two_pow_pos t)
      have e : Nat.mod (pq n 40 b o (nat_lit 1)) n = b ^ o % n := by
        have := pq_eq n 40 b o 1 (by omega)
        rw [Nat.one_mul] at this
        exact this
      rw [e]
      unfold spE
      rw [Bool.or_eq_true]
      rcases h1 with h1 | ⟨i, h2, h3⟩
      · left; rw [Nat.beq_eq]; exact h1
      · right
        have := spl_ok (n := n) (b := b) (o := o) t 0 ⟨i, by omega, by omega, h3⟩
        simpa using this
def bad (n : Nat) : Bool := match Nat.beq (pw n (Nat.sub n (nat_lit 1))) (nat_lit 1) with
  | false => true
  | true => not (spGo n (nat_lit 2) 40 (Nat.sub n (nat_lit 1)) (nat_lit 0) && (spGo n (nat_lit 7) 40 (Nat.sub n (nat_lit 1)) (nat_lit 0) && spGo n (nat_lit 61) 40 (Nat.sub n (nat_lit 1)) (nat_lit 0)))
theorem bad_ok {n : Nat} (h2 : 2 ≤ n) (hn : n < 4294967296) (hb : bad n = true) : ¬ Pass n := by
  rintro ⟨a, b, c⟩
  have e0 : n - 1 = (n - 1) * 2 ^ 0 := by simp
  have ea := spGo_ok a hn 40 (n - 1) 0 e0
  have eb := spGo_ok b hn 40 (n - 1) 0 e0
  have ec := spGo_ok c hn 40 (n - 1) 0 e0
  have e : Nat.beq (pw n (Nat.sub n (nat_lit 1))) (nat_lit 1) = true := by
    rw [Nat.beq_eq, pw_eq]; exact a.fermat h2
  unfold bad at hb
  rw [e] at hb
  change (!(spGo n 2 40 (n - 1) 0 && (spGo n 7 40 (n - 1) 0 && spGo n 61 40 (n - 1) 0))) = true at hb
  rw [ea, eb, ec] at hb
  cases hb
def en (D : Nat) : Nat → Nat → Bool
  | 0, _ => true
  | f + 1, n => bad n && en D f (Nat.add n D)
theorem en_ok {D : Nat} : ∀ f n, en D f n = true → ∀ j, j < f → bad (n + j * D) = true
  | 0, n, _, j, h => by omega
  | f + 1, n, h, j, hj => by
    unfold en at h
    rw [Bool.and_eq_true] at h
    rcases j with _ | j
    · simpa using h.1
    · have := en_ok f _ h.2 j (by omega)
      change bad (n + D + j * D) = true at this
      rw [Nat.add_mul, Nat.one_mul, Nat.add_comm (j * D) D, ← Nat.add_assoc]
      exact this
/-! Primes from 1024 to 65535: the cofactors are 1 modulo the exponent. -/
def b1c (p M : Nat) : Bool := okL p M && force (Nat.mul p M) fun D => en D (Nat.div (Nat.div (nat_lit 4294967295) p) M) (Nat.mul p (Nat.succ M))
def b1 (p : Nat) : Bool := match noSm p sml with
  | false => true
  | true => force (Lof p) (b1c p)
def lb1 : Nat → Nat → Bool
  | 0, _ => true
  | f + 1, p => force p fun p => b1 p && lb1 f (Nat.add p (nat_lit 2))
theorem b1_ok {p k : Nat} (hp : Pr p) (h1 : 256 ≤ p) (hb : b1 p = true) (hk : 2 ≤ k) (hn : p * k < 4294967296) : ¬ Pass (p * k) := by
  intro hpass
  have hp2 := hp.1
  have h4 : 3 ≤ p * k := by
    have := Nat.mul_le_mul h1 hk; omega
  unfold b1 at hb
  have hno : noSm p sml = true := (noSm_iff sml).2 fun r hr hd => by
    have := sml_lt r hr
    exact hp.2 r (by omega) (by omega) hd
  rw [hno] at hb
  change force (Lof p) (b1c p) = true at hb
  rw [force_eq] at hb
  generalize Lof p = M at hb
  unfold b1c at hb
  rw [Bool.and_eq_true, force_eq] at hb
  obtain ⟨hM1, hM⟩ := okL_ok hp2 hb.1
  obtain ⟨hc, _⟩ := hpass.cofactor hp (by omega) h4
  obtain ⟨j, hj⟩ := hM _ hc
  have hj0 : j ≠ 0 := fun h => by rw [h] at hj; omega
  obtain ⟨i, rfl⟩ : ∃ i, j = i + 1 := ⟨j - 1, by omega⟩
  have hke : k = M * (i + 1) + 1 := by omega
  have hJ : i < 4294967295 / p / M := by
    rw [Nat.lt_iff_add_one_le, Nat.le_div_iff_mul_le (by omega), Nat.le_div_iff_mul_le (by omega)]
    have h5 : (i + 1) * M * p ≤ k * p := Nat.mul_le_mul_right p (by rw [Nat.mul_comm]; omega)
    rw [Nat.mul_comm k p] at h5
    omega
  have hbad := en_ok _ _ hb.2 i hJ
  have e : Nat.mul p (Nat.succ M) + i * Nat.mul p M = p * k := by
    show p * (M + 1) + i * (p * M) = p * k
    rw [hke, Nat.mul_left_comm i p M, ← Nat.mul_add]
    congr 1
    rw [Nat.mul_add M, Nat.mul_comm i M]; omega
  rw [e] at hbad
  exact bad_ok (by omega) hn hbad hpass
theorem lb1_ok : ∀ f p, lb1 f p = true → ∀ j, j < f → b1 (p + j * 2) = true
  | 0, p, _, j, h => by omega
  | f + 1, p, h, j, hj => by
    unfold lb1 at h
    rw [force_eq, Bool.and_eq_true] at h
    rcases j with _ | j
    · simpa using h.1
    · have := lb1_ok f _ h.2 j (by omega)
      change b1 (p + 2 + j * 2) = true at this
      rw [show p + (j + 1) * 2 = p + 2 + j * 2 by omega]
      exact this
end Ob
namespace Ob
set_option linter.unusedVariables false
def prr : Nat → Nat → Nat
  | 0, a => a
  | f + 1, a => Nat.mul (prr f a) (prr f (Nat.add a (Nat.pow (nat_lit 2) f)))
theorem dvd_prr : ∀ f a x, a ≤ x → x < a + 2 ^ f → x ∣ prr f a
  | 0, a, x, h1, h2 => by
    obtain rfl : x = a := by simp at h2; omega
    exact Nat.dvd_refl _
  | f + 1, a, x, h1, h2 => by
    unfold prr
    by_cases h : x < a + 2 ^ f
    · exact Nat.dvd_trans (dvd_prr f a x h1 h) (Nat.dvd_mul_right _ _)
    · refine Nat.dvd_trans (dvd_prr f (a + 2 ^ f) x (by omega) ?_) (Nat.dvd_mul_left _ _)
      rw [Nat.pow_succ] at h2; omega
theorem not_dvd_prr {q : Nat} (hq : Pr q) : ∀ f a, 1 ≤ a → a + 2 ^ f ≤ q → ¬ q ∣ prr f a
  | 0, a, h1, h2, h => by
    change q ∣ a at h
    have := Nat.le_of_dvd (by omega) h
    simp at h2; omega
  | f + 1, a, h1, h2, h => by
    unfold prr at h
    have hp := Nat.two_pow_pos f
    rw [Nat.pow_succ] at h2
    rcases hq.mul h with h | h
    · exact not_dvd_prr hq f a h1 (by omega) h
    · exact not_dvd_prr hq f (a + 2 ^ f) (by omega) (by omega) h
def PP : Nat := prr 16 (nat_lit 1)
theorem dvd_PP {x : Nat} (h1 : 1 ≤ x) (h2 : x ≤ 65536) : x ∣ PP := by
  unfold PP
  exact dvd_prr 16 (nat_lit 1) x h1 (by show x < 1 + 2 ^ 16; omega)
theorem not_dvd_PP {q : Nat} (hq : Pr q) (h : 65537 ≤ q) : ¬ q ∣ PP := by
  unfold PP
  exact not_dvd_prr hq 16 (nat_lit 1) (Nat.le_refl _) (by show 1 + 2 ^ 16 ≤ q; omega)
def stripP : Nat → Nat → Nat
  | 0, g => g
  | f + 1, g => force g fun g => force (Nat.gcd (Nat.mod PP g) g) fun h => match Nat.beq h (nat_lit 1) with
    | true => g
    | false => stripP f (Nat.div g h)
theorem dvd_stripP {q : Nat} (hq : Pr q) (hP : ¬ q ∣ PP) : ∀ f g, q ∣ g → q ∣ stripP f g
  | 0, g, h => h
  | f + 1, g, h => by
    unfold stripP
    rw [force_eq, force_eq]
    split
    · exact h
    · refine dvd_stripP hq hP f _ ?_
      show q ∣ g / Nat.gcd (PP % g) g
      have h1 : Nat.gcd (PP % g) g ∣ g := Nat.gcd_dvd_right _ _
      have h2 : ¬ q ∣ Nat.gcd (PP % g) g := fun hd => by
        have h3 : q ∣ PP % g := Nat.dvd_trans hd (Nat.gcd_dvd_left _ _)
        exact hP ((Nat.dvd_mod_iff h).1 h3)
      obtain ⟨c, hc⟩ := h1
      have h4 : q ∣ c := by
        have h' := h
        rw [hc] at h'
        rcases hq.mul h' with h5 | h5
        · exact absurd h5 h2
        · exact h5
      by_cases h0 : Nat.gcd (PP % g) g = 0
      · rw [h0, Nat.div_zero]; exact Nat.dvd_zero q
      · have : g / Nat.gcd (PP % g) g = c := by
          conv => lhs; arg 1; rw [hc]
          exact Nat.mul_div_cancel_left _ (by omega)
        rw [this]; exact h4
def ga (m : Nat) : Nat := Nat.gcd (Nat.gcd (Nat.sub (Nat.pow (nat_lit 2) m) (nat_lit 1)) (Nat.sub (Nat.pow (nat_lit 7) m) (nat_lit 1))) (Nat.sub (Nat.pow (nat_lit 61) m) (nat_lit 1))
theorem dvd_sub_one {q x : Nat} (hq : 2 ≤ q) (h : x % q = 1) : q ∣ x - 1 := by
  refine ⟨x / q, ?_⟩
  have := Nat.div_add_mod x q; omega
theorem dvd_ga {q m : Nat} (hq : 2 ≤ q) (h : H q m) : q ∣ ga m :=
  Nat.dvd_gcd (Nat.dvd_gcd (dvd_sub_one hq h.1) (dvd_sub_one hq h.2.1)) (dvd_sub_one hq h.2.2)
def lpA (k R : Nat) : Nat → Nat → Bool
  | 0, _ => true
  | f + 1, q => force q fun q => (not (Nat.beq (Nat.mod R q) (nat_lit 0)) || bad (Nat.mul q k)) && lpA k R f (Nat.add q (nat_lit 2))
theorem lpA_ok {k R : Nat} : ∀ f q, lpA k R f q = true → ∀ j, j < f → (q + j * 2) ∣ R → bad ((q + j * 2) * k) = true
  | 0, q, _, j, h, _ => by omega
  | f + 1, q, h, j, hj, hd => by
    unfold lpA at h
    rw [force_eq, Bool.and_eq_true, Bool.or_eq_true] at h
    rcases j with _ | j
    · simp only [Nat.zero_mul, Nat.add_zero] at hd ⊢
      rcases h.1 with h1 | h1
      · rw [show Nat.mod R q = 0 from Nat.mod_eq_zero_of_dvd hd] at h1
        cases h1
      · exact h1
    · rw [show q + (j + 1) * 2 = q + 2 + j * 2 by omega] at hd ⊢
      exact lpA_ok f _ h.2 j (by omega) hd
def chA (k R : Nat) : Bool := Nat.beq R (nat_lit 1) || (match Nat.ble R (nat_lit 4294967295) with
  | true => Nat.beq (Nat.gcd (Nat.mod PP R) R) (nat_lit 1) && (Nat.ble (nat_lit 4294967296) (Nat.mul R k) || bad (Nat.mul R k))
  | false => lpA k R (Nat.div (Nat.div (nat_lit 4294967295) k) (nat_lit 2)) (nat_lit 65537))
def chk (k : Nat) : Bool := force (stripP 24 (ga (Nat.sub k (nat_lit 1)))) (chA k)
theorem chk_ok {q k : Nat} (hq : Pr q) (h1 : 65537 ≤ q) (hodd : q % 2 = 1) (hk : 3 ≤ k) (hn : q * k < 4294967296) (hc : chk k = true) : ¬ Pass (q * k) := by
  intro hpass
  have hq2 := hq.1
  have h9 : 3 ≤ q * k := by have := Nat.mul_le_mul h1 hk; omega
  obtain ⟨hH, -⟩ := hpass.cofactor hq (by omega) h9
  have hP : ¬ q ∣ PP := not_dvd_PP hq h1
  have hg := dvd_stripP hq hP 24 _ (dvd_ga hq2 hH)
  unfold chk at hc
  rw [force_eq] at hc
  change chA k (stripP 24 (ga (k - 1))) = true at hc
  generalize stripP 24 (ga (k - 1)) = R at hg hc
  unfold chA at hc
  rw [Bool.or_eq_true] at hc
  rcases hc with hc | hc
  · have hc : R = 1 := Nat.eq_of_beq_eq_true hc
    rw [hc] at hg
    have := Nat.le_of_dvd (by omega) hg; omega
  · split at hc
    · rename_i hR
      have hR : R ≤ 4294967295 := Nat.le_of_ble_eq_true hR
      rw [Bool.and_eq_true, Bool.or_eq_true] at hc
      have hg1 : Nat.gcd (PP % R) R = 1 := Nat.eq_of_beq_eq_true hc.1
      obtain ⟨s, hs⟩ := hg
      have hR0 : R ≠ 0 := fun h => by
        rw [h] at hg1
        simp at hg1
        have hd : (2 : Nat) ∣ PP := dvd_PP (by omega) (by omega)
        rw [hg1] at hd
        omega
      have hs0 : s ≠ 0 := fun h => by rw [h] at hs; omega
      have hs1 : s < 65536 := by
        apply Classical.byContradiction
        intro h
        have := Nat.mul_le_mul h1 (show 65536 ≤ s by omega)
        omega
      have hsP : s ∣ PP := dvd_PP (by omega) (by omega)
      have hsR : s ∣ R := ⟨q, by rw [hs, Nat.mul_comm]⟩
      have : s ∣ 1 := by
        rw [← hg1]; exact Nat.dvd_gcd ((Nat.dvd_mod_iff hsR).2 hsP) hsR
      have : s = 1 := Nat.dvd_one.1 this
      rw [this, Nat.mul_one] at hs
      rcases hc.2 with h5 | h5
      · have h5 : 4294967296 ≤ R * k := Nat.le_of_ble_eq_true h5
        rw [hs] at h5; omega
      · have h5 : bad (R * k) = true := h5
        rw [hs] at h5
        exact bad_ok (by omega) hn h5 hpass
    · change lpA k R (4294967295 / k / 2) 65537 = true at hc
      have hle : q ≤ 4294967295 / k := by
        rw [Nat.le_div_iff_mul_le (by omega)]; omega
      have e : q = 65537 + (q - 65537) / 2 * 2 := by omega
      have hb := lpA_ok _ _ hc ((q - 65537) / 2) (by omega) (by rw [← e]; exact hg)
      rw [← e] at hb
      exact bad_ok (by omega) hn hb hpass
end Ob
namespace Ob
set_option linter.unusedVariables false
def tab : List (Nat × Nat) := [(1021, 1020), (1019, 1018), (1013, 1012), (1009, 1008), (997, 996), (991, 990), (983, 982), (977, 488), (971, 970), (967, 966), (953, 952), (947, 946), (941, 940), (937, 936), (929, 928), (919, 918), (911, 182), (907, 906), (887, 886), (883, 882), (881, 880), (877, 876), (863, 862), (859, 858), (857, 856), (853, 852), (839, 419), (829, 828), (827, 826), (823, 822), (821, 820), (811, 810), (809, 404), (797, 796), (787, 786), (773, 772), (769, 768), (761, 760), (757, 756), (751, 750), (743, 742), (739, 738), (733, 732), (727, 363), (719, 359), (709, 708), (701, 700), (691, 690), (683, 682), (677, 676), (673, 672), (661, 660), (659, 658), (653, 652), (647, 646), (643, 642), (641, 640), (631, 630), (619, 618), (617, 616), (613, 612), (607, 303), (601, 600), (599, 598), (593, 592), (587, 586), (577, 576), (571, 570), (569, 284), (563, 562), (557, 556), (547, 546), (541, 540), (523, 522), (521, 520), (509, 508), (503, 251), (499, 498), (491, 490), (487, 486), (479, 239), (467, 466), (463, 462), (461, 460), (457, 456), (449, 224), (443, 442), (439, 73), (433, 432), (431, 430), (421, 420), (419, 418), (409, 408), (401, 400), (397, 396), (389, 388), (383, 382), (379, 378), (373, 372), (367, 183), (359, 358), (353, 352), (349, 348), (347, 346), (337, 336), (331, 330), (317, 316), (313, 312), (311, 310), (307, 306), (293, 292), (283, 282), (281, 280), (277, 276), (271, 135), (269, 268), (263, 262), (257, 256), (251, 250), (241, 240), (239, 238), (233, 232), (229, 228), (227, 226), (223, 222), (211, 210), (199, 99), (197, 196), (193, 192), (191, 190), (181, 180), (179, 178), (173, 172), (167, 83), (163, 162), (157, 156), (151, 150), (149, 148), (139, 138), (137, 68), (131, 130), (127, 126), (113, 56), (109, 108), (107, 106), (103, 51), (101, 100), (97, 96), (89, 88), (83, 82), (79, 78), (73, 72), (71, 70), (67, 66), (59, 58), (53, 52), (47, 23), (43, 42), (41, 40), (37, 36), (31, 30), (29, 28), (23, 22), (19, 18), (17, 16), (13, 12), (11, 10), (5, 4), (3, 2)]
def okTab : List (Nat × Nat) → Bool
  | [] => true
  | e :: t => okL e.1 e.2 && (Nat.ble (nat_lit 2) e.1 && okTab t)
theorem okTab_ok : ∀ l, okTab l = true → ∀ e ∈ l, okL e.1 e.2 = true ∧ 2 ≤ e.1
  | [], _, e, h => by cases h
  | a :: t, h, e, he => by
    unfold okTab at h
    simp only [Bool.and_eq_true] at h
    rw [List.mem_cons] at he
    rcases he with rfl | he
    · exact ⟨h.1, Nat.le_of_ble_eq_true h.2.1⟩
    · exact okTab_ok t h.2.2 e he
def anyDiv (d : Nat) : List Nat → Bool
  | [] => false
  | r :: l => (Nat.blt r d && Nat.beq (Nat.mod d r) (nat_lit 0)) || anyDiv d l
theorem anyDiv_ok {d : Nat} : ∀ l, anyDiv d l = true → ∃ r ∈ l, r < d ∧ r ∣ d
  | [], h => by cases h
  | a :: l, h => by
    unfold anyDiv at h
    rw [Bool.or_eq_true, Bool.and_eq_true] at h
    rcases h with ⟨h1, h2⟩ | h
    · exact ⟨a, List.mem_cons_self .., by simpa using h1, Nat.dvd_of_mod_eq_zero (Nat.eq_of_beq_eq_true h2)⟩
    · obtain ⟨r, h1, h2⟩ := anyDiv_ok l h
      exact ⟨r, List.mem_cons_of_mem _ h1, h2⟩
def inTab (d : Nat) : List (Nat × Nat) → Bool
  | [] => false
  | e :: t => Nat.beq d e.1 || inTab d t
theorem inTab_ok {d : Nat} : ∀ l, inTab d l = true → d ∈ l.map Prod.fst
  | [], h => by cases h
  | e :: t, h => by
    unfold inTab at h
    rw [Bool.or_eq_true] at h
    rw [List.map_cons, List.mem_cons]
    rcases h with h | h
    · exact .inl (Nat.eq_of_beq_eq_true h)
    · exact .inr (inTab_ok t h)
def cov : Nat → Nat → Bool
  | 0, _ => true
  | f + 1, d => (anyDiv d sml || inTab d tab || Nat.beq d (nat_lit 7) || Nat.beq d (nat_lit 61)) && cov f (Nat.add d (nat_lit 2))
theorem cov_ok : ∀ f d, cov f d = true → ∀ j, j < f → anyDiv (d + j * 2) sml = true ∨ inTab (d + j * 2) tab = true ∨ d + j * 2 = 7 ∨ d + j * 2 = 61
  | 0, d, _, j, h => by omega
  | f + 1, d, h, j, hj => by
    unfold cov at h
    simp only [Bool.and_eq_true, Bool.or_eq_true] at h
    rcases j with _ | j
    · simp only [Nat.zero_mul, Nat.add_zero]
      rcases h.1 with ((h1 | h1) | h1) | h1
      · exact .inl h1
      · exact .inr (.inl h1)
      · exact .inr (.inr (.inl (Nat.eq_of_beq_eq_true h1)))
      · exact .inr (.inr (.inr (Nat.eq_of_beq_eq_true h1)))
    · rw [show d + (j + 1) * 2 = d + 2 + j * 2 by omega]
      exact cov_ok f _ h.2 j (by omega)
set_option maxRecDepth 100000 in
theorem tab_ok : ∀ e ∈ tab, okL e.1 e.2 = true ∧ 2 ≤ e.1 := okTab_ok tab (by decide +kernel)
set_option maxRecDepth 100000 in
theorem tab_cov : cov 511 3 = true := by decide +kernel
theorem tab_all {r : Nat} (hr : Pr r) (h1 : r < 1024) (h2 : r % 2 = 1) (h7 : r ≠ 7) (h61 : r ≠ 61) : r ∈ tab.map Prod.fst := by
  have hr2 := hr.1
  have e : r = 3 + (r - 3) / 2 * 2 := by omega
  have h := cov_ok 511 3 tab_cov ((r - 3) / 2) (by omega)
  rw [← e] at h
  rcases h with h | h | h | h
  · obtain ⟨s, h3, h4, h5⟩ := anyDiv_ok _ h
    exact absurd h5 (hr.2 s (sml_lt s h3).1 h4)
  · exact inTab_ok _ h
  · exact absurd h h7
  · exact absurd h h61
def inv (m : Nat) : Nat → Nat → Nat → Nat → Nat → Nat
  | 0, _, _, x, _ => x
  | f + 1, a, b, x, y => match Nat.beq b (nat_lit 0) with
    | true => x
    | false => force (Nat.mod a b) fun r => force (Nat.mod (Nat.add x (Nat.mul (Nat.div a b) (Nat.sub m y))) m) fun z => inv m f b r y z
def enu (d L B i : Nat) : Bool := Nat.beq (Nat.mod (Nat.mul d i) L) (Nat.mod (nat_lit 1) L) && force (Nat.mul d L) fun D => en D (Nat.succ (Nat.div B L)) (Nat.mul d (Nat.mod i L))
def br (S : Nat → Nat → List (Nat × Nat) → Bool) (z : Bool) (d L : Nat) : List (Nat × Nat) → Bool
  | [] => z
  | e :: t => (match Nat.ble (Nat.mul d e.1) (nat_lit 4294967295) with
    | false => true
    | true => force (Nat.mul d e.1) fun d' => force (Nat.lcm L e.2) fun L' => S d' L' (e :: t)) && br S z d L t
def sr : Nat → Nat → Nat → List (Nat × Nat) → Bool
  | 0, _, _, _ => false
  | f + 1, d, L, pl => match Nat.beq (Nat.gcd d L) (nat_lit 1) with
    | false => true
    | true => force (Nat.div (nat_lit 4294967295) d) fun B => match Nat.ble (Nat.div B L) (nat_lit 100) with
      | true => force (inv L 60 L (Nat.mod d L) (nat_lit 0) (nat_lit 1)) fun i => enu d L B i
      | false => br (sr f) (bad d && (Nat.ble (nat_lit 65536) d || chk d)) d L pl
theorem inv_mod {d L i c : Nat} (h1 : d * i % L = 1 % L) (h2 : d * c % L = 1 % L) : c % L = i % L := by
  have a : d * i * c % L = c % L := by rw [Nat.mul_mod, h1, ← Nat.mul_mod, Nat.one_mul]
  have b : d * i * c % L = i % L := by
    rw [Nat.mul_right_comm, Nat.mul_mod, h2, ← Nat.mul_mod, Nat.one_mul]
  rw [← a, b]
theorem one_of_dvd {L x : Nat} (hx : 1 ≤ x) (h : L ∣ x - 1) : x % L = 1 % L := by
  obtain ⟨k, hk⟩ := h
  have : x = 1 + L * k := by omega
  rw [this, Nat.add_mul_mod_self_left]
theorem enu_ok {d L B i c : Nat} (hd : 3 ≤ d) (hL : 1 ≤ L) (hB : B = 4294967295 / d) (h : enu d L B i = true) (hc : 1 ≤ c) (hn : d * c < 4294967296) (hp : Pass (d * c)) (hl : L ∣ d * c - 1) : False := by
  unfold enu at h
  rw [Bool.and_eq_true, force_eq] at h
  have h1 : d * i % L = 1 % L := Nat.eq_of_beq_eq_true h.1
  have h3 : 3 ≤ d * c := by have := Nat.mul_le_mul hd hc; omega
  have h2 := one_of_dvd (by omega) hl
  have h4 := inv_mod h1 h2
  have h5 : c / L < B / L + 1 := by
    have : c ≤ B := by rw [hB, Nat.le_div_iff_mul_le (by omega), Nat.mul_comm]; omega
    have := Nat.div_le_div_right (c := L) this
    omega
  have h6 := en_ok _ _ h.2 (c / L) h5
  have e : Nat.mul d (Nat.mod i L) + c / L * Nat.mul d L = d * c := by
    show d * (i % L) + c / L * (d * L) = d * c
    rw [← h4, Nat.mul_left_comm, ← Nat.mul_add]
    congr 1
    have := Nat.div_add_mod c L
    rw [Nat.mul_comm] at this
    omega
  rw [e] at h6
  exact bad_ok (by omega) hn h6 hp
def Sem (d L : Nat) (pl : List (Nat × Nat)) : Prop := ∀ c, 1 ≤ c → (∀ r, Pr r → r ∣ c → r ∈ pl.map Prod.fst ∨ 65537 ≤ r) → d * c < 4294967296 → Pass (d * c) → L ∣ d * c - 1 → False
theorem br_ok {S : Nat → Nat → List (Nat × Nat) → Bool} {z : Bool} {d L : Nat} (hd : 3 ≤ d) (hL : 1 ≤ L)
    (hS : ∀ d' L' pl', 3 ≤ d' → 1 ≤ L' → (∀ e ∈ pl', okL e.1 e.2 = true ∧ 2 ≤ e.1) → S d' L' pl' = true → Sem d' L' pl') :
    ∀ pl, (∀ e ∈ pl, okL e.1 e.2 = true ∧ 2 ≤ e.1) → br S z d L pl = true → ∀ c, 1 ≤ c → (∀ r, Pr r → r ∣ c → r ∈ pl.map Prod.fst ∨ 65537 ≤ r) → d * c < 4294967296 → Pass (d * c) → L ∣ d * c - 1 → z = true ∧ ∀ r, Pr r → r ∣ c → 65537 ≤ r
  | [], _, h, c, hc, hr, hn, hp, hl => ⟨h, fun r h1 h2 => by
      rcases hr r h1 h2 with h3 | h3
      · cases h3
      · exact h3⟩
  | e :: t, he, h, c, hc, hr, hn, hp, hl => by
    unfold br at h
    rw [Bool.and_eq_true] at h
    obtain ⟨ho, he2⟩ := he e (List.mem_cons_self ..)
    by_cases hd' : e.1 ∣ c
    · exfalso
      obtain ⟨c', rfl⟩ := hd'
      have hc' : 1 ≤ c' := by
        rcases c' with _ | c'
        · simp at hc
        · omega
      have h3 : d * e.1 * c' = d * (e.1 * c') := Nat.mul_assoc _ _ _
      have h4 : d * e.1 ≤ 4294967295 := by
        have := Nat.mul_le_mul_left (d * e.1) hc'
        omega
      have h1 := h.1
      rw [show Nat.ble (Nat.mul d e.1) (nat_lit 4294967295) = true from Nat.ble_eq_true_of_le h4] at h1
      change force (Nat.mul d e.1) (fun d' => force (Nat.lcm L e.2) fun L' => S d' L' (e :: t)) = true at h1
      rw [force_eq, force_eq] at h1
      have h5 : 3 ≤ d * e.1 := by have := Nat.mul_le_mul hd he2; omega
      have h6 := Nat.mul_le_mul h5 hc'
      obtain ⟨hM1, hM⟩ := okL_ok he2 ho
      have h7 : e.2 ∣ d * (e.1 * c') - 1 := hM _ (hp.H (by omega) he2 ⟨d * c', by rw [Nat.mul_left_comm]⟩)
      refine hS (d * e.1) (Nat.lcm L e.2) (e :: t) h5 (Nat.lcm_pos hL hM1) he h1 c' hc' (fun r h8 h9 => hr r h8 (Nat.dvd_trans h9 (Nat.dvd_mul_left _ _))) ?_ ?_ ?_
      · rw [h3]; exact hn
      · rw [h3]; exact hp
      · rw [h3]; exact Nat.lcm_dvd hl h7
    · refine br_ok hd hL hS t (fun x hx => he x (List.mem_cons_of_mem _ hx)) h.2 c hc (fun r h1 h2 => ?_) hn hp hl
      rcases hr r h1 h2 with h3 | h3
      · rw [List.map_cons, List.mem_cons] at h3
        rcases h3 with h3 | h3
        · rw [h3] at h2; exact absurd h2 hd'
        · exact .inl h3
      · exact .inr h3
theorem great_prime {c : Nat} (hc : 1 ≤ c) (hn : c < 4294967296) (h : ∀ r, Pr r → r ∣ c → 65537 ≤ r) : c = 1 ∨ (Pr c ∧ 65537 ≤ c ∧ c % 2 = 1) := by
  by_cases h1 : c = 1
  · exact .inl h1
  · right
    obtain ⟨q, hq, s, hs⟩ := exists_prime c (by omega)
    have h2 := h q hq ⟨s, hs⟩
    have h3 : s ≠ 0 := fun h0 => by rw [h0] at hs; omega
    have h4 : s = 1 := by
      apply Classical.byContradiction
      intro hne
      obtain ⟨p, hp, hps⟩ := exists_prime s (by omega)
      have h5 := h p hp (Nat.dvd_trans hps ⟨q, by rw [hs, Nat.mul_comm]⟩)
      have h6 := Nat.le_of_dvd (by omega) hps
      have := Nat.mul_le_mul h2 (show 65537 ≤ s by omega)
      omega
    rw [h4, Nat.mul_one] at hs
    rw [hs]
    refine ⟨hq, h2, ?_⟩
    rcases Nat.mod_two_eq_zero_or_one q with h5 | h5
    · exact absurd (Nat.dvd_of_mod_eq_zero h5) (hq.2 2 (by omega) (by omega))
    · exact h5
theorem sr_ok : ∀ f d L pl, 3 ≤ d → 1 ≤ L → (∀ e ∈ pl, okL e.1 e.2 = true ∧ 2 ≤ e.1) → sr f d L pl = true → Sem d L pl
  | 0, d, L, pl, _, _, _, h => by cases h
  | f + 1, d, L, pl, hd, hL, he, h => by
    intro c hc hr hn hp hl
    have h3 : 3 ≤ d * c := by have := Nat.mul_le_mul hd hc; omega
    unfold sr at h
    split at h
    · rename_i hg
      have h4 : Nat.gcd d L ∣ 1 := by
        have a : Nat.gcd d L ∣ d * c := Nat.dvd_trans (Nat.gcd_dvd_left d L) (Nat.dvd_mul_right _ _)
        have b : Nat.gcd d L ∣ d * c - 1 := Nat.dvd_trans (Nat.gcd_dvd_right d L) hl
        have := Nat.dvd_sub a b
        rw [show d * c - (d * c - 1) = 1 by omega] at this
        exact this
      rw [Nat.dvd_one.1 h4] at hg
      cases hg
    · rw [force_eq] at h
      split at h
      · rw [force_eq] at h
        exact enu_ok hd hL rfl h hc hn hp hl
      · obtain ⟨hz, hq⟩ := br_ok hd hL (sr_ok f) pl he h c hc hr hn hp hl
        rw [Bool.and_eq_true] at hz
        have hcn : c < 4294967296 := by
          have := Nat.mul_le_mul_right c (show 1 ≤ d by omega); omega
        rcases great_prime hc hcn hq with rfl | ⟨h5, h6, h7⟩
        · rw [Nat.mul_one] at hn hp
          exact bad_ok (by omega) hn hz.1 hp
        · rw [Nat.mul_comm] at hn hp
          rw [Bool.or_eq_true] at hz
          rcases hz.2 with h8 | h8
          · have h8 : 65536 ≤ d := Nat.le_of_ble_eq_true h8
            have := Nat.mul_le_mul h6 h8
            omega
          · exact chk_ok h5 h6 h7 hd hn h8 hp
def topOne : List (Nat × Nat) → Bool
  | [] => true
  | e :: t => br (sr 40) (chk e.1) e.1 e.2 (e :: t)
def topL : Nat → Nat → Bool
  | 0, _ => true
  | f + 1, i => topOne (tab.drop i) && topL f (Nat.succ i)
theorem topL_ok : ∀ f i, topL f i = true → ∀ j, j < f → topOne (tab.drop (i + j)) = true
  | 0, i, _, j, h => by omega
  | f + 1, i, h, j, hj => by
    unfold topL at h
    rw [Bool.and_eq_true] at h
    rcases j with _ | j
    · exact h.1
    · rw [show i + (j + 1) = i.succ + j by omega]
      exact topL_ok f _ h.2 j (by omega)
theorem top_ok {n : Nat} (h3 : 3 ≤ n) (ho : n % 2 = 1) (hn : n < 4294967296) (hp : Pass n) : ∀ pl : List (Nat × Nat), (∀ i, topOne (pl.drop i) = true) → (∀ e ∈ pl, okL e.1 e.2 = true ∧ 2 ≤ e.1) → (∀ r, Pr r → r ∣ n → r ∈ pl.map Prod.fst ∨ 65537 ≤ r) → Pr n
  | [], _, _, hr => by
    rcases great_prime (by omega) hn (fun r h1 h2 => by
      rcases hr r h1 h2 with h | h
      · cases h
      · exact h) with h | h
    · omega
    · exact h.1
  | e :: t, ht, he, hr => by
    by_cases h : Pr e.1 ∧ e.1 ∣ n
    · obtain ⟨hpe, c, rfl⟩ := h
      have he2 := hpe.1
      have hc : 1 ≤ c := by
        rcases c with _ | c
        · simp at h3
        · omega
      have hp3 : 3 ≤ e.1 := by
        apply Classical.byContradiction
        intro hlt
        have : e.1 = 2 := by omega
        rw [this, Nat.mul_mod_right] at ho
        omega
      obtain ⟨hM1, hM⟩ := okL_ok he2 (he e (List.mem_cons_self ..)).1
      have h7 : e.2 ∣ e.1 * c - 1 := hM _ (hp.H (by omega) he2 (Nat.dvd_mul_right _ _))
      obtain ⟨hz, hq⟩ := br_ok hp3 hM1 (sr_ok 40) (e :: t) he (ht 0) c hc (fun r h1 h2 => hr r h1 (Nat.dvd_trans h2 (Nat.dvd_mul_left _ _))) hn hp h7
      have hcn : c < 4294967296 := by
        have := Nat.mul_le_mul_right c (show 1 ≤ e.1 by omega); omega
      rcases great_prime hc hcn hq with rfl | ⟨h5, h6, h8⟩
      · rw [Nat.mul_one]; exact hpe
      · exfalso
        rw [Nat.mul_comm] at hn hp
        exact chk_ok h5 h6 h8 hp3 hn hz hp
    · refine top_ok h3 ho hn hp t (fun i => ht (i + 1)) (fun x hx => he x (List.mem_cons_of_mem _ hx)) (fun r h1 h2 => ?_)
      rcases hr r h1 h2 with h3 | h3
      · rw [List.map_cons, List.mem_cons] at h3
        rcases h3 with h3 | h3
        · rw [h3] at h1 h2; exact absurd ⟨h1, h2⟩ h
        · exact .inl h3
      · exact .inr h3
end Ob
