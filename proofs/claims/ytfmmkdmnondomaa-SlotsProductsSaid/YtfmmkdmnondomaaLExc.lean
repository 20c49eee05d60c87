import Derived.Test.YtfmmkdmnondomaaLExb
/- Numbers with a prime factor from 65536 on: it divides the greatest common divisor of three powers less 1. -/
namespace Ob
set_option linter.unusedVariables false

/-- The product of the 2^f numbers from a on. -/
def prr : Nat → Nat → Nat
  | 0, a => a
  | f + 1, a => Nat.mul (prr f a) (prr f (Nat.add a (Nat.pow (nat_lit 2) f)))

theorem dvd_prr : ∀ f a x, a ≤ x → x < a + 2 ^ f → x ∣ prr f a
  | 0, a, x, h1, h2 => by
    obtain rfl : x = a := by simp at h2; omega
    exact Nat.dvd_refl _
  | f + 1, a, x, h1, h2 => by
    unfold prr
    by_cases h : x < a + 2 ^ f
    · exact Nat.dvd_trans (dvd_prr f a x h1 h) (Nat.dvd_mul_right _ _)
    · refine Nat.dvd_trans (dvd_prr f (a + 2 ^ f) x (by omega) ?_) (Nat.dvd_mul_left _ _)
      rw [Nat.pow_succ] at h2; omega

theorem not_dvd_prr {q : Nat} (hq : Pr q) : ∀ f a, 1 ≤ a → a + 2 ^ f ≤ q → ¬ q ∣ prr f a
  | 0, a, h1, h2, h => by
    change q ∣ a at h
    have := Nat.le_of_dvd (by omega) h
    simp at h2; omega
  | f + 1, a, h1, h2, h => by
    unfold prr at h
    have hp := Nat.two_pow_pos f
    rw [Nat.pow_succ] at h2
    rcases hq.mul h with h | h
    · exact not_dvd_prr hq f a h1 (by omega) h
    · exact not_dvd_prr hq f (a + 2 ^ f) (by omega) (by omega) h

def PP : Nat := prr 16 (nat_lit 1)
theorem dvd_PP {x : Nat} (h1 : 1 ≤ x) (h2 : x ≤ 65536) : x ∣ PP := by
  unfold PP
  exact dvd_prr 16 (nat_lit 1) x h1 (by show x < 1 + 2 ^ 16; omega)
theorem not_dvd_PP {q : Nat} (hq : Pr q) (h : 65537 ≤ q) : ¬ q ∣ PP := by
  unfold PP
  exact not_dvd_prr hq 16 (nat_lit 1) (Nat.le_refl _) (by show 1 + 2 ^ 16 ≤ q; omega)

def stripP : Nat → Nat → Nat
  | 0, g => g
  | f + 1, g => force g fun g => force (Nat.gcd (Nat.mod PP g) g) fun h => match Nat.beq h (nat_lit 1) with
    | true => g
    | false => stripP f (Nat.div g h)

theorem dvd_stripP {q : Nat} (hq : Pr q) (hP : ¬ q ∣ PP) : ∀ f g, q ∣ g → q ∣ stripP f g
  | 0, g, h => h
  | f + 1, g, h => by
    unfold stripP
    rw [force_eq, force_eq]
    split
    · exact h
    · refine dvd_stripP hq hP f _ ?_
      show q ∣ g / Nat.gcd (PP % g) g
      have h1 : Nat.gcd (PP % g) g ∣ g := Nat.gcd_dvd_right _ _
      have h2 : ¬ q ∣ Nat.gcd (PP % g) g := fun hd => by
        have h3 : q ∣ PP % g := Nat.dvd_trans hd (Nat.gcd_dvd_left _ _)
        exact hP ((Nat.dvd_mod_iff h).1 h3)
      obtain ⟨c, hc⟩ := h1
      have h4 : q ∣ c := by
        have h' := h
        rw [hc] at h'
        rcases hq.mul h' with h5 | h5
        · exact absurd h5 h2
        · exact h5
      by_cases h0 : Nat.gcd (PP % g) g = 0
      · rw [h0, Nat.div_zero]; exact Nat.dvd_zero q
      · have : g / Nat.gcd (PP % g) g = c := by
          conv => lhs; arg 1; rw [hc]
          exact Nat.mul_div_cancel_left _ (by omega)
        rw [this]; exact h4

def ga (m : Nat) : Nat := Nat.gcd (Nat.gcd (Nat.sub (Nat.pow (nat_lit 2) m) (nat_lit 1)) (Nat.sub (Nat.pow (nat_lit 7) m) (nat_lit 1))) (Nat.sub (Nat.pow (nat_lit 61) m) (nat_lit 1))

theorem dvd_sub_one {q x : Nat} (hq : 2 ≤ q) (h : x % q = 1) : q ∣ x - 1 := by
  refine ⟨x / q, ?_⟩
  have := Nat.div_add_mod x q; omega

theorem dvd_ga {q m : Nat} (hq : 2 ≤ q) (h : H q m) : q ∣ ga m :=
  Nat.dvd_gcd (Nat.dvd_gcd (dvd_sub_one hq h.1) (dvd_sub_one hq h.2.1)) (dvd_sub_one hq h.2.2)

def lpA (k R : Nat) : Nat → Nat → Bool
  | 0, _ => true
  | f + 1, q => force q fun q => (not (Nat.beq (Nat.mod R q) (nat_lit 0)) || bad (Nat.mul q k)) && lpA k R f (Nat.add q (nat_lit 2))
theorem lpA_ok {k R : Nat} : ∀ f q, lpA k R f q = true → ∀ j, j < f → (q + j * 2) ∣ R → bad ((q + j * 2) * k) = true
  | 0, q, _, j, h, _ => by omega
  | f + 1, q, h, j, hj, hd => by
    unfold lpA at h
    rw [force_eq, Bool.and_eq_true, Bool.or_eq_true] at h
    rcases j with _ | j
    · simp only [Nat.zero_mul, Nat.add_zero] at hd ⊢
      rcases h.1 with h1 | h1
      · rw [show Nat.mod R q = 0 from Nat.mod_eq_zero_of_dvd hd] at h1
        cases h1
      · exact h1
    · rw [show q + (j + 1) * 2 = q + 2 + j * 2 by omega] at hd ⊢
      exact lpA_ok f _ h.2 j (by omega) hd

def chA (k R : Nat) : Bool := Nat.beq R (nat_lit 1) || (match Nat.ble R (nat_lit 4294967295) with
  | true => Nat.beq (Nat.gcd (Nat.mod PP R) R) (nat_lit 1) && (Nat.ble (nat_lit 4294967296) (Nat.mul R k) || bad (Nat.mul R k))
  | false => lpA k R (Nat.div (Nat.div (nat_lit 4294967295) k) (nat_lit 2)) (nat_lit 65537))
def chk (k : Nat) : Bool := force (stripP 24 (ga (Nat.sub k (nat_lit 1)))) (chA k)
theorem chk_ok {q k : Nat} (hq : Pr q) (h1 : 65537 ≤ q) (hodd : q % 2 = 1) (hk : 3 ≤ k) (hn : q * k < 4294967296) (hc : chk k = true) : ¬ Pass (q * k) := by
  intro hpass
  have hq2 := hq.1
  have h9 : 3 ≤ q * k := by have := Nat.mul_le_mul h1 hk; omega
  obtain ⟨hH, -⟩ := hpass.cofactor hq (by omega) h9
  have hP : ¬ q ∣ PP := not_dvd_PP hq h1
  have hg := dvd_stripP hq hP 24 _ (dvd_ga hq2 hH)
  unfold chk at hc
  rw [force_eq] at hc
  change chA k (stripP 24 (ga (k - 1))) = true at hc
  generalize stripP 24 (ga (k - 1)) = R at hg hc
  unfold chA at hc
  rw [Bool.or_eq_true] at hc
  rcases hc with hc | hc
  · have hc : R = 1 := Nat.eq_of_beq_eq_true hc
    rw [hc] at hg
    have := Nat.le_of_dvd (by omega) hg; omega
  · split at hc
    · rename_i hR
      have hR : R ≤ 4294967295 := Nat.le_of_ble_eq_true hR
      rw [Bool.and_eq_true, Bool.or_eq_true] at hc
      have hg1 : Nat.gcd (PP % R) R = 1 := Nat.eq_of_beq_eq_true hc.1
      obtain ⟨s, hs⟩ := hg
      have hR0 : R ≠ 0 := fun h => by
        rw [h] at hg1
        simp at hg1
        have hd : (2 : Nat) ∣ PP := dvd_PP (by omega) (by omega)
        rw [hg1] at hd
        omega
      have hs0 : s ≠ 0 := fun h => by rw [h] at hs; omega
      have hs1 : s < 65536 := by
        apply Classical.byContradiction
        intro h
        have := Nat.mul_le_mul h1 (show 65536 ≤ s by omega)
        omega
      have hsP : s ∣ PP := dvd_PP (by omega) (by omega)
      have hsR : s ∣ R := ⟨q, by rw [hs, Nat.mul_comm]⟩
      have : s ∣ 1 := by
        rw [← hg1]; exact Nat.dvd_gcd ((Nat.dvd_mod_iff hsR).2 hsP) hsR
      have : s = 1 := Nat.dvd_one.1 this
      rw [this, Nat.mul_one] at hs
      rcases hc.2 with h5 | h5
      · have h5 : 4294967296 ≤ R * k := Nat.le_of_ble_eq_true h5
        rw [hs] at h5; omega
      · have h5 : bad (R * k) = true := h5
        rw [hs] at h5
        exact bad_ok (by omega) hn h5 hpass
    · change lpA k R (4294967295 / k / 2) 65537 = true at hc
      have hle : q ≤ 4294967295 / k := by
        rw [Nat.le_div_iff_mul_le (by omega)]; omega
      have e : q = 65537 + (q - 65537) / 2 * 2 := by omega
      have hb := lpA_ok _ _ hc ((q - 65537) / 2) (by omega) (by rw [← e]; exact hg)
      rw [← e] at hb
      exact bad_ok (by omega) hn hb hpass
end Ob
