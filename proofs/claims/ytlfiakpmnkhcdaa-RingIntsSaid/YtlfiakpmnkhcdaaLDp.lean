import Derived.Test.YtlfiakpmnkhcdaaLZD
import Derived.Test.YtlfiakpmnkhcdaaLZO
namespace Go.Proofs.Ytlfiakpmnkhcdaa.Mo
open Go.RowKit
set_option linter.unusedVariables false
theorem dvd_of_pow_mod {n b k p : Nat} (hp : p ∣ n) (hb : p ∣ b) (hk : 1 ≤ k) (hn : 2 ≤ n) (h : b ^ k % n = 1 ∨ b ^ k % n = n - 1) : p ∣ 1 := by
  have h1 : p ∣ b ^ k := by
    obtain ⟨j, rfl⟩ : ∃ j, k = j + 1 := ⟨k - 1, by omega⟩
    rw [Nat.pow_succ]; exact Nat.dvd_mul_left_of_dvd hb _
  have h2 : p ∣ b ^ k % n := (Nat.dvd_mod_iff hp).2 h1
  rcases h with h | h
  · rwa [h] at h2
  · rw [h] at h2
    have h3 : n = (n - 1) + 1 := by omega
    rw [h3] at hp
    exact (Nat.dvd_add_right h2).1 hp
theorem sp_not_dvd {n b p : Nat} (hn : 3 ≤ n) (hp : p ∣ n) (hb : p ∣ b) (h : Ob.SP n b) : p ∣ 1 := by
  obtain ⟨o, t, h1, h2, h3⟩ := h
  rcases h3 with h3 | ⟨i, hi, h3⟩
  · exact dvd_of_pow_mod hp hb (by omega) (by omega) (.inl h3)
  · exact dvd_of_pow_mod hp hb (Nat.mul_pos (by omega) (Nat.two_pow_pos i)) (by omega) (.inr h3)
theorem sp_7_2 : Ob.SP 7 2 := ⟨3, 1, by decide, by decide, .inl (by decide +kernel)⟩
theorem sp_7_61 : Ob.SP 7 61 := ⟨3, 1, by decide, by decide, .inr ⟨0, by decide, by decide +kernel⟩⟩
theorem sp_61_2 : Ob.SP 61 2 := ⟨15, 2, by decide, by decide, .inr ⟨1, by decide, by decide +kernel⟩⟩
theorem sp_61_7 : Ob.SP 61 7 := ⟨15, 2, by decide, by decide, .inr ⟨1, by decide, by decide +kernel⟩⟩
theorem prm_iff (n : Nat) : Prm n ↔ RPrm n := by
  constructor
  · rintro (h | ⟨hn, ho, h2, h7, h61⟩)
    · exact .inl (.inl h)
    · by_cases e7 : n = 7
      · exact .inl (.inr (.inl e7))
      by_cases e61 : n = 61
      · exact .inl (.inr (.inr e61))
      have s2 : Ob.SP n 2 := by
        rcases h2 with h2 | h2
        · rw [Nat.mod_eq_of_lt (by omega)] at h2; omega
        · exact h2
      have s7 : Ob.SP n 7 := by
        rcases h7 with h7 | h7
        · have := Nat.le_of_dvd (by omega) (Nat.dvd_of_mod_eq_zero h7)
          have h5 : n = 3 ∨ n = 5 := by omega
          rcases h5 with rfl | rfl <;> omega
        · exact h7
      have s61 : Ob.SP n 61 := by
        rcases h61 with h61 | h61
        · have h1 := Nat.dvd_of_mod_eq_zero h61
          have h2 := Nat.le_of_dvd (by omega) h1
          obtain ⟨c, hc⟩ := h1
          exfalso
          have hc2 : c < 21 := by
            apply Classical.byContradiction; intro hcc
            have := Nat.mul_le_mul hn (show 21 ≤ c by omega)
            omega
          have key : ∀ m, m < 61 → 3 ≤ m → ∀ c, c < 21 → 61 ≠ m * c := by decide
          exact key n (by omega) hn c hc2 hc
        · exact h61
      refine .inr ⟨hn, ho, ?_, ?_, s2, s7, s61⟩
      · apply Nat.pos_of_ne_zero; intro h
        have := Nat.le_of_dvd (by omega) (sp_not_dvd hn (Nat.dvd_of_mod_eq_zero h) (Nat.dvd_refl 7) s7); omega
      · apply Nat.pos_of_ne_zero; intro h
        have := Nat.le_of_dvd (by omega) (sp_not_dvd hn (Nat.dvd_of_mod_eq_zero h) (Nat.dvd_refl 61) s61); omega
  · rintro ((rfl | rfl | rfl) | ⟨hn, ho, _, _, s2, s7, s61⟩)
    · exact .inl rfl
    · exact .inr ⟨by omega, by omega, .inr sp_7_2, .inl rfl, .inr sp_7_61⟩
    · exact .inr ⟨by omega, by omega, .inr sp_61_2, .inr sp_61_7, .inl rfl⟩
    · exact .inr ⟨hn, ho, .inr s2, .inr s7, .inr s61⟩
theorem pr7 : Ob.Pr 7 := ⟨by omega, fun d h1 h2 => (by decide +kernel : ∀ d, d < 7 → 2 ≤ d → ¬ d ∣ 7) d h2 h1⟩
theorem pr61 : Ob.Pr 61 := ⟨by omega, fun d h1 h2 => (by decide +kernel : ∀ d, d < 61 → 2 ≤ d → ¬ d ∣ 61) d h2 h1⟩
theorem pr2 : Ob.Pr 2 := ⟨by omega, fun d h1 h2 => by omega⟩
theorem dvd_prime {n b : Nat} (hb : Ob.Pr b) (hn : 3 ≤ n) (h : b % n = 0) : n = b := by
  have hd := Nat.dvd_of_mod_eq_zero h
  have hle := Nat.le_of_dvd (by have := hb.1; omega) hd
  apply Classical.byContradiction
  intro hne
  exact hb.2 n (by omega) (by omega) hd
theorem prm_to_pr {n : Nat} (hn : n ≤ 4294967295) (h : Prm n) : Ob.Pr n := by
  rcases h with (rfl | ⟨h3, ho, a, b, c⟩)
  · exact pr2
  · rcases a with a | a
    · have := dvd_prime pr2 h3 a; omega
    rcases b with b | b
    · have := dvd_prime pr7 h3 b; rw [this]; exact pr7
    rcases c with c | c
    · have := dvd_prime pr61 h3 c; rw [this]; exact pr61
    exact Ob.exact_tests h3 ho (by omega) ⟨a, b, c⟩
theorem cf_get {l : List Int} {i : Nat} (h : i < l.length) : Op.cf l i = l[i] := by rw [← Op.cf_at, List.getElem?_eq_getElem h]; rfl
theorem Dis.at_pr {l : List Int} (h : Dis l) {i : Nat} (hi : i < l.length) : Ob.Pr (Op.cf l i).toNat := by
  have := h.2.2 i hi
  exact prm_to_pr (by omega) this.2.2.1
theorem Dis.okL {l : List Int} (h : Dis l) : okL l := fun q hq => by
  obtain ⟨i, hi, rfl⟩ := List.getElem_of_mem hq
  have := h.2.2 i hi
  rw [cf_get hi] at this
  exact ⟨this.1, this.2.1⟩
theorem pr_odd {q : Int} (hp : Ob.Pr q.toNat) (h3 : 3 ≤ q) : q % 2 = 1 := by
  apply Classical.byContradiction; intro h
  exact hp.2 2 (by omega) (by omega) (Nat.dvd_of_mod_eq_zero (by omega))
theorem pr_gcd {q x : Int} (hp : Ob.Pr q.toNat) (h3 : 3 ≤ q) (h : ¬ q ∣ x) : Int.gcd x q = 1 := by
  have h1 : ¬ q.toNat ∣ x.natAbs := fun hd => h (Int.natAbs_dvd_natAbs.1 (by rw [show q.natAbs = q.toNat by omega]; exact hd))
  have h2 := hp.coprime h1
  have e : q.natAbs = q.toNat := by omega
  show Nat.gcd x.natAbs q.natAbs = 1
  rw [e, Nat.gcd_comm]; exact h2
theorem Dis.sys {l : List Int} (h : Dis l) : Sys l := by
  refine ⟨h.okL, ?_, ?_, h.1, h.2.1⟩
  · intro q hq
    obtain ⟨i, hi, rfl⟩ := List.getElem_of_mem hq
    have h1 := h.at_pr hi
    have h2 := h.2.2 i hi
    rw [cf_get hi] at h1 h2
    exact pr_odd h1 h2.1
  · intro i hi j hj
    rw [at_cf, at_cf]
    have h1 := h.at_pr hi
    have h2 := h.2.2 i hi
    have h3 := h.2.2 j (by omega)
    refine pr_gcd h1 h2.1 (fun hd => ?_)
    -- a prime that divides another one is that one
    have h4 := h.at_pr (i := j) (by omega)
    have hd' : (Op.cf l i).toNat ∣ (Op.cf l j).toNat := by
      have e1 : Op.cf l i = ((Op.cf l i).toNat : Int) := by omega
      have e2 : Op.cf l j = ((Op.cf l j).toNat : Int) := by omega
      rw [e1, e2] at hd; exact Int.natCast_dvd_natCast.1 hd
    have hle := Nat.le_of_dvd (by omega) hd'
    have heq : (Op.cf l i).toNat = (Op.cf l j).toNat := by
      apply Classical.byContradiction; intro hne
      exact h4.2 _ (by omega) (by omega) hd'
    have hij : Op.cf l i = Op.cf l j := by omega
    refine h2.2.2.2 ?_
    rw [hij]
    have hjt : j < (l.take i).length := by simp; omega
    have h5 := Op.cf_mem hjt
    rwa [Op.cf_take, if_pos hj] at h5
end Go.Proofs.Ytlfiakpmnkhcdaa.Mo
