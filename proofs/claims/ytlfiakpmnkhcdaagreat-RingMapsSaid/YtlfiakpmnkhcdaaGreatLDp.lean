import Derived.Test.YtlfiakpmnkhcdaaGreatLZD
import Derived.Test.YtlfiakpmnkhcdaaGreatLZO
/- The numbers that New accepts are odd primes, and different: they are a system. -/
namespace Go.Proofs.YtlfiakpmnkhcdaaGreat.Mo
open Go.RowKit
set_option linter.unusedVariables false

theorem pr7 : Ob.Pr 7 := ⟨by omega, fun d h1 h2 => (by decide +kernel : ∀ d, d < 7 → 2 ≤ d → ¬ d ∣ 7) d h2 h1⟩
theorem pr61 : Ob.Pr 61 := ⟨by omega, fun d h1 h2 => (by decide +kernel : ∀ d, d < 61 → 2 ≤ d → ¬ d ∣ 61) d h2 h1⟩
theorem pr2 : Ob.Pr 2 := ⟨by omega, fun d h1 h2 => by omega⟩

theorem dvd_prime {n b : Nat} (hb : Ob.Pr b) (hn : 3 ≤ n) (h : b % n = 0) : n = b := by
  have hd := Nat.dvd_of_mod_eq_zero h
  have hle := Nat.le_of_dvd (by have := hb.1; omega) hd
  apply Classical.byContradiction
  intro hne
  exact hb.2 n (by omega) (by omega) hd

/-- What the program takes for a prime is one. -/
theorem prm_to_pr {n : Nat} (hn : n ≤ 4294967295) (h : Prm n) : Ob.Pr n := by
  rcases h with (rfl | ⟨h3, ho, a, b, c⟩)
  · exact pr2
  · rcases a with a | a
    · have := dvd_prime pr2 h3 a; omega
    rcases b with b | b
    · have := dvd_prime pr7 h3 b; rw [this]; exact pr7
    rcases c with c | c
    · have := dvd_prime pr61 h3 c; rw [this]; exact pr61
    exact Ob.exact_tests h3 ho (by omega) ⟨a, b, c⟩
theorem cf_get {l : List Int} {i : Nat} (h : i < l.length) : Op.cf l i = l[i] := by rw [← Op.cf_at, List.getElem?_eq_getElem h]; rfl
theorem Dis.at_pr {l : List Int} (h : Dis l) {i : Nat} (hi : i < l.length) : Ob.Pr (Op.cf l i).toNat := by
  have := h.2.2 i hi
  exact prm_to_pr (by omega) this.2.2.1
theorem Dis.okL {l : List Int} (h : Dis l) : okL l := fun q hq => by
  obtain ⟨i, hi, rfl⟩ := List.getElem_of_mem hq
  have := h.2.2 i hi
  rw [cf_get hi] at this
  exact ⟨this.1, this.2.1⟩
theorem pr_odd {q : Int} (hp : Ob.Pr q.toNat) (h3 : 3 ≤ q) : q % 2 = 1 := by
  apply Classical.byContradiction; intro h
  exact hp.2 2 (by omega) (by omega) (Nat.dvd_of_mod_eq_zero (by omega))
theorem pr_gcd {q x : Int} (hp : Ob.Pr q.toNat) (h3 : 3 ≤ q) (h : ¬ q ∣ x) : Int.gcd x q = 1 := by
  have h1 : ¬ q.toNat ∣ x.natAbs := fun hd => h (Int.natAbs_dvd_natAbs.1 (by rw [show q.natAbs = q.toNat by omega]; exact hd))
  have h2 := hp.coprime h1
  have e : q.natAbs = q.toNat := by omega
  show Nat.gcd x.natAbs q.natAbs = 1
  rw [e, Nat.gcd_comm]; exact h2
theorem Dis.sys {l : List Int} (h : Dis l) : Sys l := by
  refine ⟨h.okL, ?_, ?_, h.1, h.2.1⟩
  · intro q hq
    obtain ⟨i, hi, rfl⟩ := List.getElem_of_mem hq
    have h1 := h.at_pr hi
    have h2 := h.2.2 i hi
    rw [cf_get hi] at h1 h2
    exact pr_odd h1 h2.1
  · intro i hi j hj
    rw [at_cf, at_cf]
    have h1 := h.at_pr hi
    have h2 := h.2.2 i hi
    have h3 := h.2.2 j (by omega)
    refine pr_gcd h1 h2.1 (fun hd => ?_)
    -- a prime that divides another one is that one
    have h4 := h.at_pr (i := j) (by omega)
    have hd' : (Op.cf l i).toNat ∣ (Op.cf l j).toNat := by
      have e1 : Op.cf l i = ((Op.cf l i).toNat : Int) := by omega
      have e2 : Op.cf l j = ((Op.cf l j).toNat : Int) := by omega
      rw [e1, e2] at hd; exact Int.natCast_dvd_natCast.1 hd
    have hle := Nat.le_of_dvd (by omega) hd'
    have heq : (Op.cf l i).toNat = (Op.cf l j).toNat := by
      apply Classical.byContradiction; intro hne
      exact h4.2 _ (by omega) (by omega) hd'
    have hij : Op.cf l i = Op.cf l j := by omega
    refine h2.2.2.2 ?_
    rw [hij]
    have hjt : j < (l.take i).length := by simp; omega
    have h5 := Op.cf_mem hjt
    rwa [Op.cf_take, if_pos hj] at h5
end Go.Proofs.YtlfiakpmnkhcdaaGreat.Mo
