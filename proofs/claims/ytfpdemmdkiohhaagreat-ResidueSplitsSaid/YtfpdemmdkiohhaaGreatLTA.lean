import Derived.Test.YtfpdemmdkiohhaaGreatLZD
import Derived.Test.YtfpdemmdkiohhaaGreatLWO
import Derived.Test.YtfpdemmdkiohhaaGreatLZE
import Derived.Test.YtfpdemmdkiohhaaGreatLWQ
import Derived.Test.YtfpdemmdkiohhaaGreatLRok
import Derived.Test.YtfpdemmdkiohhaaGreatLZO
/- What the reference of package residue uses of the reference of package wide. -/
namespace Go.Proofs.YtfpdemmdkiohhaaGreat.Mo
open Go.RowKit
set_option linter.unusedVariables false

theorem rwof_any (n : Int) (w : World) (h : isW n) : Calls Tryz.prog 36 #[.int .i64 n] w (fun e w' => e = .returned (wv n) ∧ Gr w w') := by
  refine (rof_any n w h.1 h.2).mono ?_
  rintro e w' ⟨rfl, hg⟩
  exact ⟨rfl, hg⟩
theorem rwmul_any (x y : Int) (w : World) (hx : InR x) (hy : InR y) (hz : InR (x * y)) : Calls Tryz.prog 40 #[wv x, wv y] w (fun e w' => e = .returned (.tuple #[wv (x * y), .int .i64 0]) ∧ Gr w w') := by
  refine (Go.Proofs.YtfpdemmdkiohhaaGreat.rmul_ok _ _ _ _ w (form_bstr x hx) (form_bstr y hy)).mono ?_
  rintro e w' ⟨rfl, hg⟩
  rw [zOf_bstr, zOf_bstr, fNeg_in hz, fStr_in hz, fErr_in hz]
  exact ⟨rfl, hg⟩
theorem rwadd_any (x y : Int) (w : World) (hx : InR x) (hy : InR y) (hz : InR (x + y)) : Calls Tryz.prog 41 #[wv x, wv y] w (fun e w' => e = .returned (.tuple #[wv (x + y), .int .i64 0]) ∧ Gr w w') := by
  refine (Go.Proofs.YtfpdemmdkiohhaaGreat.radd_ok _ _ _ _ w (form_bstr x hx) (form_bstr y hy)).mono ?_
  rintro e w' ⟨rfl, hg⟩
  rw [zOf_bstr, zOf_bstr, fNeg_in hz, fStr_in hz, fErr_in hz]
  exact ⟨rfl, hg⟩
theorem rwsub_any (x y : Int) (w : World) (hx : InR x) (hy : InR y) (hz : InR (x - y)) : Calls Tryz.prog 76 #[wv x, wv y] w (fun e w' => e = .returned (.tuple #[wv (x - y), .int .i64 0]) ∧ Gr w w') := by
  refine (Go.Proofs.YtfpdemmdkiohhaaGreat.rsub_ok _ _ _ _ w (form_bstr x hx) (form_bstr y hy)).mono ?_
  rintro e w' ⟨rfl, hg⟩
  rw [zOf_bstr, zOf_bstr, fNeg_in hz, fStr_in hz, fErr_in hz]
  exact ⟨rfl, hg⟩
end Go.Proofs.YtfpdemmdkiohhaaGreat.Mo
/- What the laws of package residue use of the reference of package wide. -/
namespace Go.Proofs.YtfpdemmdkiohhaaGreat.Mo
open Go.RowKit
set_option linter.unusedVariables false

/-- The balanced remainder, of package wide. -/
abbrev wbal (x y : Int) : Int := Go.Proofs.YtfpdemmdkiohhaaGreat.bal x y
theorem bstr_ne {n : Nat} (h : n ≠ 0) : (bstr n).size ≠ 0 := by
  intro e
  have h1 : Ow.byt n = [] := List.length_eq_zero_iff.1 (by rw [← bstr_size]; exact e)
  have h2 := zOf_bstr (n : Int)
  have h3 : bstr (Int.natAbs (n : Int)) = ⟨#[]⟩ := by
    rw [Int.natAbs_natCast]; unfold bstr; rw [h1]
  rw [h3] at h2
  have h4 : decide ((n : Int) < 0) = false := by simp
  rw [h4] at h2
  have h5 : zOf false ⟨#[]⟩ = 0 := by
    have := zOf_bstr 0
    have h6 : bstr (Int.natAbs 0) = ⟨#[]⟩ := by unfold bstr; rw [show Ow.byt (Int.natAbs 0) = [] from Ow.byt_zero]
    rw [h6] at this
    simpa using this
  omega
theorem rwdiv_any (x y : Int) (w : World) (hx : InR x) (hy : InR y) (h0 : y ≠ 0) (hq : InR (x / y)) (hr : InR (x % y)) : Calls Tryz.prog 77 #[wv x, wv y] w (fun e w' => e = .returned (.tuple #[wv (x / y), wv (x % y), .int .i64 0]) ∧ Gr w w') := by
  refine (Go.Proofs.YtfpdemmdkiohhaaGreat.rdiv_ok _ _ _ _ w (form_bstr x hx) (form_bstr y hy) (bstr_ne (by omega)) (by rw [zOf_bstr]; exact h0)).mono ?_
  rintro e w' ⟨rfl, hg⟩
  rw [zOf_bstr, zOf_bstr, fNeg_in hq, fStr_in hq, fNeg_in hr, fStr_in hr]
  exact ⟨rfl, hg⟩
theorem rwbal_any (neg : Bool) (s : ByteArray) (y : Int) (w : World) (hF : Form neg s) (hy : InR y) (h0 : 0 < y) (hb : InR (wbal (zOf neg s) y)) : Calls Tryz.prog 42 #[.agg #[.bool neg, .string s], wv y] w (fun e w' => e = .returned (.tuple #[wv (wbal (zOf neg s) y), .int .i64 0]) ∧ Gr w w') := by
  refine (Go.Proofs.YtfpdemmdkiohhaaGreat.rbal_ok _ _ _ _ w hF (form_bstr y hy) (bstr_ne (by omega)) (by simp; omega)).mono ?_
  rintro e w' ⟨rfl, hg⟩
  rw [zOf_bstr, fNeg_in hb, fStr_in hb, fErr_in hb]
  exact ⟨rfl, hg⟩
/-- The balanced remainder is the integer of the row. -/
theorem wbal_in {x y : Int} (h0 : 0 < y) : -y ≤ 2 * wbal x y ∧ 2 * wbal x y ≤ y := by
  have h1 := Int.emod_nonneg x (show y ≠ 0 by omega)
  have h2 := Int.emod_lt_of_pos x h0
  unfold wbal Go.Proofs.YtfpdemmdkiohhaaGreat.bal
  split <;> omega
theorem wbal_dvd (x y : Int) : y ∣ wbal x y - x := by
  have h1 : y ∣ x % y - x := by
    have h := Int.emod_add_mul_ediv x y
    exact ⟨-(x / y), by rw [Int.mul_neg]; omega⟩
  unfold wbal Go.Proofs.YtfpdemmdkiohhaaGreat.bal
  split
  · have e : x % y - y - x = (x % y - x) - y := by omega
    rw [e]; exact Int.dvd_sub h1 (Int.dvd_refl y)
  · exact h1
end Go.Proofs.YtfpdemmdkiohhaaGreat.Mo
/- The numbers that New accepts are odd primes, and different: they are a system. -/
namespace Go.Proofs.YtfpdemmdkiohhaaGreat.Mo
open Go.RowKit
set_option linter.unusedVariables false

theorem dvd_of_pow_mod {n b k p : Nat} (hp : p ∣ n) (hb : p ∣ b) (hk : 1 ≤ k) (hn : 2 ≤ n) (h : b ^ k % n = 1 ∨ b ^ k % n = n - 1) : p ∣ 1 := by
  have h1 : p ∣ b ^ k := by
    obtain ⟨j, rfl⟩ : ∃ j, k = j + 1 := ⟨k - 1, by omega⟩
    rw [Nat.pow_succ]; exact Nat.dvd_mul_left_of_dvd hb _
  have h2 : p ∣ b ^ k % n := (Nat.dvd_mod_iff hp).2 h1
  rcases h with h | h
  · rwa [h] at h2
  · rw [h] at h2
    have h3 : n = (n - 1) + 1 := by omega
    rw [h3] at hp
    exact (Nat.dvd_add_right h2).1 hp

theorem sp_not_dvd {n b p : Nat} (hn : 3 ≤ n) (hp : p ∣ n) (hb : p ∣ b) (h : Ob.SP n b) : p ∣ 1 := by
  obtain ⟨o, t, h1, h2, h3⟩ := h
  rcases h3 with h3 | ⟨i, hi, h3⟩
  · exact dvd_of_pow_mod hp hb (by omega) (by omega) (.inl h3)
  · exact dvd_of_pow_mod hp hb (Nat.mul_pos (by omega) (Nat.two_pow_pos i)) (by omega) (.inr h3)

theorem sp_7_2 : Ob.SP 7 2 := ⟨3, 1, by decide, by decide, .inl (by decide +kernel)⟩
theorem sp_7_61 : Ob.SP 7 61 := ⟨3, 1, by decide, by decide, .inr ⟨0, by decide, by decide +kernel⟩⟩
theorem sp_61_2 : Ob.SP 61 2 := ⟨15, 2, by decide, by decide, .inr ⟨1, by decide, by decide +kernel⟩⟩
theorem sp_61_7 : Ob.SP 61 7 := ⟨15, 2, by decide, by decide, .inr ⟨1, by decide, by decide +kernel⟩⟩

theorem prm_iff (n : Nat) : Prm n ↔ RPrm n := by
  constructor
  · rintro (h | ⟨hn, ho, h2, h7, h61⟩)
    · exact .inl (.inl h)
    · by_cases e7 : n = 7
      · exact .inl (.inr (.inl e7))
      by_cases e61 : n = 61
      · exact .inl (.inr (.inr e61))
      have s2 : Ob.SP n 2 := by
        rcases h2 with h2 | h2
        · rw [Nat.mod_eq_of_lt (by omega)] at h2; omega
        · exact h2
      have s7 : Ob.SP n 7 := by
        rcases h7 with h7 | h7
        · have := Nat.le_of_dvd (by omega) (Nat.dvd_of_mod_eq_zero h7)
          have h5 : n = 3 ∨ n = 5 := by omega
          rcases h5 with rfl | rfl <;> omega
        · exact h7
      have s61 : Ob.SP n 61 := by
        rcases h61 with h61 | h61
        · have h1 := Nat.dvd_of_mod_eq_zero h61
          have h2 := Nat.le_of_dvd (by omega) h1
          obtain ⟨c, hc⟩ := h1
          exfalso
          have hc2 : c < 21 := by
            apply Classical.byContradiction; intro hcc
            have := Nat.mul_le_mul hn (show 21 ≤ c by omega)
            omega
          have key : ∀ m, m < 61 → 3 ≤ m → ∀ c, c < 21 → 61 ≠ m * c := by decide
          exact key n (by omega) hn c hc2 hc
        · exact h61
      refine .inr ⟨hn, ho, ?_, ?_, s2, s7, s61⟩
      · apply Nat.pos_of_ne_zero; intro h
        have := Nat.le_of_dvd (by omega) (sp_not_dvd hn (Nat.dvd_of_mod_eq_zero h) (Nat.dvd_refl 7) s7); omega
      · apply Nat.pos_of_ne_zero; intro h
        have := Nat.le_of_dvd (by omega) (sp_not_dvd hn (Nat.dvd_of_mod_eq_zero h) (Nat.dvd_refl 61) s61); omega
  · rintro ((rfl | rfl | rfl) | ⟨hn, ho, _, _, s2, s7, s61⟩)
    · exact .inl rfl
    · exact .inr ⟨by omega, by omega, .inr sp_7_2, .inl rfl, .inr sp_7_61⟩
    · exact .inr ⟨by omega, by omega, .inr sp_61_2, .inr sp_61_7, .inl rfl⟩
    · exact .inr ⟨hn, ho, .inr s2, .inr s7, .inr s61⟩

theorem pr7 : Ob.Pr 7 := ⟨by omega, fun d h1 h2 => (by decide +kernel : ∀ d, d < 7 → 2 ≤ d → ¬ d ∣ 7) d h2 h1⟩
theorem pr61 : Ob.Pr 61 := ⟨by omega, fun d h1 h2 => (by decide +kernel : ∀ d, d < 61 → 2 ≤ d → ¬ d ∣ 61) d h2 h1⟩
theorem pr2 : Ob.Pr 2 := ⟨by omega, fun d h1 h2 => by omega⟩

theorem dvd_prime {n b : Nat} (hb : Ob.Pr b) (hn : 3 ≤ n) (h : b % n = 0) : n = b := by
  have hd := Nat.dvd_of_mod_eq_zero h
  have hle := Nat.le_of_dvd (by have := hb.1; omega) hd
  apply Classical.byContradiction
  intro hne
  exact hb.2 n (by omega) (by omega) hd

/-- What the program takes for a prime is one. -/
theorem prm_to_pr {n : Nat} (hn : n ≤ 4294967295) (h : Prm n) : Ob.Pr n := by
  rcases h with (rfl | ⟨h3, ho, a, b, c⟩)
  · exact pr2
  · rcases a with a | a
    · have := dvd_prime pr2 h3 a; omega
    rcases b with b | b
    · have := dvd_prime pr7 h3 b; rw [this]; exact pr7
    rcases c with c | c
    · have := dvd_prime pr61 h3 c; rw [this]; exact pr61
    exact Ob.exact_tests h3 ho (by omega) ⟨a, b, c⟩
theorem cf_get {l : List Int} {i : Nat} (h : i < l.length) : Op.cf l i = l[i] := by rw [← Op.cf_at, List.getElem?_eq_getElem h]; rfl
theorem Dis.at_pr {l : List Int} (h : Dis l) {i : Nat} (hi : i < l.length) : Ob.Pr (Op.cf l i).toNat := by
  have := h.2.2 i hi
  exact prm_to_pr (by omega) this.2.2.1
theorem Dis.okL {l : List Int} (h : Dis l) : okL l := fun q hq => by
  obtain ⟨i, hi, rfl⟩ := List.getElem_of_mem hq
  have := h.2.2 i hi
  rw [cf_get hi] at this
  exact ⟨this.1, this.2.1⟩
theorem pr_odd {q : Int} (hp : Ob.Pr q.toNat) (h3 : 3 ≤ q) : q % 2 = 1 := by
  apply Classical.byContradiction; intro h
  exact hp.2 2 (by omega) (by omega) (Nat.dvd_of_mod_eq_zero (by omega))
theorem pr_gcd {q x : Int} (hp : Ob.Pr q.toNat) (h3 : 3 ≤ q) (h : ¬ q ∣ x) : Int.gcd x q = 1 := by
  have h1 : ¬ q.toNat ∣ x.natAbs := fun hd => h (Int.natAbs_dvd_natAbs.1 (by rw [show q.natAbs = q.toNat by omega]; exact hd))
  have h2 := hp.coprime h1
  have e : q.natAbs = q.toNat := by omega
  show Nat.gcd x.natAbs q.natAbs = 1
  rw [e, Nat.gcd_comm]; exact h2
theorem Dis.primeL {l : List Int} (h : Dis l) : PrimeL l := fun q hq x hx => by
  obtain ⟨i, hi, rfl⟩ := List.getElem_of_mem hq
  have h1 := h.at_pr hi
  have h2 := h.2.2 i hi
  rw [cf_get hi] at h1 h2
  exact pr_gcd h1 h2.1 hx
theorem Dis.sys {l : List Int} (h : Dis l) : Sys l := by
  refine ⟨h.okL, ?_, ?_, h.1, h.2.1⟩
  · intro q hq
    obtain ⟨i, hi, rfl⟩ := List.getElem_of_mem hq
    have h1 := h.at_pr hi
    have h2 := h.2.2 i hi
    rw [cf_get hi] at h1 h2
    exact pr_odd h1 h2.1
  · intro i hi j hj
    rw [at_cf, at_cf]
    have h1 := h.at_pr hi
    have h2 := h.2.2 i hi
    have h3 := h.2.2 j (by omega)
    refine pr_gcd h1 h2.1 (fun hd => ?_)
    -- a prime that divides another one is that one
    have h4 := h.at_pr (i := j) (by omega)
    have hd' : (Op.cf l i).toNat ∣ (Op.cf l j).toNat := by
      have e1 : Op.cf l i = ((Op.cf l i).toNat : Int) := by omega
      have e2 : Op.cf l j = ((Op.cf l j).toNat : Int) := by omega
      rw [e1, e2] at hd; exact Int.natCast_dvd_natCast.1 hd
    have hle := Nat.le_of_dvd (by omega) hd'
    have heq : (Op.cf l i).toNat = (Op.cf l j).toNat := by
      apply Classical.byContradiction; intro hne
      exact h4.2 _ (by omega) (by omega) hd'
    have hij : Op.cf l i = Op.cf l j := by omega
    refine h2.2.2.2 ?_
    rw [hij]
    have hjt : j < (l.take i).length := by simp; omega
    have h5 := Op.cf_mem hjt
    rwa [Op.cf_take, if_pos hj] at h5
end Go.Proofs.YtfpdemmdkiohhaaGreat.Mo
/- Rows and the integers for which they stand. -/
namespace Go.Proofs.YtfpdemmdkiohhaaGreat.Mo
open Go.RowKit
set_option linter.unusedVariables false

theorem pr_is_odd {l : List Int} (h : ∀ q ∈ l, q % 2 = 1) : Or.pr l % 2 = 1 := by
  induction l with
  | nil => rfl
  | cons p l ih =>
    have h1 := h p (by simp)
    have h2 := ih (fun q hq => h q (by simp [hq]))
    show (p * Or.pr l) % 2 = 1
    rw [Int.mul_emod, h1, h2]; rfl
theorem at_dvd_pr {l : List Int} {j : Nat} (hj : j < l.length) : Op.cf l j ∣ Or.pr l := by
  have := Or.dvd_pr hj (Nat.le_refl _)
  rwa [List.take_length, at_cf] at this
/-- The residues of an integer. -/
def resL (l : List Int) (z : Int) : List Int := rowL l.length (fun i => z % Op.cf l i)
theorem resL_len (l : List Int) (z : Int) : (resL l z).length = l.length := rowL_len _ _
theorem resL_at (l : List Int) (z : Int) {i : Nat} (hi : i < l.length) : Op.cf (resL l z) i = z % Op.cf l i := rowL_at _ _ hi
theorem dvd_sub_mod (z q : Int) : q ∣ z - z % q := ⟨z / q, by have := Int.emod_add_mul_ediv z q; omega⟩
theorem inR_wbal {l : List Int} (hs : Sys l) (z : Int) : InR (wbal z (Or.pr l)) := by
  have hp := pr_le hs.1
  have hb := wbal_in (x := z) hp.1
  have h1 : Or.pr l ≤ 2147483647 ^ l.length := hp.2
  generalize hM : (2147483647 : Int) ^ l.length = M at h1
  exact inR_of hs.2.2.2.2 (by rw [hM]; omega) (by rw [hM]; omega)
theorem inR_join {l r : List Int} (hs : Sys l) {X : Int} (h : JoinV l r X) : InR X := by
  have hp := pr_le hs.1
  have hb := h.1
  have h1 : Or.pr l ≤ 2147483647 ^ l.length := hp.2
  generalize hM : (2147483647 : Int) ^ l.length = M at h1
  exact inR_of hs.2.2.2.2 (by rw [hM]; omega) (by rw [hM]; omega)
theorem list_cf {a b : List Int} (hl : a.length = b.length) (h : ∀ i, i < a.length → Op.cf a i = Op.cf b i) : a = b := by
  refine List.ext_getElem hl (fun i h1 h2 => ?_)
  have := h i h1
  rwa [cf_get h1, cf_get h2] at this
end Go.Proofs.YtfpdemmdkiohhaaGreat.Mo
/- The reference of package residue: its integers. No Go here. -/
namespace Go.Proofs.YtfpdemmdkiohhaaGreat.Mo
open Go.RowKit
set_option linter.unusedVariables false

/-- The integer with the residues so far. -/
def RJ (l r : List Int) (k : Nat) (X : Int) : Prop := 0 ≤ X ∧ X < Or.pr (l.take k) ∧ ∀ j, j < k → Op.cf l j ∣ X - Op.cf r j
theorem RJ.start (l r : List Int) : RJ l r 0 0 := ⟨by omega, by simp [Or.pr], fun j hj => by omega⟩
theorem dvd_self_sub_mod (x p : Int) : p ∣ x % p - x := by
  have h := dvd_sub_mod x p
  have e : x % p - x = -(x - x % p) := by omega
  rw [e]; exact Int.dvd_neg.2 h
theorem rj_cong {p P X r inv step have' miss many : Int} (h1 : step = P % p) (h2 : have' = X % p) (h3 : step * inv % p = 1) (h4 : miss = (r + p - have') % p) (h5 : many = miss * inv % p) : p ∣ X + P * many - r := by
  have d1 : p ∣ P - step := by rw [h1]; exact dvd_sub_mod P p
  have d2 : p ∣ X - have' := by rw [h2]; exact dvd_sub_mod X p
  have d3 : p ∣ step * inv - 1 := by
    have := dvd_sub_mod (step * inv) p
    rwa [h3] at this
  have d4 : p ∣ miss - (r + p - have') := by rw [h4]; exact dvd_self_sub_mod _ p
  have d5 : p ∣ many - miss * inv := by rw [h5]; exact dvd_self_sub_mod _ p
  have e1 : P * (many - miss * inv) = P * many - P * (miss * inv) := Int.mul_sub _ _ _
  have e2 : (P - step) * (miss * inv) = P * (miss * inv) - step * (miss * inv) := Int.sub_mul _ _ _
  have e3 : miss * (step * inv - 1) = step * (miss * inv) - miss := by rw [Int.mul_sub, Int.mul_one, Int.mul_left_comm]
  have e : X + P * many - r = (X - have') + P * (many - miss * inv) + (P - step) * (miss * inv) + miss * (step * inv - 1) + (miss - (r + p - have')) + p := by
    rw [e1, e2, e3]; omega
  rw [e]
  exact Int.dvd_add (Int.dvd_add (Int.dvd_add (Int.dvd_add (Int.dvd_add d2 (Int.dvd_mul_of_dvd_right d5)) (Int.dvd_mul_of_dvd_left d1)) (Int.dvd_mul_of_dvd_right d3)) d4) (Int.dvd_refl p)
theorem RJ.next {l r : List Int} {k : Nat} {X many : Int} (h : RJ l r k X) (hk : k < l.length) (hl : okL l) (h0 : 0 ≤ many ∧ many < Op.cf l k) (hd : Op.cf l k ∣ X + Or.pr (l.take k) * many - Op.cf r k) : RJ l r (k + 1) (X + Or.pr (l.take k) * many) := by
  have hp : 0 < Or.pr (l.take k) := (pr_le (hl.take k)).1
  have h1 : Or.pr (l.take k) * many ≤ Or.pr (l.take k) * (Op.cf l k - 1) := Int.mul_le_mul_of_nonneg_left (by omega) (by omega)
  rw [Int.mul_sub, Int.mul_one] at h1
  have h2 : 0 ≤ Or.pr (l.take k) * many := Int.mul_nonneg (by omega) h0.1
  refine ⟨by have := h.1; omega, ?_, fun j hj => ?_⟩
  · rw [Or.pr_take_succ hk, at_cf]
    have := h.2.1; omega
  · by_cases hjk : j = k
    · subst hjk; exact hd
    · have h3 := h.2.2 j (by omega)
      have h4 : Op.cf l j ∣ Or.pr (l.take k) := by
        have := Or.dvd_pr (l := l) (j := j) (i := k) (by omega) (by omega)
        rwa [at_cf] at this
      have e : X + Or.pr (l.take k) * many - Op.cf r j = (X - Op.cf r j) + Or.pr (l.take k) * many := by omega
      rw [e]
      exact Int.dvd_add h3 (Int.dvd_mul_of_dvd_left h4)
/-- The end. -/
theorem RJ.join {l r : List Int} {X : Int} (hs : Sys l) (h : RJ l r l.length X) : JoinV l r (wbal X (Or.pr l)) := by
  have hp : 0 < Or.pr l := (pr_le hs.1).1
  have ho := pr_is_odd hs.2.1
  have hb := wbal_in (x := X) hp
  refine ⟨by omega, fun j hj => ?_⟩
  have e : wbal X (Or.pr l) - Op.cf r j = (wbal X (Or.pr l) - X) + (X - Op.cf r j) := by omega
  rw [e]
  exact Int.dvd_add (Int.dvd_trans (at_dvd_pr hj) (wbal_dvd X (Or.pr l))) (h.2.2 j hj)
theorem RJ.inR {l r : List Int} {k : Nat} {X : Int} (h : RJ l r k X) (hs : Sys l) (hk : k ≤ l.length) : InR X := by
  have hp := pr_le (hs.1.take k)
  have hb := h.2.1
  have h0 := h.1
  have hlen : (l.take k).length ≤ 25 := by rw [List.length_take]; have := hs.2.2.2.2; omega
  have h1 := hp.2
  generalize hM : (2147483647 : Int) ^ (l.take k).length = M at h1
  exact inR_of hlen (by rw [hM]; omega) (by rw [hM]; omega)
/-- What is not far from an integer of a system fits. -/
theorem inR_near {l r : List Int} {X z : Int} (hs : Sys l) (h : JoinV l r X) (hz : -(X.natAbs + 4611686018427387904) ≤ z ∧ z ≤ X.natAbs + 4611686018427387904) : InR z := by
  have hp := pr_le hs.1
  have hb := h.1
  have h1 : (2147483647 : Nat) ^ l.length ≤ 2147483647 ^ 25 := Nat.pow_le_pow_right (by omega) hs.2.2.2.2
  have h2 : ((2147483647 ^ l.length : Nat) : Int) = (2147483647 : Int) ^ l.length := by simp
  have h3 : ((2147483647 ^ 25 : Nat) : Int) = (2147483647 : Int) ^ 25 := by simp
  have h4 : (9223372036854775808 : Nat) ≤ 2147483647 ^ 25 := by decide +kernel
  have h5 := hp.2
  rw [← h2] at h5
  refine inR_of (n := 25) (by omega) ?_ ?_
  · rw [← h3]; omega
  · rw [← h3]; omega
end Go.Proofs.YtfpdemmdkiohhaaGreat.Mo
/- The arithmetic of the law ResidueBounds. -/
namespace Go.Proofs.YtfpdemmdkiohhaaGreat.Mo
open Go.RowKit
set_option linter.unusedVariables false

theorem Dis.take {l : List Int} (h : Dis l) {k : Nat} (h1 : 1 ≤ k) (hk : k ≤ l.length) : Dis (l.take k) := by
  have hl : (l.take k).length = k := by rw [List.length_take]; omega
  refine ⟨by omega, by have := h.2.1; omega, fun i hi => ?_⟩
  rw [hl] at hi
  have h2 := h.2.2 i (by omega)
  rw [Op.cf_take, if_pos hi, List.take_take, Nat.min_eq_left (by omega)]
  exact h2
theorem DivR.unique {l r : List Int} {d d' : Int} {row row' : List Int} (h : DivR l r 1 d row) (k : DivR l r 1 d' row') : row = row' := by
  obtain ⟨b, h1, h2, h3⟩ := h
  obtain ⟨c, k1, k2, k3⟩ := k
  have e : b = c := Quo.unique (Int.gcd_eq_natAbs_gcd_natAbs 1 _ ▸ Nat.gcd_one_left _) h1 k1
  subst e
  rw [h3, k3, h2, k2]
/-- The quotient that Scale gives. -/
theorem divR_math {l r row : List Int} {t d W : Int} (hs : Sys l) (h3 : 1 ≤ l.length) (hr : RowOf l r) (hW : JoinV l r W) (ht : 1 ≤ t) (hd : DivR l r t d row) :
    ∃ Y, W - d = Y * Op.cf l (l.length - 1) ∧ row = resL (l.take (l.length - 1)) Y ∧ t ∣ d ∧ -(t * ((Op.cf l (l.length - 1) - 1) / 2)) ≤ d ∧ d ≤ t * ((Op.cf l (l.length - 1) - 1) / 2) := by
  obtain ⟨b, ⟨b0, b1, b2⟩, hdd, hrow⟩ := hd
  have hn : l.length - 1 < l.length := by omega
  have hq3 := hs.at_ hn
  have hWn := hW.2 _ hn
  obtain ⟨n, hnn⟩ : ∃ n, n = l.length - 1 := ⟨_, rfl⟩
  rw [← hnn] at b1 b2 hdd hrow hn hq3 hWn ⊢
  obtain ⟨q, hq⟩ : ∃ q, q = Op.cf l n := ⟨_, rfl⟩
  rw [← hq] at b1 b2 hdd hrow hq3 hWn ⊢
  have hb := bal_odd hq3.2.2 ⟨b0, b1⟩
  have hbd := bal_dvd b q
  -- q divides W - d
  have h1 : q ∣ W - d := by
    have e : W - d = (W - Op.cf r n) - (t * b - Op.cf r n) - t * (bal b q - b) := by rw [hdd, Int.mul_sub]; omega
    rw [e]
    exact Int.dvd_sub (Int.dvd_sub hWn b2) (Int.dvd_mul_of_dvd_right hbd)
  obtain ⟨Y, hY⟩ := h1
  refine ⟨Y, by rw [hY, Int.mul_comm], ?_, ⟨bal b q, hdd⟩, ?_, ?_⟩
  · have hlt : (l.take n).length = n := by rw [List.length_take]; omega
    rw [hrow]
    refine list_cf (by rw [rowL_len, resL_len, hlt]) (fun i hi => ?_)
    rw [rowL_len] at hi
    rw [rowL_at _ _ hi, resL_at _ _ (by rw [hlt]; exact hi), Op.cf_take, if_pos hi]
    have hp3 := hs.at_ (i := i) (by omega)
    refine qf_eq (by rw [hq]; exact hs.two hn (by omega) (by omega)) ⟨Int.emod_nonneg _ (by omega), Int.emod_lt_of_pos _ (by omega), ?_⟩
    have e : q * (Y % Op.cf l i) - (Op.cf r i - d) = (W - Op.cf r i) - q * (Y - Y % Op.cf l i) := by rw [Int.mul_sub, ← hY]; omega
    rw [e]
    exact Int.dvd_sub (hW.2 i (by omega)) (Int.dvd_mul_of_dvd_right (dvd_sub_mod Y _))
  · rw [hdd, ← Int.mul_neg]
    exact Int.mul_le_mul_of_nonneg_left (by omega) (by omega)
  · rw [hdd]
    exact Int.mul_le_mul_of_nonneg_left (by omega) (by omega)
end Go.Proofs.YtfpdemmdkiohhaaGreat.Mo
