import Derived.Test.YtfpdemmdkiohhaaSwb
import Derived.Test.YtfpdemmdkiohhaaZE
import Derived.Test.YtfpdemmdkiohhaaDp
/- Rows and the integers for which they stand. -/
namespace Go.Proofs.Ytfpdemmdkiohhaa.Mo
open Go.RowKit
set_option linter.unusedVariables false

theorem pr_is_odd {l : List Int} (h : ∀ q ∈ l, q % 2 = 1) : Or.pr l % 2 = 1 := by
  induction l with
  | nil => rfl
  | cons p l ih =>
    have h1 := h p (by simp)
    have h2 := ih (fun q hq => h q (by simp [hq]))
    show (p * Or.pr l) % 2 = 1
    rw [Int.mul_emod, h1, h2]; rfl
theorem at_dvd_pr {l : List Int} {j : Nat} (hj : j < l.length) : Op.cf l j ∣ Or.pr l := by
  have := Or.dvd_pr hj (Nat.le_refl _)
  rwa [List.take_length, at_cf] at this
/-- The residues of an integer. -/
def resL (l : List Int) (z : Int) : List Int := rowL l.length (fun i => z % Op.cf l i)
theorem resL_len (l : List Int) (z : Int) : (resL l z).length = l.length := rowL_len _ _
theorem resL_at (l : List Int) (z : Int) {i : Nat} (hi : i < l.length) : Op.cf (resL l z) i = z % Op.cf l i := rowL_at _ _ hi
theorem resL_row {l : List Int} (hs : Sys l) (z : Int) : RowOf l (resL l z) := by
  refine ⟨resL_len l z, fun i hi => ?_⟩
  have h3 := hs.at_ hi
  rw [resL_at l z hi]
  exact ⟨Int.emod_nonneg _ (by omega), Int.emod_lt_of_pos _ (by omega)⟩
theorem dvd_sub_mod (z q : Int) : q ∣ z - z % q := ⟨z / q, by have := Int.emod_add_mul_ediv z q; omega⟩
/-- The row of the residues stands for the balanced remainder by the product. -/
theorem resL_join {l : List Int} (hs : Sys l) (z : Int) : JoinV l (resL l z) (wbal z (Or.pr l)) := by
  have hp : 0 < Or.pr l := (pr_le hs.1).1
  have ho := pr_is_odd hs.2.1
  have hb := wbal_in (x := z) hp
  refine ⟨by omega, fun j hj => ?_⟩
  rw [resL_at l z hj]
  have e : wbal z (Or.pr l) - z % Op.cf l j = (wbal z (Or.pr l) - z) + (z - z % Op.cf l j) := by omega
  rw [e]
  exact Int.dvd_add (Int.dvd_trans (at_dvd_pr hj) (wbal_dvd z (Or.pr l))) (dvd_sub_mod z _)
theorem inR_wbal {l : List Int} (hs : Sys l) (z : Int) : InR (wbal z (Or.pr l)) := by
  have hp := pr_le hs.1
  have hb := wbal_in (x := z) hp.1
  have h1 : Or.pr l ≤ 2147483647 ^ l.length := hp.2
  generalize hM : (2147483647 : Int) ^ l.length = M at h1
  exact inR_of hs.2.2.2.2 (by rw [hM]; omega) (by rw [hM]; omega)
theorem inR_join {l r : List Int} (hs : Sys l) {X : Int} (h : JoinV l r X) : InR X := by
  have hp := pr_le hs.1
  have hb := h.1
  have h1 : Or.pr l ≤ 2147483647 ^ l.length := hp.2
  generalize hM : (2147483647 : Int) ^ l.length = M at h1
  exact inR_of hs.2.2.2.2 (by rw [hM]; omega) (by rw [hM]; omega)
/-- The residues of an integer in range stand for it. -/
theorem resL_in {l : List Int} {X : Int} (h : -(Or.pr l) < 2 * X ∧ 2 * X < Or.pr l) : JoinV l (resL l X) X :=
  ⟨h, fun j hj => by rw [resL_at l X hj]; exact dvd_sub_mod X _⟩
theorem list_cf {a b : List Int} (hl : a.length = b.length) (h : ∀ i, i < a.length → Op.cf a i = Op.cf b i) : a = b := by
  refine List.ext_getElem hl (fun i h1 h2 => ?_)
  have := h i h1
  rwa [cf_get h1, cf_get h2] at this
/-- The residues of the integer of a row are the row. -/
theorem resL_of_join {l r : List Int} (hs : Sys l) (hr : RowOf l r) {X : Int} (h : JoinV l r X) : resL l X = r := by
  refine list_cf ((resL_len l X).trans hr.1.symm) (fun i hi => ?_)
  rw [resL_len] at hi
  rw [resL_at l X hi]
  have h3 := hs.at_ hi
  have h1 := h.2 i hi
  have h2 := hr.2 i hi
  rw [(Int.emod_emod_of_dvd X (Int.dvd_refl (Op.cf l i))).symm]
  have h4 : X % Op.cf l i = Op.cf r i % Op.cf l i := Int.emod_eq_emod_iff_emod_sub_eq_zero.2 (Int.emod_eq_zero_of_dvd h1)
  rw [Int.emod_emod, h4, Int.emod_eq_of_lt h2.1 h2.2]
end Go.Proofs.Ytfpdemmdkiohhaa.Mo
