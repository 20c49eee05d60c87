import Derived.Test.YtfpdemmdkiohhaaLSwb
import Derived.Test.YtfpdemmdkiohhaaLZE
import Derived.Test.YtfpdemmdkiohhaaLDp
/- Rows and the integers for which they stand. -/
namespace Go.Proofs.Ytfpdemmdkiohhaa.Mo
open Go.RowKit
set_option linter.unusedVariables false

/-- The residues of an integer. -/
def resL (l : List Int) (z : Int) : List Int := rowL l.length (fun i => z % Op.cf l i)
theorem resL_len (l : List Int) (z : Int) : (resL l z).length = l.length := rowL_len _ _
theorem resL_at (l : List Int) (z : Int) {i : Nat} (hi : i < l.length) : Op.cf (resL l z) i = z % Op.cf l i := rowL_at _ _ hi
theorem resL_row {l : List Int} (hs : Sys l) (z : Int) : RowOf l (resL l z) := by
  refine ⟨resL_len l z, fun i hi => ?_⟩
  have h3 := hs.at_ hi
  rw [resL_at l z hi]
  exact ⟨Int.emod_nonneg _ (by omega), Int.emod_lt_of_pos _ (by omega)⟩
theorem dvd_sub_mod (z q : Int) : q ∣ z - z % q := ⟨z / q, by have := Int.emod_add_mul_ediv z q; omega⟩
/-- The residues of an integer in range stand for it. -/
theorem resL_in {l : List Int} {X : Int} (h : -(Or.pr l) < 2 * X ∧ 2 * X < Or.pr l) : JoinV l (resL l X) X :=
  ⟨h, fun j hj => by rw [resL_at l X hj]; exact dvd_sub_mod X _⟩
theorem list_cf {a b : List Int} (hl : a.length = b.length) (h : ∀ i, i < a.length → Op.cf a i = Op.cf b i) : a = b := by
  refine List.ext_getElem hl (fun i h1 h2 => ?_)
  have := h i h1
  rwa [cf_get h1, cf_get h2] at this
end Go.Proofs.Ytfpdemmdkiohhaa.Mo
