import Derived.Test.YtfpdemmdkiohhaaSwa
import Derived.Test.YtfpdemmdkiohhaaZE
import Derived.Test.YtfpdemmdkiohhaaQk
import Derived.Test.YtfpdemmdkiohhaaRok
/- What the laws of package residue use of the reference of package wide. -/
namespace Go.Proofs.Ytfpdemmdkiohhaa.Mo
open Go.RowKit
set_option linter.unusedVariables false

/-- The balanced remainder, of package wide. -/
abbrev wbal (x y : Int) : Int := Go.Proofs.Ytfpdemmdkiohhaa.bal x y
abbrev wsgn (x y : Int) : Int := Go.Proofs.Ytfpdemmdkiohhaa.sgn x y
theorem bstr_ne {n : Nat} (h : n ≠ 0) : (bstr n).size ≠ 0 := by
  intro e
  have h1 : Ow.byt n = [] := List.length_eq_zero_iff.1 (by rw [← bstr_size]; exact e)
  have h2 := zOf_bstr (n : Int)
  have h3 : bstr (Int.natAbs (n : Int)) = ⟨#[]⟩ := by
    rw [Int.natAbs_natCast]; unfold bstr; rw [h1]
  rw [h3] at h2
  have h4 : decide ((n : Int) < 0) = false := by simp
  rw [h4] at h2
  have h5 : zOf false ⟨#[]⟩ = 0 := by
    have := zOf_bstr 0
    have h6 : bstr (Int.natAbs 0) = ⟨#[]⟩ := by unfold bstr; rw [show Ow.byt (Int.natAbs 0) = [] from Ow.byt_zero]
    rw [h6] at this
    simpa using this
  omega
theorem rwcmp_any (x y : Int) (w : World) (hx : InR x) (hy : InR y) : Calls Try.prog 20 #[wv x, wv y] w (fun e w' => e = .returned (.tuple #[.int .i64 (wsgn x y), .int .i64 0]) ∧ Gr w w') := by
  refine (Go.Proofs.Ytfpdemmdkiohhaa.rcmp_ok _ _ _ _ w (form_bstr x hx) (form_bstr y hy)).mono ?_
  rintro e w' ⟨rfl, hg⟩
  rw [zOf_bstr, zOf_bstr]
  exact ⟨rfl, hg⟩
theorem rwabs_any (x : Int) (w : World) (hx : InR x) : Calls Try.prog 22 #[wv x] w (fun e w' => e = .returned (.tuple #[wv (x.natAbs : Int), .int .i64 0]) ∧ Gr w w') := by
  refine (Go.Proofs.Ytfpdemmdkiohhaa.rabs_ok _ _ w (form_bstr x hx)).mono ?_
  rintro e w' ⟨rfl, hg⟩
  refine ⟨?_, hg⟩
  have h : decide ((x.natAbs : Int) < 0) = false := by simp
  unfold wv
  rw [h, Int.natAbs_natCast]
theorem rwdiv_any (x y : Int) (w : World) (hx : InR x) (hy : InR y) (h0 : y ≠ 0) (hq : InR (x / y)) (hr : InR (x % y)) : Calls Try.prog 25 #[wv x, wv y] w (fun e w' => e = .returned (.tuple #[wv (x / y), wv (x % y), .int .i64 0]) ∧ Gr w w') := by
  refine (Go.Proofs.Ytfpdemmdkiohhaa.rdiv_ok _ _ _ _ w (form_bstr x hx) (form_bstr y hy) (bstr_ne (by omega)) (by rw [zOf_bstr]; exact h0)).mono ?_
  rintro e w' ⟨rfl, hg⟩
  rw [zOf_bstr, zOf_bstr, fNeg_in hq, fStr_in hq, fNeg_in hr, fStr_in hr]
  exact ⟨rfl, hg⟩
theorem rwbal_any (neg : Bool) (s : ByteArray) (y : Int) (w : World) (hF : Form neg s) (hy : InR y) (h0 : 0 < y) (hb : InR (wbal (zOf neg s) y)) : Calls Try.prog 18 #[.agg #[.bool neg, .string s], wv y] w (fun e w' => e = .returned (.tuple #[wv (wbal (zOf neg s) y), .int .i64 0]) ∧ Gr w w') := by
  refine (Go.Proofs.Ytfpdemmdkiohhaa.rbal_ok _ _ _ _ w hF (form_bstr y hy) (bstr_ne (by omega)) (by simp; omega)).mono ?_
  rintro e w' ⟨rfl, hg⟩
  rw [zOf_bstr, fNeg_in hb, fStr_in hb, fErr_in hb]
  exact ⟨rfl, hg⟩
/-- The balanced remainder is the integer of the row. -/
theorem wbal_in {x y : Int} (h0 : 0 < y) : -y ≤ 2 * wbal x y ∧ 2 * wbal x y ≤ y := by
  have h1 := Int.emod_nonneg x (show y ≠ 0 by omega)
  have h2 := Int.emod_lt_of_pos x h0
  unfold wbal Go.Proofs.Ytfpdemmdkiohhaa.bal
  split <;> omega
theorem wbal_dvd (x y : Int) : y ∣ wbal x y - x := by
  have h1 : y ∣ x % y - x := by
    have h := Int.emod_add_mul_ediv x y
    exact ⟨-(x / y), by rw [Int.mul_neg]; omega⟩
  unfold wbal Go.Proofs.Ytfpdemmdkiohhaa.bal
  split
  · have e : x % y - y - x = (x % y - x) - y := by omega
    rw [e]; exact Int.dvd_sub h1 (Int.dvd_refl y)
  · exact h1
end Go.Proofs.Ytfpdemmdkiohhaa.Mo
