import Derived.Test.YtfpdemmdkiohhaaLSwa
import Derived.Test.YtfpdemmdkiohhaaLZE
import Derived.Test.YtfpdemmdkiohhaaLQk
import Derived.Test.YtfpdemmdkiohhaaLRok
/- What the laws of package residue use of the reference of package wide. -/
namespace Go.Proofs.Ytfpdemmdkiohhaa.Mo
open Go.RowKit
set_option linter.unusedVariables false

abbrev wsgn (x y : Int) : Int := Go.Proofs.Ytfpdemmdkiohhaa.sgn x y
theorem bstr_ne {n : Nat} (h : n ≠ 0) : (bstr n).size ≠ 0 := by
  intro e
  have h1 : Ow.byt n = [] := List.length_eq_zero_iff.1 (by rw [← bstr_size]; exact e)
  have h2 := zOf_bstr (n : Int)
  have h3 : bstr (Int.natAbs (n : Int)) = ⟨#[]⟩ := by
    rw [Int.natAbs_natCast]; unfold bstr; rw [h1]
  rw [h3] at h2
  have h4 : decide ((n : Int) < 0) = false := by simp
  rw [h4] at h2
  have h5 : zOf false ⟨#[]⟩ = 0 := by
    have := zOf_bstr 0
    have h6 : bstr (Int.natAbs 0) = ⟨#[]⟩ := by unfold bstr; rw [show Ow.byt (Int.natAbs 0) = [] from Ow.byt_zero]
    rw [h6] at this
    simpa using this
  omega
theorem rwcmp_any (x y : Int) (w : World) (hx : InR x) (hy : InR y) : Calls Try.prog 20 #[wv x, wv y] w (fun e w' => e = .returned (.tuple #[.int .i64 (wsgn x y), .int .i64 0]) ∧ Gr w w') := by
  refine (Go.Proofs.Ytfpdemmdkiohhaa.rcmp_ok _ _ _ _ w (form_bstr x hx) (form_bstr y hy)).mono ?_
  rintro e w' ⟨rfl, hg⟩
  rw [zOf_bstr, zOf_bstr]
  exact ⟨rfl, hg⟩
theorem rwabs_any (x : Int) (w : World) (hx : InR x) : Calls Try.prog 22 #[wv x] w (fun e w' => e = .returned (.tuple #[wv (x.natAbs : Int), .int .i64 0]) ∧ Gr w w') := by
  refine (Go.Proofs.Ytfpdemmdkiohhaa.rabs_ok _ _ w (form_bstr x hx)).mono ?_
  rintro e w' ⟨rfl, hg⟩
  refine ⟨?_, hg⟩
  have h : decide ((x.natAbs : Int) < 0) = false := by simp
  unfold wv
  rw [h, Int.natAbs_natCast]
theorem rwdiv_any (x y : Int) (w : World) (hx : InR x) (hy : InR y) (h0 : y ≠ 0) (hq : InR (x / y)) (hr : InR (x % y)) : Calls Try.prog 25 #[wv x, wv y] w (fun e w' => e = .returned (.tuple #[wv (x / y), wv (x % y), .int .i64 0]) ∧ Gr w w') := by
  refine (Go.Proofs.Ytfpdemmdkiohhaa.rdiv_ok _ _ _ _ w (form_bstr x hx) (form_bstr y hy) (bstr_ne (by omega)) (by rw [zOf_bstr]; exact h0)).mono ?_
  rintro e w' ⟨rfl, hg⟩
  rw [zOf_bstr, zOf_bstr, fNeg_in hq, fStr_in hq, fNeg_in hr, fStr_in hr]
  exact ⟨rfl, hg⟩
end Go.Proofs.Ytfpdemmdkiohhaa.Mo
