import Derived.Test.YtlfiakpmnkhcdaaGreatLZD
import Derived.Test.YtlfiakpmnkhcdaaGreatLWO
namespace Go.Proofs.YtlfiakpmnkhcdaaGreat.Mo
open Go.RowKit
set_option linter.unusedVariables false
theorem rwof_any (n : Int) (w : World) (h : isW n) : Calls Tryz.prog 44 #[.int .i64 n] w (fun e w' => e = .returned (wv n) ∧ Gr w w') := by
 refine (rof_any n w h.1 h.2).mono ?_
 rintro e w' ⟨rfl, hg⟩
 exact ⟨rfl, hg⟩
theorem rwmul_any (x y : Int) (w : World) (hx : InR x) (hy : InR y) (hz : InR (x * y)) : Calls Tryz.prog 41 #[wv x, wv y] w (fun e w' => e = .returned (.tuple #[wv (x * y), .int .i64 0]) ∧ Gr w w') := by
 refine (Go.Proofs.YtlfiakpmnkhcdaaGreat.rmul_ok _ _ _ _ w (form_bstr x hx) (form_bstr y hy)).mono ?_
 rintro e w' ⟨rfl, hg⟩
 rw [zOf_bstr, zOf_bstr, fNeg_in hz, fStr_in hz, fErr_in hz]
 exact ⟨rfl, hg⟩
theorem rwadd_any (x y : Int) (w : World) (hx : InR x) (hy : InR y) (hz : InR (x + y)) : Calls Tryz.prog 40 #[wv x, wv y] w (fun e w' => e = .returned (.tuple #[wv (x + y), .int .i64 0]) ∧ Gr w w') := by
 refine (Go.Proofs.YtlfiakpmnkhcdaaGreat.radd_ok _ _ _ _ w (form_bstr x hx) (form_bstr y hy)).mono ?_
 rintro e w' ⟨rfl, hg⟩
 rw [zOf_bstr, zOf_bstr, fNeg_in hz, fStr_in hz, fErr_in hz]
 exact ⟨rfl, hg⟩
end Go.Proofs.YtlfiakpmnkhcdaaGreat.Mo
