import Derived.Test.YtlfiakpmnkhcdaaLZD
import Derived.Test.YtlfiakpmnkhcdaaLWO
namespace Go.Proofs.Ytlfiakpmnkhcdaa.Mo
open Go.RowKit
set_option linter.unusedVariables false
theorem rwof_any (n : Int) (w : World) (h : isW n) : Calls Try.prog 9 #[.int .i64 n] w (fun e w' => e = .returned (wv n) ∧ Gr w w') := by
  refine (rof_any n w h.1 h.2).mono ?_
  rintro e w' ⟨rfl, hg⟩
  exact ⟨rfl, hg⟩
end Go.Proofs.Ytlfiakpmnkhcdaa.Mo
