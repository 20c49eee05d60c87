import Derived.Test.YtlfiakpmnkhcdaaLJd
import Derived.Test.YtlfiakpmnkhcdaaShelf
import Derived.Laws.Bits64b
namespace Oj
open Op
set_option linter.unusedVariables false
def sg (n : Nat) (m : Int) (b : List Int) : List Int := Go.Proofs.Ytlfiakpmnkhcdaa.Mo.mulR n m (-1) b ++ b
end Oj
namespace Go.Proofs.Ytlfiakpmnkhcdaa.Mo
open Go.RowKit
set_option linter.unusedVariables false
end Go.Proofs.Ytlfiakpmnkhcdaa.Mo
