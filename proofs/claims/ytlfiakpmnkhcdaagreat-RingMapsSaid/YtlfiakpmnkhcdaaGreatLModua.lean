import Derived.Test.YtlfiakpmnkhcdaaGreatLWH
import Derived.Test.YtlfiakpmnkhcdaaGreatLWG
/- Mod of the program. -/
namespace Go.Proofs.YtlfiakpmnkhcdaaGreat
open Go.RowKit
set_option linter.unusedVariables false

end Go.Proofs.YtlfiakpmnkhcdaaGreat
