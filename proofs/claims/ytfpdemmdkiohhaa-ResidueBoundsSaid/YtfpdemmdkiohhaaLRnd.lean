import Derived.Test.YtfpdemmdkiohhaaLModu
import Derived.Test.YtfpdemmdkiohhaaLWJ
/- The program: Round's exported part, Div's invalid case. -/
namespace Go.Proofs.Ytfpdemmdkiohhaa
open Go.RowKit
set_option linter.unusedVariables false

end Go.Proofs.Ytfpdemmdkiohhaa
