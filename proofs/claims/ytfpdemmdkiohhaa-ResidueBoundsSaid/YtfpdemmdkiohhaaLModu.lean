import Derived.Test.YtfpdemmdkiohhaaLQk
import Derived.Test.YtfpdemmdkiohhaaLModua
/- Mod, both sides. -/
namespace Go.Proofs.Ytfpdemmdkiohhaa
open Go.RowKit
set_option linter.unusedVariables false

end Go.Proofs.Ytfpdemmdkiohhaa
