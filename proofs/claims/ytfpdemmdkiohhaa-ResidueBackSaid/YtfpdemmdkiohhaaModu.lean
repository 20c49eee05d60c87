import Derived.Test.YtfpdemmdkiohhaaQk
import Derived.Test.YtfpdemmdkiohhaaModua
/- Mod, both sides. -/
namespace Go.Proofs.Ytfpdemmdkiohhaa
open Go.RowKit
set_option linter.unusedVariables false

end Go.Proofs.Ytfpdemmdkiohhaa
