/- The reference's Order, Generator and Root, and both sides' Order where there is none. -/
import Derived.Test.YtdkpgocbdphneaaOrd
namespace Go.Proofs.Ytdkpgocbdphneaa
open Go.RowKit
set_option linter.unusedVariables false
def ArgPost (c : Int) (w : World) (e : Ending) (w' : World) : Prop := e = .returned (.tuple #[.int .u32 0, .int .i64 c]) ∧ Gr w w'

end Go.Proofs.Ytdkpgocbdphneaa
