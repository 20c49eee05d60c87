import Derived.Test.YtfpdemmdkiohhaaLWI
import Derived.Test.YtfpdemmdkiohhaaLWG
namespace Go.Proofs.Ytfpdemmdkiohhaa
def Div3 (a : Bool) (s : ByteArray) (b : Bool) (t : ByteArray) (c : Int) (w : World) (e : Ending) (w' : World) : Prop := e = .returned (.tuple #[.agg #[.bool a, .string s], .agg #[.bool b, .string t], .int .i64 c]) ∧ Gr w w'
end Go.Proofs.Ytfpdemmdkiohhaa
