import Derived.Test.YtlfiakpmnkhcdaaGreatLWH
import Derived.Test.YtlfiakpmnkhcdaaGreatLWG
namespace Go.Proofs.YtlfiakpmnkhcdaaGreat
open Go.RowKit
set_option linter.unusedVariables false
def PairU (p q : Int) (w : World) (e : Ending) (w' : World) : Prop := e = .returned (.tuple #[.int .u32 p, .int .i64 q]) ∧ Gr w w'
def resU (neg : Bool) (V n : Nat) : Nat := if neg = true ∧ 0 < V % n then n - V % n else V % n
end Go.Proofs.YtlfiakpmnkhcdaaGreat
