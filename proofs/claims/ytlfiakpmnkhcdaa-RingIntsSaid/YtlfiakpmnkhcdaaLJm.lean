import Derived.Test.YtlfiakpmnkhcdaaLJl
namespace Go.Proofs.Ytlfiakpmnkhcdaa.Mo
open Go.RowKit Go.Shelf
set_option linter.unusedVariables false
theorem Blk.newk {W : World} {k : Nat} (t : TypeId) (cs : Array Value) (hk : k = W.heap.size) : Blk (W.alloc (.cells cs t)) k t cs := by subst hk; exact Blk.new W t cs
end Go.Proofs.Ytlfiakpmnkhcdaa.Mo
