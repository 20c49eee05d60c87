import Derived.Test.YtlfiakpmnkhcdaaGreatLJl
/- Package ring: operations on two elements. -/
namespace Go.Proofs.YtlfiakpmnkhcdaaGreat.Mo
open Go.RowKit Go.Shelf
set_option linter.unusedVariables false

/-- Two elements that may be added. -/
def TwoOK (N : Int) (ch : List Int) (S : Int) (lv : Int) (sp : Bool) (rA : List (List Int)) (lv2 : Int) (sp2 : Bool) (rB : List (List Int)) : Prop := VP N ch S ∧ EV N ch S lv sp rA ∧ EV N ch S lv2 sp2 rB ∧ lv = lv2 ∧ sp = sp2
instance (N : Int) (ch : List Int) (S : Int) (lv : Int) (sp : Bool) (rA : List (List Int)) (lv2 : Int) (sp2 : Bool) (rB : List (List Int)) : Decidable (TwoOK N ch S lv sp rA lv2 sp2 rB) := by unfold TwoOK; infer_instance
/-- The boxes of binary. -/
structure BB (s : Nat) (cP cA cB cO : Array Value) (W : World) : Prop where
  p : Blk W s 25 cP
  a : Blk W (s + 1) 28 cA
  b : Blk W (s + 2) 28 cB
  o : Blk W (s + 3) 79 cO
  r : Blk W (s + 4) 28 #[.int .i64 0, .bool false, .slice none 0 0]
theorem BB.gr {s : Nat} {cP cA cB cO : Array Value} {W W' : World} (h : BB s cP cA cB cO W) (hg : Gr W W') : BB s cP cA cB cO W' := ⟨h.p.gr hg, h.a.gr hg, h.b.gr hg, h.o.gr hg, h.r.gr hg⟩
theorem Blk.newk {W : World} {k : Nat} (t : TypeId) (cs : Array Value) (hk : k = W.heap.size) : Blk (W.alloc (.cells cs t)) k t cs := by subst hk; exact Blk.new W t cs

end Go.Proofs.YtlfiakpmnkhcdaaGreat.Mo
