import Derived.Test.YtlfiakpmnkhcdaaLWM
import Derived.Test.YtlfiakpmnkhcdaaLWF
namespace Go.Proofs.Ytlfiakpmnkhcdaa
open Go.RowKit
set_option linter.unusedVariables false
theorem HasJ.parts {N : Nat} {W : World} {v : Value} {z : Int} (h : HasJ N W v z) : ∃ (neg : Bool) (a : Option Addr) (n cap : Nat) (l : List Nat), v = .agg #[.bool neg, .slice a n cap] ∧ neg = decide (z < 0) ∧ HasD W (.slice a n cap) l ∧ Oh.Nm l ∧ Oh.val l = z.natAbs ∧ l.length ≤ N := by
  obtain ⟨s, l, rfl, hd, hn, hv, hl⟩ := h
  obtain ⟨-, a, cap, rfl, -⟩ := id hd
  exact ⟨_, a, _, cap, l, rfl, rfl, hd, hn, hv, hl⟩
theorem HasD.put2 {W : World} {v : Value} {l : List Nat} {B : Nat} {u0 u1 : Value} (h : HasD W v l) (h0 : W.cell? ⟨B, 0, none⟩ = some u0) (h1 : W.cell? ⟨B, 1, none⟩ = some u1) (n0 : ∀ n, u0 ≠ .int .u32 n) (n1 : ∀ n, u1 ≠ .int .u32 n) (a b : Value) :
    HasD ((W.setCell ⟨B, 0, none⟩ a).setCell ⟨B, 1, none⟩ b) v l := (h.setAt h0 n0 a).setAt ((cell_other (by simp) a).trans h1) n1 b
theorem Gr.put2 {a b : World} (h : Gr a b) {B : Nat} (hB : a.heap.size ≤ B) (u v : Value) : Gr a ((b.setCell ⟨B, 0, none⟩ u).setCell ⟨B, 1, none⟩ v) := (h.setCell (p := ⟨B, 0, none⟩) hB u).setCell (p := ⟨B, 1, none⟩) hB v
end Go.Proofs.Ytlfiakpmnkhcdaa
namespace Go.Proofs.Ytlfiakpmnkhcdaa
open Go.RowKit
set_option linter.unusedVariables false
end Go.Proofs.Ytlfiakpmnkhcdaa
