import Derived.Test.YtlfiakpmnkhcdaaLQa
import Derived.Deep.QuietTactic
import Derived.BigQuiet
namespace Go.Proofs.Ytlfiakpmnkhcdaa
open Go.RowKit
set_option linter.unusedVariables false
theorem wpList_app {ops : Array Oper} {rest : List Oper} {o : Oper} {a : Act} {w : World} {Q : Exit → Act → World → Prop} (hgd : o.guard = none) (s x : Operand)
    (ho : o.op = .call { callee := .builtin .append, args := #[s, x], argTypes := #[23, 23] }) (hty : o.type = 23)
    (base : Nat) (v : Value) (l0 : List Nat) (hs : a.eval s = v) (hown : Own1 w base v l0) (u : Value) (m : List Nat) (hx : a.eval x = u) (hu : HasD w u m) (hlen : l0.length + m.length ≤ 1000000) (hbase : base ≤ w.heap.size)
    (h : ∀ v' w', Own1 w' base v' (l0 ++ m) → w.grownBy w' v.ownBlock → wpList Try.prog ops Q rest (a.put o.dst v') w') : wpList Try.prog ops Q (o :: rest) a w := by
  refine wpList_plain hgd fun K hK => ?_
  obtain ⟨v', w', hr, h2, h3⟩ := run_app w base v l0 hown u m hu hlen hbase
  unfold Oper.wp execOp
  simp only [ho, hty, resolve, invoke, builtin, Sem.run_bind, Sem.run_pure, Result.andThen_ok, List.map_toArray, List.map_cons, List.map_nil, hs, hx, hr]
  exact hK _ _ (h v' w' h2 h3)
theorem HasD.one (W : World) (E : Int) (d : Nat) (hE : E = (d : Int)) (hd : d < 4294967296) : HasD (W.alloc (.cells #[.int .u32 E] 22)) (.slice (some ⟨W.heap.size, 0, none⟩) 1 1) [d] := by
  subst hE
  refine ⟨fun x hx => by simp at hx; omega, _, 1, rfl, by simp, by omega, fun i hi => ?_⟩
  have : i = 0 := by simp at hi; exact hi
  subst this
  exact ⟨_, 0, rfl, by simp [go_sem]⟩
theorem Own1.nil (w : World) (base : Nat) : Own1 w base (.slice none 0 0) [] := ⟨Ow.dg_nil, World.ownsRow_nil _ _ _ _⟩
theorem Own1.alloc {w : World} {base : Nat} {v : Value} {l : List Nat} (h : Own1 w base v l) (o : Obj) : Own1 (w.alloc o) base v l := ⟨h.1, h.2.alloc _⟩
theorem Own1.block {W : World} {base : Nat} {v : Value} {l : List Nat} (h : Own1 W base v l) : ∀ g, v.ownBlock = some g → base ≤ g := by
  intro g hg
  rcases h.2.2 with ⟨rfl, _⟩ | ⟨b, cap, cur, rfl, hb, _⟩
  · simp [Value.ownBlock] at hg
  · simp only [Value.ownBlock, Option.some.injEq] at hg; omega
theorem grown_below {W W1 : World} {base : Nat} {v : Value} {l : List Nat} {o : Obj} (hown : Own1 W base v l) (hg : (W.alloc o).grownBy W1 v.ownBlock) (hb : base ≤ W.heap.size) : Below base W W1 :=
  Below.grown (Below.alloc (Below.refl _ _) hb o) hg (by rw [World.size_alloc]; omega) hown.block
theorem below_keeps {B : Nat} {a b : World} (h : Below B a b) {p : Addr} {v : Value} (hp : p.block < B) (hv : a.cell? p = some v) : b.cell? p = some v := (h.cell hp).trans hv
theorem below_frozen {B : Nat} {a b : World} (h : Below B a b) {p : Addr} {x : Bool} (hp : p.block < B) (hv : a.frozen? p = x) : b.frozen? p = x := (h.frozen hp).trans hv
theorem Own1.slice {W : World} {base : Nat} {v : Value} {l : List Nat} (h : Own1 W base v l) {n : Nat} (hn : l.length = n) : ∃ a cap, v = .slice a n cap := by
  obtain ⟨-, a, cap, rfl, -⟩ := h.hasD
  exact ⟨a, cap, by rw [hn]⟩
theorem Own1.setCell {w : World} {base : Nat} {v : Value} {l : List Nat} (h : Own1 w base v l) {p : Addr} (hp : p.block < base) (u : Value) : Own1 (w.setCell p u) base v l := by
  refine ⟨h.1, h.2.1, ?_⟩
  rcases h.2.2 with hh | ⟨g, cap, cur, e, hb, hg, hr⟩
  · exact .inl hh
  · exact .inr ⟨g, cap, cur, e, hb, (Below.heap_setCell w p u g (by omega)).trans hg, hr⟩
end Go.Proofs.Ytlfiakpmnkhcdaa
namespace Go.Proofs.Ytlfiakpmnkhcdaa
open Go.RowKit
set_option linter.unusedVariables false
theorem HasD.at {W : World} {a : Option Addr} {n cap : Nat} {l : List Nat} (h : HasD W (.slice a n cap) l) {i : Nat} (hi : i < l.length) : ∃ g o, a = some ⟨g, o, none⟩ ∧ W.cell? ⟨g, o + i, none⟩ = some (.int .u32 ((l[i]?.getD 0 : Nat) : Int)) := by
  obtain ⟨_, a', cap', e, _, _, hc⟩ := h
  simp only [Value.slice.injEq] at e
  obtain ⟨rfl, -, -⟩ := e
  exact hc i hi
theorem HasD.len {W : World} {a : Option Addr} {n cap : Nat} {l : List Nat} (h : HasD W (.slice a n cap) l) : n = l.length ∧ n ≤ cap ∧ cap ≤ 9223372036854775807 := by
  obtain ⟨_, a', cap', e, h1, h2, _⟩ := h
  simp only [Value.slice.injEq] at e
  obtain ⟨-, rfl, rfl⟩ := e
  exact ⟨rfl, h1, h2⟩
end Go.Proofs.Ytlfiakpmnkhcdaa
