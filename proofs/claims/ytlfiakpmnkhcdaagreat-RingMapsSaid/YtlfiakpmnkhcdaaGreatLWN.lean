import Derived.Test.YtlfiakpmnkhcdaaGreatLWM
import Derived.Test.YtlfiakpmnkhcdaaGreatLWF
/- The reference: minus of words; negative, word, add, compare of integers. -/
namespace Go.Proofs.YtlfiakpmnkhcdaaGreat
open Go.RowKit
set_option linter.unusedVariables false

theorem HasJ.parts {N : Nat} {W : World} {v : Value} {z : Int} (h : HasJ N W v z) : ∃ (neg : Bool) (a : Option Addr) (n cap : Nat) (l : List Nat), v = .agg #[.bool neg, .slice a n cap] ∧ neg = decide (z < 0) ∧ HasD W (.slice a n cap) l ∧ Oh.Nm l ∧ Oh.val l = z.natAbs ∧ l.length ≤ N := by
  obtain ⟨s, l, rfl, hd, hn, hv, hl⟩ := h
  obtain ⟨-, a, cap, rfl, -⟩ := id hd
  exact ⟨_, a, _, cap, l, rfl, rfl, hd, hn, hv, hl⟩

theorem HasD.two (W : World) (E F : Int) (d f : Nat) (hE : E = (d : Int)) (hF : F = (f : Int)) (hd : d < 4294967296) (hf : f < 4294967296) : HasD (W.alloc (.cells #[.int .u32 E, .int .u32 F] 22)) (.slice (some ⟨W.heap.size, 0, none⟩) 2 2) [d, f] := by
  subst hE hF
  refine ⟨fun x hx => by simp at hx; omega, _, 2, rfl, by simp, by omega, fun i hi => ?_⟩
  have : i = 0 ∨ i = 1 := by simp at hi; omega
  rcases this with rfl | rfl
  · exact ⟨_, 0, rfl, by simp [go_sem]⟩
  · exact ⟨_, 0, rfl, by simp [go_sem]⟩

theorem HasD.put2 {W : World} {v : Value} {l : List Nat} {B : Nat} {u0 u1 : Value} (h : HasD W v l) (h0 : W.cell? ⟨B, 0, none⟩ = some u0) (h1 : W.cell? ⟨B, 1, none⟩ = some u1) (n0 : ∀ n, u0 ≠ .int .u32 n) (n1 : ∀ n, u1 ≠ .int .u32 n) (a b : Value) :
    HasD ((W.setCell ⟨B, 0, none⟩ a).setCell ⟨B, 1, none⟩ b) v l := (h.setAt h0 n0 a).setAt ((cell_other (by simp) a).trans h1) n1 b
theorem Gr.put2 {a b : World} (h : Gr a b) {B : Nat} (hB : a.heap.size ≤ B) (u v : Value) : Gr a ((b.setCell ⟨B, 0, none⟩ u).setCell ⟨B, 1, none⟩ v) := (h.setCell (p := ⟨B, 0, none⟩) hB u).setCell (p := ⟨B, 1, none⟩) hB v

end Go.Proofs.YtlfiakpmnkhcdaaGreat
/- The reference: mul of integers. -/
namespace Go.Proofs.YtlfiakpmnkhcdaaGreat
open Go.RowKit
set_option linter.unusedVariables false

/-- Rows of a product below i, and k words of row i, lie in block g. -/
def MulS (l m : List Nat) (i k c g : Nat) (W wr : World) : Prop := ∃ L, Rw wr g (acells L) ∧ Oh.MulI l m i k L c ∧ Below g W wr
theorem MulS.below {l m : List Nat} {i k c g : Nat} {W wr : World} (h : MulS l m i k c g W wr) : Below g W wr := by obtain ⟨_, _, _, h⟩ := h; exact h
theorem MulS.drewN {l m : List Nat} {i k c g : Nat} {W wr : World} (h : MulS l m i k c g W wr) (n : Nat) : MulS l m i k c g W (wr.drewN n) := by
  obtain ⟨L, h1, h2, h3⟩ := h
  exact ⟨L, h1, h2, below_drewN h3 n⟩
theorem MulS.place {l m : List Nat} {i k c g : Nat} {W wr : World} (h : MulS l m i k c g W wr) (hl : Oh.Dg l) (hm : Oh.Dg m) (hi : i < l.length) (hk : k < m.length) :
    ∃ z : Nat, z < 65536 ∧ wr.cell? ⟨g, i + k, none⟩ = some (.int .u32 (z : Int)) ∧ wr.frozen? ⟨g, i + k, none⟩ = false ∧
      ∀ s, s = c + z + l[i]?.getD 0 * m[k]?.getD 0 → s < 4294967296 ∧ MulS l m i (k + 1) (s / 65536) g W (wr.setCell ⟨g, i + k, none⟩ (.int .u32 ((s % 65536 : Nat) : Int))) := by
  obtain ⟨L, h1, h2, h3⟩ := h
  have hlen : i + k < L.length := by rw [h2.1]; omega
  refine ⟨L[i + k]?.getD 0, Oh.dg_at h2.2.1 _, by rw [h1.cell, acells_at _ _ hlen], h1.frozen _, fun s hs => ?_⟩
  obtain ⟨a, b⟩ := h2.step hl hm hi hk hs
  refine ⟨a, _, ?_, b, h3.setCell (Nat.le_refl _) _⟩
  have := h1.set (i + k) (.int .u32 ((s % 65536 : Nat) : Int))
  rw [acells_set] at this
  exact this
theorem MulS.row {l m : List Nat} {i c g : Nat} {W wr : World} (h : MulS l m i m.length c g W wr) (hl : Oh.Dg l) (hi : i < l.length) :
    (∃ u, wr.cell? ⟨g, i + m.length, none⟩ = some u) ∧ wr.frozen? ⟨g, i + m.length, none⟩ = false ∧ MulS l m (i + 1) 0 0 g W (wr.setCell ⟨g, i + m.length, none⟩ (.int .u32 (c : Int))) := by
  obtain ⟨L, h1, h2, h3⟩ := h
  have hlen : i + m.length < L.length := by rw [h2.1]; omega
  refine ⟨⟨_, by rw [h1.cell, acells_at _ _ hlen]⟩, h1.frozen _, _, ?_, h2.row hl hi, h3.setCell (Nat.le_refl _) _⟩
  have := h1.set (i + m.length) (.int .u32 (c : Int))
  rw [acells_set] at this
  exact this
theorem HasD.blt {W : World} {g o n cap : Nat} {l : List Nat} (h : HasD W (.slice (some ⟨g, o, none⟩) n cap) l) (h0 : 0 < l.length) : g < W.heap.size := by
  obtain ⟨g', o', e, hc⟩ := h.at h0
  have e := Option.some.inj e
  simp only [Addr.mk.injEq] at e
  obtain ⟨rfl, rfl, -⟩ := e
  exact World.block_lt_of_cell? W _ hc
theorem MulS.all {l m : List Nat} {g n : Nat} {W wr : World} (h : MulS l m l.length 0 0 g W wr) (hn : l.length + m.length = n) (hb : n ≤ 100000) : ∃ L, HasD wr (.slice (some ⟨g, 0, none⟩) n n) L ∧ Oh.Dg L ∧ Oh.val L = Oh.val l * Oh.val m ∧ L.length = n := by
  obtain ⟨L, h1, h2, h3⟩ := h
  obtain ⟨a, b, c⟩ := h2.all (k := 0)
  refine ⟨L, ⟨b.wide, _, n, by rw [a, hn], by omega, by omega, fun j hj => ⟨g, 0, rfl, ?_⟩⟩, b, c, by omega⟩
  rw [Nat.zero_add, h1.cell, acells_at _ _ hj]
end Go.Proofs.YtlfiakpmnkhcdaaGreat
