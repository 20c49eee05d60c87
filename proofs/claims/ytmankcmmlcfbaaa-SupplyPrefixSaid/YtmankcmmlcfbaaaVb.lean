/- Worlds that differ in one block only; a supply in memory, the program's and the reference's. -/
import Derived.Test.YtmankcmmlcfbaaaVa
import Derived.Laws.AppendOwn
namespace Go.Proofs.Ytmankcmmlcfbaaa
open Go.RowKit Ov
set_option linter.unusedVariables false

/-- Nothing but block b, and new memory, has changed. -/
structure Ex (b : Nat) (w w' : World) : Prop where
  os : w'.os = w.os
  tape : w'.tape = w.tape
  output : w'.output = w.output
  size : w.heap.size ≤ w'.heap.size
  block : ∀ k, k < w.heap.size → k ≠ b → w'.heap[k]? = w.heap[k]?
theorem Ex.refl (b : Nat) (w : World) : Ex b w w := ⟨rfl, rfl, rfl, Nat.le_refl _, fun _ _ _ => rfl⟩
theorem Ex.trans {b : Nat} {x y z : World} (h : Ex b x y) (k : Ex b y z) : Ex b x z :=
  ⟨k.os.trans h.os, k.tape.trans h.tape, k.output.trans h.output, Nat.le_trans h.size k.size, fun i hi hb => (k.block i (Nat.lt_of_lt_of_le hi h.size) hb).trans (h.block i hi hb)⟩
theorem Ex.of {w w' : World} (h : Gr w w') (b : Nat) : Ex b w w' := ⟨h.os, h.tape, h.output, h.size, fun k hk _ => h.block k hk⟩
theorem Ex.gr {w0 w w' : World} {b : Nat} (h : Ex b w w') (g : Gr w0 w) (hb : w0.heap.size ≤ b) : Gr w0 w' :=
  ⟨h.os.trans g.os, h.tape.trans g.tape, h.output.trans g.output, Nat.le_trans g.size h.size, fun k hk => (h.block k (Nat.lt_of_lt_of_le hk g.size) (by omega)).trans (g.block k hk)⟩
theorem Ex.alloc {b : Nat} {w w' : World} (h : Ex b w w') (o : Obj) : Ex b w (w'.alloc o) := h.trans (Ex.of (Gr.new w' o) b)
theorem Ex.drewN {b : Nat} {w w' : World} (h : Ex b w w') (n : Nat) : Ex b w (w'.drewN n) := ⟨h.os, h.tape, h.output, h.size, h.block⟩
theorem Ex.setCell {b : Nat} {w w' : World} (h : Ex b w w') {p : Addr} (hp : p.block = b ∨ w.heap.size ≤ p.block) (u : Value) : Ex b w (w'.setCell p u) :=
  ⟨h.os, h.tape, h.output, by simpa using h.size, fun k hk hb => by
    rw [Below.heap_setCell _ _ _ _ (by rcases hp with rfl | hp <;> omega)]; exact h.block k hk hb⟩
theorem Ex.cell {b : Nat} {w w' : World} (h : Ex b w w') {p : Addr} (hp : p.block < w.heap.size) (hb : p.block ≠ b) : w'.cell? p = w.cell? p := World.cell?_of_block (w := w) (h.block p.block hp hb)
theorem lt_of_cell {w : World} {p : Addr} {v : Value} (hv : w.cell? p = some v) : p.block < w.heap.size := by
  apply Classical.byContradiction; intro hn
  have : w.heap[p.block]? = none := by simp; omega
  simp [World.cell?, this] at hv
theorem Ex.keeps {b : Nat} {w w' : World} (h : Ex b w w') {p : Addr} {v : Value} (hv : w.cell? p = some v) (hb : p.block ≠ b) : w'.cell? p = some v := by
  rw [h.cell (lt_of_cell hv) hb]; exact hv
theorem Ex.frozen {b : Nat} {w w' : World} (h : Ex b w w') {p : Addr} (hp : p.block < w.heap.size) (hb : p.block ≠ b) : w'.frozen? p = w.frozen? p := World.frozen?_of_block (w := w) (h.block p.block hp hb)
theorem Ex.grown {b : Nat} {w a c : World} {row : Option Nat} (h : Ex b w a) (hg : a.grownBy c row) (hr : ∀ k, row = some k → w.heap.size ≤ k) : Ex b w c :=
  ⟨hg.os.trans h.os, hg.tape.trans h.tape, hg.output.trans h.output, Nat.le_trans h.size hg.size, fun k hk hb => (hg.block k (Nat.lt_of_lt_of_le hk h.size) (fun e => by have := hr k e.symm; omega)).trans (h.block k hk hb)⟩

/-- The bytes of a string lie in block g. -/
def Byts (w : World) (g : Nat) (s : ByteArray) : Prop := ∀ j, j < s.size → w.cell? ⟨g, j, none⟩ = some (.int .u8 (byt s j))
theorem Byts.of_block {w w' : World} {g : Nat} {s : ByteArray} (h : Byts w g s) (e : w'.heap[g]? = w.heap[g]?) : Byts w' g s := fun j hj => by
  rw [World.cell?_of_block (w := w) (a := ⟨g, j, none⟩) e]; exact h j hj

/-- Block b is the program's supply of the string s, of which p bits are taken; its bytes lie in block g. -/
structure Sup (w : World) (b g c : Nat) (s : ByteArray) (p : Nat) : Prop where
  ne : g ≠ b
  lt : b < w.heap.size ∧ g < w.heap.size
  c0 : w.cell? ⟨b, 0, none⟩ = some (.slice (some ⟨g, 0, none⟩) s.size c)
  c1 : w.cell? ⟨b, 1, none⟩ = some (.int .i64 (p : Int))
  c2 : w.cell? ⟨b, 2, none⟩ = some (.pointer (some ⟨b, 0, none⟩))
  fz : ∀ j, w.frozen? ⟨b, j, none⟩ = false
  by_ : Byts w g s
  len : s.size ≤ 1048576
  place : p ≤ nbits s
theorem Sup.same {w w' : World} {b g c : Nat} {s : ByteArray} {p : Nat} (h : Sup w b g c s p) (eb : w'.heap[b]? = w.heap[b]?) (eg : w'.heap[g]? = w.heap[g]?) (hs : w.heap.size ≤ w'.heap.size) : Sup w' b g c s p := by
  have e : ∀ j, w'.cell? ⟨b, j, none⟩ = w.cell? ⟨b, j, none⟩ := fun j => World.cell?_of_block (w := w) (a := ⟨b, j, none⟩) eb
  have f : ∀ j, w'.frozen? ⟨b, j, none⟩ = w.frozen? ⟨b, j, none⟩ := fun j => World.frozen?_of_block (w := w) (a := ⟨b, j, none⟩) eb
  exact ⟨h.ne, ⟨by have := h.lt; omega, by have := h.lt; omega⟩, (e 0).trans h.c0, (e 1).trans h.c1, (e 2).trans h.c2, fun j => (f j).trans (h.fz j), h.by_.of_block eg, h.len, h.place⟩
theorem Sup.later {w w' : World} {b g c : Nat} {s : ByteArray} {p : Nat} (h : Sup w b g c s p) (k : Gr w w') : Sup w' b g c s p := h.same (k.block b h.lt.1) (k.block g h.lt.2) k.size
/-- Something else has changed. -/
theorem Sup.ex {w w' : World} {b g c b' : Nat} {s : ByteArray} {p : Nat} (h : Sup w b g c s p) (k : Ex b' w w') (h1 : b ≠ b') (h2 : g ≠ b') : Sup w' b g c s p := h.same (k.block b h.lt.1 h1) (k.block g h.lt.2 h2) k.size
theorem Sup.other {w : World} {b g c : Nat} {s : ByteArray} {p : Nat} (h : Sup w b g c s p) {a : Addr} (h1 : a.block ≠ b) (h2 : a.block ≠ g) (u : Value) : Sup (w.setCell a u) b g c s p :=
  h.same (Below.heap_setCell _ _ _ _ (Ne.symm h1)) (Below.heap_setCell _ _ _ _ (Ne.symm h2)) (by simp)
theorem Sup.set {w : World} {b g c : Nat} {s : ByteArray} {p q : Nat} (h : Sup w b g c s p) {v : Int} (hv : v = q) (hq : q ≤ nbits s) : Sup (w.setCell ⟨b, 1, none⟩ (.int .i64 v)) b g c s q := by
  subst hv
  have n0 : (⟨b, 0, none⟩ : Addr) ≠ ⟨b, 1, none⟩ := by simp
  have n2 : (⟨b, 2, none⟩ : Addr) ≠ ⟨b, 1, none⟩ := by simp
  refine ⟨h.ne, by simpa using h.lt, ?_, ?_, ?_, fun j => ?_, h.by_.of_block (Below.heap_setCell _ _ _ _ h.ne), h.len, hq⟩
  · rw [World.cell?_setCell_other _ _ _ _ (Ne.symm n0)]; exact h.c0
  · exact World.cell?_setCell_same _ _ _ h.c1
  · rw [World.cell?_setCell_other _ _ _ _ (Ne.symm n2)]; exact h.c2
  · rw [World.frozen?_setCell]; exact h.fz j

/-- Block b is the reference's supply. -/
structure Rup (w : World) (b : Nat) (s : ByteArray) (p : Nat) : Prop where
  lt : b < w.heap.size
  c0 : w.cell? ⟨b, 0, none⟩ = some (.string s)
  c1 : w.cell? ⟨b, 1, none⟩ = some (.int .i64 (p : Int))
  fz : ∀ j, w.frozen? ⟨b, j, none⟩ = false
  len : s.size ≤ 1048576
  place : p ≤ nbits s
theorem Rup.same {w w' : World} {b : Nat} {s : ByteArray} {p : Nat} (h : Rup w b s p) (eb : w'.heap[b]? = w.heap[b]?) (hs : w.heap.size ≤ w'.heap.size) : Rup w' b s p := by
  have e : ∀ j, w'.cell? ⟨b, j, none⟩ = w.cell? ⟨b, j, none⟩ := fun j => World.cell?_of_block (w := w) (a := ⟨b, j, none⟩) eb
  have f : ∀ j, w'.frozen? ⟨b, j, none⟩ = w.frozen? ⟨b, j, none⟩ := fun j => World.frozen?_of_block (w := w) (a := ⟨b, j, none⟩) eb
  exact ⟨by have := h.lt; omega, (e 0).trans h.c0, (e 1).trans h.c1, fun j => (f j).trans (h.fz j), h.len, h.place⟩
theorem Rup.later {w w' : World} {b : Nat} {s : ByteArray} {p : Nat} (h : Rup w b s p) (k : Gr w w') : Rup w' b s p := h.same (k.block b h.lt) k.size
theorem Rup.ex {w w' : World} {b b' : Nat} {s : ByteArray} {p : Nat} (h : Rup w b s p) (k : Ex b' w w') (h1 : b ≠ b') : Rup w' b s p := h.same (k.block b h.lt h1) k.size
theorem Rup.other {w : World} {b : Nat} {s : ByteArray} {p : Nat} (h : Rup w b s p) {a : Addr} (h1 : a.block ≠ b) (u : Value) : Rup (w.setCell a u) b s p := h.same (Below.heap_setCell _ _ _ _ (Ne.symm h1)) (by simp)
theorem Rup.set {w : World} {b : Nat} {s : ByteArray} {p q : Nat} (h : Rup w b s p) {v : Int} (hv : v = q) (hq : q ≤ nbits s) : Rup (w.setCell ⟨b, 1, none⟩ (.int .i64 v)) b s q := by
  subst hv
  have n0 : (⟨b, 0, none⟩ : Addr) ≠ ⟨b, 1, none⟩ := by simp
  refine ⟨by simpa using h.lt, ?_, ?_, fun j => ?_, h.len, hq⟩
  · rw [World.cell?_setCell_other _ _ _ _ (Ne.symm n0)]; exact h.c0
  · exact World.cell?_setCell_same _ _ _ h.c1
  · rw [World.frozen?_setCell]; exact h.fz j

/-- t is a function that takes bits of the supply in block b. -/
def IsTk (w : World) (t : Value) (b : Nat) : Prop := ∃ q, t = .func (.func 56) #[] #[.pointer (some ⟨q, 0, none⟩)] ∧ q ≠ b ∧ w.cell? ⟨q, 0, none⟩ = some (.pointer (some ⟨b, 0, none⟩))
theorem IsTk.ex {w w' : World} {t : Value} {b : Nat} (h : IsTk w t b) (k : Ex b w w') : IsTk w' t b := by
  obtain ⟨q, e, h1, h2⟩ := h
  exact ⟨q, e, h1, k.keeps h2 h1⟩
end Go.Proofs.Ytmankcmmlcfbaaa
