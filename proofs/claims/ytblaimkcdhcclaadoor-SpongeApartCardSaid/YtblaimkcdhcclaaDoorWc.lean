/- round, of the reference. -/
import Derived.Test.YtblaimkcdhcclaaDoorWb
import Derived.LoopN
namespace Go.Proofs.YtblaimkcdhcclaaDoor
open Go.RowKit Oz
set_option linter.unusedVariables false
/-- A state, as a value. -/
def stv (x : St) : Value := .agg #[.int .u64 (nv x.a), .int .u64 (nv x.b), .int .u64 (nv x.c), .int .u64 (nv x.d), .int .u64 (nv x.e)]
/-- Block g holds five words. -/
structure Arr (w : World) (g : Nat) (a b c d e : BitVec 64) : Prop where
  lt : g < w.heap.size
  c0 : w.cell? ⟨g, 0, none⟩ = some (.int .u64 (nv a))
  c1 : w.cell? ⟨g, 1, none⟩ = some (.int .u64 (nv b))
  c2 : w.cell? ⟨g, 2, none⟩ = some (.int .u64 (nv c))
  c3 : w.cell? ⟨g, 3, none⟩ = some (.int .u64 (nv d))
  c4 : w.cell? ⟨g, 4, none⟩ = some (.int .u64 (nv e))
  fz : ∀ j, w.frozen? ⟨g, j, none⟩ = false
theorem fz_new (W : World) (C : Array Value) (T : TypeId) (j : Nat) : (W.alloc (.cells C T)).frozen? ⟨W.heap.size, j, none⟩ = false := by
  have h := World.frozen?_alloc_mark W C T 0 0 j
  rw [show (W.alloc (.cells C T)) = W.alloc (.cells C T (0, 0)) from rfl, h]; simp
theorem cl_new (W : World) (C : Array Value) (T : TypeId) (j : Nat) : (W.alloc (.cells C T)).cell? ⟨W.heap.size, j, none⟩ = C[j]? := World.cell?_alloc_mark W C T (0, 0) j
theorem Arr.new {W : World} {g : Nat} {a b c d e : BitVec 64} {T : TypeId} (hg : g = W.heap.size) : Arr (W.alloc (.cells #[.int .u64 (nv a), .int .u64 (nv b), .int .u64 (nv c), .int .u64 (nv d), .int .u64 (nv e)] T)) g a b c d e := by
  subst hg
  exact ⟨by simp, cl_new W _ T 0, cl_new W _ T 1, cl_new W _ T 2, cl_new W _ T 3, cl_new W _ T 4, fun j => fz_new W _ T j⟩
theorem Arr.same {w w' : World} {g : Nat} {a b c d e : BitVec 64} (h : Arr w g a b c d e) (k : w'.heap[g]? = w.heap[g]?) (hs : w.heap.size ≤ w'.heap.size) : Arr w' g a b c d e := by
  have ec : ∀ j, w'.cell? ⟨g, j, none⟩ = w.cell? ⟨g, j, none⟩ := fun j => World.cell?_of_block (w := w) (a := ⟨g, j, none⟩) k
  have ef : ∀ j, w'.frozen? ⟨g, j, none⟩ = w.frozen? ⟨g, j, none⟩ := fun j => World.frozen?_of_block (w := w) (a := ⟨g, j, none⟩) k
  exact ⟨by have := h.lt; omega, (ec 0).trans h.c0, (ec 1).trans h.c1, (ec 2).trans h.c2, (ec 3).trans h.c3, (ec 4).trans h.c4, fun j => (ef j).trans (h.fz j)⟩
theorem Arr.later {w w' : World} {g : Nat} {a b c d e : BitVec 64} (h : Arr w g a b c d e) (k : Gr w w') : Arr w' g a b c d e := h.same (k.block g h.lt) k.size
theorem Arr.other {w : World} {g : Nat} {a b c d e : BitVec 64} (h : Arr w g a b c d e) {p : Addr} (hp : p.block ≠ g) (u : Value) : Arr (w.setCell p u) g a b c d e := h.same (Below.heap_setCell _ _ _ _ (Ne.symm hp)) (by simp)
theorem Arr.drew {w : World} {g : Nat} {a b c d e : BitVec 64} (h : Arr w g a b c d e) : Arr w.drew g a b c d e := h.later ((Gr.refl w).drewN 1)
theorem ne_cell {g i j : Nat} (h : i ≠ j) : (⟨g, i, none⟩ : Addr) ≠ ⟨g, j, none⟩ := by intro k; injection k with _ k2; exact h k2
theorem Arr.set0 {w : World} {g : Nat} {a b c d e : BitVec 64} (h : Arr w g a b c d e) (u : BitVec 64) : Arr (w.setCell ⟨g, 0, none⟩ (.int .u64 (nv u))) g u b c d e :=
  ⟨by simpa using h.lt, World.cell?_setCell_same _ _ _ h.c0, (World.cell?_setCell_other _ _ _ _ (ne_cell (by omega))).trans h.c1, (World.cell?_setCell_other _ _ _ _ (ne_cell (by omega))).trans h.c2, (World.cell?_setCell_other _ _ _ _ (ne_cell (by omega))).trans h.c3, (World.cell?_setCell_other _ _ _ _ (ne_cell (by omega))).trans h.c4, fun j => by rw [World.frozen?_setCell]; exact h.fz j⟩
theorem Arr.set1 {w : World} {g : Nat} {a b c d e : BitVec 64} (h : Arr w g a b c d e) (u : BitVec 64) : Arr (w.setCell ⟨g, 1, none⟩ (.int .u64 (nv u))) g a u c d e :=
  ⟨by simpa using h.lt, (World.cell?_setCell_other _ _ _ _ (ne_cell (by omega))).trans h.c0, World.cell?_setCell_same _ _ _ h.c1, (World.cell?_setCell_other _ _ _ _ (ne_cell (by omega))).trans h.c2, (World.cell?_setCell_other _ _ _ _ (ne_cell (by omega))).trans h.c3, (World.cell?_setCell_other _ _ _ _ (ne_cell (by omega))).trans h.c4, fun j => by rw [World.frozen?_setCell]; exact h.fz j⟩
theorem Arr.set2 {w : World} {g : Nat} {a b c d e : BitVec 64} (h : Arr w g a b c d e) (u : BitVec 64) : Arr (w.setCell ⟨g, 2, none⟩ (.int .u64 (nv u))) g a b u d e :=
  ⟨by simpa using h.lt, (World.cell?_setCell_other _ _ _ _ (ne_cell (by omega))).trans h.c0, (World.cell?_setCell_other _ _ _ _ (ne_cell (by omega))).trans h.c1, World.cell?_setCell_same _ _ _ h.c2, (World.cell?_setCell_other _ _ _ _ (ne_cell (by omega))).trans h.c3, (World.cell?_setCell_other _ _ _ _ (ne_cell (by omega))).trans h.c4, fun j => by rw [World.frozen?_setCell]; exact h.fz j⟩
theorem Arr.set3 {w : World} {g : Nat} {a b c d e : BitVec 64} (h : Arr w g a b c d e) (u : BitVec 64) : Arr (w.setCell ⟨g, 3, none⟩ (.int .u64 (nv u))) g a b c u e :=
  ⟨by simpa using h.lt, (World.cell?_setCell_other _ _ _ _ (ne_cell (by omega))).trans h.c0, (World.cell?_setCell_other _ _ _ _ (ne_cell (by omega))).trans h.c1, (World.cell?_setCell_other _ _ _ _ (ne_cell (by omega))).trans h.c2, World.cell?_setCell_same _ _ _ h.c3, (World.cell?_setCell_other _ _ _ _ (ne_cell (by omega))).trans h.c4, fun j => by rw [World.frozen?_setCell]; exact h.fz j⟩
theorem Arr.set4 {w : World} {g : Nat} {a b c d e : BitVec 64} (h : Arr w g a b c d e) (u : BitVec 64) : Arr (w.setCell ⟨g, 4, none⟩ (.int .u64 (nv u))) g a b c d u :=
  ⟨by simpa using h.lt, (World.cell?_setCell_other _ _ _ _ (ne_cell (by omega))).trans h.c0, (World.cell?_setCell_other _ _ _ _ (ne_cell (by omega))).trans h.c1, (World.cell?_setCell_other _ _ _ _ (ne_cell (by omega))).trans h.c2, (World.cell?_setCell_other _ _ _ _ (ne_cell (by omega))).trans h.c3, World.cell?_setCell_same _ _ _ h.c4, fun j => by rw [World.frozen?_setCell]; exact h.fz j⟩
/-- The turns, in block t. -/
def turn (j : Nat) : Nat := [19, 28, 61, 39, 1, 6, 10, 17, 7, 41].getD j 0
structure Trn (w : World) (t : Nat) : Prop where
  lt : t < w.heap.size
  c : ∀ j, j < 10 → w.cell? ⟨t, j, none⟩ = some (.int .i64 (turn j : Nat))
theorem Trn.same {w w' : World} {g : Nat} (h : Trn w g) (k : w'.heap[g]? = w.heap[g]?) (hs : w.heap.size ≤ w'.heap.size) : Trn w' g := by
  have ec : ∀ j, w'.cell? ⟨g, j, none⟩ = w.cell? ⟨g, j, none⟩ := fun j => World.cell?_of_block (w := w) (a := ⟨g, j, none⟩) k
  exact ⟨by have := h.lt; omega, fun j hj => (ec j).trans (h.c j hj)⟩
theorem Trn.later {w w' : World} {g : Nat} (h : Trn w g) (k : Gr w w') : Trn w' g := h.same (k.block g h.lt) k.size
theorem Trn.other {w : World} {g : Nat} (h : Trn w g) {p : Addr} (hp : p.block ≠ g) (u : Value) : Trn (w.setCell p u) g := h.same (Below.heap_setCell _ _ _ _ (Ne.symm hp)) (by simp)
theorem Trn.new {W : World} {g : Nat} {T : TypeId} (hg : g = W.heap.size) : Trn (W.alloc (.cells #[.int .i64 19, .int .i64 28, .int .i64 61, .int .i64 39, .int .i64 1, .int .i64 6, .int .i64 10, .int .i64 17, .int .i64 7, .int .i64 41] T)) g := by
  subst hg
  refine ⟨by simp, fun j hj => (cl_new W _ T j).trans ?_⟩
  have hc : j = 0 ∨ j = 1 ∨ j = 2 ∨ j = 3 ∨ j = 4 ∨ j = 5 ∨ j = 6 ∨ j = 7 ∨ j = 8 ∨ j = 9 := by omega
  rcases hc with rfl | rfl | rfl | rfl | rfl | rfl | rfl | rfl | rfl | rfl <;> rfl
end Go.Proofs.YtblaimkcdhcclaaDoor
