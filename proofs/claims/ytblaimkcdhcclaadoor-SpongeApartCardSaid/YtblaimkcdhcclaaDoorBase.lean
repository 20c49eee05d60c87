/- The ground of this seat's texts: the word for 'at most new memory', and small laws of numbers in the walk's own spelling. -/
import Derived.Test.YtblaimkcdhcclaaDoorRows
import Derived.WalkKit
import Derived.WalkSpells
import Derived.WalkLawsBesides
import Derived.IntWalk
import Derived.Lib.Hide
import Derived.Carry
import Derived.WalkSmall
namespace Go.Proofs.YtblaimkcdhcclaaDoor
open Go.RowKit
set_option linter.unusedVariables false

/-- Nothing that was there has changed. -/
def Gr (w w' : World) : Prop := Below w.heap.size w w'
theorem Gr.refl (w : World) : Gr w w := Below.refl _ _
theorem Gr.trans {a b c : World} (h : Gr a b) (k : Gr b c) : Gr a c := Below.trans h (Below.mono k (Below.size h))
theorem Gr.size {a b : World} (h : Gr a b) : a.heap.size ≤ b.heap.size := Below.size h
theorem Gr.alloc {a b : World} (h : Gr a b) (o : Obj) : Gr a (b.alloc o) := Below.alloc h h.size o
/-- The answer is true, and nothing that was there has changed. -/
def Truth (w : World) (e : Ending) (w' : World) : Prop := e = .returned (.bool true) ∧ Gr w w'
theorem Gr.new (w : World) (o : Obj) : Gr w (w.alloc o) := (Gr.refl w).alloc o
theorem Gr.setCell {a b : World} (h : Gr a b) {p : Addr} (hp : a.heap.size ≤ p.block) (u : Value) : Gr a (b.setCell p u) := Below.setCell h hp u
theorem Gr.cell {a b : World} (h : Gr a b) {p : Addr} (hp : p.block < a.heap.size) : b.cell? p = a.cell? p := Below.cell h hp
theorem Gr.keeps {a b : World} (h : Gr a b) {p : Addr} {v : Value} (hv : a.cell? p = some v) : b.cell? p = some v := by
  have hp : p.block < a.heap.size := by
    apply Classical.byContradiction; intro hn
    have : a.heap[p.block]? = none := by simp; omega
    simp [World.cell?, this] at hv
  rw [h.cell hp]; exact hv
theorem Gr.drewN {a b : World} (h : Gr a b) (n : Nat) : Gr a (b.drewN n) := below_drewN h n
theorem cell_new (w : World) (v : Value) (t : TypeId) : (w.alloc (.cells #[v] t)).cell? ⟨w.heap.size, 0, none⟩ = some v := by
  simp [go_sem]

theorem ret_int {k : IntKind} {a b : Int} (h : a = b) : Ending.returned (.int k a) = .returned (.int k b) := by rw [h]
theorem ret_bool {a b : Bool} (h : a = b) : Ending.returned (.bool a) = .returned (.bool b) := by rw [h]

theorem emod_lo (x n : Int) (h : 1 ≤ n) : 0 ≤ x % n := Int.emod_nonneg _ (by omega)
theorem emod_hi (x n : Int) (h : 1 ≤ n) : x % n < n := Int.emod_lt_of_pos _ (by omega)
theorem mul_lo {a b : Int} (ha : 0 ≤ a) (hb : 0 ≤ b) : 0 ≤ a * b := Int.mul_nonneg ha hb
theorem mul_hi {a b : Int} (ha : 0 ≤ a) (hb : 0 ≤ b) (ha' : a ≤ 4294967295) (hb' : b ≤ 4294967295) : a * b ≤ 18446744065119617025 := by
  have h1 : a * b ≤ 4294967295 * b := Int.mul_le_mul_of_nonneg_right ha' hb
  omega
theorem tmod_emod (v n : Int) : v % n = v.tmod n % n := by
  have h : v = v.tmod n + n * v.tdiv n := (Int.tmod_add_mul_tdiv v n).symm
  conv => lhs; rw [h]
  exact Int.add_mul_emod_self_left _ _ _
theorem emod_neg_case (v n : Int) (h : v.tmod n < 0) (h2 : - n < v.tmod n) : v % n = v.tmod n + n := by
  rw [tmod_emod, ← Int.add_emod_right]
  exact Int.emod_eq_of_lt (by omega) (by omega)
theorem emod_pos_case (v n : Int) (h : ¬ v.tmod n < 0) (h2 : v.tmod n < n) : v % n = v.tmod n := by
  rw [tmod_emod]
  exact Int.emod_eq_of_lt (by omega) (by omega)
end Go.Proofs.YtblaimkcdhcclaaDoor
