/- Digits that are written in place: the world behind it; sums of digits. -/
import Derived.Test.YtgalgldnhdiggaaDoorIntb
namespace Ow
set_option linter.unusedVariables false
theorem val_take_succ : ∀ (l : List Nat) (k : Nat), val (l.take (k + 1)) = val (l.take k) + 4294967296 ^ k * (l[k]?.getD 0)
  | [], k => by simp [val]
  | d :: l, 0 => by simp [val]
  | d :: l, k + 1 => by
    have ih := val_take_succ l k
    simp only [List.take_succ_cons, val, List.getElem?_cons_succ]
    rw [ih, Nat.mul_add, Nat.pow_succ, Nat.mul_comm (4294967296 ^ k) 4294967296, Nat.mul_assoc]
    omega
theorem val_snoc : ∀ (l : List Nat) (d : Nat), val (l ++ [d]) = val l + 4294967296 ^ l.length * d
  | [], d => by simp [val]
  | e :: l, d => by
    simp only [List.cons_append, val, List.length_cons]
    rw [val_snoc l d, Nat.mul_add, Nat.pow_succ, Nat.mul_comm (4294967296 ^ l.length) 4294967296, Nat.mul_assoc]
    omega
theorem dg_snoc {l : List Nat} {d : Nat} (h : Dg l) (hd : d < 4294967296) : Dg (l ++ [d]) := fun x hx => by
  rcases List.mem_append.1 hx with h1 | h1
  · exact h x h1
  · simp at h1; omega
theorem dg_at {l : List Nat} (h : Dg l) (i : Nat) : l[i]?.getD 0 < 4294967296 := by
  by_cases hi : i < l.length
  · rw [List.getElem?_eq_getElem hi]; exact h _ (List.getElem_mem hi)
  · rw [List.getElem?_eq_none (by omega)]; simp
theorem dg_nil : Dg [] := fun x hx => (by cases hx)

/-- The sum of the first digits. -/
def SumI (l m : List Nat) (k : Nat) (pre : List Nat) (c : Nat) : Prop := pre.length = k ∧ Dg pre ∧ c ≤ 1 ∧ val pre + c * 4294967296 ^ k = val (l.take k) + val (m.take k)
theorem SumI.start (l m : List Nat) : SumI l m 0 [] 0 := ⟨rfl, dg_nil, by omega, by simp [val]⟩
theorem SumI.step {l m : List Nat} {k c : Nat} {pre : List Nat} (h : SumI l m k pre c) (hl : Dg l) (hm : Dg m) :
    SumI l m (k + 1) (pre ++ [(l[k]?.getD 0 + m[k]?.getD 0 + c) % 4294967296]) ((l[k]?.getD 0 + m[k]?.getD 0 + c) / 4294967296) := by
  obtain ⟨h1, h2, h3, h4⟩ := h
  have a := dg_at hl k
  have b := dg_at hm k
  refine ⟨by simp [h1], dg_snoc h2 (Nat.mod_lt _ (by omega)), by omega, ?_⟩
  rw [val_snoc, h1, val_take_succ, val_take_succ]
  generalize l[k]?.getD 0 = x at *
  generalize m[k]?.getD 0 = y at *
  have e := Nat.div_add_mod (x + y + c) 4294967296
  generalize (x + y + c) / 4294967296 = q at *
  generalize (x + y + c) % 4294967296 = r at *
  rw [Nat.pow_succ]
  have : 4294967296 ^ k * r + q * (4294967296 ^ k * 4294967296) = 4294967296 ^ k * (x + y + c) := by
    rw [← e, Nat.mul_add, Nat.add_comm, Nat.mul_left_comm q, Nat.mul_comm q]
  rw [Nat.mul_add, Nat.mul_add, Nat.mul_comm _ c] at this
  omega
theorem SumI.all {l m : List Nat} {pre : List Nat} {c : Nat} (h : SumI l m l.length pre c) (hm : m.length ≤ l.length) : pre.length = l.length ∧ Dg pre ∧ c ≤ 1 ∧ val pre + c * 4294967296 ^ l.length = val l + val m := by
  obtain ⟨h1, h2, h3, h4⟩ := h
  rw [List.take_length, List.take_of_length_le hm] at h4
  exact ⟨h1, h2, h3, h4⟩
end Ow
namespace Go.Proofs.YtgalgldnhdiggaaDoor
open Go.RowKit
set_option linter.unusedVariables false

/-- Block g is a row of numbers of 32 bits. -/
def Rw (W : World) (g : Nat) (cur : Array Value) : Prop := W.heap[g]? = some (.cells cur 59 (0, 0))
theorem Rw.cell {W : World} {g : Nat} {cur : Array Value} (h : Rw W g cur) (j : Nat) : W.cell? ⟨g, j, none⟩ = cur[j]? := by
  simp [World.cell?, show W.heap[g]? = _ from h]
theorem Rw.frozen {W : World} {g : Nat} {cur : Array Value} (h : Rw W g cur) (j : Nat) : W.frozen? ⟨g, j, none⟩ = false := by
  simp [World.frozen?, show W.heap[g]? = _ from h]
theorem Rw.set {W : World} {g : Nat} {cur : Array Value} (h : Rw W g cur) (j : Nat) (u : Value) : Rw (W.setCell ⟨g, j, none⟩ u) g (cur.setIfInBounds j u) := by
  obtain ⟨hlt, hk⟩ := Array.getElem?_eq_some_iff.1 (show W.heap[g]? = _ from h)
  show (W.heap.modify g _)[g]? = _
  rw [Array.getElem?_eq_getElem (by rw [Array.size_modify]; exact hlt), Array.getElem_modify_self, hk]
  rfl

/-- W' is W, but for the cells of block g from o on: they hold the digits l. -/
structure Upd (g o : Nat) (l : List Nat) (W W' : World) : Prop where
  os : W'.os = W.os
  tape : W'.tape = W.tape
  output : W'.output = W.output
  size : W'.heap.size = W.heap.size
  block : ∀ k, k ≠ g → W'.heap[k]? = W.heap[k]?
  row : ∃ cur cur', Rw W g cur ∧ Rw W' g cur' ∧ cur'.size = cur.size ∧ o + l.length ≤ cur.size ∧ ∀ j, cur'[j]? = if o ≤ j ∧ j < o + l.length then some (.int .u32 ((l[j - o]?.getD 0 : Nat) : Int)) else cur[j]?

theorem Upd.start {W : World} {g o : Nat} {cur : Array Value} (h : Rw W g cur) (ho : o ≤ cur.size) : Upd g o [] W W :=
  ⟨rfl, rfl, rfl, rfl, fun _ _ => rfl, cur, cur, h, h, rfl, by simpa using ho, fun j => by rw [if_neg (by simp)]⟩
theorem Upd.step {W W' : World} {g o : Nat} {l : List Nat} (h : Upd g o l W W') {k d : Nat} (hk : l.length = k) {v : Value} (hc : W.cell? ⟨g, o + k, none⟩ = some v) : Upd g o (l ++ [d]) W (W'.setCell ⟨g, o + k, none⟩ (.int .u32 (d : Nat))) := by
  subst hk
  obtain ⟨h1, h2, h3, h4, h5, cur, cur', r1, r2, r3, r4, r5⟩ := h
  have hlt : o + l.length < cur.size := by
    rw [r1.cell] at hc
    exact (Array.getElem?_eq_some_iff.1 hc).1
  refine ⟨h1, h2, h3, by simpa using h4, fun k hk => ?_, cur, _, r1, r2.set _ _, by simpa using r3, by simp; omega, fun j => ?_⟩
  · rw [Below.heap_setCell _ _ _ _ hk]; exact h5 k hk
  · rw [Array.getElem?_setIfInBounds]
    by_cases e : o + l.length = j
    · subst e
      rw [if_pos rfl, if_pos (by omega), if_pos (by simp)]
      simp
    · rw [if_neg e, r5]
      by_cases e2 : o ≤ j ∧ j < o + l.length
      · rw [if_pos e2, if_pos (by simp; omega), List.getElem?_append_left (by omega)]
      · rw [if_neg e2, if_neg (by simp; omega)]
theorem Upd.drewN {W W' : World} {g o : Nat} {l : List Nat} (h : Upd g o l W W') (n : Nat) : Upd g o l W (W'.drewN n) := by
  obtain ⟨h1, h2, h3, h4, h5, cur, cur', r1, r2, r3⟩ := h
  exact ⟨h1, h2, h3, h4, h5, cur, cur', r1, r2, r3⟩
theorem Upd.cell_in {W W' : World} {g o : Nat} {l : List Nat} (h : Upd g o l W W') {j : Nat} (hj : j < l.length) : W'.cell? ⟨g, o + j, none⟩ = some (.int .u32 ((l[j]?.getD 0 : Nat) : Int)) := by
  obtain ⟨_, _, _, _, _, cur, cur', r1, r2, r3, r4, r5⟩ := h
  rw [r2.cell, r5, if_pos (by omega)]
  simp
theorem Upd.cell_out {W W' : World} {g o : Nat} {l : List Nat} (h : Upd g o l W W') {j : Nat} (hj : j < o ∨ o + l.length ≤ j) : W'.cell? ⟨g, j, none⟩ = W.cell? ⟨g, j, none⟩ := by
  obtain ⟨_, _, _, _, _, cur, cur', r1, r2, r3, r4, r5⟩ := h
  rw [r2.cell, r5, if_neg (by omega), r1.cell]
theorem Upd.cell_other {W W' : World} {g o : Nat} {l : List Nat} (h : Upd g o l W W') {p : Addr} (hp : p.block ≠ g) : W'.cell? p = W.cell? p := World.cell?_of_block (w := W) (h.block p.block hp)
theorem Upd.frozen {W W' : World} {g o : Nat} {l : List Nat} (h : Upd g o l W W') (j : Nat) : W'.frozen? ⟨g, j, none⟩ = false := by
  obtain ⟨_, _, _, _, _, cur, cur', r1, r2, _⟩ := h
  exact r2.frozen j
theorem Upd.gr {w W W' : World} {g o : Nat} {l : List Nat} (h : Upd g o l W W') (hg : Gr w W) (hs : w.heap.size ≤ g) : Gr w W' :=
  ⟨h.os.trans hg.os, h.tape.trans hg.tape, h.output.trans hg.output, by rw [h.size]; exact hg.size, fun k hk => (h.block k (by omega)).trans (hg.block k hk)⟩
/-- Digits in another block are as they were. -/
theorem HasD.upd {W W' : World} {g o : Nat} {l m : List Nat} {v : Value} (h : HasD W v m) (hu : Upd g o l W W') (hg : v.ownBlock ≠ some g) : HasD W' v m := by
  obtain ⟨hd, a, cap, rfl, h1, h2, h3⟩ := h
  refine ⟨hd, a, cap, rfl, h1, h2, fun i hi => ?_⟩
  obtain ⟨b, p, e, hc⟩ := h3 i hi
  subst e
  refine ⟨b, p, rfl, ?_⟩
  rw [hu.cell_other (p := ⟨b, p + i, none⟩) (fun e => hg (by simp only [Value.ownBlock]; exact congrArg some e))]
  exact hc
end Go.Proofs.YtgalgldnhdiggaaDoor
