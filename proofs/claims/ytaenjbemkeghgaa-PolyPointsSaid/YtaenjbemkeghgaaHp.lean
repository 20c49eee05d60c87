/- Slices that hold numbers of 32 bits; numbers that are written in place. -/
import Derived.Test.YtaenjbemkeghgaaBase
import Derived.Test.YtaenjbemkeghgaaOpc
import Derived.Laws.MakeOwn
import Derived.Maps.AppendAt
import Derived.Lib.SliceRun
namespace Go.Proofs.Ytaenjbemkeghgaa
open Go.RowKit
set_option linter.unusedVariables false

/-- Numbers of 32 bits. -/
def U32 (l : List Int) : Prop := ∀ x ∈ l, 0 ≤ x ∧ x < 4294967296
theorem U32.nil : U32 [] := fun x hx => (by cases hx)
theorem U32.at_ {l : List Int} (h : U32 l) (i : Nat) : 0 ≤ Op.cf l i ∧ Op.cf l i < 4294967296 := by
  by_cases hi : i < l.length
  · exact h _ (Op.cf_mem hi)
  · rw [Op.cf_out (by omega)]; omega
theorem U32.take {l : List Int} (h : U32 l) (k : Nat) : U32 (l.take k) := fun x hx => h x (List.mem_of_mem_take hx)
theorem U32.drop {l : List Int} (h : U32 l) (k : Nat) : U32 (l.drop k) := fun x hx => h x (List.mem_of_mem_drop hx)
theorem U32.app {l m : List Int} (h : U32 l) (k : U32 m) : U32 (l ++ m) := fun x hx => by
  rcases List.mem_append.1 hx with h1 | h1
  · exact h x h1
  · exact k x h1
theorem U32.one {x : Int} (h : 0 ≤ x ∧ x < 4294967296) : U32 [x] := fun y hy => by
  simp at hy; subst hy; exact h
theorem U32.tz {l : List Int} (h : U32 l) : U32 (Op.tz l) := fun x hx => h x (Op.tz_mem hx)
theorem U32.rs {m : Int} {l : List Int} (h : Op.Rs m l) (hm : m ≤ 4294967296) : U32 l := fun x hx => by have := h x hx; omega

/-- A slice holds numbers. -/
def HasP (W : World) (v : Value) (l : List Int) : Prop :=
  U32 l ∧ ∃ a cap, v = .slice a l.length cap ∧ l.length ≤ cap ∧ cap ≤ 9223372036854775807 ∧
    ∀ i, i < l.length → ∃ g o, a = some ⟨g, o, none⟩ ∧ W.cell? ⟨g, o + i, none⟩ = some (.int .u32 (Op.cf l i))
theorem HasP.later {W W' : World} {v : Value} {l : List Int} (h : HasP W v l) (hg : Gr W W') : HasP W' v l := by
  obtain ⟨hd, a, cap, rfl, h1, h2, h3⟩ := h
  refine ⟨hd, a, cap, rfl, h1, h2, fun i hi => ?_⟩
  obtain ⟨g, o, e, hc⟩ := h3 i hi
  exact ⟨g, o, e, hg.keeps hc⟩
theorem HasP.nil (W : World) : HasP W (.slice none 0 0) [] := ⟨U32.nil, none, 0, rfl, Nat.le_refl _, by omega, fun i hi => absurd hi (by simp)⟩
theorem HasP.take {W : World} {a : Option Addr} {l : List Int} {n cap k : Nat} (h : HasP W (.slice a n cap) l) (hk : k ≤ l.length) : HasP W (.slice a k cap) (l.take k) := by
  obtain ⟨hd, a', cap', e, h1, h2, hc⟩ := h
  simp only [Value.slice.injEq] at e
  obtain ⟨rfl, -, rfl⟩ := e
  have hlen : (l.take k).length = k := by rw [List.length_take]; omega
  refine ⟨hd.take k, a, cap, by rw [hlen], by omega, h2, fun i hi => ?_⟩
  rw [hlen] at hi
  obtain ⟨g, o, e, hcell⟩ := hc i (by omega)
  exact ⟨g, o, e, by rw [Op.cf_take, if_pos hi]; exact hcell⟩
theorem tz_take (l : List Int) : Op.tz l = l.take (Op.tz l).length := by
  apply Op.ext_cf
  · have := Op.tz_len l
    rw [List.length_take]; omega
  · intro i
    rw [Op.cf_take]
    split
    · exact Op.cf_tz l i
    · exact Op.cf_out (by omega)
theorem HasP.tz {W : World} {a : Option Addr} {l : List Int} {n cap : Nat} (h : HasP W (.slice a n cap) l) : HasP W (.slice a (Op.tz l).length cap) (Op.tz l) := by
  have := h.take (Op.tz_len l)
  rwa [← tz_take] at this
theorem HasP.len {W : World} {a : Option Addr} {l : List Int} {n cap : Nat} (h : HasP W (.slice a n cap) l) : n = l.length ∧ n ≤ cap := by
  obtain ⟨hd, a', cap', e, h1, h2, hc⟩ := h
  simp only [Value.slice.injEq] at e
  obtain ⟨rfl, rfl, rfl⟩ := e
  exact ⟨rfl, h1⟩
theorem HasP.block {W : World} {v : Value} {l : List Int} (h : HasP W v l) (h0 : 0 < l.length) : ∃ b, v.ownBlock = some b ∧ b < W.heap.size := by
  obtain ⟨_, a, cap, rfl, _, _, hc⟩ := h
  obtain ⟨g, o, rfl, hc0⟩ := hc 0 h0
  exact ⟨g, rfl, World.block_lt_of_cell? W _ hc0⟩

/-- Block g is a row of numbers of 32 bits. -/
def Rw (W : World) (g : Nat) (cur : Array Value) : Prop := W.heap[g]? = some (.cells cur 22 (0, 0))
theorem Rw.cell {W : World} {g : Nat} {cur : Array Value} (h : Rw W g cur) (j : Nat) : W.cell? ⟨g, j, none⟩ = cur[j]? := by
  simp [World.cell?, show W.heap[g]? = _ from h]
theorem Rw.frozen {W : World} {g : Nat} {cur : Array Value} (h : Rw W g cur) (j : Nat) : W.frozen? ⟨g, j, none⟩ = false := by
  simp [World.frozen?, show W.heap[g]? = _ from h]
theorem Rw.set {W : World} {g : Nat} {cur : Array Value} (h : Rw W g cur) (j : Nat) (u : Value) : Rw (W.setCell ⟨g, j, none⟩ u) g (cur.setIfInBounds j u) := by
  obtain ⟨hlt, hk⟩ := Array.getElem?_eq_some_iff.1 (show W.heap[g]? = _ from h)
  show (W.heap.modify g _)[g]? = _
  rw [Array.getElem?_eq_getElem (by rw [Array.size_modify]; exact hlt), Array.getElem_modify_self, hk]
  rfl
theorem Rw.new (w : World) (cur : Array Value) : Rw (w.alloc (.cells cur 22)) w.heap.size cur := heap_alloc_new w _
theorem Rw.lt {W : World} {g : Nat} {cur : Array Value} (h : Rw W g cur) : g < W.heap.size := (Array.getElem?_eq_some_iff.1 (show W.heap[g]? = _ from h)).1
theorem Rw.later {W W' : World} {g : Nat} {cur : Array Value} (h : Rw W g cur) (k : Gr W W') : Rw W' g cur := by
  show W'.heap[g]? = _
  rw [k.block g h.lt]; exact h

/-- W' is W, but for the cells of block g from o on: they hold the numbers l. -/
structure Upd (g o : Nat) (l : List Int) (W W' : World) : Prop where
  os : W'.os = W.os
  tape : W'.tape = W.tape
  output : W'.output = W.output
  size : W'.heap.size = W.heap.size
  block : ∀ k, k ≠ g → W'.heap[k]? = W.heap[k]?
  row : ∃ cur cur', Rw W g cur ∧ Rw W' g cur' ∧ cur'.size = cur.size ∧ o + l.length ≤ cur.size ∧ ∀ j, cur'[j]? = if o ≤ j ∧ j < o + l.length then some (.int .u32 (Op.cf l (j - o))) else cur[j]?
theorem Upd.start {W : World} {g o : Nat} {cur : Array Value} (h : Rw W g cur) (ho : o ≤ cur.size) : Upd g o [] W W :=
  ⟨rfl, rfl, rfl, rfl, fun _ _ => rfl, cur, cur, h, h, rfl, by simpa using ho, fun j => by rw [if_neg (by simp)]⟩
theorem Upd.step {W W' : World} {g o : Nat} {l : List Int} (h : Upd g o l W W') {k : Nat} {d : Int} (hk : l.length = k) {v : Value} (hc : W.cell? ⟨g, o + k, none⟩ = some v) : Upd g o (l ++ [d]) W (W'.setCell ⟨g, o + k, none⟩ (.int .u32 d)) := by
  subst hk
  obtain ⟨h1, h2, h3, h4, h5, cur, cur', r1, r2, r3, r4, r5⟩ := h
  have hlt : o + l.length < cur.size := by
    rw [r1.cell] at hc
    exact (Array.getElem?_eq_some_iff.1 hc).1
  refine ⟨h1, h2, h3, by simpa using h4, fun k hk => ?_, cur, _, r1, r2.set _ _, by simpa using r3, by simp; omega, fun j => ?_⟩
  · rw [Below.heap_setCell _ _ _ _ hk]; exact h5 k hk
  · rw [Array.getElem?_setIfInBounds]
    by_cases e : o + l.length = j
    · subst e
      rw [if_pos rfl, if_pos (by omega), if_pos (by simp)]
      rw [Op.cf_append, if_neg (by omega)]
      simp
    · rw [if_neg e, r5]
      by_cases e2 : o ≤ j ∧ j < o + l.length
      · rw [if_pos e2, if_pos (by simp; omega), Op.cf_append, if_pos (by omega)]
      · rw [if_neg e2, if_neg (by simp; omega)]
theorem Upd.drewN {W W' : World} {g o : Nat} {l : List Int} (h : Upd g o l W W') (n : Nat) : Upd g o l W (W'.drewN n) := by
  obtain ⟨h1, h2, h3, h4, h5, cur, cur', r1, r2, r3⟩ := h
  exact ⟨h1, h2, h3, h4, h5, cur, cur', r1, r2, r3⟩
theorem Upd.cell_in {W W' : World} {g o : Nat} {l : List Int} (h : Upd g o l W W') {j : Nat} (hj : j < l.length) : W'.cell? ⟨g, o + j, none⟩ = some (.int .u32 (Op.cf l j)) := by
  obtain ⟨_, _, _, _, _, cur, cur', r1, r2, r3, r4, r5⟩ := h
  rw [r2.cell, r5, if_pos (by omega)]
  simp
theorem Upd.cell_out {W W' : World} {g o : Nat} {l : List Int} (h : Upd g o l W W') {j : Nat} (hj : j < o ∨ o + l.length ≤ j) : W'.cell? ⟨g, j, none⟩ = W.cell? ⟨g, j, none⟩ := by
  obtain ⟨_, _, _, _, _, cur, cur', r1, r2, r3, r4, r5⟩ := h
  rw [r2.cell, r5, if_neg (by omega), r1.cell]
theorem Upd.cell_other {W W' : World} {g o : Nat} {l : List Int} (h : Upd g o l W W') {p : Addr} (hp : p.block ≠ g) : W'.cell? p = W.cell? p := World.cell?_of_block (w := W) (h.block p.block hp)
theorem Upd.frozen {W W' : World} {g o : Nat} {l : List Int} (h : Upd g o l W W') (j : Nat) : W'.frozen? ⟨g, j, none⟩ = false := by
  obtain ⟨_, _, _, _, _, cur, cur', r1, r2, _⟩ := h
  exact r2.frozen j
theorem Upd.gr {w W W' : World} {g o : Nat} {l : List Int} (h : Upd g o l W W') (hg : Gr w W) (hs : w.heap.size ≤ g) : Gr w W' :=
  ⟨h.os.trans hg.os, h.tape.trans hg.tape, h.output.trans hg.output, by rw [h.size]; exact hg.size, fun k hk => (h.block k (by omega)).trans (hg.block k hk)⟩
/-- Numbers in another block are as they were. -/
theorem HasP.upd {W W' : World} {g o : Nat} {l m : List Int} {v : Value} (h : HasP W v m) (hu : Upd g o l W W') (hg : 0 < m.length → v.ownBlock ≠ some g) : HasP W' v m := by
  obtain ⟨hd, a, cap, rfl, h1, h2, h3⟩ := h
  refine ⟨hd, a, cap, rfl, h1, h2, fun i hi => ?_⟩
  obtain ⟨b, p, e, hc⟩ := h3 i hi
  subst e
  refine ⟨b, p, rfl, ?_⟩
  rw [hu.cell_other (p := ⟨b, p + i, none⟩) (fun e => hg (by omega) (by simp only [Value.ownBlock]; exact congrArg some e))]
  exact hc

/-- Block g holds just the numbers l, and cells behind them. -/
def Row (W : World) (g : Nat) (l : List Int) : Prop := U32 l ∧ ∃ cur, Rw W g cur ∧ l.length ≤ cur.size ∧ ∀ j, j < l.length → cur[j]? = some (.int .u32 (Op.cf l j))
theorem Row.cell {W : World} {g : Nat} {l : List Int} (h : Row W g l) {j : Nat} (hj : j < l.length) : W.cell? ⟨g, j, none⟩ = some (.int .u32 (Op.cf l j)) := by
  obtain ⟨_, cur, h1, _, h2⟩ := h
  rw [h1.cell, h2 j hj]
theorem Row.frozen {W : World} {g : Nat} {l : List Int} (h : Row W g l) (j : Nat) : W.frozen? ⟨g, j, none⟩ = false := by
  obtain ⟨_, cur, h1, _, h2⟩ := h
  exact h1.frozen j
theorem Row.lt {W : World} {g : Nat} {l : List Int} (h : Row W g l) : g < W.heap.size := by
  obtain ⟨_, cur, h1, _, h2⟩ := h
  exact h1.lt
theorem Row.later {W W' : World} {g : Nat} {l : List Int} (h : Row W g l) (k : Gr W W') : Row W' g l := by
  obtain ⟨h0, cur, h1, h2⟩ := h
  exact ⟨h0, cur, h1.later k, h2⟩
theorem Row.hasP {W : World} {g : Nat} {l : List Int} (h : Row W g l) {cap : Nat} (h1 : l.length ≤ cap) (h2 : cap ≤ 9223372036854775807) : HasP W (.slice (some ⟨g, 0, none⟩) l.length cap) l :=
  ⟨h.1, _, cap, rfl, h1, h2, fun i hi => ⟨g, 0, rfl, by rw [Nat.zero_add]; exact h.cell hi⟩⟩
/-- The part from o on, as a slice. -/
theorem Row.part {W : World} {g : Nat} {l : List Int} (h : Row W g l) {o cap : Nat} (h1 : l.length - o ≤ cap) (h2 : cap ≤ 9223372036854775807) : HasP W (.slice (some ⟨g, o, none⟩) (l.length - o) cap) (l.drop o) := by
  have e : (l.drop o).length = l.length - o := List.length_drop ..
  refine ⟨h.1.drop o, _, cap, by rw [e], by rw [e]; exact h1, h2, fun i hi => ⟨g, o, rfl, ?_⟩⟩
  rw [Op.cf_drop]; exact h.cell (by omega)
/-- What is written from o on. -/
def put (l : List Int) (o : Nat) (pre : List Int) : List Int := l.take o ++ pre ++ l.drop (o + pre.length)
theorem put_len {l : List Int} {o : Nat} {pre : List Int} (h : o + pre.length ≤ l.length) : (put l o pre).length = l.length := by
  simp only [put, List.length_append, List.length_take, List.length_drop]; omega
theorem cf_put {l : List Int} {o : Nat} {pre : List Int} (h : o + pre.length ≤ l.length) (j : Nat) : Op.cf (put l o pre) j = if o ≤ j ∧ j < o + pre.length then Op.cf pre (j - o) else Op.cf l j := by
  have e1 : (l.take o).length = o := by rw [List.length_take]; omega
  rw [put, Op.cf_append, Op.cf_append, List.length_append, e1, Op.cf_take, Op.cf_drop]
  by_cases h1 : j < o
  · rw [if_pos (by omega), if_pos h1, if_pos h1, if_neg (by omega)]
  · by_cases h2 : j < o + pre.length
    · rw [if_pos h2, if_neg h1, if_pos (by omega)]
    · rw [if_neg h2, if_neg (by omega)]; congr 1; omega
theorem Row.upd {W W' : World} {g o : Nat} {l pre : List Int} (h : Row W g l) (hu : Upd g o pre W W') (hp : U32 pre) (ho : o + pre.length ≤ l.length) : Row W' g (put l o pre) := by
  obtain ⟨h0, cur, h1, h2, h3⟩ := h
  obtain ⟨_, _, _, _, _, c1, c2, r1, r2, r3, r4, r5⟩ := hu
  obtain rfl : c1 = cur := by have := (show W.heap[g]? = _ from r1).symm.trans h1; cases this; rfl
  refine ⟨(h0.take o).app hp |>.app (h0.drop _), c2, r2, by rw [put_len ho]; omega, fun j hj => ?_⟩
  rw [put_len ho] at hj
  rw [r5, cf_put ho]
  by_cases e : o ≤ j ∧ j < o + pre.length
  · rw [if_pos e, if_pos e]
  · rw [if_neg e, if_neg e]; exact h3 j hj

/-- A row of zeros. -/
def zrow (n : Nat) : Array Value := madeCells #[.int .u32 0] n
theorem zrow_size (n : Nat) : (zrow n).size = n := size_madeCells _ _
theorem zrow_at (n j : Nat) (h : j < n) : (zrow n)[j]? = some (.int .u32 0) := by
  unfold zrow madeCells
  rw [Array.getElem?_eq_getElem (by simpa using h)]
  simp [Nat.mod_one]
theorem infoU32 : (Try.prog.info? 22).map (fun i => (i.zero, i.size, i.bytes)) = some (some (.int .u32 0), 1, 4) := by kernel_rfl
theorem mk_row (n : Nat) (L : Int) (hL : L = n) (hn : n ≤ 1000000) (w : World) : (Instr.makeSlice 23 (.int .i64 L) (.int .i64 L)).run Try.prog w = .ok (.slice (some ⟨w.heap.size, 0, none⟩) n n) (w.alloc (.cells (zrow n) 22)) := by
  obtain ⟨i0, hi, hz0, hz1, hz2⟩ := info_parts infoU32
  subst hL
  have := run_make (P := Try.prog) w 23 22 i0 (.int .u32 0) Try.underlying23 hi hz0 .i64 .i64 (n : Int) (n : Int) (by omega) (Int.le_refl _) (by rw [hz2]; omega) (by omega)
  rw [this, hz1, Int.toNat_natCast, Nat.mul_one]
  rfl
theorem cf_rep (n i : Nat) : Op.cf (List.replicate n 0) i = 0 := by
  induction n generalizing i with
  | zero => simp
  | succ n ih => cases i with
    | zero => rfl
    | succ i => exact ih i
theorem Row.zeros (w : World) (n : Nat) : Row (w.alloc (.cells (zrow n) 22)) w.heap.size (List.replicate n 0) :=
  ⟨fun x hx => by rw [List.eq_of_mem_replicate hx]; omega, zrow n, Rw.new w _, by rw [zrow_size]; simp, fun j hj => by rw [List.length_replicate] at hj; rw [zrow_at n j hj, cf_rep]⟩
end Go.Proofs.Ytaenjbemkeghgaa
