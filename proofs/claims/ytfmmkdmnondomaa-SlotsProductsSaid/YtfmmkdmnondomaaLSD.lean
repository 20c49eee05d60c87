import Derived.Test.YtfmmkdmnondomaaLSC
/- Slices of int that hold numbers (made from the text on []int64). -/
namespace Go.Proofs.Ytfmmkdmnondomaa.Li
open Go.RowKit
set_option linter.unusedVariables false

def I64 (l : List Int) : Prop := ∀ x ∈ l, -9223372036854775808 ≤ x ∧ x < 9223372036854775808
theorem I64.nil : I64 [] := fun x hx => (by cases hx)
theorem I64.at_ {l : List Int} (h : I64 l) (i : Nat) : -9223372036854775808 ≤ Op.cf l i ∧ Op.cf l i < 9223372036854775808 := by
  by_cases hi : i < l.length
  · exact h _ (Op.cf_mem hi)
  · rw [Op.cf_out (by omega)]; omega
theorem I64.take {l : List Int} (h : I64 l) (k : Nat) : I64 (l.take k) := fun x hx => h x (List.mem_of_mem_take hx)
theorem I64.drop {l : List Int} (h : I64 l) (k : Nat) : I64 (l.drop k) := fun x hx => h x (List.mem_of_mem_drop hx)
theorem I64.one {x : Int} (h : -9223372036854775808 ≤ x ∧ x < 9223372036854775808) : I64 [x] := fun y hy => by
  simp at hy; subst hy; exact h

/-- A slice holds numbers. -/
def HasQ (W : World) (v : Value) (l : List Int) : Prop :=
  I64 l ∧ ∃ a cap, v = .slice a l.length cap ∧ l.length ≤ cap ∧ cap ≤ 9223372036854775807 ∧
    ∀ i, i < l.length → ∃ g o, a = some ⟨g, o, none⟩ ∧ W.cell? ⟨g, o + i, none⟩ = some (.int .i64 (Op.cf l i))
theorem HasQ.later {W W' : World} {v : Value} {l : List Int} (h : HasQ W v l) (hg : Gr W W') : HasQ W' v l := by
  obtain ⟨hd, a, cap, rfl, h1, h2, h3⟩ := h
  refine ⟨hd, a, cap, rfl, h1, h2, fun i hi => ?_⟩
  obtain ⟨g, o, e, hc⟩ := h3 i hi
  exact ⟨g, o, e, hg.keeps hc⟩
theorem HasQ.nil (W : World) : HasQ W (.slice none 0 0) [] := ⟨I64.nil, none, 0, rfl, Nat.le_refl _, by omega, fun i hi => absurd hi (by simp)⟩
theorem HasQ.take {W : World} {a : Option Addr} {l : List Int} {n cap k : Nat} (h : HasQ W (.slice a n cap) l) (hk : k ≤ l.length) : HasQ W (.slice a k cap) (l.take k) := by
  obtain ⟨hd, a', cap', e, h1, h2, hc⟩ := h
  simp only [Value.slice.injEq] at e
  obtain ⟨rfl, -, rfl⟩ := e
  have hlen : (l.take k).length = k := by rw [List.length_take]; omega
  refine ⟨hd.take k, a, cap, by rw [hlen], by omega, h2, fun i hi => ?_⟩
  rw [hlen] at hi
  obtain ⟨g, o, e, hcell⟩ := hc i (by omega)
  exact ⟨g, o, e, by rw [Op.cf_take, if_pos hi]; exact hcell⟩
theorem HasQ.len {W : World} {a : Option Addr} {l : List Int} {n cap : Nat} (h : HasQ W (.slice a n cap) l) : n = l.length ∧ n ≤ cap := by
  obtain ⟨hd, a', cap', e, h1, h2, hc⟩ := h
  simp only [Value.slice.injEq] at e
  obtain ⟨rfl, rfl, rfl⟩ := e
  exact ⟨rfl, h1⟩
theorem HasQ.block {W : World} {v : Value} {l : List Int} (h : HasQ W v l) (h0 : 0 < l.length) : ∃ b, v.ownBlock = some b ∧ b < W.heap.size := by
  obtain ⟨_, a, cap, rfl, _, _, hc⟩ := h
  obtain ⟨g, o, rfl, hc0⟩ := hc 0 h0
  exact ⟨g, rfl, World.block_lt_of_cell? W _ hc0⟩

/-- Block g is a row of numbers of 32 bits. -/
def Rw (W : World) (g : Nat) (cur : Array Value) : Prop := W.heap[g]? = some (.cells cur 3 (0, 0))
theorem Rw.cell {W : World} {g : Nat} {cur : Array Value} (h : Rw W g cur) (j : Nat) : W.cell? ⟨g, j, none⟩ = cur[j]? := by
  simp [World.cell?, show W.heap[g]? = _ from h]
theorem Rw.frozen {W : World} {g : Nat} {cur : Array Value} (h : Rw W g cur) (j : Nat) : W.frozen? ⟨g, j, none⟩ = false := by
  simp [World.frozen?, show W.heap[g]? = _ from h]
theorem Rw.set {W : World} {g : Nat} {cur : Array Value} (h : Rw W g cur) (j : Nat) (u : Value) : Rw (W.setCell ⟨g, j, none⟩ u) g (cur.setIfInBounds j u) := by
  obtain ⟨hlt, hk⟩ := Array.getElem?_eq_some_iff.1 (show W.heap[g]? = _ from h)
  show (W.heap.modify g _)[g]? = _
  rw [Array.getElem?_eq_getElem (by rw [Array.size_modify]; exact hlt), Array.getElem_modify_self, hk]
  rfl
theorem Rw.new (w : World) (cur : Array Value) : Rw (w.alloc (.cells cur 3)) w.heap.size cur := heap_alloc_new w _
theorem Rw.lt {W : World} {g : Nat} {cur : Array Value} (h : Rw W g cur) : g < W.heap.size := (Array.getElem?_eq_some_iff.1 (show W.heap[g]? = _ from h)).1
theorem Rw.later {W W' : World} {g : Nat} {cur : Array Value} (h : Rw W g cur) (k : Gr W W') : Rw W' g cur := by
  show W'.heap[g]? = _
  rw [k.block g h.lt]; exact h

/-- W' is W, but for the cells of block g from o on: they hold the numbers l. -/
structure Upd (g o : Nat) (l : List Int) (W W' : World) : Prop where
  os : W'.os = W.os
  tape : W'.tape = W.tape
  output : W'.output = W.output
  size : W'.heap.size = W.heap.size
  block : ∀ k, k ≠ g → W'.heap[k]? = W.heap[k]?
  row : ∃ cur cur', Rw W g cur ∧ Rw W' g cur' ∧ cur'.size = cur.size ∧ o + l.length ≤ cur.size ∧ ∀ j, cur'[j]? = if o ≤ j ∧ j < o + l.length then some (.int .i64 (Op.cf l (j - o))) else cur[j]?
theorem Upd.start {W : World} {g o : Nat} {cur : Array Value} (h : Rw W g cur) (ho : o ≤ cur.size) : Upd g o [] W W :=
  ⟨rfl, rfl, rfl, rfl, fun _ _ => rfl, cur, cur, h, h, rfl, by simpa using ho, fun j => by rw [if_neg (by simp)]⟩
theorem Upd.step {W W' : World} {g o : Nat} {l : List Int} (h : Upd g o l W W') {k : Nat} {d : Int} (hk : l.length = k) {v : Value} (hc : W.cell? ⟨g, o + k, none⟩ = some v) : Upd g o (l ++ [d]) W (W'.setCell ⟨g, o + k, none⟩ (.int .i64 d)) := by
  subst hk
  obtain ⟨h1, h2, h3, h4, h5, cur, cur', r1, r2, r3, r4, r5⟩ := h
  have hlt : o + l.length < cur.size := by
    rw [r1.cell] at hc
    exact (Array.getElem?_eq_some_iff.1 hc).1
  refine ⟨h1, h2, h3, by simpa using h4, fun k hk => ?_, cur, _, r1, r2.set _ _, by simpa using r3, by simp; omega, fun j => ?_⟩
  · rw [Below.heap_setCell _ _ _ _ hk]; exact h5 k hk
  · rw [Array.getElem?_setIfInBounds]
    by_cases e : o + l.length = j
    · subst e
      rw [if_pos rfl, if_pos (by omega), if_pos (by simp)]
      rw [Op.cf_append, if_neg (by omega)]
      simp
    · rw [if_neg e, r5]
      by_cases e2 : o ≤ j ∧ j < o + l.length
      · rw [if_pos e2, if_pos (by simp; omega), Op.cf_append, if_pos (by omega)]
      · rw [if_neg e2, if_neg (by simp; omega)]
theorem Upd.drewN {W W' : World} {g o : Nat} {l : List Int} (h : Upd g o l W W') (n : Nat) : Upd g o l W (W'.drewN n) := by
  obtain ⟨h1, h2, h3, h4, h5, cur, cur', r1, r2, r3⟩ := h
  exact ⟨h1, h2, h3, h4, h5, cur, cur', r1, r2, r3⟩
theorem Upd.frozen {W W' : World} {g o : Nat} {l : List Int} (h : Upd g o l W W') (j : Nat) : W'.frozen? ⟨g, j, none⟩ = false := by
  obtain ⟨_, _, _, _, _, cur, cur', r1, r2, _⟩ := h
  exact r2.frozen j
theorem Upd.gr {w W W' : World} {g o : Nat} {l : List Int} (h : Upd g o l W W') (hg : Gr w W) (hs : w.heap.size ≤ g) : Gr w W' :=
  ⟨h.os.trans hg.os, h.tape.trans hg.tape, h.output.trans hg.output, by rw [h.size]; exact hg.size, fun k hk => (h.block k (by omega)).trans (hg.block k hk)⟩
/-- Block g holds just the numbers l, and cells behind them. -/
def Row (W : World) (g : Nat) (l : List Int) : Prop := I64 l ∧ ∃ cur, Rw W g cur ∧ l.length ≤ cur.size ∧ ∀ j, j < l.length → cur[j]? = some (.int .i64 (Op.cf l j))
theorem Row.cell {W : World} {g : Nat} {l : List Int} (h : Row W g l) {j : Nat} (hj : j < l.length) : W.cell? ⟨g, j, none⟩ = some (.int .i64 (Op.cf l j)) := by
  obtain ⟨_, cur, h1, _, h2⟩ := h
  rw [h1.cell, h2 j hj]
theorem Row.frozen {W : World} {g : Nat} {l : List Int} (h : Row W g l) (j : Nat) : W.frozen? ⟨g, j, none⟩ = false := by
  obtain ⟨_, cur, h1, _, h2⟩ := h
  exact h1.frozen j
theorem Row.lt {W : World} {g : Nat} {l : List Int} (h : Row W g l) : g < W.heap.size := by
  obtain ⟨_, cur, h1, _, h2⟩ := h
  exact h1.lt
theorem Row.later {W W' : World} {g : Nat} {l : List Int} (h : Row W g l) (k : Gr W W') : Row W' g l := by
  obtain ⟨h0, cur, h1, h2⟩ := h
  exact ⟨h0, cur, h1.later k, h2⟩
theorem Row.hasQ {W : World} {g : Nat} {l : List Int} (h : Row W g l) {cap : Nat} (h1 : l.length ≤ cap) (h2 : cap ≤ 9223372036854775807) : HasQ W (.slice (some ⟨g, 0, none⟩) l.length cap) l :=
  ⟨h.1, _, cap, rfl, h1, h2, fun i hi => ⟨g, 0, rfl, by rw [Nat.zero_add]; exact h.cell hi⟩⟩
/-- What is written from o on. -/
def put (l : List Int) (o : Nat) (pre : List Int) : List Int := l.take o ++ pre ++ l.drop (o + pre.length)
/-- A row of zeros. -/
def zrow (n : Nat) : Array Value := madeCells #[.int .i64 0] n
theorem zrow_size (n : Nat) : (zrow n).size = n := size_madeCells _ _
theorem zrow_at (n j : Nat) (h : j < n) : (zrow n)[j]? = some (.int .i64 0) := by
  unfold zrow madeCells
  rw [Array.getElem?_eq_getElem (by simpa using h)]
  simp [Nat.mod_one]
theorem infoI64 : (Try.prog.info? 3).map (fun i => (i.zero, i.size, i.bytes)) = some (some (.int .i64 0), 1, 8) := by kernel_rfl
theorem mk_row (n : Nat) (L : Int) (hL : L = n) (hn : n ≤ 1000000) (w : World) : (Instr.makeSlice 39 (.int .i64 L) (.int .i64 L)).run Try.prog w = .ok (.slice (some ⟨w.heap.size, 0, none⟩) n n) (w.alloc (.cells (zrow n) 3)) := by
  obtain ⟨i0, hi, hz0, hz1, hz2⟩ := info_parts infoI64
  subst hL
  have := run_make (P := Try.prog) w 39 3 i0 (.int .i64 0) Try.underlying39 hi hz0 .i64 .i64 (n : Int) (n : Int) (by omega) (Int.le_refl _) (by rw [hz2]; omega) (by omega)
  rw [this, hz1, Int.toNat_natCast, Nat.mul_one]
  rfl
theorem Row.zeros (w : World) (n : Nat) : Row (w.alloc (.cells (zrow n) 3)) w.heap.size (List.replicate n 0) :=
  ⟨fun x hx => by rw [List.eq_of_mem_replicate hx]; omega, zrow n, Rw.new w _, by rw [zrow_size]; simp, fun j hj => by rw [List.length_replicate] at hj; rw [zrow_at n j hj, cf_rep]⟩
/-- Numbers as cells. -/
def pcells (l : List Int) : List Value := l.map (.int .i64 ·)
theorem pcells_at (l : List Int) (i : Nat) (hi : i < l.length) : (pcells l)[i]? = some (.int .i64 (Op.cf l i)) := by
  rw [← Op.cf_at]; simp [pcells, hi]
theorem pcells_len (l : List Int) : (pcells l).length = l.length := by simp [pcells]
/-- A slice of the call's own that holds numbers. -/
def Own1 (W : World) (base : Nat) (v : Value) (l : List Int) : Prop := I64 l ∧ W.ownsRow base 3 1 v l.length (pcells l)
theorem Own1.hasQ {W : World} {base : Nat} {v : Value} {l : List Int} (h : Own1 W base v l) : HasQ W v l := by
  refine ⟨h.1, ?_⟩
  rcases h.2.2 with ⟨rfl, h0⟩ | ⟨g, cap, cur, rfl, _, hg, h1, h2, h3, h4⟩
  · exact ⟨none, 0, by rw [h0], by omega, by omega, fun i hi => by omega⟩
  · refine ⟨_, cap, rfl, h1, by unfold maxLen at h2; omega, fun i hi => ⟨g, 0, rfl, ?_⟩⟩
    have hc : W.cell? ⟨g, i, none⟩ = (pcells l)[i]? := by
      rw [← h4, List.getElem?_take_of_lt (by omega)]
      simp [World.cell?, hg]
    rw [Nat.zero_add, hc, pcells_at l i hi]
/-- The block that it lies in. -/
theorem Own1.row {W : World} {base : Nat} {v : Value} {l : List Int} (h : Own1 W base v l) (h0 : 0 < l.length) : ∃ g cap, v = .slice (some ⟨g, 0, none⟩) l.length cap ∧ base ≤ g ∧ l.length ≤ cap ∧ cap ≤ 9223372036854775807 ∧ Row W g l := by
  have hd := h.hasQ
  rcases h.2.2 with ⟨rfl, h1⟩ | ⟨g, cap, cur, rfl, hb, hg, h1, h2, h3, h4⟩
  · omega
  · refine ⟨g, cap, rfl, hb, h1, by unfold maxLen at h2; omega, h.1, cur, hg, by omega, fun i hi => ?_⟩
    have : cur.toList[i]? = (pcells l)[i]? := by rw [← h4, List.getElem?_take_of_lt (by omega)]
    rw [Array.getElem?_toList] at this
    rw [this, pcells_at l i hi]
theorem Own1.nil (W : World) (base : Nat) : Own1 W base (.slice none 0 0) [] := ⟨I64.nil, World.ownsRow_nil _ _ _ _⟩
theorem Own1.alloc {W : World} {base : Nat} {v : Value} {l : List Int} (h : Own1 W base v l) (o : Obj) : Own1 (W.alloc o) base v l := ⟨h.1, h.2.alloc o⟩
theorem Own1.drew {W : World} {base : Nat} {v : Value} {l : List Int} (h : Own1 W base v l) : Own1 W.drew base v l := h

theorem Row.setAt {W : World} {g : Nat} {l : List Int} (h : Row W g l) {k : Nat} {x : Int} (hk : k < l.length) (hx : -9223372036854775808 ≤ x ∧ x < 9223372036854775808) : Row (W.setCell ⟨g, k, none⟩ (.int .i64 x)) g (l.set k x) := by
  obtain ⟨h0, cur, h1, h2, h3⟩ := h
  refine ⟨fun y hy => ?_, _, h1.set k _, by simpa using h2, fun j hj => ?_⟩
  · rcases List.mem_or_eq_of_mem_set hy with h | rfl
    · exact h0 y h
    · exact hx
  · rw [List.length_set] at hj
    rw [Array.getElem?_setIfInBounds, cf_set l x k j hk]
    by_cases e : k = j
    · subst e; rw [if_pos rfl, if_pos rfl, if_pos (by omega)]
    · rw [if_neg e, if_neg (fun h => e h.symm)]; exact h3 j hj
theorem HasQ.lo {W : World} {v : Value} {l : List Int} (h : HasQ W v l) : Lo.HasQ W v l := h
theorem HasQ.of {W : World} {v : Value} {l : List Int} (h : Lo.HasQ W v l) : HasQ W v l := h
end Go.Proofs.Ytfmmkdmnondomaa.Li
/- Package slots: Power, exponents, Index. -/
namespace Go.Proofs.Ytfmmkdmnondomaa
open Go.RowKit
set_option linter.unusedVariables false

/-- The turn, below half of the dimension. -/
def trn (n : Nat) (t : Int) : Nat := (t % ((n / 2 : Nat) : Int)).toNat
theorem trn_lt {n : Nat} (h : Os.D4 n) (t : Int) : trn n t < n / 2 ∧ ((trn n t : Nat) : Int) = t % ((n / 2 : Nat) : Int) := by
  have h1 := h.le
  have h2 := h.half
  have r0 := emod_lo t ((n / 2 : Nat) : Int) (by omega)
  have r1 := emod_hi t ((n / 2 : Nat) : Int) (by omega)
  unfold trn; omega
theorem tmod_turn {t h : Int} (hh : 1 ≤ h) : (t.tmod h + h).tmod h = t % h := by
  have h1 := Int.lt_tmod_of_pos t (show 0 < h by omega)
  rw [Int.tmod_eq_emod_of_nonneg (by omega), Int.add_emod_right, ← tmod_emod]

set_option maxRecDepth 100000 in
set_option maxHeartbeats 1000000 in
theorem sPower_any (n p r q x s T : Nat) (t : Int) (b : Bool) (w : World) (hN : SN n p r q x s) (h : IsSl w T n p r q x s) (ht : -9223372036854775808 ≤ t ∧ t ≤ 9223372036854775807) :
    Calls Try.prog 21 #[.pointer (some ⟨T, 0, none⟩), .int .i64 t, .bool b] w (TwoI (Os.pk n (trn n t) b : Nat) 0 w) := by
  obtain ⟨d1, d2, d3, d4, d5, d6, d7, d8⟩ := hN.dims
  have HN := Lib.hid hN
  have H := Lib.hid h
  obtain ⟨t1, t2⟩ := trn_lt hN.rt.dim t
  have hhalf := hN.rt.dim.half
  obtain ⟨u, hu⟩ : ∃ u, u = trn n t := ⟨_, rfl⟩
  obtain ⟨m, hm⟩ : ∃ m, m = n / 2 := ⟨_, rfl⟩
  rw [← hu] at t1 t2 ⊢
  rw [← hm] at t1 t2 hhalf
  have HM := Lib.hid hm
  have e1 : (n : Int) / 2 = (m : Int) := by omega
  have e2 : (t.tmod (m : Int) + (m : Int)).tmod (m : Int) = (u : Int) := by rw [tmod_turn (by omega), t2]
  have e3 : -(m : Int) < t.tmod (m : Int) := Int.lt_tmod_of_pos t (by omega)
  have e4 : t.tmod (m : Int) < (m : Int) := Int.tmod_lt_of_pos t (by omega)
  have hm0 : ¬ m = 0 := by omega
  have HH := Lib.hid hhalf
  have hm2 : m ≤ 16 := by omega
  have HU := Lib.hid (show u < n / 2 by rw [← hm]; exact t1)
  clear hu hm hN h t2 hhalf
  cases b with
  | false =>
    have c1 := H.out.ex u (by have := HU.out; omega)
    have HP := Lib.hid (show Os.pk n u false = Os.Ex n u from rfl)
    have c3 := H.out.n3
    go_enter Try.func21, Try.ntmps21
    go_wp2_with fail
    refine (smade_yes T _ H.out.it).mono ?_
    rintro e w1 ⟨rfl, hg⟩
    have HG := Lib.hid hg
    have c1 := hg.keeps c1
    have c3 := hg.keeps c3
    clear hg
    go_wp2_with fail
    go_ret2
    exact ⟨by rw [HP.out]; rfl, HG.out⟩
  | true =>
    have c1 := H.out.ex (u + m) (by have := HH.out; omega)
    have HP := Lib.hid (show Os.pk n u true = Os.Ex n (u + m) from by rw [HM.out, Nat.add_comm]; rfl)
    have c3 := H.out.n3
    go_enter Try.func21, Try.ntmps21
    go_wp2_with fail
    refine (smade_yes T _ H.out.it).mono ?_
    rintro e w1 ⟨rfl, hg⟩
    have HG := Lib.hid hg
    have c1 := hg.keeps c1
    have c3 := hg.keeps c3
    clear hg
    go_wp2_with fail
    go_ret2
    exact ⟨by rw [HP.out]; rfl, HG.out⟩
end Go.Proofs.Ytfmmkdmnondomaa
/- Package slots: Moves. -/
namespace Go.Proofs.Ytfmmkdmnondomaa
open Go.RowKit
set_option linter.unusedVariables false

/-- An automorphism. -/
def Kd (n : Nat) (k : Int) : Prop := 1 ≤ k ∧ k < 2 * (n : Int) ∧ k % 2 = 1
instance (n : Nat) (k : Int) : Decidable (Kd n k) := by unfold Kd; infer_instance
def MovR (n : Nat) (k : Int) (l : List Int) : Prop := (Kd n k ∧ Os.Mv n k.toNat l) ∨ (¬ Kd n k ∧ l = [])
theorem MovR.unique {n : Nat} {k : Int} (hd : Os.D4 n) {l m : List Int} (h : MovR n k l) (g : MovR n k m) : l = m := by
  rcases h with ⟨h1, h2⟩ | ⟨h1, rfl⟩ <;> rcases g with ⟨k1, k2⟩ | ⟨k1, rfl⟩
  · exact h2.unique hd k2
  · exact absurd h1 k1
  · exact absurd k1 h1
  · rfl

end Go.Proofs.Ytfmmkdmnondomaa
/- The law's own functions: same, sameInts, lent, kept. -/
namespace Go.Proofs.Ytfmmkdmnondomaa
open Go.RowKit
set_option linter.unusedVariables false

set_option maxRecDepth 100000 in
set_option maxHeartbeats 1000000 in
theorem same8_any (a b : List Int) (u v : Value) (w : World) (hu : Lo.HasQ w u a) (hv : Lo.HasQ w v b) (hla : a.length ≤ 1000000) (hlb : b.length ≤ 1000000) :
    Calls Try.prog 40 #[u, v] w (fun e w' => e = .returned (.bool (decide (a = b))) ∧ Gr w w') := by
  obtain ⟨da, xa, ca, rfl, a1, a2, hca⟩ := hu
  obtain ⟨db, xb, cb, rfl, b1, b2, hcb⟩ := hv
  obtain ⟨na, hna⟩ : ∃ na, na = a.length := ⟨_, rfl⟩
  obtain ⟨nb, hnb⟩ : ∃ nb, nb = b.length := ⟨_, rfl⟩
  rw [← hna] at hla a1 ⊢
  rw [← hnb] at hlb b1 ⊢
  have HNA := Lib.hid hna
  have HNB := Lib.hid hnb
  have HCA := Lib.hid hca
  have HCB := Lib.hid hcb
  have HDA := Lib.hid da
  have HDB := Lib.hid db
  clear hna hnb hca hcb da db
  by_cases hl : na = nb
  · subst hl
    go_enter Try.func40, Try.ntmps40
    go_wp2_with fail
    go_loopw [5] (fun t wr => ∃ k : Nat, t = .int .i64 k ∧ k ≤ na ∧ (∀ i, i < k → Op.cf a i = Op.cf b i) ∧ Gr w wr) (fun t _ => na - (intOf t).toNat)
    case atStart => exact ⟨0, rfl, by omega, fun i hi => by omega, Gr.refl w⟩
    case round =>
      obtain ⟨k, rfl, hk, ht, hg⟩ := hrel
      have HT := Lib.hid ht
      have HG := Lib.hid hg
      clear ht hg
      by_cases hlt : k < na
      · obtain ⟨g, o, rfl, c1⟩ := HCA.out k (by rw [← HNA.out]; exact hlt)
        obtain ⟨g', o', rfl, c2⟩ := HCB.out k (by rw [← HNB.out]; exact hlt)
        have c1 := HG.out.keeps c1
        have c2 := HG.out.keeps c2
        have hx := HDA.out.at_ k
        have hy := HDB.out.at_ k
        obtain ⟨x, hxe⟩ : ∃ x, x = Op.cf a k := ⟨_, rfl⟩
        obtain ⟨y, hye⟩ : ∃ y, y = Op.cf b k := ⟨_, rfl⟩
        rw [← hxe] at c1 hx
        rw [← hye] at c2 hy
        have HX := Lib.hid hxe
        have HY := Lib.hid hye
        have i1 : (k : Int) < (na : Int) := by omega
        have i2 : (0 : Int) ≤ (k : Int) := by omega
        clear hxe hye hx hy
        by_cases he : x = y
        · have hb : (x != y) = false := by simp [he]
          have HE := Lib.hid he
          clear he
          go_wp2_with fail
          go_quiet (fail)
          go_wp2_with fail
          go_roundw
          case rel => exact ⟨k + 1, by go_num, by omega, (fun i hi => by
            by_cases h : i < k
            · exact HT.out i h
            · obtain rfl : i = k := by omega
              rw [← HX.out, ← HY.out, HE.out]), HG.out.drewN _⟩
          case measure => simp [intOf]; omega
        · have hb : (x != y) = true := by simp [he]
          have HE := Lib.hid he
          clear he
          have HF := Lib.hid (show decide (a = b) = false from by simp; intro h; apply HE.out; rw [HX.out, HY.out, h])
          go_wp2_with fail
          go_quiet (fail)
          go_wp2_with fail
          go_ret
          exact ⟨by rw [HF.out]; rfl, HG.out.drewN _⟩
      · have HF := Lib.hid (show decide (a = b) = true from by
          simp
          exact Op.ext_cf (by rw [← HNA.out, ← HNB.out]) (fun i => by
            by_cases h : i < k
            · exact HT.out i h
            · rw [Op.cf_out (by rw [← HNA.out]; omega), Op.cf_out (by rw [← HNB.out]; omega)]))
        go_wp2_with fail
        go_ret
        exact ⟨by rw [HF.out]; rfl, HG.out⟩
  · have HF := Lib.hid (show decide (a = b) = false from by simp; intro h; apply hl; rw [HNA.out, HNB.out, h])
    have hb : ((na : Int) != (nb : Int)) = true := by simp; omega
    have HL := Lib.hid hl
    clear hl
    go_enter Try.func40, Try.ntmps40
    go_wp2_with fail
    go_ret
    exact ⟨by rw [HF.out]; rfl, Gr.refl w⟩

set_option maxRecDepth 100000 in
set_option maxHeartbeats 1000000 in
theorem lsame8_any (a b : List Int) (u v : Value) (w : World) (hu : Lo.HasQ w u a) (hv : Lo.HasQ w v b) (hla : a.length ≤ 1000000) (hlb : b.length ≤ 1000000) :
    Calls Try.prog 20 #[u, v] w (fun e w' => e = .returned (.bool (decide (a = b))) ∧ Gr w w') := by
  have HU := Lib.hid hu
  have HV := Lib.hid hv
  clear hu hv
  obtain ⟨B, hB⟩ : ∃ B, B = decide (a = b) := ⟨_, rfl⟩
  rw [← hB]
  have HB := Lib.hid hB
  clear hB
  go_enter Try.func20, Try.ntmps20
  go_wp2_with fail
  refine (same8_any a b _ _ _ HU.out HV.out hla hlb).mono ?_
  rintro e w1 ⟨rfl, hg⟩
  have HG := Lib.hid hg
  clear hg
  rw [← HB.out]
  go_wp2_with fail
  go_ret
  exact ⟨rfl, HG.out⟩

end Go.Proofs.Ytfmmkdmnondomaa
/- The law's awake. -/
namespace Go.Proofs.Ytfmmkdmnondomaa
open Go.RowKit
set_option linter.unusedVariables false

instance (q : Nat) (x y : Int) : Decidable (Os.C q x y) := by unfold Os.C; infer_instance
instance (q : Nat) (x y : Int) : Decidable (Os.Bl q x y) := by unfold Os.Bl; infer_instance
instance (n q x : Nat) (a D : List Int) : Decidable (Os.Dc n q x a D) := by unfold Os.Dc; infer_instance
instance (n q x : Nat) (a D : List Int) : Decidable (Os.Ec n q x a D) := by unfold Os.Ec; infer_instance
theorem root17 {r : Int} {x : Nat} (h : RtR 4 17 1 x 0) : x = 2 := by
  rcases h with ⟨_, _, h3⟩ | ⟨_, _, _, h3⟩ | ⟨⟨_, h1⟩, h2, _, y, h3, h4⟩
  · omega
  · omega
  have hl : Oh7.LRoot 4 17 2 := ⟨by decide, by unfold Oh7.IsR; decide, by
    intro z hz
    have : z = 0 ∨ z = 1 := by omega
    unfold Oh7.IsR
    rcases this with rfl | rfl <;> decide⟩
  obtain rfl := h3.unique hl
  have hlen : ¬ 256 < (Op.xn 4).length := by decide
  rcases h4 with ⟨k1, _⟩ | ⟨_, k1, _⟩ | ⟨_, _, _, _, k1⟩ | ⟨_, _, _, _, k2, k3, k4⟩
  · exact absurd ⟨h1, by decide⟩ k1
  · exact absurd k1 hlen
  · omega
  · have e : (17 : Nat) ^ (1 : Int).toNat = 17 := by decide
    rw [e] at k2
    obtain ⟨t, ht⟩ := k3
    omega
theorem four_hasQ' (W : World) (x y z t : Int) (g : Nat) (hg : g = W.heap.size) (hx : Lo.I64 [x, y, z, t]) : Lo.HasQ (W.alloc (.cells #[.int .i64 x, .int .i64 y, .int .i64 z, .int .i64 t] 2)) (.slice (some ⟨g, 0, none⟩) 4 4) [x, y, z, t] := by
  subst hg
  refine ⟨hx, _, 4, rfl, Nat.le_refl _, by omega, fun i hi => ⟨_, 0, rfl, ?_⟩⟩
  have : i = 0 ∨ i = 1 ∨ i = 2 ∨ i = 3 := by simp at hi; omega
  rcases this with rfl | rfl | rfl | rfl <;> simp [go_sem]
theorem i64_dec {l : List Int} (h : ∀ x ∈ l, -100 ≤ x ∧ x ≤ 100) : Lo.I64 l := fun x hx => by have := h x hx; omega
theorem dec17 {l : List Int} (h : DecR 4 17 1 2 1 [0, 1, 0, 0] l) : l = [2, 8, -8, -2] := h.unique (.inl ⟨by decide, by decide +kernel⟩)
theorem enc17 {s : Nat} (hN : SN 4 17 1 17 2 s) {l : List Int} (h : EncR 4 17 1 2 1 [2, 8, -8, -2] l) : l = [0, 1, 0, 0] := h.unique hN (.inl ⟨by decide, by decide +kernel⟩)
theorem fits17 : Fits 4 17 1 := by
  refine ⟨by decide, ⟨⟨by decide, by decide, ?_⟩, by decide, by decide⟩, by decide⟩
  exact ⟨by decide, fun d h1 h2 => (show ∀ d, d < 17 → 2 ≤ d → ¬ d ∣ 17 by decide) d h2 h1⟩
/-- What New returns for 4, 17, 1. -/
def New17 (w : World) (e : Ending) (w' : World) : Prop := Gr w w' ∧ ∃ s T : Nat, SN 4 17 1 17 2 s ∧ e = .returned (.tuple #[.pointer (some ⟨T, 0, none⟩), .int .i64 0]) ∧ IsSl w' T 4 17 1 17 2 s
theorem new17_any (w : World) : Calls Try.prog 26 #[.int .i64 4, .int .u32 17, .int .i64 1] w (New17 w) := by
  refine (snew_any 4 17 1 w (by decide) (by decide)).mono ?_
  rintro e w' ⟨hg, ⟨m, k, q, x, s, T, h1, h2, h3, h4, h5, _⟩ | ⟨h1, _⟩⟩
  · obtain rfl : m = 4 := by omega
    obtain rfl : k = 1 := by omega
    obtain rfl : q = 17 := h3.hq
    obtain rfl := root17 (r := 1) h3.root
    exact ⟨hg, s, T, h3, h4, h5⟩
  · exact absurd fits17 h1
theorem lsame8_true (a : List Int) (u v : Value) (w : World) (hu : Lo.HasQ w u a) (hv : Lo.HasQ w v a) (hl : a.length ≤ 1000000) : Calls Try.prog 20 #[u, v] w (IsB true w) :=
  (lsame8_any a a u v w hu hv hl hl).mono fun e w' h => by rw [decide_eq_true rfl] at h; exact h
set_option maxRecDepth 100000 in
set_option maxHeartbeats 2000000 in
theorem awake8_any (w : World) : Calls Try.prog 12 #[] w (Truth w) := by
  have HU1 := Lib.hid (i64_dec (l := [0, 1, 0, 0]) (by decide))
  have HU2 := Lib.hid (i64_dec (l := [2, 8, -8, -2]) (by decide))
  have HK1 := Lib.hid (show chkE 4 17 1 1 [0, 1, 0, 0] = 0 by decide)
  have HK2 := Lib.hid (show chkE 4 17 1 1 [2, 8, -8, -2] = 0 by decide)
  have HPK := Lib.hid (show Os.pk 4 (trn 4 1) false = 3 by decide)
  go_enter Try.func12, Try.ntmps12
  go_wp2_with fail
  refine (new17_any _).mono ?_
  rintro e w1 ⟨hg, s, T, hN, rfl, hT⟩
  have HG := Lib.hid hg
  have HN := Lib.hid hN
  have HT := Lib.hid hT
  clear hg hN hT
  go_wp2_with fail
  refine (sDecode_any 4 17 1 17 2 s T 1 [0, 1, 0, 0] _ _ HN.out (HT.out.later (Gr.new _ _)) (four_hasQ' _ 0 1 0 0 _ rfl HU1.out) (by decide)).mono ?_
  rintro e w2 ⟨g2, m2, c2, l2, rfl, hq2, hd2, hf2, hg2⟩
  obtain rfl := dec17 hd2
  rw [HK1.out]
  have HG2 := Lib.hid (HG.out.trans ((Gr.new _ _).trans hg2))
  have HT2 := Lib.hid (HT.out.later ((Gr.new _ _).trans hg2))
  have HQ2 := Lib.hid hq2
  clear hq2 hd2 hf2 hg2
  go_wp2_with fail
  refine (sEncode_any 4 17 1 17 2 s T 1 [2, 8, -8, -2] _ _ HN.out (HT2.out.later (Gr.new _ _)) (four_hasQ' _ 2 8 (-8) (-2) _ rfl HU2.out) (by decide)).mono ?_
  rintro e w3 ⟨g3, m3, c3, l3, rfl, hq3, hd3, hf3, hg3⟩
  obtain rfl := enc17 HN.out hd3
  rw [HK2.out]
  have HG3 := Lib.hid (HG2.out.trans ((Gr.new _ _).trans hg3))
  have HT3 := Lib.hid (HT2.out.later ((Gr.new _ _).trans hg3))
  have HQ23 := Lib.hid (HQ2.out.later ((Gr.new _ _).trans hg3))
  have HQ3 := Lib.hid hq3
  clear hq3 hd3 hf3 hg3
  go_wp2_with fail
  refine (sPower_any 4 17 1 17 2 s T 1 false _ HN.out HT3.out (by decide)).mono ?_
  rintro e w4 ⟨rfl, hg4⟩
  rw [HPK.out]
  have HG4 := Lib.hid (HG3.out.trans hg4)
  have HQ24 := Lib.hid (HQ23.out.later hg4)
  have HQ34 := Lib.hid (HQ3.out.later hg4)
  clear hg4
  go_wp2_with fail
  refine (lsame8_true [2, 8, -8, -2] _ _ _ (HQ24.out.later (Gr.new _ _)) (four_hasQ' _ 2 8 (-8) (-2) _ rfl HU2.out) (by decide)).mono ?_
  rintro e w5 ⟨rfl, hg5⟩
  have HG5 := Lib.hid (HG4.out.trans ((Gr.new _ _).trans hg5))
  have HQ35 := Lib.hid (HQ34.out.later ((Gr.new _ _).trans hg5))
  clear hg5
  go_wp2_with fail
  refine (lsame8_true [0, 1, 0, 0] _ _ _ (HQ35.out.later (Gr.new _ _)) (four_hasQ' _ 0 1 0 0 _ rfl HU1.out) (by decide)).mono ?_
  rintro e w6 ⟨rfl, hg6⟩
  have HG6 := Lib.hid (HG5.out.trans ((Gr.new _ _).trans hg6))
  clear hg6
  go_wp2_with fail
  go_ret
  exact ⟨rfl, HG6.out⟩
end Go.Proofs.Ytfmmkdmnondomaa
/- The law SlotsRound. -/
namespace Go.Proofs.Ytfmmkdmnondomaa
open Go.RowKit
set_option linter.unusedVariables false

/-- A case in memory. -/
structure CB (W : World) (B : Nat) (N : Int) (P : Nat) (R E : Int) (uA uB : Value) : Prop where
  c0 : W.cell? ⟨B, 0, none⟩ = some (.int .i64 N)
  c1 : W.cell? ⟨B, 1, none⟩ = some (.int .u32 P)
  c2 : W.cell? ⟨B, 2, none⟩ = some (.int .i64 R)
  c3 : W.cell? ⟨B, 3, none⟩ = some (.int .i64 E)
  c4 : W.cell? ⟨B, 4, none⟩ = some uA
  c5 : W.cell? ⟨B, 5, none⟩ = some uB
theorem CB.later {W W' : World} {B : Nat} {N : Int} {P : Nat} {R E : Int} {uA uB : Value} (h : CB W B N P R E uA uB) (g : Gr W W') : CB W' B N P R E uA uB :=
  ⟨g.keeps h.c0, g.keeps h.c1, g.keeps h.c2, g.keeps h.c3, g.keeps h.c4, g.keeps h.c5⟩
theorem CB.new (w : World) (N : Int) (P : Nat) (R E : Int) (uA uB : Value) : CB (w.alloc (.cells #[.int .i64 N, .int .u32 P, .int .i64 R, .int .i64 E, uA, uB] 25)) w.heap.size N P R E uA uB := by
  have h := Blk.new 25 w #[.int .i64 N, .int .u32 P, .int .i64 R, .int .i64 E, uA, uB]
  exact ⟨h.cell 0, h.cell 1, h.cell 2, h.cell 3, h.cell 4, h.cell 5⟩
end Go.Proofs.Ytfmmkdmnondomaa
