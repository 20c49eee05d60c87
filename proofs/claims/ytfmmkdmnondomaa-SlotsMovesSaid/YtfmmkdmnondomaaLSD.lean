import Derived.Test.YtfmmkdmnondomaaLSC
/- Slices of int that hold numbers (made from the text on []int64). -/
namespace Go.Proofs.Ytfmmkdmnondomaa.Li
open Go.RowKit
set_option linter.unusedVariables false

def I64 (l : List Int) : Prop := ∀ x ∈ l, -9223372036854775808 ≤ x ∧ x < 9223372036854775808
theorem I64.nil : I64 [] := fun x hx => (by cases hx)
theorem I64.at_ {l : List Int} (h : I64 l) (i : Nat) : -9223372036854775808 ≤ Op.cf l i ∧ Op.cf l i < 9223372036854775808 := by
  by_cases hi : i < l.length
  · exact h _ (Op.cf_mem hi)
  · rw [Op.cf_out (by omega)]; omega
theorem I64.take {l : List Int} (h : I64 l) (k : Nat) : I64 (l.take k) := fun x hx => h x (List.mem_of_mem_take hx)
theorem I64.drop {l : List Int} (h : I64 l) (k : Nat) : I64 (l.drop k) := fun x hx => h x (List.mem_of_mem_drop hx)
theorem I64.app {l m : List Int} (h : I64 l) (k : I64 m) : I64 (l ++ m) := fun x hx => by
  rcases List.mem_append.1 hx with h1 | h1
  · exact h x h1
  · exact k x h1
theorem I64.one {x : Int} (h : -9223372036854775808 ≤ x ∧ x < 9223372036854775808) : I64 [x] := fun y hy => by
  simp at hy; subst hy; exact h

/-- A slice holds numbers. -/
def HasQ (W : World) (v : Value) (l : List Int) : Prop :=
  I64 l ∧ ∃ a cap, v = .slice a l.length cap ∧ l.length ≤ cap ∧ cap ≤ 9223372036854775807 ∧
    ∀ i, i < l.length → ∃ g o, a = some ⟨g, o, none⟩ ∧ W.cell? ⟨g, o + i, none⟩ = some (.int .i64 (Op.cf l i))
theorem HasQ.later {W W' : World} {v : Value} {l : List Int} (h : HasQ W v l) (hg : Gr W W') : HasQ W' v l := by
  obtain ⟨hd, a, cap, rfl, h1, h2, h3⟩ := h
  refine ⟨hd, a, cap, rfl, h1, h2, fun i hi => ?_⟩
  obtain ⟨g, o, e, hc⟩ := h3 i hi
  exact ⟨g, o, e, hg.keeps hc⟩
theorem HasQ.nil (W : World) : HasQ W (.slice none 0 0) [] := ⟨I64.nil, none, 0, rfl, Nat.le_refl _, by omega, fun i hi => absurd hi (by simp)⟩
theorem HasQ.take {W : World} {a : Option Addr} {l : List Int} {n cap k : Nat} (h : HasQ W (.slice a n cap) l) (hk : k ≤ l.length) : HasQ W (.slice a k cap) (l.take k) := by
  obtain ⟨hd, a', cap', e, h1, h2, hc⟩ := h
  simp only [Value.slice.injEq] at e
  obtain ⟨rfl, -, rfl⟩ := e
  have hlen : (l.take k).length = k := by rw [List.length_take]; omega
  refine ⟨hd.take k, a, cap, by rw [hlen], by omega, h2, fun i hi => ?_⟩
  rw [hlen] at hi
  obtain ⟨g, o, e, hcell⟩ := hc i (by omega)
  exact ⟨g, o, e, by rw [Op.cf_take, if_pos hi]; exact hcell⟩
theorem HasQ.len {W : World} {a : Option Addr} {l : List Int} {n cap : Nat} (h : HasQ W (.slice a n cap) l) : n = l.length ∧ n ≤ cap := by
  obtain ⟨hd, a', cap', e, h1, h2, hc⟩ := h
  simp only [Value.slice.injEq] at e
  obtain ⟨rfl, rfl, rfl⟩ := e
  exact ⟨rfl, h1⟩
theorem HasQ.block {W : World} {v : Value} {l : List Int} (h : HasQ W v l) (h0 : 0 < l.length) : ∃ b, v.ownBlock = some b ∧ b < W.heap.size := by
  obtain ⟨_, a, cap, rfl, _, _, hc⟩ := h
  obtain ⟨g, o, rfl, hc0⟩ := hc 0 h0
  exact ⟨g, rfl, World.block_lt_of_cell? W _ hc0⟩

/-- Block g is a row of numbers of 32 bits. -/
def Rw (W : World) (g : Nat) (cur : Array Value) : Prop := W.heap[g]? = some (.cells cur 3 (0, 0))
theorem Rw.cell {W : World} {g : Nat} {cur : Array Value} (h : Rw W g cur) (j : Nat) : W.cell? ⟨g, j, none⟩ = cur[j]? := by
  simp [World.cell?, show W.heap[g]? = _ from h]
theorem Rw.frozen {W : World} {g : Nat} {cur : Array Value} (h : Rw W g cur) (j : Nat) : W.frozen? ⟨g, j, none⟩ = false := by
  simp [World.frozen?, show W.heap[g]? = _ from h]
theorem Rw.set {W : World} {g : Nat} {cur : Array Value} (h : Rw W g cur) (j : Nat) (u : Value) : Rw (W.setCell ⟨g, j, none⟩ u) g (cur.setIfInBounds j u) := by
  obtain ⟨hlt, hk⟩ := Array.getElem?_eq_some_iff.1 (show W.heap[g]? = _ from h)
  show (W.heap.modify g _)[g]? = _
  rw [Array.getElem?_eq_getElem (by rw [Array.size_modify]; exact hlt), Array.getElem_modify_self, hk]
  rfl
theorem Rw.new (w : World) (cur : Array Value) : Rw (w.alloc (.cells cur 3)) w.heap.size cur := heap_alloc_new w _
theorem Rw.lt {W : World} {g : Nat} {cur : Array Value} (h : Rw W g cur) : g < W.heap.size := (Array.getElem?_eq_some_iff.1 (show W.heap[g]? = _ from h)).1
theorem Rw.later {W W' : World} {g : Nat} {cur : Array Value} (h : Rw W g cur) (k : Gr W W') : Rw W' g cur := by
  show W'.heap[g]? = _
  rw [k.block g h.lt]; exact h

/-- W' is W, but for the cells of block g from o on: they hold the numbers l. -/
structure Upd (g o : Nat) (l : List Int) (W W' : World) : Prop where
  os : W'.os = W.os
  tape : W'.tape = W.tape
  output : W'.output = W.output
  size : W'.heap.size = W.heap.size
  block : ∀ k, k ≠ g → W'.heap[k]? = W.heap[k]?
  row : ∃ cur cur', Rw W g cur ∧ Rw W' g cur' ∧ cur'.size = cur.size ∧ o + l.length ≤ cur.size ∧ ∀ j, cur'[j]? = if o ≤ j ∧ j < o + l.length then some (.int .i64 (Op.cf l (j - o))) else cur[j]?
theorem Upd.start {W : World} {g o : Nat} {cur : Array Value} (h : Rw W g cur) (ho : o ≤ cur.size) : Upd g o [] W W :=
  ⟨rfl, rfl, rfl, rfl, fun _ _ => rfl, cur, cur, h, h, rfl, by simpa using ho, fun j => by rw [if_neg (by simp)]⟩
theorem Upd.step {W W' : World} {g o : Nat} {l : List Int} (h : Upd g o l W W') {k : Nat} {d : Int} (hk : l.length = k) {v : Value} (hc : W.cell? ⟨g, o + k, none⟩ = some v) : Upd g o (l ++ [d]) W (W'.setCell ⟨g, o + k, none⟩ (.int .i64 d)) := by
  subst hk
  obtain ⟨h1, h2, h3, h4, h5, cur, cur', r1, r2, r3, r4, r5⟩ := h
  have hlt : o + l.length < cur.size := by
    rw [r1.cell] at hc
    exact (Array.getElem?_eq_some_iff.1 hc).1
  refine ⟨h1, h2, h3, by simpa using h4, fun k hk => ?_, cur, _, r1, r2.set _ _, by simpa using r3, by simp; omega, fun j => ?_⟩
  · rw [Below.heap_setCell _ _ _ _ hk]; exact h5 k hk
  · rw [Array.getElem?_setIfInBounds]
    by_cases e : o + l.length = j
    · subst e
      rw [if_pos rfl, if_pos (by omega), if_pos (by simp)]
      rw [Op.cf_append, if_neg (by omega)]
      simp
    · rw [if_neg e, r5]
      by_cases e2 : o ≤ j ∧ j < o + l.length
      · rw [if_pos e2, if_pos (by simp; omega), Op.cf_append, if_pos (by omega)]
      · rw [if_neg e2, if_neg (by simp; omega)]
theorem Upd.drewN {W W' : World} {g o : Nat} {l : List Int} (h : Upd g o l W W') (n : Nat) : Upd g o l W (W'.drewN n) := by
  obtain ⟨h1, h2, h3, h4, h5, cur, cur', r1, r2, r3⟩ := h
  exact ⟨h1, h2, h3, h4, h5, cur, cur', r1, r2, r3⟩
theorem Upd.frozen {W W' : World} {g o : Nat} {l : List Int} (h : Upd g o l W W') (j : Nat) : W'.frozen? ⟨g, j, none⟩ = false := by
  obtain ⟨_, _, _, _, _, cur, cur', r1, r2, _⟩ := h
  exact r2.frozen j
theorem Upd.gr {w W W' : World} {g o : Nat} {l : List Int} (h : Upd g o l W W') (hg : Gr w W) (hs : w.heap.size ≤ g) : Gr w W' :=
  ⟨h.os.trans hg.os, h.tape.trans hg.tape, h.output.trans hg.output, by rw [h.size]; exact hg.size, fun k hk => (h.block k (by omega)).trans (hg.block k hk)⟩
/-- Block g holds just the numbers l, and cells behind them. -/
def Row (W : World) (g : Nat) (l : List Int) : Prop := I64 l ∧ ∃ cur, Rw W g cur ∧ l.length ≤ cur.size ∧ ∀ j, j < l.length → cur[j]? = some (.int .i64 (Op.cf l j))
theorem Row.cell {W : World} {g : Nat} {l : List Int} (h : Row W g l) {j : Nat} (hj : j < l.length) : W.cell? ⟨g, j, none⟩ = some (.int .i64 (Op.cf l j)) := by
  obtain ⟨_, cur, h1, _, h2⟩ := h
  rw [h1.cell, h2 j hj]
theorem Row.frozen {W : World} {g : Nat} {l : List Int} (h : Row W g l) (j : Nat) : W.frozen? ⟨g, j, none⟩ = false := by
  obtain ⟨_, cur, h1, _, h2⟩ := h
  exact h1.frozen j
theorem Row.lt {W : World} {g : Nat} {l : List Int} (h : Row W g l) : g < W.heap.size := by
  obtain ⟨_, cur, h1, _, h2⟩ := h
  exact h1.lt
theorem Row.later {W W' : World} {g : Nat} {l : List Int} (h : Row W g l) (k : Gr W W') : Row W' g l := by
  obtain ⟨h0, cur, h1, h2⟩ := h
  exact ⟨h0, cur, h1.later k, h2⟩
theorem Row.hasQ {W : World} {g : Nat} {l : List Int} (h : Row W g l) {cap : Nat} (h1 : l.length ≤ cap) (h2 : cap ≤ 9223372036854775807) : HasQ W (.slice (some ⟨g, 0, none⟩) l.length cap) l :=
  ⟨h.1, _, cap, rfl, h1, h2, fun i hi => ⟨g, 0, rfl, by rw [Nat.zero_add]; exact h.cell hi⟩⟩
/-- What is written from o on. -/
def put (l : List Int) (o : Nat) (pre : List Int) : List Int := l.take o ++ pre ++ l.drop (o + pre.length)
/-- A row of zeros. -/
def zrow (n : Nat) : Array Value := madeCells #[.int .i64 0] n
theorem zrow_size (n : Nat) : (zrow n).size = n := size_madeCells _ _
theorem zrow_at (n j : Nat) (h : j < n) : (zrow n)[j]? = some (.int .i64 0) := by
  unfold zrow madeCells
  rw [Array.getElem?_eq_getElem (by simpa using h)]
  simp [Nat.mod_one]
theorem infoI64 : (Try.prog.info? 3).map (fun i => (i.zero, i.size, i.bytes)) = some (some (.int .i64 0), 1, 8) := by kernel_rfl
theorem mk_row (n : Nat) (L : Int) (hL : L = n) (hn : n ≤ 1000000) (w : World) : (Instr.makeSlice 39 (.int .i64 L) (.int .i64 L)).run Try.prog w = .ok (.slice (some ⟨w.heap.size, 0, none⟩) n n) (w.alloc (.cells (zrow n) 3)) := by
  obtain ⟨i0, hi, hz0, hz1, hz2⟩ := info_parts infoI64
  subst hL
  have := run_make (P := Try.prog) w 39 3 i0 (.int .i64 0) Try.underlying39 hi hz0 .i64 .i64 (n : Int) (n : Int) (by omega) (Int.le_refl _) (by rw [hz2]; omega) (by omega)
  rw [this, hz1, Int.toNat_natCast, Nat.mul_one]
  rfl
theorem Row.zeros (w : World) (n : Nat) : Row (w.alloc (.cells (zrow n) 3)) w.heap.size (List.replicate n 0) :=
  ⟨fun x hx => by rw [List.eq_of_mem_replicate hx]; omega, zrow n, Rw.new w _, by rw [zrow_size]; simp, fun j hj => by rw [List.length_replicate] at hj; rw [zrow_at n j hj, cf_rep]⟩
/-- New numbers. -/
def NewP (l : List Int) (w : World) (e : Ending) (w' : World) : Prop :=
  ∃ a n c, e = .returned (.slice a n c) ∧ HasQ w' (.slice a n c) l ∧ (∀ p, a = some p → w.heap.size ≤ p.block) ∧ Gr w w'
/-- Numbers as cells. -/
def pcells (l : List Int) : List Value := l.map (.int .i64 ·)
theorem pcells_at (l : List Int) (i : Nat) (hi : i < l.length) : (pcells l)[i]? = some (.int .i64 (Op.cf l i)) := by
  rw [← Op.cf_at]; simp [pcells, hi]
theorem pcells_len (l : List Int) : (pcells l).length = l.length := by simp [pcells]
theorem pcells_one (l : List Int) : ∀ v ∈ pcells l, v.oneCell' = true := by
  intro u hu; obtain ⟨x, _, rfl⟩ := List.mem_map.1 hu; rfl
/-- A slice of the call's own that holds numbers. -/
def Own1 (W : World) (base : Nat) (v : Value) (l : List Int) : Prop := I64 l ∧ W.ownsRow base 3 1 v l.length (pcells l)
theorem Own1.hasQ {W : World} {base : Nat} {v : Value} {l : List Int} (h : Own1 W base v l) : HasQ W v l := by
  refine ⟨h.1, ?_⟩
  rcases h.2.2 with ⟨rfl, h0⟩ | ⟨g, cap, cur, rfl, _, hg, h1, h2, h3, h4⟩
  · exact ⟨none, 0, by rw [h0], by omega, by omega, fun i hi => by omega⟩
  · refine ⟨_, cap, rfl, h1, by unfold maxLen at h2; omega, fun i hi => ⟨g, 0, rfl, ?_⟩⟩
    have hc : W.cell? ⟨g, i, none⟩ = (pcells l)[i]? := by
      rw [← h4, List.getElem?_take_of_lt (by omega)]
      simp [World.cell?, hg]
    rw [Nat.zero_add, hc, pcells_at l i hi]
/-- The block that it lies in. -/
theorem Own1.row {W : World} {base : Nat} {v : Value} {l : List Int} (h : Own1 W base v l) (h0 : 0 < l.length) : ∃ g cap, v = .slice (some ⟨g, 0, none⟩) l.length cap ∧ base ≤ g ∧ l.length ≤ cap ∧ cap ≤ 9223372036854775807 ∧ Row W g l := by
  have hd := h.hasQ
  rcases h.2.2 with ⟨rfl, h1⟩ | ⟨g, cap, cur, rfl, hb, hg, h1, h2, h3, h4⟩
  · omega
  · refine ⟨g, cap, rfl, hb, h1, by unfold maxLen at h2; omega, h.1, cur, hg, by omega, fun i hi => ?_⟩
    have : cur.toList[i]? = (pcells l)[i]? := by rw [← h4, List.getElem?_take_of_lt (by omega)]
    rw [Array.getElem?_toList] at this
    rw [this, pcells_at l i hi]
theorem Own1.nil (W : World) (base : Nat) : Own1 W base (.slice none 0 0) [] := ⟨I64.nil, World.ownsRow_nil _ _ _ _⟩
theorem Own1.fresh {W : World} {base : Nat} {v : Value} {l : List Int} (h : Own1 W base v l) {a : Option Addr} {n c : Nat} (hv : v = .slice a n c) : ∀ p, a = some p → base ≤ p.block := by
  intro p hp
  subst hv hp
  rcases h.2.2 with ⟨e, _⟩ | ⟨g, cap, cur, e, hb, _⟩
  · cases e
  · cases e
    exact hb
theorem Own1.form {W : World} {base : Nat} {v : Value} {l : List Int} (h : Own1 W base v l) : ∃ a c, v = .slice a l.length c ∧ l.length ≤ c ∧ c ≤ 9223372036854775807 := by
  obtain ⟨_, a, c, e, h1, h2, _⟩ := h.hasQ
  exact ⟨a, c, e, h1, h2⟩
theorem Own1.alloc {W : World} {base : Nat} {v : Value} {l : List Int} (h : Own1 W base v l) (o : Obj) : Own1 (W.alloc o) base v l := ⟨h.1, h.2.alloc o⟩
theorem Own1.drew {W : World} {base : Nat} {v : Value} {l : List Int} (h : Own1 W base v l) : Own1 W.drew base v l := h

theorem run_app (w : World) (base : Nat) (v : Value) (l0 : List Int) (hown : Own1 w base v l0) (u : Value) (m : List Int) (hu : HasQ w u m) (hlen : l0.length + m.length ≤ 1000000) (hbase : base ≤ w.heap.size) :
    ∃ v' w', (Builtin.append_ #[39, 39] 39 #[v, u]).run Try.prog w = .ok v' w' ∧ Own1 w' base v' (l0 ++ m) ∧ w.grownBy w' v.ownBlock := by
  obtain ⟨i0, hi, hz0, hz1, hz2⟩ := info_parts infoI64
  obtain ⟨hd0, hown⟩ := hown
  obtain ⟨hdm, a, cap, rfl, h1, h2, hc⟩ := hu
  have hdg : I64 (l0 ++ m) := hd0.app hdm
  have hcells : pcells (l0 ++ m) = pcells l0 ++ pcells m := by simp [pcells]
  rcases a with _ | ad
  · have hm : m = [] := by
      rcases m with _ | ⟨x, m⟩
      · rfl
      · obtain ⟨g, o, e, _⟩ := hc 0 (by simp)
        cases e
    subst hm
    refine ⟨v, w, ?_, by rw [List.append_nil]; exact ⟨hd0, hown⟩, World.grownBy.refl w _⟩
    rcases hown.2 with ⟨rfl, _⟩ | ⟨g, cap', cur, rfl, _, _, hnc, _⟩
    · simp [Builtin.append_, run_underlying Try.underlying39, sizeOf, typeInfo, hi, Builtin.lenOf, Builtin.firstCells]
    · simp [Builtin.append_, run_underlying Try.underlying39, sizeOf, typeInfo, hi, Builtin.lenOf, Builtin.firstCells, hnc, storeCells]
  · have hnews : ∀ j x, (pcells m)[j]? = some x → w.cell? (ad.add j) = some x := by
      intro j x hx
      have hj : j < m.length := by
        have := (List.getElem?_eq_some_iff.1 hx).1
        rwa [pcells_len] at this
      obtain ⟨g, o, e, hcell⟩ := hc j hj
      obtain rfl := Option.some.inj e
      rw [pcells_at m j hj] at hx
      have e2 : (⟨g, o, none⟩ : Addr).add j = ⟨g, o + j, none⟩ := addr_add rfl _ rfl
      rw [e2, hcell]; exact hx
    obtain ⟨v', w', hr, h5, h6, _⟩ := run_append_own (P := Try.prog) w base 39 39 3 i0 (.int .i64 0) 1 8 Try.underlying39 hi hz0 hz1 hz2 rfl (by decide) v l0.length (pcells l0) hown ad m.length cap (pcells m) (by rw [pcells_len]; omega) hnews (pcells_one m) (by unfold maxLen; omega) (by omega) hbase
    exact ⟨v', w', hr, ⟨hdg, by rw [hcells, List.length_append]; exact h5⟩, h6⟩
theorem wp_app {o : Oper} {a : Act} {w : World} {K : Act → World → Prop} {Q : Exit → Act → World → Prop} (s x : Operand)
    (ho : o.op = .call { callee := .builtin .append, args := #[s, x], argTypes := #[39, 39] }) (hty : o.type = 39)
    (base : Nat) (v : Value) (l0 : List Int) (hs : a.eval s = v) (hown : Own1 w base v l0) (u : Value) (m : List Int) (hx : a.eval x = u) (hu : HasQ w u m) (hlen : l0.length + m.length ≤ 1000000) (hbase : base ≤ w.heap.size)
    (h : ∀ v' w', Own1 w' base v' (l0 ++ m) → w.grownBy w' v.ownBlock → K (a.put o.dst v') w') : Oper.wp Try.prog o a w K Q := by
  obtain ⟨v', w', hr, h2, h3⟩ := run_app w base v l0 hown u m hu hlen hbase
  unfold Oper.wp execOp
  simp only [ho, hty, resolve, invoke, builtin, Sem.run_bind, Sem.run_pure, Result.andThen_ok, List.map_toArray, List.map_cons, List.map_nil, hs, hx, hr]
  exact h v' w' h2 h3
/-- append as a law of the walk. -/
theorem wpList_app {ops : Array Oper} {rest : List Oper} {o : Oper} {a : Act} {w : World} {Q : Exit → Act → World → Prop} (hgd : o.guard = none) (s x : Operand)
    (ho : o.op = .call { callee := .builtin .append, args := #[s, x], argTypes := #[39, 39] }) (hty : o.type = 39)
    (base : Nat) (v : Value) (l0 : List Int) (hs : a.eval s = v) (hown : Own1 w base v l0) (u : Value) (m : List Int) (hx : a.eval x = u) (hu : HasQ w u m) (hlen : l0.length + m.length ≤ 1000000) (hbase : base ≤ w.heap.size)
    (h : ∀ v' w', Own1 w' base v' (l0 ++ m) → w.grownBy w' v.ownBlock → wpList Try.prog ops Q rest (a.put o.dst v') w') : wpList Try.prog ops Q (o :: rest) a w :=
  wpList_plain hgd fun _ hK => wp_app s x ho hty base v l0 hs hown u m hx hu hlen hbase fun v' w' h2 h3 => hK _ _ (h v' w' h2 h3)
theorem grown_own {w a b : World} {base : Nat} {v : Value} {l : List Int} (h : Gr w a) (ho : Own1 a base v l) (hg : a.grownBy b v.ownBlock) (hb : w.heap.size ≤ base) : Gr w b := by
  refine Below.grown h hg h.size (fun j ej => ?_)
  rcases ho.2.2 with ⟨rfl, _⟩ | ⟨g, cap, cur, rfl, h1, _, _⟩
  · simp [Value.ownBlock] at ej
  · obtain rfl : g = j := by simpa [Value.ownBlock] using ej
    omega
theorem one_hasQ (W : World) (x : Int) (hx : -9223372036854775808 ≤ x ∧ x < 9223372036854775808) : HasQ (W.alloc (.cells #[.int .i64 x] 3)) (.slice (some ⟨W.heap.size, 0, none⟩) 1 1) [x] :=
  ⟨I64.one hx, _, 1, rfl, Nat.le_refl _, by omega, fun i hi => ⟨_, 0, rfl, by
    obtain rfl : i = 0 := by simpa using hi
    exact cell_new _ _ _⟩⟩
theorem Row.setAt {W : World} {g : Nat} {l : List Int} (h : Row W g l) {k : Nat} {x : Int} (hk : k < l.length) (hx : -9223372036854775808 ≤ x ∧ x < 9223372036854775808) : Row (W.setCell ⟨g, k, none⟩ (.int .i64 x)) g (l.set k x) := by
  obtain ⟨h0, cur, h1, h2, h3⟩ := h
  refine ⟨fun y hy => ?_, _, h1.set k _, by simpa using h2, fun j hj => ?_⟩
  · rcases List.mem_or_eq_of_mem_set hy with h | rfl
    · exact h0 y h
    · exact hx
  · rw [List.length_set] at hj
    rw [Array.getElem?_setIfInBounds, cf_set l x k j hk]
    by_cases e : k = j
    · subst e; rw [if_pos rfl, if_pos rfl, if_pos (by omega)]
    · rw [if_neg e, if_neg (fun h => e h.symm)]; exact h3 j hj
theorem HasQ.lo {W : World} {v : Value} {l : List Int} (h : HasQ W v l) : Lo.HasQ W v l := h
theorem HasQ.of {W : World} {v : Value} {l : List Int} (h : Lo.HasQ W v l) : HasQ W v l := h
end Go.Proofs.Ytfmmkdmnondomaa.Li
/- Package slots: Power, exponents, Index. -/
namespace Go.Proofs.Ytfmmkdmnondomaa
open Go.RowKit
set_option linter.unusedVariables false

/-- The turn, below half of the dimension. -/
def trn (n : Nat) (t : Int) : Nat := (t % ((n / 2 : Nat) : Int)).toNat
theorem trn_lt {n : Nat} (h : Os.D4 n) (t : Int) : trn n t < n / 2 ∧ ((trn n t : Nat) : Int) = t % ((n / 2 : Nat) : Int) := by
  have h1 := h.le
  have h2 := h.half
  have r0 := emod_lo t ((n / 2 : Nat) : Int) (by omega)
  have r1 := emod_hi t ((n / 2 : Nat) : Int) (by omega)
  unfold trn; omega
theorem tmod_turn {t h : Int} (hh : 1 ≤ h) : (t.tmod h + h).tmod h = t % h := by
  have h1 := Int.lt_tmod_of_pos t (show 0 < h by omega)
  rw [Int.tmod_eq_emod_of_nonneg (by omega), Int.add_emod_right, ← tmod_emod]

set_option maxRecDepth 100000 in
set_option maxHeartbeats 1000000 in
theorem sPower_any (n p r q x s T : Nat) (t : Int) (b : Bool) (w : World) (hN : SN n p r q x s) (h : IsSl w T n p r q x s) (ht : -9223372036854775808 ≤ t ∧ t ≤ 9223372036854775807) :
    Calls Try.prog 21 #[.pointer (some ⟨T, 0, none⟩), .int .i64 t, .bool b] w (TwoI (Os.pk n (trn n t) b : Nat) 0 w) := by
  obtain ⟨d1, d2, d3, d4, d5, d6, d7, d8⟩ := hN.dims
  have HN := Lib.hid hN
  have H := Lib.hid h
  obtain ⟨t1, t2⟩ := trn_lt hN.rt.dim t
  have hhalf := hN.rt.dim.half
  obtain ⟨u, hu⟩ : ∃ u, u = trn n t := ⟨_, rfl⟩
  obtain ⟨m, hm⟩ : ∃ m, m = n / 2 := ⟨_, rfl⟩
  rw [← hu] at t1 t2 ⊢
  rw [← hm] at t1 t2 hhalf
  have HM := Lib.hid hm
  have e1 : (n : Int) / 2 = (m : Int) := by omega
  have e2 : (t.tmod (m : Int) + (m : Int)).tmod (m : Int) = (u : Int) := by rw [tmod_turn (by omega), t2]
  have e3 : -(m : Int) < t.tmod (m : Int) := Int.lt_tmod_of_pos t (by omega)
  have e4 : t.tmod (m : Int) < (m : Int) := Int.tmod_lt_of_pos t (by omega)
  have hm0 : ¬ m = 0 := by omega
  have HH := Lib.hid hhalf
  have hm2 : m ≤ 16 := by omega
  have HU := Lib.hid (show u < n / 2 by rw [← hm]; exact t1)
  clear hu hm hN h t2 hhalf
  cases b with
  | false =>
    have c1 := H.out.ex u (by have := HU.out; omega)
    have HP := Lib.hid (show Os.pk n u false = Os.Ex n u from rfl)
    have c3 := H.out.n3
    go_enter Try.func21, Try.ntmps21
    go_wp2_with fail
    refine (smade_yes T _ H.out.it).mono ?_
    rintro e w1 ⟨rfl, hg⟩
    have HG := Lib.hid hg
    have c1 := hg.keeps c1
    have c3 := hg.keeps c3
    clear hg
    go_wp2_with fail
    go_ret2
    exact ⟨by rw [HP.out]; rfl, HG.out⟩
  | true =>
    have c1 := H.out.ex (u + m) (by have := HH.out; omega)
    have HP := Lib.hid (show Os.pk n u true = Os.Ex n (u + m) from by rw [HM.out, Nat.add_comm]; rfl)
    have c3 := H.out.n3
    go_enter Try.func21, Try.ntmps21
    go_wp2_with fail
    refine (smade_yes T _ H.out.it).mono ?_
    rintro e w1 ⟨rfl, hg⟩
    have HG := Lib.hid hg
    have c1 := hg.keeps c1
    have c3 := hg.keeps c3
    clear hg
    go_wp2_with fail
    go_ret2
    exact ⟨by rw [HP.out]; rfl, HG.out⟩
set_option maxHeartbeats 1000000 in
theorem sPower_none (v : Value) (t : Int) (b : Bool) (w : World) (h : NoSl w v) :
    Calls Try.prog 21 #[v, .int .i64 t, .bool b] w (TwoI 0 1 w) := by
  have H := Lib.hid h
  clear h
  go_enter Try.func21, Try.ntmps21
  go_wp2_with fail
  refine (smade_no v _ H.out).mono ?_
  rintro e w1 ⟨rfl, hg⟩
  have HG := Lib.hid hg
  clear hg
  go_wp2_with fail
  go_ret2
  exact ⟨rfl, HG.out⟩

/-- The exponents of the places. -/
def exL (n : Nat) : List Int := (List.range n).map (fun k => ((Os.Ex n k : Nat) : Int))
theorem exL_len (n : Nat) : (exL n).length = n := by simp [exL]
theorem cf_exL {n k : Nat} (h : k < n) : Op.cf (exL n) k = Os.Ex n k := by
  rw [← Op.cf_at]; simp [exL, h]
set_option maxRecDepth 100000 in
set_option maxHeartbeats 1000000 in
theorem sexponents_any (n p r q x s T : Nat) (w : World) (hN : SN n p r q x s) (h : IsSl w T n p r q x s) :
    Calls Try.prog 42 #[.pointer (some ⟨T, 0, none⟩)] w (fun e w' => e = .returned (.slice (some ⟨T, 69, none⟩) n n) ∧ Gr w w') := by
  obtain ⟨d1, d2, d3, d4, d5, d6, d7, d8⟩ := hN.dims
  have c3 := h.n3
  have i0 : (0 : Int) ≤ (n : Int) := by omega
  have i1 : (n : Int) ≤ 32 := by omega
  clear hN h
  go_enter Try.func42, Try.ntmps42
  go_wp2_with fail
  go_quiet (fail)
  go_wp2_with fail
  go_ret
  exact ⟨rfl, (Gr.refl w).drewN _⟩
theorem exL_has {n p r q x s T : Nat} {w : World} (hN : SN n p r q x s) (h : IsSl w T n p r q x s) : Lo.HasQ w (.slice (some ⟨T, 69, none⟩) n n) (exL n) := by
  obtain ⟨d1, d2, d3, d4, d5, d6, d7, d8⟩ := hN.dims
  refine ⟨fun y hy => ?_, _, n, by rw [exL_len], by rw [exL_len]; exact Nat.le_refl _, by omega, fun i hi => ⟨T, 69, rfl, ?_⟩⟩
  · unfold exL at hy
    simp only [List.mem_map, List.mem_range] at hy
    obtain ⟨k, hk, rfl⟩ := hy
    have := (Os.Ex.odd hN.rt.dim hk).2
    omega
  · rw [exL_len] at hi
    rw [h.ex i hi, cf_exL hi]
set_option maxRecDepth 100000 in
set_option maxHeartbeats 1000000 in
theorem sindex_any (a : List Int) (v : Value) (y : Int) (t : Nat) (w : World) (hv : Lo.HasQ w v a) (hl : a.length ≤ 1000000) (ht : t < a.length) (hy : Op.cf a t = y) (hn : ∀ j, j < t → Op.cf a j ≠ y) :
    Calls Try.prog 43 #[v, .int .i64 y] w (fun e w' => e = .returned (.int .i64 t) ∧ w = w') := by
  obtain ⟨hd, xa, ca, rfl, a1, a2, hc⟩ := hv
  obtain ⟨la, hla⟩ : ∃ la, la = a.length := ⟨_, rfl⟩
  have HC := Lib.hid hc
  have HY := Lib.hid hy
  have HN := Lib.hid hn
  rw [← hla] at a1 hl ht ⊢
  have HLA := Lib.hid hla
  clear hla hd hc hy hn
  go_enter Try.func43, Try.ntmps43
  go_wp2_with fail
  go_loop [5, 8] (fun _ u => ∃ k : Nat, u = .int .i64 k ∧ k ≤ t) (fun _ u => la - (intOf u).toNat)
  case atStart => exact ⟨0, rfl, by omega⟩
  case round =>
    obtain ⟨k, rfl, hk⟩ := hrel
    have hlt : k < la := by omega
    have i1 : (k : Int) < (la : Int) := by omega
    obtain ⟨g, o, rfl, hcell⟩ := HC.out k (by rw [← HLA.out]; exact hlt)
    obtain ⟨z, hz⟩ : ∃ z, z = Op.cf a k := ⟨_, rfl⟩
    rw [← hz] at hcell
    have HZ := Lib.hid hz
    clear hz
    by_cases e : k = t
    · subst e
      have hb : (y == z) = true := by rw [HZ.out, HY.out]; simp
      go_wp2_with fail
      go_ret
      exact ⟨rfl, rfl⟩
    · have hb : (y == z) = false := by
        have := HN.out k (by omega)
        rw [← HZ.out] at this
        simp; exact fun h => this h.symm
      have hk2 : k + 1 ≤ t := by omega
      clear e
      go_wp2_with fail
      go_round
      case rel => exact ⟨k + 1, by go_num, hk2⟩
      case measure => simp [intOf]; omega
end Go.Proofs.Ytfmmkdmnondomaa
/- Package slots: Moves. -/
namespace Go.Proofs.Ytfmmkdmnondomaa
open Go.RowKit
set_option linter.unusedVariables false

/-- An automorphism. -/
def Kd (n : Nat) (k : Int) : Prop := 1 ≤ k ∧ k < 2 * (n : Int) ∧ k % 2 = 1
instance (n : Nat) (k : Int) : Decidable (Kd n k) := by unfold Kd; infer_instance
def kE (n : Nat) (k : Int) : Int := if Kd n k then 0 else 2
theorem kE_yes {n : Nat} {k : Int} (h : Kd n k) : kE n k = 0 := if_pos h
theorem kE_no {n : Nat} {k : Int} (h : ¬ Kd n k) : kE n k = 2 := if_neg h
def MovR (n : Nat) (k : Int) (l : List Int) : Prop := (Kd n k ∧ Os.Mv n k.toNat l) ∨ (¬ Kd n k ∧ l = [])
theorem MovR.unique {n : Nat} {k : Int} (hd : Os.D4 n) {l m : List Int} (h : MovR n k l) (g : MovR n k m) : l = m := by
  rcases h with ⟨h1, h2⟩ | ⟨h1, rfl⟩ <;> rcases g with ⟨k1, k2⟩ | ⟨k1, rfl⟩
  · exact h2.unique hd k2
  · exact absurd h1 k1
  · exact absurd k1 h1
  · rfl

set_option maxRecDepth 100000 in
set_option maxHeartbeats 2000000 in
theorem sMoves_bad (n p r q x s T : Nat) (k : Int) (w : World) (hN : SN n p r q x s) (h : IsSl w T n p r q x s) (hk : -9223372036854775808 ≤ k ∧ k ≤ 9223372036854775807) (hb : ¬ Kd n k) :
    Calls Try.prog 22 #[.pointer (some ⟨T, 0, none⟩), .int .i64 k] w (LstE (MovR n k) (kE n k) w) := by
  obtain ⟨d1, d2, d3, d4, d5, d6, d7, d8⟩ := hN.dims
  have H := Lib.hid h
  have HB := Lib.hid (kE_no hb)
  have HR := Lib.hid (show MovR n k [] from .inr ⟨hb, rfl⟩)
  have hcase : k < 1 ∨ (¬ k < 1 ∧ 2 * (n : Int) ≤ k) ∨ (¬ k < 1 ∧ ¬ 2 * (n : Int) ≤ k ∧ k % 2 = 0) := by
    unfold Kd at hb
    omega
  have c3 := h.n3
  clear hb hN h
  rcases hcase with h1 | ⟨h1, h2⟩ | ⟨h1, h2, h3⟩
  · have b1 : decide (k < 1) = true := by simpa using h1
    go_enter Try.func22, Try.ntmps22
    go_wp2_with fail
    refine (smade_yes T _ H.out.it).mono ?_
    rintro e w1 ⟨rfl, hg⟩
    have HG := Lib.hid hg
    have c3 := hg.keeps c3
    clear hg
    go_wp2_with fail
    go_ret2
    rw [HB.out]
    exact LstE.nil 2 HR.out HG.out
  · have b1 : decide (k < 1) = false := by simpa using h1
    have b2 : decide (2 * (n : Int) ≤ k) = true := by simpa using h2
    go_enter Try.func22, Try.ntmps22
    go_wp2_with fail
    refine (smade_yes T _ H.out.it).mono ?_
    rintro e w1 ⟨rfl, hg⟩
    have HG := Lib.hid hg
    have c3 := hg.keeps c3
    clear hg
    go_wp2_with fail
    go_ret2
    rw [HB.out]
    exact LstE.nil 2 HR.out HG.out
  · have b1 : decide (k < 1) = false := by simpa using h1
    have b2 : decide (2 * (n : Int) ≤ k) = false := by simpa using h2
    have b3 : (k % 2 == 0) = true := by simpa using h3
    go_enter Try.func22, Try.ntmps22
    go_wp2_with fail
    refine (smade_yes T _ H.out.it).mono ?_
    rintro e w1 ⟨rfl, hg⟩
    have HG := Lib.hid hg
    have c3 := hg.keeps c3
    clear hg
    go_wp2_with fail
    go_ret2
    rw [HB.out]
    exact LstE.nil 2 HR.out HG.out

set_option maxRecDepth 100000 in
set_option maxHeartbeats 2000000 in
theorem sMoves_ok (n p r q x s T : Nat) (k : Int) (w : World) (hN : SN n p r q x s) (h : IsSl w T n p r q x s) (hb : Kd n k) :
    Calls Try.prog 22 #[.pointer (some ⟨T, 0, none⟩), .int .i64 k] w (LstE (MovR n k) (kE n k) w) := by
  obtain ⟨d1, d2, d3, d4, d5, d6, d7, d8⟩ := hN.dims
  have HN := Lib.hid hN
  have H := Lib.hid h
  have HKE := Lib.hid (kE_yes hb)
  have HKD := Lib.hid hb
  obtain ⟨k1, k2, k3⟩ := hb
  obtain ⟨K, rfl⟩ := Int.eq_ofNat_of_zero_le (show 0 ≤ k by omega)
  have hK2 : K < 2 * n := by omega
  have HKO := Lib.hid (show K % 2 = 1 by omega)
  have b1 : decide ((K : Int) < 1) = false := by simp; omega
  have b2 : decide (2 * (n : Int) ≤ (K : Int)) = false := by simp; omega
  have b3 : ((K : Int) % 2 == 0) = false := by simp; omega
  have c3 := h.n3
  have hmk := Li.mk_row n (n : Int) (by omega) (by omega)
  have hn0 : ¬ n = 0 := by omega
  clear hN h k3
  go_enter Try.func22, Try.ntmps22
  go_wp2_with fail
  refine (smade_yes T _ H.out.it).mono ?_
  rintro e w1 ⟨rfl, hg⟩
  have HG := Lib.hid hg
  have c3 := hg.keeps c3
  clear hg
  go_wp2_with fail
  refine (sexponents_any n p r q x s T _ HN.out (H.out.later HG.out)).mono ?_
  rintro e w2 ⟨rfl, hg⟩
  have HG2 := Lib.hid (HG.out.trans hg)
  have c3 := hg.keeps c3
  clear hg
  go_wp2_with fail
  clear hmk b1 b2 b3
  go_loopw [8, 9, 40] (fun _ _ t wr => ∃ (j : Nat) (l : List Int), t = .int .i64 j ∧ j ≤ n ∧ l.length = n ∧ (∀ i, i < j → ∃ u : Nat, u < n ∧ Op.cf l i = u ∧ Os.Ex n u = Os.Ex n i * K % (2 * n)) ∧ Li.Row wr w2.heap.size l ∧ Gr w2 wr) (fun _ _ t _ => n - (intOf t).toNat)
  case atStart => exact ⟨0, List.replicate n 0, rfl, by omega, by simp, fun j hj => by omega, Li.Row.zeros w2 n, Gr.new w2 _⟩
  case round =>
    obtain ⟨j, l, rfl, hj, hll, hval, hrow, hg⟩ := hrel
    have HLL := Lib.hid hll
    have HVAL := Lib.hid hval
    have HROW := Lib.hid hrow
    have HGW := Lib.hid hg
    clear hll hval hrow hg
    have HSL := Lib.hid (H.out.later (HG2.out.trans HGW.out))
    have c3 := HSL.out.n3
    by_cases hlt : j < n
    · have i1 : (j : Int) < (n : Int) := by omega
      have ce := HSL.out.ex j hlt
      obtain ⟨o1, o2⟩ := Os.Ex.odd HN.out.rt.dim hlt
      obtain ⟨t, ht, hte⟩ := Os.Ex.move HN.out.rt.dim hlt HKO.out
      obtain ⟨X, hX⟩ : ∃ X, X = Os.Ex n j := ⟨_, rfl⟩
      rw [← hX] at ce o2
      have HX := Lib.hid hX
      have HTE := Lib.hid hte
      have m0 := mul_lo (a := (X : Int)) (b := (K : Int)) (by omega) (by omega)
      have m1 : (X : Int) * (K : Int) ≤ 64 * 64 := Int.mul_le_mul (by omega) (by omega) (by omega) (by omega)
      have HY := Lib.hid (show (X : Int) * (K : Int) % (2 * (n : Int)) = (Os.Ex n t : Nat) from by rw [hte, ← hX]; simp)
      have HIX := Lib.hid (show ∀ j, j < t → Op.cf (exL n) j ≠ (Os.Ex n t : Nat) from fun i hi h => by
        rw [cf_exL (by omega)] at h
        have := Os.Ex.inj HN.out.rt.dim (show i < n by omega) ht (by omega)
        omega)
      clear hX hte
      go_wp2_with fail
      rw [HY.out]
      refine (sindex_any (exL n) _ _ t _ (exL_has HN.out HSL.out) (by rw [exL_len]; omega) (by rw [exL_len]; exact ht) (cf_exL ht) HIX.out).mono ?_
      rintro e w3 ⟨rfl, rfl⟩
      have hc1 := HROW.out.cell (j := j) (by rw [HLL.out]; exact hlt)
      have hf1 := HROW.out.frozen j
      have HR2 := Lib.hid (HROW.out.setAt (k := j) (x := (t : Int)) (by rw [HLL.out]; exact hlt) (by omega))
      go_wp2_with fail
      go_roundw
      case rel => exact ⟨j + 1, l.set j t, by go_num, by omega, by rw [List.length_set]; exact HLL.out, fun i hi => by
        rw [cf_set l _ j i (by rw [HLL.out]; exact hlt)]
        by_cases e : i = j
        · rw [if_pos e, e]; exact ⟨t, ht, rfl, HTE.out⟩
        · rw [if_neg e]; exact HVAL.out i (by omega), HR2.out, HGW.out.setCell (Nat.le_refl _) _⟩
      case measure => simp [intOf]; omega
    · obtain rfl : j = n := by omega
      have i1 : ¬ (j : Int) < (j : Int) := by omega
      have hle := HG2.out.size
      go_wp2_with fail
      go_ret2
      rw [HKE.out]
      refine ⟨some ⟨w2.heap.size, 0, none⟩, j, j, l, rfl, ?_, .inl ⟨HKD.out, HLL.out, HVAL.out⟩, (fun p hp => by cases hp; exact hle), HG2.out.trans HGW.out⟩
      have := HROW.out.hasQ (cap := j) (by rw [HLL.out]; exact Nat.le_refl _) (by omega)
      rw [HLL.out] at this
      exact this.lo
theorem sMoves_any (n p r q x s T : Nat) (k : Int) (w : World) (hN : SN n p r q x s) (h : IsSl w T n p r q x s) (hk : -9223372036854775808 ≤ k ∧ k ≤ 9223372036854775807) :
    Calls Try.prog 22 #[.pointer (some ⟨T, 0, none⟩), .int .i64 k] w (LstE (MovR n k) (kE n k) w) := by
  by_cases hb : Kd n k
  · exact sMoves_ok n p r q x s T k w hN h hb
  · exact sMoves_bad n p r q x s T k w hN h hk hb
set_option maxHeartbeats 1000000 in
theorem sMoves_none (v : Value) (k : Int) (w : World) (h : NoSl w v) :
    Calls Try.prog 22 #[v, .int .i64 k] w (LstE (· = []) 1 w) := by
  have H := Lib.hid h
  clear h
  go_enter Try.func22, Try.ntmps22
  go_wp2_with fail
  refine (smade_no v _ H.out).mono ?_
  rintro e w1 ⟨rfl, hg⟩
  have HG := Lib.hid hg
  clear hg
  go_wp2_with fail
  go_ret2
  exact LstE.nil 1 rfl HG.out
end Go.Proofs.Ytfmmkdmnondomaa
/- The law's own functions: same, sameInts, lent, kept. -/
namespace Go.Proofs.Ytfmmkdmnondomaa
open Go.RowKit
set_option linter.unusedVariables false

set_option maxRecDepth 100000 in
set_option maxHeartbeats 1000000 in
theorem same8_any (a b : List Int) (u v : Value) (w : World) (hu : Lo.HasQ w u a) (hv : Lo.HasQ w v b) (hla : a.length ≤ 1000000) (hlb : b.length ≤ 1000000) :
    Calls Try.prog 40 #[u, v] w (fun e w' => e = .returned (.bool (decide (a = b))) ∧ Gr w w') := by
  obtain ⟨da, xa, ca, rfl, a1, a2, hca⟩ := hu
  obtain ⟨db, xb, cb, rfl, b1, b2, hcb⟩ := hv
  obtain ⟨na, hna⟩ : ∃ na, na = a.length := ⟨_, rfl⟩
  obtain ⟨nb, hnb⟩ : ∃ nb, nb = b.length := ⟨_, rfl⟩
  rw [← hna] at hla a1 ⊢
  rw [← hnb] at hlb b1 ⊢
  have HNA := Lib.hid hna
  have HNB := Lib.hid hnb
  have HCA := Lib.hid hca
  have HCB := Lib.hid hcb
  have HDA := Lib.hid da
  have HDB := Lib.hid db
  clear hna hnb hca hcb da db
  by_cases hl : na = nb
  · subst hl
    go_enter Try.func40, Try.ntmps40
    go_wp2_with fail
    go_loopw [5] (fun t wr => ∃ k : Nat, t = .int .i64 k ∧ k ≤ na ∧ (∀ i, i < k → Op.cf a i = Op.cf b i) ∧ Gr w wr) (fun t _ => na - (intOf t).toNat)
    case atStart => exact ⟨0, rfl, by omega, fun i hi => by omega, Gr.refl w⟩
    case round =>
      obtain ⟨k, rfl, hk, ht, hg⟩ := hrel
      have HT := Lib.hid ht
      have HG := Lib.hid hg
      clear ht hg
      by_cases hlt : k < na
      · obtain ⟨g, o, rfl, c1⟩ := HCA.out k (by rw [← HNA.out]; exact hlt)
        obtain ⟨g', o', rfl, c2⟩ := HCB.out k (by rw [← HNB.out]; exact hlt)
        have c1 := HG.out.keeps c1
        have c2 := HG.out.keeps c2
        have hx := HDA.out.at_ k
        have hy := HDB.out.at_ k
        obtain ⟨x, hxe⟩ : ∃ x, x = Op.cf a k := ⟨_, rfl⟩
        obtain ⟨y, hye⟩ : ∃ y, y = Op.cf b k := ⟨_, rfl⟩
        rw [← hxe] at c1 hx
        rw [← hye] at c2 hy
        have HX := Lib.hid hxe
        have HY := Lib.hid hye
        have i1 : (k : Int) < (na : Int) := by omega
        have i2 : (0 : Int) ≤ (k : Int) := by omega
        clear hxe hye hx hy
        by_cases he : x = y
        · have hb : (x != y) = false := by simp [he]
          have HE := Lib.hid he
          clear he
          go_wp2_with fail
          go_quiet (fail)
          go_wp2_with fail
          go_roundw
          case rel => exact ⟨k + 1, by go_num, by omega, (fun i hi => by
            by_cases h : i < k
            · exact HT.out i h
            · obtain rfl : i = k := by omega
              rw [← HX.out, ← HY.out, HE.out]), HG.out.drewN _⟩
          case measure => simp [intOf]; omega
        · have hb : (x != y) = true := by simp [he]
          have HE := Lib.hid he
          clear he
          have HF := Lib.hid (show decide (a = b) = false from by simp; intro h; apply HE.out; rw [HX.out, HY.out, h])
          go_wp2_with fail
          go_quiet (fail)
          go_wp2_with fail
          go_ret
          exact ⟨by rw [HF.out]; rfl, HG.out.drewN _⟩
      · have HF := Lib.hid (show decide (a = b) = true from by
          simp
          exact Op.ext_cf (by rw [← HNA.out, ← HNB.out]) (fun i => by
            by_cases h : i < k
            · exact HT.out i h
            · rw [Op.cf_out (by rw [← HNA.out]; omega), Op.cf_out (by rw [← HNB.out]; omega)]))
        go_wp2_with fail
        go_ret
        exact ⟨by rw [HF.out]; rfl, HG.out⟩
  · have HF := Lib.hid (show decide (a = b) = false from by simp; intro h; apply hl; rw [HNA.out, HNB.out, h])
    have hb : ((na : Int) != (nb : Int)) = true := by simp; omega
    have HL := Lib.hid hl
    clear hl
    go_enter Try.func40, Try.ntmps40
    go_wp2_with fail
    go_ret
    exact ⟨by rw [HF.out]; rfl, Gr.refl w⟩

set_option maxRecDepth 100000 in
set_option maxHeartbeats 1000000 in
theorem sameInts_any (a b : List Int) (u v : Value) (w : World) (hu : Lo.HasQ w u a) (hv : Lo.HasQ w v b) (hla : a.length ≤ 1000000) (hlb : b.length ≤ 1000000) :
    Calls Try.prog 25 #[u, v] w (fun e w' => e = .returned (.bool (decide (a = b))) ∧ Gr w w') := by
  obtain ⟨da, xa, ca, rfl, a1, a2, hca⟩ := hu
  obtain ⟨db, xb, cb, rfl, b1, b2, hcb⟩ := hv
  obtain ⟨na, hna⟩ : ∃ na, na = a.length := ⟨_, rfl⟩
  obtain ⟨nb, hnb⟩ : ∃ nb, nb = b.length := ⟨_, rfl⟩
  rw [← hna] at hla a1 ⊢
  rw [← hnb] at hlb b1 ⊢
  have HNA := Lib.hid hna
  have HNB := Lib.hid hnb
  have HCA := Lib.hid hca
  have HCB := Lib.hid hcb
  have HDA := Lib.hid da
  have HDB := Lib.hid db
  clear hna hnb hca hcb da db
  by_cases hl : na = nb
  · subst hl
    go_enter Try.func25, Try.ntmps25
    go_wp2_with fail
    go_loopw [5] (fun t wr => ∃ k : Nat, t = .int .i64 k ∧ k ≤ na ∧ (∀ i, i < k → Op.cf a i = Op.cf b i) ∧ Gr w wr) (fun t _ => na - (intOf t).toNat)
    case atStart => exact ⟨0, rfl, by omega, fun i hi => by omega, Gr.refl w⟩
    case round =>
      obtain ⟨k, rfl, hk, ht, hg⟩ := hrel
      have HT := Lib.hid ht
      have HG := Lib.hid hg
      clear ht hg
      by_cases hlt : k < na
      · obtain ⟨g, o, rfl, c1⟩ := HCA.out k (by rw [← HNA.out]; exact hlt)
        obtain ⟨g', o', rfl, c2⟩ := HCB.out k (by rw [← HNB.out]; exact hlt)
        have c1 := HG.out.keeps c1
        have c2 := HG.out.keeps c2
        have hx := HDA.out.at_ k
        have hy := HDB.out.at_ k
        obtain ⟨x, hxe⟩ : ∃ x, x = Op.cf a k := ⟨_, rfl⟩
        obtain ⟨y, hye⟩ : ∃ y, y = Op.cf b k := ⟨_, rfl⟩
        rw [← hxe] at c1 hx
        rw [← hye] at c2 hy
        have HX := Lib.hid hxe
        have HY := Lib.hid hye
        have i1 : (k : Int) < (na : Int) := by omega
        have i2 : (0 : Int) ≤ (k : Int) := by omega
        clear hxe hye hx hy
        by_cases he : x = y
        · have hb : (x != y) = false := by simp [he]
          have HE := Lib.hid he
          clear he
          go_wp2_with fail
          go_quiet (fail)
          go_wp2_with fail
          go_roundw
          case rel => exact ⟨k + 1, by go_num, by omega, (fun i hi => by
            by_cases h : i < k
            · exact HT.out i h
            · obtain rfl : i = k := by omega
              rw [← HX.out, ← HY.out, HE.out]), HG.out.drewN _⟩
          case measure => simp [intOf]; omega
        · have hb : (x != y) = true := by simp [he]
          have HE := Lib.hid he
          clear he
          have HF := Lib.hid (show decide (a = b) = false from by simp; intro h; apply HE.out; rw [HX.out, HY.out, h])
          go_wp2_with fail
          go_quiet (fail)
          go_wp2_with fail
          go_ret
          exact ⟨by rw [HF.out]; rfl, HG.out.drewN _⟩
      · have HF := Lib.hid (show decide (a = b) = true from by
          simp
          exact Op.ext_cf (by rw [← HNA.out, ← HNB.out]) (fun i => by
            by_cases h : i < k
            · exact HT.out i h
            · rw [Op.cf_out (by rw [← HNA.out]; omega), Op.cf_out (by rw [← HNB.out]; omega)]))
        go_wp2_with fail
        go_ret
        exact ⟨by rw [HF.out]; rfl, HG.out⟩
  · have HF := Lib.hid (show decide (a = b) = false from by simp; intro h; apply hl; rw [HNA.out, HNB.out, h])
    have hb : ((na : Int) != (nb : Int)) = true := by simp; omega
    have HL := Lib.hid hl
    clear hl
    go_enter Try.func25, Try.ntmps25
    go_wp2_with fail
    go_ret
    exact ⟨by rw [HF.out]; rfl, Gr.refl w⟩

set_option maxRecDepth 100000 in
set_option maxHeartbeats 1000000 in
theorem lsame8_any (a b : List Int) (u v : Value) (w : World) (hu : Lo.HasQ w u a) (hv : Lo.HasQ w v b) (hla : a.length ≤ 1000000) (hlb : b.length ≤ 1000000) :
    Calls Try.prog 20 #[u, v] w (fun e w' => e = .returned (.bool (decide (a = b))) ∧ Gr w w') := by
  have HU := Lib.hid hu
  have HV := Lib.hid hv
  clear hu hv
  obtain ⟨B, hB⟩ : ∃ B, B = decide (a = b) := ⟨_, rfl⟩
  rw [← hB]
  have HB := Lib.hid hB
  clear hB
  go_enter Try.func20, Try.ntmps20
  go_wp2_with fail
  refine (same8_any a b _ _ _ HU.out HV.out hla hlb).mono ?_
  rintro e w1 ⟨rfl, hg⟩
  have HG := Lib.hid hg
  clear hg
  rw [← HB.out]
  go_wp2_with fail
  go_ret
  exact ⟨rfl, HG.out⟩

end Go.Proofs.Ytfmmkdmnondomaa
/- The law's awake. -/
namespace Go.Proofs.Ytfmmkdmnondomaa
open Go.RowKit
set_option linter.unusedVariables false

instance (q : Nat) (x y : Int) : Decidable (Os.C q x y) := by unfold Os.C; infer_instance
instance (q : Nat) (x y : Int) : Decidable (Os.Bl q x y) := by unfold Os.Bl; infer_instance
instance (n q x : Nat) (a D : List Int) : Decidable (Os.Dc n q x a D) := by unfold Os.Dc; infer_instance
instance (n q x : Nat) (a D : List Int) : Decidable (Os.Ec n q x a D) := by unfold Os.Ec; infer_instance
theorem root17 {r : Int} {x : Nat} (h : RtR 4 17 1 x 0) : x = 2 := by
  rcases h with ⟨_, _, h3⟩ | ⟨_, _, _, h3⟩ | ⟨⟨_, h1⟩, h2, _, y, h3, h4⟩
  · omega
  · omega
  have hl : Oh7.LRoot 4 17 2 := ⟨by decide, by unfold Oh7.IsR; decide, by
    intro z hz
    have : z = 0 ∨ z = 1 := by omega
    unfold Oh7.IsR
    rcases this with rfl | rfl <;> decide⟩
  obtain rfl := h3.unique hl
  have hlen : ¬ 256 < (Op.xn 4).length := by decide
  rcases h4 with ⟨k1, _⟩ | ⟨_, k1, _⟩ | ⟨_, _, _, _, k1⟩ | ⟨_, _, _, _, k2, k3, k4⟩
  · exact absurd ⟨h1, by decide⟩ k1
  · exact absurd k1 hlen
  · omega
  · have e : (17 : Nat) ^ (1 : Int).toNat = 17 := by decide
    rw [e] at k2
    obtain ⟨t, ht⟩ := k3
    omega
theorem four_hasQ' (W : World) (x y z t : Int) (g : Nat) (hg : g = W.heap.size) (hx : Lo.I64 [x, y, z, t]) : Lo.HasQ (W.alloc (.cells #[.int .i64 x, .int .i64 y, .int .i64 z, .int .i64 t] 2)) (.slice (some ⟨g, 0, none⟩) 4 4) [x, y, z, t] := by
  subst hg
  refine ⟨hx, _, 4, rfl, Nat.le_refl _, by omega, fun i hi => ⟨_, 0, rfl, ?_⟩⟩
  have : i = 0 ∨ i = 1 ∨ i = 2 ∨ i = 3 := by simp at hi; omega
  rcases this with rfl | rfl | rfl | rfl <;> simp [go_sem]
theorem i64_dec {l : List Int} (h : ∀ x ∈ l, -100 ≤ x ∧ x ≤ 100) : Lo.I64 l := fun x hx => by have := h x hx; omega
theorem dec17 {l : List Int} (h : DecR 4 17 1 2 1 [0, 1, 0, 0] l) : l = [2, 8, -8, -2] := h.unique (.inl ⟨by decide, by decide +kernel⟩)
theorem enc17 {s : Nat} (hN : SN 4 17 1 17 2 s) {l : List Int} (h : EncR 4 17 1 2 1 [2, 8, -8, -2] l) : l = [0, 1, 0, 0] := h.unique hN (.inl ⟨by decide, by decide +kernel⟩)
theorem fits17 : Fits 4 17 1 := by
  refine ⟨by decide, ⟨⟨by decide, by decide, ?_⟩, by decide, by decide⟩, by decide⟩
  exact ⟨by decide, fun d h1 h2 => (show ∀ d, d < 17 → 2 ≤ d → ¬ d ∣ 17 by decide) d h2 h1⟩
/-- What New returns for 4, 17, 1. -/
def New17 (w : World) (e : Ending) (w' : World) : Prop := Gr w w' ∧ ∃ s T : Nat, SN 4 17 1 17 2 s ∧ e = .returned (.tuple #[.pointer (some ⟨T, 0, none⟩), .int .i64 0]) ∧ IsSl w' T 4 17 1 17 2 s
theorem new17_any (w : World) : Calls Try.prog 26 #[.int .i64 4, .int .u32 17, .int .i64 1] w (New17 w) := by
  refine (snew_any 4 17 1 w (by decide) (by decide)).mono ?_
  rintro e w' ⟨hg, ⟨m, k, q, x, s, T, h1, h2, h3, h4, h5, _⟩ | ⟨h1, _⟩⟩
  · obtain rfl : m = 4 := by omega
    obtain rfl : k = 1 := by omega
    obtain rfl : q = 17 := h3.hq
    obtain rfl := root17 (r := 1) h3.root
    exact ⟨hg, s, T, h3, h4, h5⟩
  · exact absurd fits17 h1
theorem lsame8_true (a : List Int) (u v : Value) (w : World) (hu : Lo.HasQ w u a) (hv : Lo.HasQ w v a) (hl : a.length ≤ 1000000) : Calls Try.prog 20 #[u, v] w (IsB true w) :=
  (lsame8_any a a u v w hu hv hl hl).mono fun e w' h => by rw [decide_eq_true rfl] at h; exact h
theorem sameInts_true (a : List Int) (u v : Value) (w : World) (hu : Lo.HasQ w u a) (hv : Lo.HasQ w v a) (hl : a.length ≤ 1000000) : Calls Try.prog 25 #[u, v] w (IsB true w) :=
  (sameInts_any a a u v w hu hv hl hl).mono fun e w' h => by rw [decide_eq_true rfl] at h; exact h
set_option maxRecDepth 100000 in
set_option maxHeartbeats 2000000 in
theorem awake8_any (w : World) : Calls Try.prog 12 #[] w (Truth w) := by
  have HU1 := Lib.hid (i64_dec (l := [0, 1, 0, 0]) (by decide))
  have HU2 := Lib.hid (i64_dec (l := [2, 8, -8, -2]) (by decide))
  have HK1 := Lib.hid (show chkE 4 17 1 1 [0, 1, 0, 0] = 0 by decide)
  have HK2 := Lib.hid (show chkE 4 17 1 1 [2, 8, -8, -2] = 0 by decide)
  have HPK := Lib.hid (show Os.pk 4 (trn 4 1) false = 3 by decide)
  go_enter Try.func12, Try.ntmps12
  go_wp2_with fail
  refine (new17_any _).mono ?_
  rintro e w1 ⟨hg, s, T, hN, rfl, hT⟩
  have HG := Lib.hid hg
  have HN := Lib.hid hN
  have HT := Lib.hid hT
  clear hg hN hT
  go_wp2_with fail
  refine (sDecode_any 4 17 1 17 2 s T 1 [0, 1, 0, 0] _ _ HN.out (HT.out.later (Gr.new _ _)) (four_hasQ' _ 0 1 0 0 _ rfl HU1.out) (by decide)).mono ?_
  rintro e w2 ⟨g2, m2, c2, l2, rfl, hq2, hd2, hf2, hg2⟩
  obtain rfl := dec17 hd2
  rw [HK1.out]
  have HG2 := Lib.hid (HG.out.trans ((Gr.new _ _).trans hg2))
  have HT2 := Lib.hid (HT.out.later ((Gr.new _ _).trans hg2))
  have HQ2 := Lib.hid hq2
  clear hq2 hd2 hf2 hg2
  go_wp2_with fail
  refine (sEncode_any 4 17 1 17 2 s T 1 [2, 8, -8, -2] _ _ HN.out (HT2.out.later (Gr.new _ _)) (four_hasQ' _ 2 8 (-8) (-2) _ rfl HU2.out) (by decide)).mono ?_
  rintro e w3 ⟨g3, m3, c3, l3, rfl, hq3, hd3, hf3, hg3⟩
  obtain rfl := enc17 HN.out hd3
  rw [HK2.out]
  have HG3 := Lib.hid (HG2.out.trans ((Gr.new _ _).trans hg3))
  have HT3 := Lib.hid (HT2.out.later ((Gr.new _ _).trans hg3))
  have HQ23 := Lib.hid (HQ2.out.later ((Gr.new _ _).trans hg3))
  have HQ3 := Lib.hid hq3
  clear hq3 hd3 hf3 hg3
  go_wp2_with fail
  refine (sPower_any 4 17 1 17 2 s T 1 false _ HN.out HT3.out (by decide)).mono ?_
  rintro e w4 ⟨rfl, hg4⟩
  rw [HPK.out]
  have HG4 := Lib.hid (HG3.out.trans hg4)
  have HQ24 := Lib.hid (HQ23.out.later hg4)
  have HQ34 := Lib.hid (HQ3.out.later hg4)
  clear hg4
  go_wp2_with fail
  refine (lsame8_true [2, 8, -8, -2] _ _ _ (HQ24.out.later (Gr.new _ _)) (four_hasQ' _ 2 8 (-8) (-2) _ rfl HU2.out) (by decide)).mono ?_
  rintro e w5 ⟨rfl, hg5⟩
  have HG5 := Lib.hid (HG4.out.trans ((Gr.new _ _).trans hg5))
  have HQ35 := Lib.hid (HQ34.out.later ((Gr.new _ _).trans hg5))
  clear hg5
  go_wp2_with fail
  refine (lsame8_true [0, 1, 0, 0] _ _ _ (HQ35.out.later (Gr.new _ _)) (four_hasQ' _ 0 1 0 0 _ rfl HU1.out) (by decide)).mono ?_
  rintro e w6 ⟨rfl, hg6⟩
  have HG6 := Lib.hid (HG5.out.trans ((Gr.new _ _).trans hg6))
  clear hg6
  go_wp2_with fail
  go_ret
  exact ⟨rfl, HG6.out⟩
end Go.Proofs.Ytfmmkdmnondomaa
/- The law SlotsRound. -/
namespace Go.Proofs.Ytfmmkdmnondomaa
open Go.RowKit
set_option linter.unusedVariables false

/-- A case in memory. -/
structure CB (W : World) (B : Nat) (N : Int) (P : Nat) (R E : Int) (uA uB : Value) : Prop where
  c0 : W.cell? ⟨B, 0, none⟩ = some (.int .i64 N)
  c1 : W.cell? ⟨B, 1, none⟩ = some (.int .u32 P)
  c2 : W.cell? ⟨B, 2, none⟩ = some (.int .i64 R)
  c3 : W.cell? ⟨B, 3, none⟩ = some (.int .i64 E)
  c4 : W.cell? ⟨B, 4, none⟩ = some uA
  c5 : W.cell? ⟨B, 5, none⟩ = some uB
theorem CB.later {W W' : World} {B : Nat} {N : Int} {P : Nat} {R E : Int} {uA uB : Value} (h : CB W B N P R E uA uB) (g : Gr W W') : CB W' B N P R E uA uB :=
  ⟨g.keeps h.c0, g.keeps h.c1, g.keeps h.c2, g.keeps h.c3, g.keeps h.c4, g.keeps h.c5⟩
theorem CB.new (w : World) (N : Int) (P : Nat) (R E : Int) (uA uB : Value) : CB (w.alloc (.cells #[.int .i64 N, .int .u32 P, .int .i64 R, .int .i64 E, uA, uB] 25)) w.heap.size N P R E uA uB := by
  have h := Blk.new 25 w #[.int .i64 N, .int .u32 P, .int .i64 R, .int .i64 E, uA, uB]
  exact ⟨h.cell 0, h.cell 1, h.cell 2, h.cell 3, h.cell 4, h.cell 5⟩
theorem nil_len {W : World} {g : Option Addr} {m c : Nat} (h : Lo.HasQ W (.slice g m c) []) : m = 0 := h.len.1

set_option maxRecDepth 100000 in
set_option maxHeartbeats 4000000 in
theorem round8_all (N : Int) (P : Nat) (R E : Int) (uA uB : Value) (A : List Int) (w : World) (hP : P ≤ 4294967295) (hR : -9223372036854775808 ≤ R ∧ R ≤ 9223372036854775807) (hE : -9223372036854775808 ≤ E ∧ E ≤ 9223372036854775807) (hA : Lo.HasQ w uA A) :
    Calls Try.prog 6 #[.agg #[.int .i64 N, .int .u32 P, .int .i64 R, .int .i64 E, uA, uB]] w (Truth w) := by
  have HA := Lib.hid hA
  have HE := Lib.hid hE
  have HR := Lib.hid hR
  obtain ⟨-, xa, ca, rfl, a1, a2, -⟩ := hA
  obtain ⟨la, hla⟩ : ∃ la, la = A.length := ⟨_, rfl⟩
  have HLA := Lib.hid hla
  rw [← hla] at HA a1 ⊢
  have HCB := Lib.hid (CB.new w N P R E (.slice xa la ca) uB)
  clear hla hE hR
  go_enter Try.func6, Try.ntmps6
  go_wp2_with fail
  refine (snew_any N P R _ hP HR.out).mono ?_
  rintro e w1 ⟨hg, ⟨n, r, q, x, s, T, rfl, rfl, hN, rfl, hT, -⟩ | ⟨hno, rfl⟩⟩
  · have HG := Lib.hid ((Gr.new w _).trans hg)
    have HC := Lib.hid (HCB.out.later hg)
    have HN := Lib.hid hN
    have HT := Lib.hid hT
    have c3 := HC.out.c3
    have c4 := HC.out.c4
    clear hg hN hT
    go_wp2_with fail
    refine (sEncode_any n P r q x s T E A _ _ HN.out HT.out (HA.out.later HG.out) HE.out).mono ?_
    rintro e w2 ⟨g2, m2, cp2, l2, rfl, hq2, hd2, hf2, hg2⟩
    have HC2 := Lib.hid (HC.out.later hg2)
    have HG2 := Lib.hid (HG.out.trans hg2)
    have HT2 := Lib.hid (HT.out.later hg2)
    have HQ2 := Lib.hid hq2
    have c3 := HC2.out.c3
    have c4 := HC2.out.c4
    clear hq2 hg2 hf2
    by_cases hck : Ckd n P r E A
    · have HCK := Lib.hid hck
      have HK1 := Lib.hid (chkE_yes hck)
      rw [HK1.out]
      obtain ⟨e1, e2, hvl⟩ := hck
      have HLOW := Lib.hid (HN.out.low (e := E.toNat) (by omega) (by omega)).1
      have HEC := Lib.hid (show Os.Ec n (P ^ E.toNat) x A l2 from by
        rcases hd2 with ⟨_, h⟩ | ⟨h, _⟩
        · exact h
        · exact absurd HCK.out h)
      have HCK2 := Lib.hid (show Ckd n P r E l2 from ⟨e1, e2, HEC.out.vl⟩)
      have HVL := Lib.hid hvl
      clear hd2 e1 e2 hvl
      go_wp2_with fail
      refine (sDecode_any n P r q x s T E l2 _ _ HN.out HT2.out HQ2.out HE.out).mono ?_
      rintro e w3 ⟨g3, m3, cp3, l3, rfl, hq3, hd3, hf3, hg3⟩
      rw [chkE_yes HCK2.out]
      obtain rfl : l3 = A := by
        rcases hd3 with ⟨_, h⟩ | ⟨h, _⟩
        · exact HLOW.out.forth HVL.out HEC.out h
        · exact absurd HCK2.out h
      have HC3 := Lib.hid (HC2.out.later hg3)
      have HG3 := Lib.hid (HG2.out.trans hg3)
      have HT3 := Lib.hid (HT2.out.later hg3)
      have HQ3 := Lib.hid hq3
      have c3 := HC3.out.c3
      have c4 := HC3.out.c4
      clear hq3 hg3 hf3 hd3
      go_wp2_with fail
      refine (sDecode_any n P r q x s T E l3 _ _ HN.out HT3.out (HA.out.later HG3.out) HE.out).mono ?_
      rintro e w4 ⟨g4, m4, cp4, l4, rfl, hq4, hd4, hf4, hg4⟩
      rw [HK1.out]
      have HDC := Lib.hid (show Os.Dc n (P ^ E.toNat) x l3 l4 from by
        rcases hd4 with ⟨_, h⟩ | ⟨h, _⟩
        · exact h
        · exact absurd HCK.out h)
      have HCK4 := Lib.hid (show Ckd n P r E l4 from ⟨HCK.out.1, HCK.out.2.1, HDC.out.vl⟩)
      have HC4 := Lib.hid (HC3.out.later hg4)
      have HG4 := Lib.hid (HG3.out.trans hg4)
      have HT4 := Lib.hid (HT3.out.later hg4)
      have HQ34 := Lib.hid (HQ3.out.later hg4)
      have HQ4 := Lib.hid hq4
      have c3 := HC4.out.c3
      have c4 := HC4.out.c4
      clear hq4 hg4 hf4 hd4
      go_wp2_with fail
      refine (sEncode_any n P r q x s T E l4 _ _ HN.out HT4.out HQ4.out HE.out).mono ?_
      rintro e w5 ⟨g5, m5, cp5, l5, rfl, hq5, hd5, hf5, hg5⟩
      rw [chkE_yes HCK4.out]
      obtain rfl : l5 = l3 := by
        rcases hd5 with ⟨_, h⟩ | ⟨h, _⟩
        · exact HLOW.out.back HVL.out HDC.out h
        · exact absurd HCK4.out h
      have HLL := Lib.hid (show l5.length ≤ 1000000 from by
        have h1 := HVL.out.1
        have h2 := HN.out.dims
        omega)
      have HC5 := Lib.hid (HC4.out.later hg5)
      have HG5 := Lib.hid (HG4.out.trans hg5)
      have HQ35 := Lib.hid (HQ34.out.later hg5)
      have HQ5 := Lib.hid hq5
      have c3 := HC5.out.c3
      have c4 := HC5.out.c4
      clear hq5 hg5 hf5 hd5
      go_wp2_with fail
      refine (lsame8_true l5 _ _ _ HQ35.out (HA.out.later HG5.out) HLL.out).mono ?_
      rintro e w6 ⟨rfl, hg6⟩
      have HG6 := Lib.hid (HG5.out.trans hg6)
      have HQ6 := Lib.hid (HQ5.out.later hg6)
      have c4 := (HC5.out.later hg6).c4
      clear hg6
      go_wp2_with fail
      refine (lsame8_true l5 _ _ _ HQ6.out (HA.out.later HG6.out) HLL.out).mono ?_
      rintro e w7 ⟨rfl, hg7⟩
      have HG7 := Lib.hid (HG6.out.trans hg7)
      clear hg7
      go_wp2_with fail
      refine (awake8_any _).mono ?_
      rintro e w8 ⟨rfl, hg8⟩
      have HG8 := Lib.hid (HG7.out.trans hg8)
      clear hg8
      go_wp2_with fail
      go_ret
      exact ⟨rfl, HG8.out⟩
    · have HK1 := Lib.hid (chkE_no hck)
      rw [HK1.out]
      obtain rfl : l2 = [] := by
        rcases hd2 with ⟨h, _⟩ | ⟨_, h⟩
        · exact absurd h hck
        · exact h
      obtain rfl := nil_len HQ2.out
      clear hck hd2
      go_wp2_with fail
      refine (awake8_any _).mono ?_
      rintro e w8 ⟨rfl, hg8⟩
      have HG8 := Lib.hid (HG2.out.trans hg8)
      clear hg8
      go_wp2_with fail
      go_ret
      exact ⟨rfl, HG8.out⟩
  · have HG := Lib.hid ((Gr.new w _).trans hg)
    clear hg hno
    go_wp2_with fail
    refine (awake8_any _).mono ?_
    rintro e w8 ⟨rfl, hg8⟩
    have HG8 := Lib.hid (HG.out.trans hg8)
    clear hg8
    go_wp2_with fail
    go_ret
    exact ⟨rfl, HG8.out⟩
end Go.Proofs.Ytfmmkdmnondomaa
