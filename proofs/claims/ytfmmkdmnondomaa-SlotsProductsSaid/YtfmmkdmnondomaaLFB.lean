import Derived.Test.YtfmmkdmnondomaaLFA
import Derived.Test.YtfmmkdmnondomaaLMF
import Derived.Test.YtfmmkdmnondomaaLPB
import Derived.Test.YtfmmkdmnondomaaLPA
/- Package factor: dimensions, plain primes, degrees; of both sides. -/
namespace Go.Proofs.Ytfmmkdmnondomaa
open Go.RowKit
set_option linter.unusedVariables false

def DimI (n : Int) : Prop := n = 2 ∨ n = 4 ∨ n = 8 ∨ n = 16 ∨ n = 32
instance (n : Int) : Decidable (DimI n) := by unfold DimI; infer_instance
theorem DimI.mem {n : Int} (h : DimI n) : n.toNat ∈ Oq.dims ∧ (n.toNat : Int) = n ∧ 2 ≤ n.toNat ∧ n.toNat ≤ 32 := by
  rcases h with rfl | rfl | rfl | rfl | rfl <;> exact ⟨by decide, by decide, by decide, by decide⟩
/-- A plain prime. -/
def PlP (p : Nat) : Prop := 2 < p ∧ p < 65536 ∧ Ob.Pr p

theorem fdim_any (n : Int) (w : World) : Calls Try.prog 57 #[.int .i64 n] w (fun e w' => e = .returned (.bool (decide (DimI n))) ∧ w = w') := by
  by_cases h : DimI n
  · rw [decide_eq_true h]
    rcases h with rfl | rfl | rfl | rfl | rfl
    all_goals
      go_enter Try.func57, Try.ntmps57
      go_wp2_with fail
      go_ret
      exact ⟨rfl, rfl⟩
  · rw [decide_eq_false h]
    unfold DimI at h
    have b1 : (n == 2) = false := by simp; omega
    have b2 : (n == 4) = false := by simp; omega
    have b3 : (n == 8) = false := by simp; omega
    have b4 : (n == 16) = false := by simp; omega
    have b5 : (n == 32) = false := by simp; omega
    clear h
    go_enter Try.func57, Try.ntmps57
    go_wp2_with fail
    go_ret
    exact ⟨rfl, rfl⟩
set_option maxRecDepth 100000 in
theorem fplain_any (p : Nat) (w : World) (hp : p ≤ 4294967295) : Calls Try.prog 72 #[.int .u32 p] w (BoolPost (PlP p) w) := by
  by_cases h1 : 2 < p
  · by_cases h2 : p < 65536
    · have H1 := Lib.hid h1
      have H2 := Lib.hid h2
      have i1 : (2 : Int) < (p : Int) := by omega
      have i2 : (p : Int) < 65536 := by omega
      clear h1 h2
      go_enter Try.func72, Try.ntmps72
      go_wp2_with fail
      refine (pprime_pr p _ hp).mono ?_
      rintro e w1 ⟨r, rfl, hr, hg⟩
      have H := Lib.hid (And.intro hr hg)
      clear hr hg
      cases r with
      | true =>
        have HPR := Lib.hid (H.out.1.1 rfl)
        have HG := Lib.hid H.out.2
        clear H
        go_wp2_with fail
        go_ret
        exact ⟨true, rfl, ⟨fun _ => ⟨H1.out, H2.out, HPR.out⟩, fun _ => rfl⟩, HG.out⟩
      | false =>
        have HPR := Lib.hid (show ¬ Ob.Pr p from fun h => absurd (H.out.1.2 h) (by simp))
        have HG := Lib.hid H.out.2
        clear H
        go_wp2_with fail
        go_ret
        exact ⟨false, rfl, ⟨fun h => (by cases h), fun h => absurd h.2.2 HPR.out⟩, HG.out⟩
    · have H2 := Lib.hid h2
      have i1 : (2 : Int) < (p : Int) := by omega
      have i2 : decide ((p : Int) < 65536) = false := decide_eq_false (by omega)
      clear h1 h2
      go_enter Try.func72, Try.ntmps72
      go_wp2_with fail
      go_ret
      exact ⟨false, rfl, ⟨fun h => (by cases h), fun h => absurd h.2.1 H2.out⟩, Gr.refl _⟩
  · go_enter Try.func72, Try.ntmps72
    go_wp2_with fail
    go_ret
    exact ⟨false, rfl, ⟨fun h => (by cases h), fun h => absurd h.1 h1⟩, Gr.refl _⟩
/-- The degree and the error. -/
def DegR (n : Int) (p d : Nat) (E : Int) : Prop := (DimI n ∧ PlP p ∧ E = 0 ∧ Oq.PD n.toNat p d) ∨ (¬ (DimI n ∧ PlP p) ∧ E = 2 ∧ d = 0)
theorem DegR.unique {n : Int} {p d d' : Nat} {E E' : Int} (h : DegR n p d E) (h' : DegR n p d' E') : d = d' ∧ E = E' := by
  rcases h with ⟨h1, h2, rfl, h3⟩ | ⟨h1, rfl, rfl⟩ <;> rcases h' with ⟨k1, k2, rfl, k3⟩ | ⟨k1, rfl, rfl⟩
  · exact ⟨h3.unique k3, rfl⟩
  · exact absurd ⟨h1, h2⟩ k1
  · exact absurd ⟨k1, k2⟩ h1
  · exact ⟨rfl, rfl⟩
theorem PlP.odd {p : Nat} (h : PlP p) : p % 2 = 1 := by
  rcases Nat.mod_two_eq_zero_or_one p with h0 | h0
  · exact absurd (Nat.dvd_of_mod_eq_zero h0) (h.2.2.2 2 (Nat.le_refl _) h.1)
  · exact h0
end Go.Proofs.Ytfmmkdmnondomaa
/- Small laws on rows of numbers (from the texts of layers 6 and 7). -/
namespace Go.Proofs.Ytfmmkdmnondomaa
open Go.RowKit
set_option linter.unusedVariables false

theorem cf_set (l : List Int) (x : Int) : ∀ (j i : Nat), j < l.length → Op.cf (l.set j x) i = if i = j then x else Op.cf l i := by
  intro j i hj
  rw [← Op.cf_at, ← Op.cf_at]
  by_cases h : i = j
  · subst h; rw [if_pos rfl]; simp [hj]
  · rw [if_neg h, List.getElem?_set_ne (fun e => h e.symm)]
theorem U32.set {l : List Int} (h : U32 l) {x : Int} (hx : 0 ≤ x ∧ x < 4294967296) (j : Nat) : U32 (l.set j x) := fun y hy => by
  rcases List.mem_or_eq_of_mem_set hy with h1 | h1
  · exact h y h1
  · rw [h1]; exact hx
/-- A number of an own row is written. -/
theorem Own1.set {W : World} {base : Nat} {g : Nat} {n cap : Nat} {l : List Int} (h : Own1 W base (.slice (some ⟨g, 0, none⟩) n cap) l) {j : Nat} (hj : j < l.length) {x : Int} (hx : 0 ≤ x ∧ x < 4294967296) :
    Own1 (W.setCell ⟨g, j, none⟩ (.int .u32 x)) base (.slice (some ⟨g, 0, none⟩) n cap) (l.set j x) ∧ Below base W (W.setCell ⟨g, j, none⟩ (.int .u32 x)) := by
  obtain ⟨h0, h1⟩ := h
  rcases h1.2 with ⟨e, _⟩ | ⟨g', cap', cur, e, hb, hg, k1, k2, k3, k4⟩
  · cases e
  · cases e
    have hlen := h1.1
    refine ⟨⟨h0.set hx j, ?_, .inr ⟨g, cap, cur.setIfInBounds j (.int .u32 x), by simp, hb, ?_, by simpa using k1, k2, by simpa using k3, ?_⟩⟩, (Below.refl _ _).setCell (p := ⟨g, j, none⟩) hb _⟩
    · rw [pcells_len] at hlen ⊢; rw [List.length_set]; exact hlen
    · exact Rw.set (W := W) (g := g) hg j _
    · rw [List.length_set, Array.toList_setIfInBounds, List.take_set, k4]
      simp [pcells, List.map_set]
theorem own_zeros (w : World) (n : Nat) (base : Nat) (hb : base ≤ w.heap.size) (hn : n ≤ 1000000) : Own1 (w.alloc (.cells (zrow n) 22)) base (.slice (some ⟨w.heap.size, 0, none⟩) n n) (List.replicate n 0) := by
  have hr := Row.zeros w n
  refine ⟨hr.1, by rw [pcells_len, List.length_replicate]; omega, .inr ⟨w.heap.size, n, zrow n, by rw [List.length_replicate], hb, Rw.new w _, by simp, by unfold maxLen; omega, by rw [zrow_size]; omega, ?_⟩⟩
  apply List.ext_getElem?
  intro j
  rw [List.length_replicate, Nat.mul_one]
  by_cases hj : j < n
  · rw [List.getElem?_take_of_lt hj, Array.getElem?_toList, zrow_at n j hj, pcells_at _ _ (by simpa using hj), cf_rep]
  · rw [List.getElem?_eq_none (by simp; omega), List.getElem?_eq_none (by rw [pcells_len]; simp; omega)]
theorem xn_set (m : Nat) (hm : 1 ≤ m) : ((List.replicate (m + 1) (0 : Int)).set 0 1).set m 1 = Op.xn m := by
  apply Op.ext_cf
  · rw [Oq.xn_len]; simp
  · intro i
    rw [cf_set _ _ _ _ (by simp), cf_set _ _ _ _ (by simp), cf_rep, Op.cf_xn m i hm]
    by_cases h1 : i = m
    · rw [if_pos h1, if_pos (.inr h1)]
    · rw [if_neg h1]
      by_cases h2 : i = 0
      · rw [if_pos h2, if_pos (.inl h2)]
      · rw [if_neg h2, if_neg (by omega)]

theorem Row.setAt {W : World} {g : Nat} {l : List Int} (h : Row W g l) {k : Nat} {x : Int} (hk : k < l.length) (hx : 0 ≤ x ∧ x < 4294967296) : Row (W.setCell ⟨g, k, none⟩ (.int .u32 x)) g (l.set k x) := by
  obtain ⟨h0, cur, h1, h2, h3⟩ := h
  refine ⟨fun y hy => ?_, _, h1.set k _, by simpa using h2, fun j hj => ?_⟩
  · rcases List.mem_or_eq_of_mem_set hy with h | rfl
    · exact h0 y h
    · exact hx
  · rw [List.length_set] at hj
    rw [Array.getElem?_setIfInBounds, cf_set l x k j hk]
    by_cases e : k = j
    · subst e; rw [if_pos rfl, if_pos rfl, if_pos (by omega)]
    · rw [if_neg e, if_neg (fun h => e h.symm)]; exact h3 j hj
/-- New numbers in a block of their own. -/
def RowP (l : List Int) (w : World) (e : Ending) (w' : World) : Prop :=
  ∃ g n, e = .returned (.slice (some ⟨g, 0, none⟩) n n) ∧ n = l.length ∧ w.heap.size ≤ g ∧ Row w' g l ∧ Gr w w'
end Go.Proofs.Ytfmmkdmnondomaa
/- Slices of int64 that hold numbers (made from the texts on []uint32). -/
namespace Go.Proofs.Ytfmmkdmnondomaa.Lo
open Go.RowKit
set_option linter.unusedVariables false

def I64 (l : List Int) : Prop := ∀ x ∈ l, -9223372036854775808 ≤ x ∧ x < 9223372036854775808
theorem I64.nil : I64 [] := fun x hx => (by cases hx)
theorem I64.at_ {l : List Int} (h : I64 l) (i : Nat) : -9223372036854775808 ≤ Op.cf l i ∧ Op.cf l i < 9223372036854775808 := by
  by_cases hi : i < l.length
  · exact h _ (Op.cf_mem hi)
  · rw [Op.cf_out (by omega)]; omega
theorem I64.take {l : List Int} (h : I64 l) (k : Nat) : I64 (l.take k) := fun x hx => h x (List.mem_of_mem_take hx)
theorem I64.drop {l : List Int} (h : I64 l) (k : Nat) : I64 (l.drop k) := fun x hx => h x (List.mem_of_mem_drop hx)
theorem I64.one {x : Int} (h : -9223372036854775808 ≤ x ∧ x < 9223372036854775808) : I64 [x] := fun y hy => by
  simp at hy; subst hy; exact h
theorem I64.tz {l : List Int} (h : I64 l) : I64 (Op.tz l) := fun x hx => h x (Op.tz_mem hx)

/-- A slice holds numbers. -/
def HasQ (W : World) (v : Value) (l : List Int) : Prop :=
  I64 l ∧ ∃ a cap, v = .slice a l.length cap ∧ l.length ≤ cap ∧ cap ≤ 9223372036854775807 ∧
    ∀ i, i < l.length → ∃ g o, a = some ⟨g, o, none⟩ ∧ W.cell? ⟨g, o + i, none⟩ = some (.int .i64 (Op.cf l i))
theorem HasQ.later {W W' : World} {v : Value} {l : List Int} (h : HasQ W v l) (hg : Gr W W') : HasQ W' v l := by
  obtain ⟨hd, a, cap, rfl, h1, h2, h3⟩ := h
  refine ⟨hd, a, cap, rfl, h1, h2, fun i hi => ?_⟩
  obtain ⟨g, o, e, hc⟩ := h3 i hi
  exact ⟨g, o, e, hg.keeps hc⟩
theorem HasQ.nil (W : World) : HasQ W (.slice none 0 0) [] := ⟨I64.nil, none, 0, rfl, Nat.le_refl _, by omega, fun i hi => absurd hi (by simp)⟩
theorem HasQ.take {W : World} {a : Option Addr} {l : List Int} {n cap k : Nat} (h : HasQ W (.slice a n cap) l) (hk : k ≤ l.length) : HasQ W (.slice a k cap) (l.take k) := by
  obtain ⟨hd, a', cap', e, h1, h2, hc⟩ := h
  simp only [Value.slice.injEq] at e
  obtain ⟨rfl, -, rfl⟩ := e
  have hlen : (l.take k).length = k := by rw [List.length_take]; omega
  refine ⟨hd.take k, a, cap, by rw [hlen], by omega, h2, fun i hi => ?_⟩
  rw [hlen] at hi
  obtain ⟨g, o, e, hcell⟩ := hc i (by omega)
  exact ⟨g, o, e, by rw [Op.cf_take, if_pos hi]; exact hcell⟩
theorem tz_take (l : List Int) : Op.tz l = l.take (Op.tz l).length := by
  apply Op.ext_cf
  · have := Op.tz_len l
    rw [List.length_take]; omega
  · intro i
    rw [Op.cf_take]
    split
    · exact Op.cf_tz l i
    · exact Op.cf_out (by omega)
theorem HasQ.tz {W : World} {a : Option Addr} {l : List Int} {n cap : Nat} (h : HasQ W (.slice a n cap) l) : HasQ W (.slice a (Op.tz l).length cap) (Op.tz l) := by
  have := h.take (Op.tz_len l)
  rwa [← tz_take] at this
theorem HasQ.len {W : World} {a : Option Addr} {l : List Int} {n cap : Nat} (h : HasQ W (.slice a n cap) l) : n = l.length ∧ n ≤ cap := by
  obtain ⟨hd, a', cap', e, h1, h2, hc⟩ := h
  simp only [Value.slice.injEq] at e
  obtain ⟨rfl, rfl, rfl⟩ := e
  exact ⟨rfl, h1⟩
theorem HasQ.block {W : World} {v : Value} {l : List Int} (h : HasQ W v l) (h0 : 0 < l.length) : ∃ b, v.ownBlock = some b ∧ b < W.heap.size := by
  obtain ⟨_, a, cap, rfl, _, _, hc⟩ := h
  obtain ⟨g, o, rfl, hc0⟩ := hc 0 h0
  exact ⟨g, rfl, World.block_lt_of_cell? W _ hc0⟩

/-- Block g is a row of numbers of 32 bits. -/
def Rw (W : World) (g : Nat) (cur : Array Value) : Prop := W.heap[g]? = some (.cells cur 2 (0, 0))
theorem Rw.cell {W : World} {g : Nat} {cur : Array Value} (h : Rw W g cur) (j : Nat) : W.cell? ⟨g, j, none⟩ = cur[j]? := by
  simp [World.cell?, show W.heap[g]? = _ from h]
theorem Rw.frozen {W : World} {g : Nat} {cur : Array Value} (h : Rw W g cur) (j : Nat) : W.frozen? ⟨g, j, none⟩ = false := by
  simp [World.frozen?, show W.heap[g]? = _ from h]
theorem Rw.set {W : World} {g : Nat} {cur : Array Value} (h : Rw W g cur) (j : Nat) (u : Value) : Rw (W.setCell ⟨g, j, none⟩ u) g (cur.setIfInBounds j u) := by
  obtain ⟨hlt, hk⟩ := Array.getElem?_eq_some_iff.1 (show W.heap[g]? = _ from h)
  show (W.heap.modify g _)[g]? = _
  rw [Array.getElem?_eq_getElem (by rw [Array.size_modify]; exact hlt), Array.getElem_modify_self, hk]
  rfl
theorem Rw.new (w : World) (cur : Array Value) : Rw (w.alloc (.cells cur 2)) w.heap.size cur := heap_alloc_new w _
theorem Rw.lt {W : World} {g : Nat} {cur : Array Value} (h : Rw W g cur) : g < W.heap.size := (Array.getElem?_eq_some_iff.1 (show W.heap[g]? = _ from h)).1
theorem Rw.later {W W' : World} {g : Nat} {cur : Array Value} (h : Rw W g cur) (k : Gr W W') : Rw W' g cur := by
  show W'.heap[g]? = _
  rw [k.block g h.lt]; exact h

/-- W' is W, but for the cells of block g from o on: they hold the numbers l. -/
structure Upd (g o : Nat) (l : List Int) (W W' : World) : Prop where
  os : W'.os = W.os
  tape : W'.tape = W.tape
  output : W'.output = W.output
  size : W'.heap.size = W.heap.size
  block : ∀ k, k ≠ g → W'.heap[k]? = W.heap[k]?
  row : ∃ cur cur', Rw W g cur ∧ Rw W' g cur' ∧ cur'.size = cur.size ∧ o + l.length ≤ cur.size ∧ ∀ j, cur'[j]? = if o ≤ j ∧ j < o + l.length then some (.int .i64 (Op.cf l (j - o))) else cur[j]?
theorem Upd.start {W : World} {g o : Nat} {cur : Array Value} (h : Rw W g cur) (ho : o ≤ cur.size) : Upd g o [] W W :=
  ⟨rfl, rfl, rfl, rfl, fun _ _ => rfl, cur, cur, h, h, rfl, by simpa using ho, fun j => by rw [if_neg (by simp)]⟩
theorem Upd.step {W W' : World} {g o : Nat} {l : List Int} (h : Upd g o l W W') {k : Nat} {d : Int} (hk : l.length = k) {v : Value} (hc : W.cell? ⟨g, o + k, none⟩ = some v) : Upd g o (l ++ [d]) W (W'.setCell ⟨g, o + k, none⟩ (.int .i64 d)) := by
  subst hk
  obtain ⟨h1, h2, h3, h4, h5, cur, cur', r1, r2, r3, r4, r5⟩ := h
  have hlt : o + l.length < cur.size := by
    rw [r1.cell] at hc
    exact (Array.getElem?_eq_some_iff.1 hc).1
  refine ⟨h1, h2, h3, by simpa using h4, fun k hk => ?_, cur, _, r1, r2.set _ _, by simpa using r3, by simp; omega, fun j => ?_⟩
  · rw [Below.heap_setCell _ _ _ _ hk]; exact h5 k hk
  · rw [Array.getElem?_setIfInBounds]
    by_cases e : o + l.length = j
    · subst e
      rw [if_pos rfl, if_pos (by omega), if_pos (by simp)]
      rw [Op.cf_append, if_neg (by omega)]
      simp
    · rw [if_neg e, r5]
      by_cases e2 : o ≤ j ∧ j < o + l.length
      · rw [if_pos e2, if_pos (by simp; omega), Op.cf_append, if_pos (by omega)]
      · rw [if_neg e2, if_neg (by simp; omega)]
theorem Upd.drewN {W W' : World} {g o : Nat} {l : List Int} (h : Upd g o l W W') (n : Nat) : Upd g o l W (W'.drewN n) := by
  obtain ⟨h1, h2, h3, h4, h5, cur, cur', r1, r2, r3⟩ := h
  exact ⟨h1, h2, h3, h4, h5, cur, cur', r1, r2, r3⟩
theorem Upd.frozen {W W' : World} {g o : Nat} {l : List Int} (h : Upd g o l W W') (j : Nat) : W'.frozen? ⟨g, j, none⟩ = false := by
  obtain ⟨_, _, _, _, _, cur, cur', r1, r2, _⟩ := h
  exact r2.frozen j
theorem Upd.gr {w W W' : World} {g o : Nat} {l : List Int} (h : Upd g o l W W') (hg : Gr w W) (hs : w.heap.size ≤ g) : Gr w W' :=
  ⟨h.os.trans hg.os, h.tape.trans hg.tape, h.output.trans hg.output, by rw [h.size]; exact hg.size, fun k hk => (h.block k (by omega)).trans (hg.block k hk)⟩
/-- Block g holds just the numbers l, and cells behind them. -/
def Row (W : World) (g : Nat) (l : List Int) : Prop := I64 l ∧ ∃ cur, Rw W g cur ∧ l.length ≤ cur.size ∧ ∀ j, j < l.length → cur[j]? = some (.int .i64 (Op.cf l j))
theorem Row.cell {W : World} {g : Nat} {l : List Int} (h : Row W g l) {j : Nat} (hj : j < l.length) : W.cell? ⟨g, j, none⟩ = some (.int .i64 (Op.cf l j)) := by
  obtain ⟨_, cur, h1, _, h2⟩ := h
  rw [h1.cell, h2 j hj]
theorem Row.frozen {W : World} {g : Nat} {l : List Int} (h : Row W g l) (j : Nat) : W.frozen? ⟨g, j, none⟩ = false := by
  obtain ⟨_, cur, h1, _, h2⟩ := h
  exact h1.frozen j
theorem Row.lt {W : World} {g : Nat} {l : List Int} (h : Row W g l) : g < W.heap.size := by
  obtain ⟨_, cur, h1, _, h2⟩ := h
  exact h1.lt
theorem Row.later {W W' : World} {g : Nat} {l : List Int} (h : Row W g l) (k : Gr W W') : Row W' g l := by
  obtain ⟨h0, cur, h1, h2⟩ := h
  exact ⟨h0, cur, h1.later k, h2⟩
theorem Row.hasQ {W : World} {g : Nat} {l : List Int} (h : Row W g l) {cap : Nat} (h1 : l.length ≤ cap) (h2 : cap ≤ 9223372036854775807) : HasQ W (.slice (some ⟨g, 0, none⟩) l.length cap) l :=
  ⟨h.1, _, cap, rfl, h1, h2, fun i hi => ⟨g, 0, rfl, by rw [Nat.zero_add]; exact h.cell hi⟩⟩
/-- What is written from o on. -/
def put (l : List Int) (o : Nat) (pre : List Int) : List Int := l.take o ++ pre ++ l.drop (o + pre.length)
/-- A row of zeros. -/
def zrow (n : Nat) : Array Value := madeCells #[.int .i64 0] n
theorem zrow_size (n : Nat) : (zrow n).size = n := size_madeCells _ _
theorem zrow_at (n j : Nat) (h : j < n) : (zrow n)[j]? = some (.int .i64 0) := by
  unfold zrow madeCells
  rw [Array.getElem?_eq_getElem (by simpa using h)]
  simp [Nat.mod_one]
theorem infoI64 : (Try.prog.info? 2).map (fun i => (i.zero, i.size, i.bytes)) = some (some (.int .i64 0), 1, 8) := by kernel_rfl
theorem mk_row (n : Nat) (L : Int) (hL : L = n) (hn : n ≤ 1000000) (w : World) : (Instr.makeSlice 23 (.int .i64 L) (.int .i64 L)).run Try.prog w = .ok (.slice (some ⟨w.heap.size, 0, none⟩) n n) (w.alloc (.cells (zrow n) 2)) := by
  obtain ⟨i0, hi, hz0, hz1, hz2⟩ := info_parts infoI64
  subst hL
  have := run_make (P := Try.prog) w 23 2 i0 (.int .i64 0) Try.underlying23 hi hz0 .i64 .i64 (n : Int) (n : Int) (by omega) (Int.le_refl _) (by rw [hz2]; omega) (by omega)
  rw [this, hz1, Int.toNat_natCast, Nat.mul_one]
  rfl
theorem cf_rep (n i : Nat) : Op.cf (List.replicate n 0) i = 0 := by
  induction n generalizing i with
  | zero => simp
  | succ n ih => cases i with
    | zero => rfl
    | succ i => exact ih i
theorem Row.zeros (w : World) (n : Nat) : Row (w.alloc (.cells (zrow n) 2)) w.heap.size (List.replicate n 0) :=
  ⟨fun x hx => by rw [List.eq_of_mem_replicate hx]; omega, zrow n, Rw.new w _, by rw [zrow_size]; simp, fun j hj => by rw [List.length_replicate] at hj; rw [zrow_at n j hj, cf_rep]⟩
/-- Numbers as cells. -/
def pcells (l : List Int) : List Value := l.map (.int .i64 ·)
theorem pcells_at (l : List Int) (i : Nat) (hi : i < l.length) : (pcells l)[i]? = some (.int .i64 (Op.cf l i)) := by
  rw [← Op.cf_at]; simp [pcells, hi]
theorem pcells_len (l : List Int) : (pcells l).length = l.length := by simp [pcells]
/-- A slice of the call's own that holds numbers. -/
def Own1 (W : World) (base : Nat) (v : Value) (l : List Int) : Prop := I64 l ∧ W.ownsRow base 2 1 v l.length (pcells l)
theorem Own1.hasQ {W : World} {base : Nat} {v : Value} {l : List Int} (h : Own1 W base v l) : HasQ W v l := by
  refine ⟨h.1, ?_⟩
  rcases h.2.2 with ⟨rfl, h0⟩ | ⟨g, cap, cur, rfl, _, hg, h1, h2, h3, h4⟩
  · exact ⟨none, 0, by rw [h0], by omega, by omega, fun i hi => by omega⟩
  · refine ⟨_, cap, rfl, h1, by unfold maxLen at h2; omega, fun i hi => ⟨g, 0, rfl, ?_⟩⟩
    have hc : W.cell? ⟨g, i, none⟩ = (pcells l)[i]? := by
      rw [← h4, List.getElem?_take_of_lt (by omega)]
      simp [World.cell?, hg]
    rw [Nat.zero_add, hc, pcells_at l i hi]
/-- The block that it lies in. -/
theorem Own1.row {W : World} {base : Nat} {v : Value} {l : List Int} (h : Own1 W base v l) (h0 : 0 < l.length) : ∃ g cap, v = .slice (some ⟨g, 0, none⟩) l.length cap ∧ base ≤ g ∧ l.length ≤ cap ∧ cap ≤ 9223372036854775807 ∧ Row W g l := by
  have hd := h.hasQ
  rcases h.2.2 with ⟨rfl, h1⟩ | ⟨g, cap, cur, rfl, hb, hg, h1, h2, h3, h4⟩
  · omega
  · refine ⟨g, cap, rfl, hb, h1, by unfold maxLen at h2; omega, h.1, cur, hg, by omega, fun i hi => ?_⟩
    have : cur.toList[i]? = (pcells l)[i]? := by rw [← h4, List.getElem?_take_of_lt (by omega)]
    rw [Array.getElem?_toList] at this
    rw [this, pcells_at l i hi]
theorem Own1.nil (W : World) (base : Nat) : Own1 W base (.slice none 0 0) [] := ⟨I64.nil, World.ownsRow_nil _ _ _ _⟩
theorem Own1.alloc {W : World} {base : Nat} {v : Value} {l : List Int} (h : Own1 W base v l) (o : Obj) : Own1 (W.alloc o) base v l := ⟨h.1, h.2.alloc o⟩
theorem Own1.drew {W : World} {base : Nat} {v : Value} {l : List Int} (h : Own1 W base v l) : Own1 W.drew base v l := h

end Go.Proofs.Ytfmmkdmnondomaa.Lo
