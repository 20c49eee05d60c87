/- withRow: a row of a product. -/
import Derived.Test.YtgalgldnhdiggaaDoorUnary
import Derived.Laws.Rows
import Derived.Laws.CopyOwn
namespace Ow
set_option linter.unusedVariables false
/-- One digit written. -/
theorem val_set : ∀ (L : List Nat) (j d : Nat), j < L.length → val (L.set j d) + 4294967296 ^ j * (L[j]?.getD 0) = val L + 4294967296 ^ j * d
  | [], j, d, h => by simp at h
  | x :: L, 0, d, h => by simp [val]; omega
  | x :: L, j + 1, d, h => by
    have := val_set L j d (by simpa using h)
    simp only [List.set_cons_succ, val, List.getElem?_cons_succ, Nat.pow_succ]
    have e : ∀ y : Nat, 4294967296 ^ j * 4294967296 * y = 4294967296 * (4294967296 ^ j * y) := fun y => by rw [Nat.mul_comm (4294967296 ^ j), Nat.mul_assoc]
    rw [e, e]; omega
theorem dg_set {L : List Nat} (h : Dg L) (j : Nat) {d : Nat} (hd : d < 4294967296) : Dg (L.set j d) := fun x hx => by
  rcases List.mem_or_eq_of_mem_set hx with hx | rfl
  · exact h x hx
  · exact hd
theorem val_rep (n : Nat) : val (List.replicate n 0) = 0 := by
  induction n with
  | zero => rfl
  | succ n ih => simp [List.replicate_succ, val, ih]
theorem rep_at (n j : Nat) : (List.replicate n 0)[j]?.getD 0 = 0 := by
  rw [List.getElem?_replicate]; split <;> rfl
theorem dg_rep (n : Nat) : Dg (List.replicate n 0) := fun x hx => by rw [List.eq_of_mem_replicate hx]; omega
/-- k digits of a row, m times d, are added to L from the place o on; c is carried. -/
def RowI (L m : List Nat) (d o k : Nat) (cur : List Nat) (c : Nat) : Prop :=
  cur.length = L.length ∧ Dg cur ∧ c < 4294967296 ∧ (∀ j, o + m.length ≤ j → cur[j]?.getD 0 = L[j]?.getD 0) ∧
  val cur + c * 4294967296 ^ (o + k) = val L + 4294967296 ^ o * (d * val (m.take k))
theorem RowI.start {L : List Nat} (m : List Nat) (d o : Nat) (hL : Dg L) : RowI L m d o 0 L 0 := ⟨rfl, hL, by omega, fun _ _ => rfl, by simp [val]⟩
theorem RowI.step {L m cur : List Nat} {d o k c : Nat} (h : RowI L m d o k cur c) (hm : Dg m) (hd : d < 4294967296) (ho : o + m.length < L.length) (hk : k < m.length) {s : Nat} (hs : s = c + (cur[o + k]?.getD 0 + m[k]?.getD 0 * d)) :
    s ≤ 18446744073709551615 ∧ RowI L m d o (k + 1) (cur.set (o + k) (s % 4294967296)) (s / 4294967296) := by
  obtain ⟨h1, h2, h3, h4, h5⟩ := h
  have x2 := dg_at hm k
  have x3 := dg_at h2 (o + k)
  have hmm := mul_digit x2 hd
  refine ⟨by omega, by simpa using h1, dg_set h2 _ (Nat.mod_lt _ (by omega)), by omega, fun j hj => ?_, ?_⟩
  · rw [List.getElem?_set_ne (by omega)]; exact h4 j hj
  · have hv := val_set cur (o + k) (s % 4294967296) (by omega)
    rw [val_take_succ]
    generalize m[k]?.getD 0 = y at *
    generalize cur[o + k]?.getD 0 = z at *
    have e1 : 4294967296 ^ o * (d * (4294967296 ^ k * y)) = 4294967296 ^ (o + k) * (y * d) := by
      rw [Nat.pow_add, Nat.mul_left_comm d, Nat.mul_assoc, Nat.mul_comm d]
    rw [Nat.mul_add d, Nat.mul_add (4294967296 ^ o), e1, show o + (k + 1) = (o + k) + 1 by omega, Nat.pow_succ]
    generalize 4294967296 ^ (o + k) = P at *
    have e2 : P * s = P * c + (P * z + P * (y * d)) := by rw [hs, Nat.mul_add, Nat.mul_add]
    have e3 : P * s = P * (s % 4294967296) + P * (4294967296 * (s / 4294967296)) := by rw [← Nat.mul_add]; congr 1; omega
    have e4 : s / 4294967296 * (P * 4294967296) = P * (4294967296 * (s / 4294967296)) := by rw [Nat.mul_comm, Nat.mul_assoc]
    rw [e4]
    rw [Nat.mul_comm c P] at h5
    omega
theorem RowI.last {L m cur : List Nat} {d o c : Nat} (h : RowI L m d o m.length cur c) (ho : o + m.length < L.length) (hz : L[o + m.length]?.getD 0 = 0) :
    (cur.set (o + m.length) c).length = L.length ∧ Dg (cur.set (o + m.length) c) ∧ (∀ j, o + m.length + 1 ≤ j → (cur.set (o + m.length) c)[j]?.getD 0 = L[j]?.getD 0) ∧ val (cur.set (o + m.length) c) = val L + 4294967296 ^ o * (d * val m) := by
  obtain ⟨h1, h2, h3, h4, h5⟩ := h
  refine ⟨by simpa using h1, dg_set h2 _ h3, fun j hj => ?_, ?_⟩
  · rw [List.getElem?_set_ne (by omega)]; exact h4 j (by omega)
  · have hv := val_set cur (o + m.length) c (by omega)
    rw [h4 _ (Nat.le_refl _), hz, Nat.mul_zero] at hv
    rw [List.take_length] at h5
    rw [← h5, Nat.mul_comm c]
    omega
end Ow
namespace Go.Proofs.YtgalgldnhdiggaaDoor
open Go.RowKit
set_option linter.unusedVariables false

/-- Digits as the cells of an array. -/
def acells (L : List Nat) : Array Value := (wcells L).toArray
theorem acells_size (L : List Nat) : (acells L).size = L.length := by simp [acells, wcells]
theorem acells_at (L : List Nat) (j : Nat) (h : j < L.length) : (acells L)[j]? = some (.int .u32 ((L[j]?.getD 0 : Nat) : Int)) := by
  unfold acells; rw [List.getElem?_toArray]; exact wcells_at L j h
theorem acells_set (L : List Nat) (j d : Nat) : (acells L).setIfInBounds j (.int .u32 (d : Nat)) = acells (L.set j d) := by
  simp [acells, wcells]
theorem acells_one (L : List Nat) : (acells L).all (·.oneCell') = true := by
  rw [Array.all_eq_true_iff_forall_mem]
  intro v hv
  simp only [acells, wcells, List.mem_toArray, List.mem_map] at hv
  obtain ⟨x, _, rfl⟩ := hv
  rfl
theorem infoCols : (Tryd.prog.info? 114).map (fun i => (i.size)) = some 128 := by kernel_rfl
/-- The columns behind a row. -/
def RowOut (L m : List Nat) (d o : Nat) (w : World) (e : Ending) (w' : World) : Prop :=
  ∃ L', e = .returned (.agg (acells L')) ∧ L'.length = L.length ∧ Ow.Dg L' ∧ (∀ j, o + m.length + 1 ≤ j → L'[j]?.getD 0 = L[j]?.getD 0) ∧ Ow.val L' = Ow.val L + 4294967296 ^ o * (d * Ow.val m) ∧ Gr w w'
/-- The loop's state. -/
def RowS (L m : List Nat) (d o k c g : Nat) (W wr : World) : Prop := ∃ cur, Rt 114 wr g (acells cur) ∧ Ow.RowI L m d o k cur c ∧ (∀ b, b ≠ g → wr.heap[b]? = W.heap[b]?) ∧ Below g W wr
theorem RowS.below {L m : List Nat} {d o k c g : Nat} {W wr : World} (h : RowS L m d o k c g W wr) : Below g W wr := by obtain ⟨_, _, _, _, h⟩ := h; exact h
theorem RowS.other {L m : List Nat} {d o k c g : Nat} {W wr : World} (h : RowS L m d o k c g W wr) {b : Nat} (hb : b ≠ g) : wr.heap[b]? = W.heap[b]? := by obtain ⟨_, _, _, h, _⟩ := h; exact h b hb
theorem RowS.place {L m : List Nat} {d o k c g : Nat} {W wr : World} (h : RowS L m d o k c g W wr) {j : Nat} (hj : j < L.length) : ∃ z, z < 4294967296 ∧ wr.cell? ⟨g, j, none⟩ = some (.int .u32 (z : Nat)) ∧ wr.frozen? ⟨g, j, none⟩ = false ∧
    ∀ s, c < 4294967296 → o + m.length < L.length → k < m.length → j = o + k → Ow.Dg m → d < 4294967296 → s = c + (z + m[k]?.getD 0 * d) → s ≤ 18446744073709551615 ∧ RowS L m d o (k + 1) (s / 4294967296) g W (wr.setCell ⟨g, j, none⟩ (.int .u32 ((s % 4294967296 : Nat) : Int))) := by
  obtain ⟨cur, h1, h2, h3, h4⟩ := h
  refine ⟨cur[j]?.getD 0, Ow.dg_at h2.2.1 j, by rw [h1.cell, acells_at _ _ (by rw [h2.1]; exact hj)], h1.frozen j, fun s hc ho hk hj2 hm hd hs => ?_⟩
  subst hj2
  obtain ⟨a, b⟩ := h2.step hm hd ho hk hs
  refine ⟨a, _, by rw [← acells_set]; exact h1.set _ _, b, fun b hb => ?_, h4.setCell (Nat.le_refl _) _⟩
  rw [Below.heap_setCell _ _ _ _ hb]; exact h3 b hb

set_option maxRecDepth 100000 in
set_option maxHeartbeats 1000000 in
theorem withRow_any (L m : List Nat) (v : Value) (d o : Nat) (w : World) (hv : HasD w v m) (hL : Ow.Dg L) (hL2 : L.length = 128) (hd : d < 4294967296) (ho : o + m.length < 128) (hz : L[o + m.length]?.getD 0 = 0) :
    Calls Tryd.prog 91 #[.agg (acells L), v, .int .u32 d, .int .i64 o] w (RowOut L m d o w) := by
  obtain ⟨dv, b, cap, rfl, v1, v2, cv⟩ := hv
  obtain ⟨len, hlen⟩ : ∃ len, len = m.length := ⟨_, rfl⟩
  rw [← hlen] at v1 ho ⊢
  have HL := Lib.hid hlen
  have HDV := Lib.hid dv
  have HCV := Lib.hid cv
  have HLL := Lib.hid hL
  have HL2 := Lib.hid hL2
  have HZ := Lib.hid hz
  clear hlen dv cv hL hL2 hz
  go_enter Tryd.func91, Tryd.ntmps91
  go_wp2_with fail
  obtain ⟨W, hW⟩ : ∃ W, W = (w.alloc (.cells (acells L) 114)).alloc (.cells Tryd.zeroCells114 114) := ⟨_, rfl⟩
  rw [← hW]
  have hrow : Rt 114 W w.heap.size (acells L) := by
    have := Rt.new 114 w (acells L)
    rw [hW]
    show (_ : World).heap[_]? = _
    rw [show ((w.alloc (.cells (acells L) 114)).alloc (.cells Tryd.zeroCells114 114)).heap[w.heap.size]? = (w.alloc (.cells (acells L) 114)).heap[w.heap.size]? from heap_alloc_old _ _ (by simp)]
    exact this
  have hres : Rt 114 W (w.heap.size + 1) Tryd.zeroCells114 := by
    have := Rt.new 114 (w.alloc (.cells (acells L) 114)) Tryd.zeroCells114
    rw [World.size_alloc] at this
    rw [hW]; exact this
  have g1 : Gr w W := by rw [hW]; exact (Gr.new w _).alloc _
  clear hW
  have HROW := Lib.hid hrow
  have HRES := Lib.hid hres
  have HG := Lib.hid g1
  clear hrow hres g1
  go_loopw [9, 14] (fun t i wr => ∃ k c : Nat, t = .int .u64 (c : Nat) ∧ i = .int .i64 k ∧ k ≤ len ∧ c < 4294967296 ∧ RowS L m d o k c w.heap.size W wr) (fun _ i _ => len - (intOf i).toNat)
  case atStart => exact ⟨0, 0, rfl, rfl, by omega, by omega, L, HROW.out, Ow.RowI.start m d o HLL.out, fun _ _ => rfl, Below.refl _ _⟩
  case round =>
    obtain ⟨k, c, rfl, rfl, hk, hc, hrs⟩ := hrel
    have HS := Lib.hid hrs
    clear hrs
    by_cases hlt : k < len
    · obtain ⟨gb, ob, rfl, c2⟩ := HCV.out k (by rw [← HL.out]; exact hlt)
      have hgb : gb < w.heap.size := World.block_lt_of_cell? w _ c2
      have c2 := HG.out.keeps c2
      have c2 : wr.cell? ⟨gb, ob + k, none⟩ = _ := (HS.out.below.cell (p := ⟨gb, ob + k, none⟩) hgb).trans c2
      have hx := Ow.dg_at HDV.out k
      obtain ⟨z, hz, c1, f1, hst⟩ := HS.out.place (j := o + k) (by rw [HL2.out]; omega)
      obtain ⟨x, hxe⟩ : ∃ x, x = m[k]?.getD 0 := ⟨_, rfl⟩
      obtain ⟨s, hse⟩ : ∃ s, s = c + (z + x * d) := ⟨_, rfl⟩
      have hst := hst s hc (by rw [← HL.out, HL2.out]; exact ho) (by rw [← HL.out]; exact hlt) rfl HDV.out hd (by rw [hse, hxe])
      rw [← hxe] at c2 hx
      have hmul := Ow.mul_digit hx hd
      have hsb := hst.1
      have HST := Lib.hid hst.2
      have i5 : (k : Int) < (len : Int) := by omega
      have i6 : (0 : Int) ≤ (k : Int) := by omega
      have i7 : ((o : Int) + (k : Int)).toNat = o + k := by omega
      have i8 : (o : Int) + (k : Int) < 128 := by omega
      have i9 : (0 : Int) ≤ (o : Int) + (k : Int) := by omega
      have hsi : (c : Int) + ((z : Int) + (x : Int) * (d : Int)) = (s : Int) := by rw [hse, Int.natCast_add, Int.natCast_add, Int.natCast_mul]
      have p0 : (0 : Int) ≤ (x : Int) * (d : Int) := by rw [← Int.natCast_mul]; omega
      have p1 : (x : Int) * (d : Int) ≤ 18446744065119617025 := by rw [← Int.natCast_mul]; omega
      have E1 := Lib.hid (show ((s % 4294967296 : Nat) : Int) = (s : Int) % 4294967296 by omega)
      have E3 := Lib.hid (show ((s / 4294967296 : Nat) : Int) = (s : Int) / 4294967296 by omega)
      clear hxe hse hmul hst
      go_wp2_with fail
      go_roundw
      case rel => exact ⟨k + 1, s / 4294967296, by rw [E3.out], by go_num, by omega, by omega, by have h := HST.out; rw [E1.out] at h; exact h⟩
      case measure => simp [intOf]; omega
    · obtain rfl : k = len := by omega
      obtain ⟨cur, h1, h2, h3, h4⟩ := HS.out
      obtain ⟨q1, q2, q3, q4⟩ := Ow.RowI.last (L := L) (m := m) (d := d) (o := o) (c := c) (by rw [← HL.out]; exact h2) (by rw [← HL.out, HL2.out]; exact ho) HZ.out
      rw [← HL.out] at q1 q2 q3 q4
      have c1 : wr.cell? ⟨w.heap.size, o + k, none⟩ = some (.int .u32 ((cur[o + k]?.getD 0 : Nat) : Int)) := by rw [h1.cell, acells_at _ _ (by rw [h2.1, HL2.out]; exact ho)]
      have f1 : wr.frozen? ⟨w.heap.size, o + k, none⟩ = false := h1.frozen _
      have i7 : ((o : Int) + (k : Int)).toNat = o + k := by omega
      have i8 : (o : Int) + (k : Int) < 128 := by omega
      have i9 : (0 : Int) ≤ (o : Int) + (k : Int) := by omega
      have e1 : (c : Int) % 4294967296 = (c : Int) := by omega
      generalize cur[o + k]?.getD 0 = z at c1
      have hr2 : Rt 114 (wr.setCell ⟨w.heap.size, o + k, none⟩ (.int .u32 (c : Nat))) w.heap.size (acells (cur.set (o + k) c)) := by rw [← acells_set]; exact h1.set _ _
      obtain ⟨L', hL'⟩ : ∃ L', L' = cur.set (o + k) c := ⟨_, rfl⟩
      rw [← hL'] at hr2 q1 q2 q3 q4
      have hs8 : (acells L').size = 128 := by rw [acells_size, q1]; exact HL2.out
      have hr3 : Rt 114 (wr.setCell ⟨w.heap.size, o + k, none⟩ (.int .u32 (c : Nat))) (w.heap.size + 1) Tryd.zeroCells114 := by
        show (_ : World).heap[_]? = _
        rw [Below.heap_setCell _ _ _ _ (by simp), h3 _ (by omega)]
        exact HRES.out
      have hr2' := hr2
      have hr3' := hr3
      have HQ := Lib.hid (And.intro q1 (And.intro q2 (And.intro q3 q4)))
      have HB4 := Lib.hid (And.intro h3 h4)
      have HLL2 := Lib.hid hL'
      have HR2 := Lib.hid hr2
      have HR3 := Lib.hid hr3
      have HS8 := Lib.hid hs8
      have HGG := Lib.hid (show Gr w (wr.setCell ⟨w.heap.size, o + k, none⟩ (.int .u32 (c : Nat))) from Below.trans HG.out ((HB4.out.2.setCell (Nat.le_refl _) _)))
      clear q1 q2 q3 q4 h1 h2 h3 h4 hr2 hr3 hs8 hL' hr2' hr3'
      have hso : Sem.run Tryd.prog (storeCells ⟨w.heap.size + 1, 0, none⟩ (acells L').toList) (wr.setCell ⟨w.heap.size, o + k, none⟩ (.int .u32 (c : Nat))) = .ok () ((wr.setCell ⟨w.heap.size, o + k, none⟩ (.int .u32 (c : Nat))).setRow (w.heap.size + 1) (acells L')) := by
        have h := run_storeCells_from (P := Tryd.prog) (w.heap.size + 1) 114 (acells L').toList 0 _ _ HR3.out (by rw [Nat.zero_add, Array.length_toList, HS8.out]; exact Tryd.zeroCells114_size.symm) (fun v hv => (Array.all_eq_true_iff_forall_mem.1 (acells_one L')) v (by simpa using hv))
        rw [h]; simp
      go_wp2_with fail
      refine wp_load_row 114 (.tmp 4) rfl w.heap.size (by simp [Act.eval]) _ (acells L') _ _ HR2.out Tryd.underlying114 rfl (by rw [HS8.out]; exact infoCols) ?_
      go_wp2_with fail
      have hr5 : Rt 114 ((wr.setCell ⟨w.heap.size, o + k, none⟩ (.int .u32 (c : Nat))).setRow (w.heap.size + 1) (acells L')) (w.heap.size + 1) (acells L') := setRow_heap _ _ _ _ _ _ HR3.out
      have hlr := run_loadVar_row (P := Tryd.prog) _ _ _ 114 _ _ _ hr5 Tryd.underlying114 rfl (by rw [HS8.out]; exact infoCols)
      refine bodyPost_ret (v := .agg (acells L')) (by simp [results, Tryd.results91, asAddr, hlr]) rfl ?_
      exact ⟨L', rfl, HQ.out.1, HQ.out.2.1, by rw [← HL.out]; exact HQ.out.2.2.1, HQ.out.2.2.2, below_setRow HGG.out (by omega) _⟩
end Go.Proofs.YtgalgldnhdiggaaDoor
