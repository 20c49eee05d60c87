/- Integers: what stands for one; negative. -/
import Derived.Test.YtgalgldnhdiggaaDoorDown
import Derived.Deep.RegionHeld3
namespace Ow
set_option linter.unusedVariables false
theorem tr_pos {l : List Nat} (h : Dg l) : 0 < (tr l).length ↔ 0 < val l := by
  constructor
  · intro h1
    have := val_ge (tr l) (tr_tr l) (by intro e; rw [e] at h1; simp at h1)
    rw [val_tr] at this
    exact Nat.lt_of_lt_of_le (Nat.pow_pos (by omega)) this
  · intro h1
    rcases Nat.eq_zero_or_pos (tr l).length with h2 | h2
    · have := List.length_eq_zero_iff.1 h2
      rw [← val_tr, this] at h1; simp [val] at h1
    · exact h2
theorem nm_len {l : List Nat} (h : Nm l) {N : Nat} (hv : val l < 4294967296 ^ N) : l.length ≤ N := by
  rcases Nat.eq_zero_or_pos l.length with h0 | h0
  · omega
  · have := val_ge l h.2 (by intro e; rw [e] at h0; simp at h0)
    have := (Nat.pow_lt_pow_iff_right (by omega : 1 < 4294967296)).1 (Nat.lt_of_le_of_lt this hv)
    omega
end Ow
namespace Go.Proofs.YtgalgldnhdiggaaDoor
open Go.RowKit
set_option linter.unusedVariables false

/-- A value stands for an integer of at most N digits. -/
def HasI (N : Nat) (W : World) (v : Value) (z : Int) : Prop := ∃ s l, v = .agg #[.bool (decide (z < 0)), s] ∧ HasD W s l ∧ Ow.Nm l ∧ Ow.val l = z.natAbs ∧ l.length ≤ N
theorem HasI.later {N : Nat} {W W' : World} {v : Value} {z : Int} (h : HasI N W v z) (hg : Gr W W') : HasI N W' v z := by
  obtain ⟨s, l, h1, h2, h3⟩ := h
  exact ⟨s, l, h1, h2.later hg, h3⟩
theorem HasI.wider {N M : Nat} {W : World} {v : Value} {z : Int} (h : HasI N W v z) (hm : N ≤ M) : HasI M W v z := by
  obtain ⟨s, l, h1, h2, h3, h4, h5⟩ := h
  exact ⟨s, l, h1, h2, h3, h4, by omega⟩
def IntZ (N : Nat) (z : Int) (w : World) (e : Ending) (w' : World) : Prop := ∃ v, e = .returned v ∧ HasI N w' v z ∧ Gr w w'
theorem Gr.frozen {a b : World} (h : Gr a b) {p : Addr} {v : Value} (hv : a.cell? p = some v) (hf : a.frozen? p = false) : b.frozen? p = false :=
  (World.frozen?_of_block (w := a) (h.block p.block (World.block_lt_of_cell? a p hv))).trans hf
theorem HasD.setAt {W : World} {v : Value} {l : List Nat} {p : Addr} {u0 : Value} (h : HasD W v l) (hc : W.cell? p = some u0) (hu : ∀ n, u0 ≠ .int .u32 n) (u : Value) : HasD (W.setCell p u) v l := by
  obtain ⟨hd, a, cap, rfl, h1, h2, h3⟩ := h
  refine ⟨hd, a, cap, rfl, h1, h2, fun i hi => ?_⟩
  obtain ⟨b, o, e, hc2⟩ := h3 i hi
  refine ⟨b, o, e, ?_⟩
  rw [World.cell?_setCell_other W p ⟨b, o + i, none⟩ u (fun e => by rw [e, hc2] at hc; exact hu _ (Option.some.inj hc).symm)]
  exact hc2
/-- An integer is stored as a call's answer. -/
theorem intz_stored {N : Nat} {z z' : Int} {w w' : World} {B : Nat} {neg : Bool} {s u0 u1 : Value} {l : List Nat} (hz : z' = z) (hneg : neg = decide (z' < 0)) (hs : HasD w' s l) (hn : Ow.Nm l) (hv : Ow.val l = z'.natAbs) (hl : l.length ≤ N) (hG : Gr w w') (hB : w.heap.size ≤ B)
    (j0 : w'.cell? ⟨B, 0, none⟩ = some u0) (j1 : w'.cell? ⟨B, 1, none⟩ = some u1) (h0 : ∀ n, u0 ≠ .int .u32 n) (h1 : ∀ n, u1 ≠ .int .u32 n) :
    IntZ N z w (.returned (.agg #[.bool neg, s])) ((w'.setCell ⟨B, 0, none⟩ (.bool neg)).setCell ⟨B, 1, none⟩ s) := by
  subst hz hneg
  refine ⟨_, rfl, ⟨s, l, rfl, ?_, hn, hv, hl⟩, (hG.setCell (p := ⟨B, 0, none⟩) hB _).setCell (p := ⟨B, 1, none⟩) hB _⟩
  exact (hs.setAt j0 h0 _).setAt ((World.cell?_setCell_other w' ⟨B, 0, none⟩ ⟨B, 1, none⟩ _ (by simp)).trans j1) h1 _
/-- What a sign and digits stand for. -/
def sg (neg : Bool) (n : Nat) : Int := if neg then -(n : Int) else n
theorem sg_neg (neg : Bool) (n : Nat) : decide (sg neg n < 0) = (neg && decide (0 < n)) := by
  unfold sg; cases neg
  · simp
  · simp [Int.natCast_pos]
theorem sg_abs (neg : Bool) (n : Nat) : (sg neg n).natAbs = n := by unfold sg; cases neg <;> simp
theorem sg_self (z : Int) : sg (decide (z < 0)) z.natAbs = z := by
  unfold sg
  by_cases h : z < 0
  · simp [h]; try omega
  · simp [h]; try omega
theorem sg_not (z : Int) : sg (!decide (z < 0)) z.natAbs = -z := by
  unfold sg
  by_cases h : z < 0
  · simp [h]; omega
  · simp [h]; omega

theorem signs1_int (neg : Bool) (l : List Nat) (v : Value) (B N : Nat) (w : World) (h : HasD w v l) (hB : w.cell? ⟨B, 0, none⟩ = some (.bool neg)) (hN : (Ow.tr l).length ≤ N) :
    Calls Tryd.prog 62 #[v, .pointer (some ⟨B, 0, none⟩)] w (IntZ N (sg neg (Ow.val l)) w) := by
  refine (signs1_any neg l v B w h hB).mono ?_
  rintro e w' ⟨s, rfl, h1, h2⟩
  refine ⟨_, rfl, ⟨s, Ow.tr l, ?_, h1, Ow.nm_tr h.1, by rw [Ow.val_tr, sg_abs], hN⟩, h2⟩
  have hp := Ow.tr_pos h.1
  rw [sg_neg, show decide (0 < (Ow.tr l).length) = decide (0 < Ow.val l) from by simp [hp]]

set_option maxRecDepth 100000 in
set_option maxHeartbeats 1000000 in
theorem negative_any (N : Nat) (z : Int) (v : Value) (w : World) (h : HasI N w v z) :
    Calls Tryd.prog 50 #[v] w (IntZ N (-z) w) := by
  obtain ⟨s, l, rfl, hd, hn, hval, hN⟩ := h
  have HD := Lib.hid hd
  have HN := Lib.hid hn
  have HV := Lib.hid hval
  have HNN := Lib.hid (show (Ow.tr l).length ≤ N by rw [hn.2]; exact hN)
  clear hd hn hval hN
  obtain ⟨neg, hneg⟩ : ∃ neg, neg = decide (z < 0) := ⟨_, rfl⟩
  rw [← hneg]
  have HNEG := Lib.hid hneg
  clear hneg
  go_enter Tryd.func50, Tryd.ntmps50
  go_wp2_with fail
  obtain ⟨W, hW⟩ : ∃ W, W = (w.alloc (.cells #[.bool neg, s] 56)).alloc (.cells #[.bool false, .slice none 0 0] 56) := ⟨_, rfl⟩
  rw [← hW]
  have g1 : Gr w W := by rw [hW]; exact (Gr.new w _).alloc _
  have c0 : W.cell? ⟨w.heap.size, 0, none⟩ = some (.bool neg) := by rw [hW]; simp [go_sem]
  have c1 : W.cell? ⟨w.heap.size, 1, none⟩ = some s := by rw [hW]; simp [go_sem]
  have r0 : W.cell? ⟨w.heap.size + 1, 0, none⟩ = some (.bool false) := by rw [hW]; simp [go_sem]
  have r1 : W.cell? ⟨w.heap.size + 1, 1, none⟩ = some (.slice none 0 0) := by rw [hW]; simp [go_sem]
  have e0 : W.frozen? ⟨w.heap.size + 1, 0, none⟩ = false := by rw [hW]; simp [go_sem]
  have e1 : W.frozen? ⟨w.heap.size + 1, 1, none⟩ = false := by rw [hW]; simp [go_sem]
  clear hW
  have HG := Lib.hid g1
  clear g1
  go_region_held3 (fun w' => w'.cell? ⟨w.heap.size, 0, none⟩ = some (.bool neg) ∧ w'.cell? ⟨w.heap.size, 1, none⟩ = some s) (go_keep)
    (first
      | (go_at_call 34; refine (signs_any _ _).mono ?_; rintro e w' ⟨rfl, rfl⟩)
      | (go_at_call 62; have gA : Gr W (W.alloc (.cells #[.bool !neg] 4)).drew := Below.drew (Gr.new W _); refine (signs1_int (!neg) l s W.heap.size N _ (HD.out.later (HG.out.trans gA)) (by simp [go_sem]) HNN.out).mono ?_; rintro e w' ⟨v, rfl, ⟨s', l', rfl, hs, hnl, hvl, hln⟩, hG⟩; have k0 := (gA.trans hG).keeps c0; have k1 := (gA.trans hG).keeps c1; have j0 := (gA.trans hG).keeps r0; have j1 := (gA.trans hG).keeps r1; have f0 := (gA.trans hG).frozen r0 e0; have f1 := (gA.trans hG).frozen r1 e1; have HGG := Lib.hid (gA.trans hG); have hs2 := hs; obtain ⟨-, a', cap', rfl, -, -, -⟩ := hs2; have HS := Lib.hid hs; have HE := Lib.hid (And.intro hnl (And.intro hvl hln)); clear hs hnl hvl hln hG gA))
  go_wp2_with fail
  refine bodyPost_ret (v := .agg #[.bool (decide (sg (!neg) (Ow.val l) < 0)), .slice a' l'.length cap']) (by simp [results, Tryd.results50, go_sem, j0, j1]) rfl ?_
  exact intz_stored (by rw [HNEG.out, HV.out]; exact sg_not z) rfl HS.out HE.out.1 HE.out.2.1 HE.out.2.2 (HG.out.trans HGG.out) (by omega) j0 j1 (by simp) (by simp)
end Go.Proofs.YtgalgldnhdiggaaDoor
