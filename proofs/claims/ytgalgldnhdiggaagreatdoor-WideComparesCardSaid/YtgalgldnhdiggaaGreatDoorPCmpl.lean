/- The law WideCompares. -/
import Derived.Test.YtgalgldnhdiggaaGreatDoorPQk
import Derived.Test.YtgalgldnhdiggaaGreatDoorPGk
import Derived.Test.YtgalgldnhdiggaaGreatDoorPDivr
namespace Go.Proofs.YtgalgldnhdiggaaGreatDoor
open Go.RowKit
set_option linter.unusedVariables false

theorem bits_both (neg : Bool) (s : ByteArray) (hs : s.size ≤ 9223372036854775807) :
    ∃ p : Int × Int, (∀ W, Calls Tryz.prog 7 #[.agg #[.bool neg, .string s]] W (Pair p W)) ∧ (∀ W, Calls Tryz.prog 8 #[.agg #[.bool neg, .string s]] W (Pair p W)) := by
  by_cases h : Form neg s
  · obtain ⟨k, hk⟩ := bitLen_ex (zOf neg s).natAbs _ Nat.lt_two_pow_self
    exact ⟨_, fun W => bits_ok neg s k W h hk, fun W => rBits_ok neg s k W h hk⟩
  · exact ⟨_, fun W => bits_bad neg s W hs h, fun W => rBits_bad neg s W hs h⟩
theorem cmp_both (neg : Bool) (s : ByteArray) (neg' : Bool) (s' : ByteArray) (hs : s.size ≤ 9223372036854775807) (hs' : s'.size ≤ 9223372036854775807) :
    ∃ p : Int × Int, (∀ W, Calls Tryz.prog 9 #[.agg #[.bool neg, .string s], .agg #[.bool neg', .string s']] W (Pair p W)) ∧ (∀ W, Calls Tryz.prog 10 #[.agg #[.bool neg, .string s], .agg #[.bool neg', .string s']] W (Pair p W)) := by
  by_cases h : Form neg s ∧ Form neg' s'
  · exact ⟨_, fun W => cmp_ok neg s neg' s' W h.1 h.2, fun W => rcmp_ok neg s neg' s' W h.1 h.2⟩
  · exact ⟨_, fun W => cmp_bad neg s neg' s' W hs hs' h, fun W => rcmp_bad neg s neg' s' W hs hs' h⟩
theorem neg_both (neg : Bool) (s : ByteArray) (hs : s.size ≤ 9223372036854775807) :
    ∃ (A : Bool) (S : ByteArray) (C : Int), (∀ W, Calls Tryz.prog 11 #[.agg #[.bool neg, .string s]] W (Res A S C W)) ∧ (∀ W, Calls Tryz.prog 12 #[.agg #[.bool neg, .string s]] W (Res A S C W)) := by
  by_cases h : Form neg s
  · exact ⟨_, _, _, fun W => neg_ok neg s W h, fun W => rneg_ok neg s W h⟩
  · exact ⟨_, _, _, fun W => neg_bad neg s W hs h, fun W => rneg_bad neg s W hs h⟩
theorem abs_both (neg : Bool) (s : ByteArray) (hs : s.size ≤ 9223372036854775807) :
    ∃ (A : Bool) (S : ByteArray) (C : Int), (∀ W, Calls Tryz.prog 13 #[.agg #[.bool neg, .string s]] W (Res A S C W)) ∧ (∀ W, Calls Tryz.prog 14 #[.agg #[.bool neg, .string s]] W (Res A S C W)) := by
  by_cases h : Form neg s
  · refine ⟨false, s, 0, fun W => ?_, fun W => rabs_ok neg s W h⟩
    have h1 := abs_ok neg s W h
    have hr : (((zOf neg s).natAbs : Nat) : Int).natAbs < Ow.R := by rw [Int.natAbs_natCast]; exact form_range h
    rw [fNeg_in hr, fStr_in hr, fErr_in hr, Int.natAbs_natCast, ← form_str h, decide_eq_false (by omega)] at h1
    exact h1
  · exact ⟨_, _, _, fun W => abs_bad neg s W hs h, fun W => rabs_bad neg s W hs h⟩
theorem max_both (neg : Bool) (s : ByteArray) (neg' : Bool) (s' : ByteArray) (hs : s.size ≤ 9223372036854775807) (hs' : s'.size ≤ 9223372036854775807) :
    ∃ (A : Bool) (S : ByteArray) (C : Int), (∀ W, Calls Tryz.prog 15 #[.agg #[.bool neg, .string s], .agg #[.bool neg', .string s']] W (Res A S C W)) ∧ (∀ W, Calls Tryz.prog 16 #[.agg #[.bool neg, .string s], .agg #[.bool neg', .string s']] W (Res A S C W)) := by
  by_cases h : Form neg s ∧ Form neg' s'
  · refine ⟨_, _, _, fun W => ?_, fun W => rmax_ok neg s neg' s' W h.1 h.2⟩
    have h1 := max_ok neg s neg' s' W h.1 h.2
    by_cases hs : sgn (zOf neg s) (zOf neg' s') < 0
    · rw [if_pos hs, fNeg_in (form_range h.2), fStr_in (form_range h.2), fErr_in (form_range h.2), ← form_neg h.2, ← form_str h.2] at h1
      rw [if_pos hs, if_pos hs]
      exact h1
    · rw [if_neg hs, fNeg_in (form_range h.1), fStr_in (form_range h.1), fErr_in (form_range h.1), ← form_neg h.1, ← form_str h.1] at h1
      rw [if_neg hs, if_neg hs]
      exact h1
  · exact ⟨_, _, _, fun W => max_bad neg s neg' s' W hs hs' h, fun W => rmax_bad neg s neg' s' W hs hs' h⟩

set_option maxRecDepth 100000 in
set_option maxHeartbeats 4000000 in
theorem compares_all (hdiv : DivOK) (nx : Bool) (x : ByteArray) (ny : Bool) (y : ByteArray) (w : World) (htab : Tab w) (hx : x.size ≤ 9223372036854775807) (hy : y.size ≤ 9223372036854775807) :
    Calls Tryz.prog 3 #[.agg #[.bool nx, .string x], .agg #[.bool ny, .string y]] w (Truth w) := by
  have HT := Lib.hid htab
  have HDIV := Lib.hid hdiv
  obtain ⟨pB, hB1, hB2⟩ := bits_both nx x hx
  obtain ⟨pC, hC1, hC2⟩ := cmp_both nx x ny y hx hy
  obtain ⟨bN, sN, cN, hN1, hN2⟩ := neg_both nx x hx
  obtain ⟨bA, sA, cA, hA1, hA2⟩ := abs_both nx x hx
  obtain ⟨bM, sM, cM, hM1, hM2⟩ := max_both nx x ny y hx hy
  have HB1 := Lib.hid hB1
  have HB2 := Lib.hid hB2
  have HC1 := Lib.hid hC1
  have HC2 := Lib.hid hC2
  have HN1 := Lib.hid hN1
  have HN2 := Lib.hid hN2
  have HA1 := Lib.hid hA1
  have HA2 := Lib.hid hA2
  have HM1 := Lib.hid hM1
  have HM2 := Lib.hid hM2
  clear htab hdiv hB1 hB2 hC1 hC2 hN1 hN2 hA1 hA2 hM1 hM2
  go_enter Tryz.func3, Tryz.ntmps3
  go_wp2_with fail
  refine (great_any _ 2 2 [x, y] _ rfl (by simp) (by intro s hs; simp only [List.mem_cons, List.not_mem_nil, or_false] at hs; rcases hs with rfl | rfl <;> assumption) (sizes_2 _ _ _ _ _ _ _ _)).mono ?_
  rintro e w1 ⟨rfl, rfl⟩
  obtain ⟨W, hW⟩ : ∃ W : World, W = (((w.alloc (.cells #[.bool nx, .string x] 23)).alloc (.cells #[.bool ny, .string y] 23)).alloc (.cells #[.bool nx, .string x, .bool ny, .string y] 23)) := ⟨_, rfl⟩
  rw [← hW]
  have g1 : Gr w W := by rw [hW]; exact ((((Gr.refl _).alloc _).alloc _).alloc _)
  have x0 : W.cell? ⟨w.heap.size, 0, none⟩ = some (.bool nx) := by rw [hW]; simp [go_sem]
  have x1 : W.cell? ⟨w.heap.size, 1, none⟩ = some (.string x) := by rw [hW]; simp [go_sem]
  have y0 : W.cell? ⟨w.heap.size + 1, 0, none⟩ = some (.bool ny) := by rw [hW]; simp [go_sem]
  have y1 : W.cell? ⟨w.heap.size + 1, 1, none⟩ = some (.string y) := by rw [hW]; simp [go_sem]
  have z0 : W.cell? ⟨w.heap.size + 1 + 1, 0, none⟩ = some (.bool nx) := by rw [hW]; simp [go_sem]
  have z1 : W.cell? ⟨w.heap.size + 1 + 1, 1, none⟩ = some (.string x) := by rw [hW]; simp [go_sem]
  have z2 : W.cell? ⟨w.heap.size + 1 + 1, 2, none⟩ = some (.bool ny) := by rw [hW]; simp [go_sem]
  have z3 : W.cell? ⟨w.heap.size + 1 + 1, 3, none⟩ = some (.string y) := by rw [hW]; simp [go_sem]
  have hsz : W.heap.size = w.heap.size + 1 + 1 + 1 := by rw [hW]; simp
  have HG := Lib.hid g1
  have HSZ := Lib.hid hsz
  clear hW g1 hsz
  have HBS := Lib.hid (show w.heap.size ≤ w.heap.size from Nat.le_refl _)
  obtain ⟨gr, hgr⟩ : ∃ b, b = isGreat [x, y] := ⟨_, rfl⟩
  rw [← hgr]
  clear hgr z0 z1 z2 z3
  cases gr with
  | true =>
    go_wp2_with fail
    refine (shown_of HDIV.out _ (HT.out.later HG.out)).mono ?_
    rintro e w2 ⟨rfl, g⟩
    have HG := Lib.hid (HG.out.trans g)
    clear g
    go_wp2_with fail
    go_ret
    exact ⟨rfl, HG.out⟩
  | false =>
    have nxy : ¬ (w.heap.size = w.heap.size + 1) := by omega
    have nyx : ¬ (w.heap.size + 1 = w.heap.size) := by omega
    go_wp2_with fail
    refine (HB1.out _).mono ?_
    rintro e w11 ⟨rfl, g⟩
    have x0 := g.keeps x0
    have x1 := g.keeps x1
    have y0 := g.keeps y0
    have y1 := g.keeps y1
    have HG := Lib.hid (HG.out.trans g)
    clear g
    go_wp2_with fail
    refine (HB2.out _).mono ?_
    rintro e w12 ⟨rfl, g⟩
    have x0 := g.keeps x0
    have x1 := g.keeps x1
    have y0 := g.keeps y0
    have y1 := g.keeps y1
    have HG := Lib.hid (HG.out.trans g)
    clear g
    go_wp2_with fail
    refine (HC1.out _).mono ?_
    rintro e w13 ⟨rfl, g⟩
    have x0 := g.keeps x0
    have x1 := g.keeps x1
    have y0 := g.keeps y0
    have y1 := g.keeps y1
    have HG := Lib.hid (HG.out.trans g)
    clear g
    go_wp2_with fail
    refine (HC2.out _).mono ?_
    rintro e w14 ⟨rfl, g⟩
    have x0 := g.keeps x0
    have x1 := g.keeps x1
    have y0 := g.keeps y0
    have y1 := g.keeps y1
    have HG := Lib.hid (HG.out.trans g)
    clear g
    go_wp2_with fail
    refine (HN1.out _).mono ?_
    rintro e w2 ⟨rfl, g⟩
    have x0 := g.keeps x0
    have x1 := g.keeps x1
    have y0 := g.keeps y0
    have y1 := g.keeps y1
    have HG := Lib.hid (HG.out.trans g)
    clear g
    have x0w2 := (Gr.new w2 (.cells #[.bool bN, .string sN] 23)).keeps x0
    have x1w2 := (Gr.new w2 (.cells #[.bool bN, .string sN] 23)).keeps x1
    have y0w2 := (Gr.new w2 (.cells #[.bool bN, .string sN] 23)).keeps y0
    have y1w2 := (Gr.new w2 (.cells #[.bool bN, .string sN] 23)).keeps y1
    have ne0w2 : ¬ (w.heap.size = w2.heap.size) := ne_of_cell x0
    have ne0w2s : ¬ (w2.heap.size = w.heap.size) := fun e => ne0w2 e.symm
    have ne1w2 : ¬ (w.heap.size + 1 = w2.heap.size) := ne_of_cell y0
    have ne1w2s : ¬ (w2.heap.size = w.heap.size + 1) := fun e => ne1w2 e.symm
    go_wp2_with fail
    have szw2 : w.heap.size ≤ w2.heap.size := HG.out.size
    obtain ⟨V1, hV1⟩ : ∃ V : World, V = w2.alloc (.cells #[.bool bN, .string sN] 23) := ⟨_, rfl⟩
    have g : Gr w2 V1 := by rw [hV1]; exact Gr.new _ _
    have x0 := g.keeps x0
    have x1 := g.keeps x1
    have y0 := g.keeps y0
    have y1 := g.keeps y1
    have HG := Lib.hid (HG.out.trans g)
    clear g
    have a0 : V1.cell? ⟨w2.heap.size, 0, none⟩ = some (.bool bN) := by rw [hV1]; simp [go_sem]
    have fa0 : V1.frozen? ⟨w2.heap.size, 0, none⟩ = false := by rw [hV1]; simp [go_sem]
    have a1 : V1.cell? ⟨w2.heap.size, 1, none⟩ = some (.string sN) := by rw [hV1]; simp [go_sem]
    have fa1 : V1.frozen? ⟨w2.heap.size, 1, none⟩ = false := by rw [hV1]; simp [go_sem]
    rw [← hV1]
    clear hV1
    refine (HN2.out _).mono ?_
    rintro e w3 ⟨rfl, g⟩
    have fa0 := g.frozen a0 fa0
    have fa1 := g.frozen a1 fa1
    have x0 := g.keeps x0
    have x1 := g.keeps x1
    have y0 := g.keeps y0
    have y1 := g.keeps y1
    have a0 := g.keeps a0
    have a1 := g.keeps a1
    have HG := Lib.hid (HG.out.trans g)
    clear g
    have x0w3 := (Gr.new w3 (.cells #[.bool bN, .string sN] 23)).keeps x0
    have x1w3 := (Gr.new w3 (.cells #[.bool bN, .string sN] 23)).keeps x1
    have y0w3 := (Gr.new w3 (.cells #[.bool bN, .string sN] 23)).keeps y0
    have y1w3 := (Gr.new w3 (.cells #[.bool bN, .string sN] 23)).keeps y1
    have a0w3 := (Gr.new w3 (.cells #[.bool bN, .string sN] 23)).keeps a0
    have a1w3 := (Gr.new w3 (.cells #[.bool bN, .string sN] 23)).keeps a1
    have ne0w3 : ¬ (w.heap.size = w3.heap.size) := ne_of_cell x0
    have ne0w3s : ¬ (w3.heap.size = w.heap.size) := fun e => ne0w3 e.symm
    have ne1w3 : ¬ (w.heap.size + 1 = w3.heap.size) := ne_of_cell y0
    have ne1w3s : ¬ (w3.heap.size = w.heap.size + 1) := fun e => ne1w3 e.symm
    have ne2w3 : ¬ (w2.heap.size = w3.heap.size) := ne_of_cell a0
    have ne2w3s : ¬ (w3.heap.size = w2.heap.size) := fun e => ne2w3 e.symm
    go_wp2_with fail
    have szw3 : w.heap.size ≤ w3.heap.size := HG.out.size
    obtain ⟨V2, hV2⟩ : ∃ V : World, V = w3.alloc (.cells #[.bool bN, .string sN] 23) := ⟨_, rfl⟩
    have g : Gr w3 V2 := by rw [hV2]; exact Gr.new _ _
    have fa0 := g.frozen a0 fa0
    have fa1 := g.frozen a1 fa1
    have x0 := g.keeps x0
    have x1 := g.keeps x1
    have y0 := g.keeps y0
    have y1 := g.keeps y1
    have a0 := g.keeps a0
    have a1 := g.keeps a1
    have HG := Lib.hid (HG.out.trans g)
    clear g
    have b0 : V2.cell? ⟨w3.heap.size, 0, none⟩ = some (.bool bN) := by rw [hV2]; simp [go_sem]
    have fb0 : V2.frozen? ⟨w3.heap.size, 0, none⟩ = false := by rw [hV2]; simp [go_sem]
    have b1 : V2.cell? ⟨w3.heap.size, 1, none⟩ = some (.string sN) := by rw [hV2]; simp [go_sem]
    have fb1 : V2.frozen? ⟨w3.heap.size, 1, none⟩ = false := by rw [hV2]; simp [go_sem]
    rw [← hV2]
    clear hV2
    refine (HA1.out _).mono ?_
    rintro e w4 ⟨rfl, g⟩
    have fa0 := g.frozen a0 fa0
    have fa1 := g.frozen a1 fa1
    have fb0 := g.frozen b0 fb0
    have fb1 := g.frozen b1 fb1
    have x0 := g.keeps x0
    have x1 := g.keeps x1
    have y0 := g.keeps y0
    have y1 := g.keeps y1
    have a0 := g.keeps a0
    have a1 := g.keeps a1
    have b0 := g.keeps b0
    have b1 := g.keeps b1
    have HG := Lib.hid (HG.out.trans g)
    clear g
    go_wp2_with fail
    obtain ⟨V3, hV3⟩ : ∃ V : World, V = (w4.setCell ⟨w2.heap.size, 0, none⟩ (.bool bA)).setCell ⟨w2.heap.size, 1, none⟩ (.string sA) := ⟨_, rfl⟩
    have kx0 : V3.cell? ⟨w.heap.size, 0, none⟩ = some (.bool nx) := by rw [hV3]; exact keep2 x0 (by assumption)
    have kx1 : V3.cell? ⟨w.heap.size, 1, none⟩ = some (.string x) := by rw [hV3]; exact keep2 x1 (by assumption)
    have ky0 : V3.cell? ⟨w.heap.size + 1, 0, none⟩ = some (.bool ny) := by rw [hV3]; exact keep2 y0 (by assumption)
    have ky1 : V3.cell? ⟨w.heap.size + 1, 1, none⟩ = some (.string y) := by rw [hV3]; exact keep2 y1 (by assumption)
    have ka0 : V3.cell? ⟨w2.heap.size, 0, none⟩ = some (.bool bA) := by rw [hV3]; exact (put2 a0 a1 _ _).1
    have ka1 : V3.cell? ⟨w2.heap.size, 1, none⟩ = some (.string sA) := by rw [hV3]; exact (put2 a0 a1 _ _).2
    have kb0 : V3.cell? ⟨w3.heap.size, 0, none⟩ = some (.bool bN) := by rw [hV3]; exact keep2 b0 (by assumption)
    have kb1 : V3.cell? ⟨w3.heap.size, 1, none⟩ = some (.string sN) := by rw [hV3]; exact keep2 b1 (by assumption)
    have kfa0 : V3.frozen? ⟨w2.heap.size, 0, none⟩ = false := by rw [hV3]; simp only [frozen_set]; exact fa0
    have kfa1 : V3.frozen? ⟨w2.heap.size, 1, none⟩ = false := by rw [hV3]; simp only [frozen_set]; exact fa1
    have kfb0 : V3.frozen? ⟨w3.heap.size, 0, none⟩ = false := by rw [hV3]; simp only [frozen_set]; exact fb0
    have kfb1 : V3.frozen? ⟨w3.heap.size, 1, none⟩ = false := by rw [hV3]; simp only [frozen_set]; exact fb1
    have HG := Lib.hid (show Gr w V3 by rw [hV3]; exact HG.out.put2 (by omega) _ _)
    rw [← hV3]
    clear hV3 x0 x1 y0 y1 a0 a1 b0 b1 fa0 fa1 fb0 fb1
    have x0 := kx0
    have x1 := kx1
    have y0 := ky0
    have y1 := ky1
    have a0 := ka0
    have fa0 := kfa0
    have a1 := ka1
    have fa1 := kfa1
    have b0 := kb0
    have fb0 := kfb0
    have b1 := kb1
    have fb1 := kfb1
    clear kx0 kx1 ky0 ky1 ka0 ka1 kb0 kb1 kfa0 kfa1 kfb0 kfb1
    refine (HA2.out _).mono ?_
    rintro e w5 ⟨rfl, g⟩
    have fa0 := g.frozen a0 fa0
    have fa1 := g.frozen a1 fa1
    have fb0 := g.frozen b0 fb0
    have fb1 := g.frozen b1 fb1
    have x0 := g.keeps x0
    have x1 := g.keeps x1
    have y0 := g.keeps y0
    have y1 := g.keeps y1
    have a0 := g.keeps a0
    have a1 := g.keeps a1
    have b0 := g.keeps b0
    have b1 := g.keeps b1
    have HG := Lib.hid (HG.out.trans g)
    clear g
    go_wp2_with fail
    obtain ⟨V4, hV4⟩ : ∃ V : World, V = (w5.setCell ⟨w3.heap.size, 0, none⟩ (.bool bA)).setCell ⟨w3.heap.size, 1, none⟩ (.string sA) := ⟨_, rfl⟩
    have kx0 : V4.cell? ⟨w.heap.size, 0, none⟩ = some (.bool nx) := by rw [hV4]; exact keep2 x0 (by assumption)
    have kx1 : V4.cell? ⟨w.heap.size, 1, none⟩ = some (.string x) := by rw [hV4]; exact keep2 x1 (by assumption)
    have ky0 : V4.cell? ⟨w.heap.size + 1, 0, none⟩ = some (.bool ny) := by rw [hV4]; exact keep2 y0 (by assumption)
    have ky1 : V4.cell? ⟨w.heap.size + 1, 1, none⟩ = some (.string y) := by rw [hV4]; exact keep2 y1 (by assumption)
    have ka0 : V4.cell? ⟨w2.heap.size, 0, none⟩ = some (.bool bA) := by rw [hV4]; exact keep2 a0 (by assumption)
    have ka1 : V4.cell? ⟨w2.heap.size, 1, none⟩ = some (.string sA) := by rw [hV4]; exact keep2 a1 (by assumption)
    have kb0 : V4.cell? ⟨w3.heap.size, 0, none⟩ = some (.bool bA) := by rw [hV4]; exact (put2 b0 b1 _ _).1
    have kb1 : V4.cell? ⟨w3.heap.size, 1, none⟩ = some (.string sA) := by rw [hV4]; exact (put2 b0 b1 _ _).2
    have kfa0 : V4.frozen? ⟨w2.heap.size, 0, none⟩ = false := by rw [hV4]; simp only [frozen_set]; exact fa0
    have kfa1 : V4.frozen? ⟨w2.heap.size, 1, none⟩ = false := by rw [hV4]; simp only [frozen_set]; exact fa1
    have kfb0 : V4.frozen? ⟨w3.heap.size, 0, none⟩ = false := by rw [hV4]; simp only [frozen_set]; exact fb0
    have kfb1 : V4.frozen? ⟨w3.heap.size, 1, none⟩ = false := by rw [hV4]; simp only [frozen_set]; exact fb1
    have HG := Lib.hid (show Gr w V4 by rw [hV4]; exact HG.out.put2 (by omega) _ _)
    rw [← hV4]
    clear hV4 x0 x1 y0 y1 a0 a1 b0 b1 fa0 fa1 fb0 fb1
    have x0 := kx0
    have x1 := kx1
    have y0 := ky0
    have y1 := ky1
    have a0 := ka0
    have fa0 := kfa0
    have a1 := ka1
    have fa1 := kfa1
    have b0 := kb0
    have fb0 := kfb0
    have b1 := kb1
    have fb1 := kfb1
    clear kx0 kx1 ky0 ky1 ka0 ka1 kb0 kb1 kfa0 kfa1 kfb0 kfb1
    refine (HM1.out _).mono ?_
    rintro e w6 ⟨rfl, g⟩
    have fa0 := g.frozen a0 fa0
    have fa1 := g.frozen a1 fa1
    have fb0 := g.frozen b0 fb0
    have fb1 := g.frozen b1 fb1
    have x0 := g.keeps x0
    have x1 := g.keeps x1
    have y0 := g.keeps y0
    have y1 := g.keeps y1
    have a0 := g.keeps a0
    have a1 := g.keeps a1
    have b0 := g.keeps b0
    have b1 := g.keeps b1
    have HG := Lib.hid (HG.out.trans g)
    clear g
    go_wp2_with fail
    obtain ⟨V5, hV5⟩ : ∃ V : World, V = (w6.setCell ⟨w2.heap.size, 0, none⟩ (.bool bM)).setCell ⟨w2.heap.size, 1, none⟩ (.string sM) := ⟨_, rfl⟩
    have kx0 : V5.cell? ⟨w.heap.size, 0, none⟩ = some (.bool nx) := by rw [hV5]; exact keep2 x0 (by assumption)
    have kx1 : V5.cell? ⟨w.heap.size, 1, none⟩ = some (.string x) := by rw [hV5]; exact keep2 x1 (by assumption)
    have ky0 : V5.cell? ⟨w.heap.size + 1, 0, none⟩ = some (.bool ny) := by rw [hV5]; exact keep2 y0 (by assumption)
    have ky1 : V5.cell? ⟨w.heap.size + 1, 1, none⟩ = some (.string y) := by rw [hV5]; exact keep2 y1 (by assumption)
    have ka0 : V5.cell? ⟨w2.heap.size, 0, none⟩ = some (.bool bM) := by rw [hV5]; exact (put2 a0 a1 _ _).1
    have ka1 : V5.cell? ⟨w2.heap.size, 1, none⟩ = some (.string sM) := by rw [hV5]; exact (put2 a0 a1 _ _).2
    have kb0 : V5.cell? ⟨w3.heap.size, 0, none⟩ = some (.bool bA) := by rw [hV5]; exact keep2 b0 (by assumption)
    have kb1 : V5.cell? ⟨w3.heap.size, 1, none⟩ = some (.string sA) := by rw [hV5]; exact keep2 b1 (by assumption)
    have kfa0 : V5.frozen? ⟨w2.heap.size, 0, none⟩ = false := by rw [hV5]; simp only [frozen_set]; exact fa0
    have kfa1 : V5.frozen? ⟨w2.heap.size, 1, none⟩ = false := by rw [hV5]; simp only [frozen_set]; exact fa1
    have kfb0 : V5.frozen? ⟨w3.heap.size, 0, none⟩ = false := by rw [hV5]; simp only [frozen_set]; exact fb0
    have kfb1 : V5.frozen? ⟨w3.heap.size, 1, none⟩ = false := by rw [hV5]; simp only [frozen_set]; exact fb1
    have HG := Lib.hid (show Gr w V5 by rw [hV5]; exact HG.out.put2 (by omega) _ _)
    rw [← hV5]
    clear hV5 x0 x1 y0 y1 a0 a1 b0 b1 fa0 fa1 fb0 fb1
    have x0 := kx0
    have x1 := kx1
    have y0 := ky0
    have y1 := ky1
    have a0 := ka0
    have fa0 := kfa0
    have a1 := ka1
    have fa1 := kfa1
    have b0 := kb0
    have fb0 := kfb0
    have b1 := kb1
    have fb1 := kfb1
    clear kx0 kx1 ky0 ky1 ka0 ka1 kb0 kb1 kfa0 kfa1 kfb0 kfb1
    refine (HM2.out _).mono ?_
    rintro e w7 ⟨rfl, g⟩
    have fa0 := g.frozen a0 fa0
    have fa1 := g.frozen a1 fa1
    have fb0 := g.frozen b0 fb0
    have fb1 := g.frozen b1 fb1
    have x0 := g.keeps x0
    have x1 := g.keeps x1
    have y0 := g.keeps y0
    have y1 := g.keeps y1
    have a0 := g.keeps a0
    have a1 := g.keeps a1
    have b0 := g.keeps b0
    have b1 := g.keeps b1
    have HG := Lib.hid (HG.out.trans g)
    clear g
    go_wp2_with fail
    obtain ⟨V6, hV6⟩ : ∃ V : World, V = (w7.setCell ⟨w3.heap.size, 0, none⟩ (.bool bM)).setCell ⟨w3.heap.size, 1, none⟩ (.string sM) := ⟨_, rfl⟩
    have kx0 : V6.cell? ⟨w.heap.size, 0, none⟩ = some (.bool nx) := by rw [hV6]; exact keep2 x0 (by assumption)
    have kx1 : V6.cell? ⟨w.heap.size, 1, none⟩ = some (.string x) := by rw [hV6]; exact keep2 x1 (by assumption)
    have ky0 : V6.cell? ⟨w.heap.size + 1, 0, none⟩ = some (.bool ny) := by rw [hV6]; exact keep2 y0 (by assumption)
    have ky1 : V6.cell? ⟨w.heap.size + 1, 1, none⟩ = some (.string y) := by rw [hV6]; exact keep2 y1 (by assumption)
    have ka0 : V6.cell? ⟨w2.heap.size, 0, none⟩ = some (.bool bM) := by rw [hV6]; exact keep2 a0 (by assumption)
    have ka1 : V6.cell? ⟨w2.heap.size, 1, none⟩ = some (.string sM) := by rw [hV6]; exact keep2 a1 (by assumption)
    have kb0 : V6.cell? ⟨w3.heap.size, 0, none⟩ = some (.bool bM) := by rw [hV6]; exact (put2 b0 b1 _ _).1
    have kb1 : V6.cell? ⟨w3.heap.size, 1, none⟩ = some (.string sM) := by rw [hV6]; exact (put2 b0 b1 _ _).2
    have kfa0 : V6.frozen? ⟨w2.heap.size, 0, none⟩ = false := by rw [hV6]; simp only [frozen_set]; exact fa0
    have kfa1 : V6.frozen? ⟨w2.heap.size, 1, none⟩ = false := by rw [hV6]; simp only [frozen_set]; exact fa1
    have kfb0 : V6.frozen? ⟨w3.heap.size, 0, none⟩ = false := by rw [hV6]; simp only [frozen_set]; exact fb0
    have kfb1 : V6.frozen? ⟨w3.heap.size, 1, none⟩ = false := by rw [hV6]; simp only [frozen_set]; exact fb1
    have HG := Lib.hid (show Gr w V6 by rw [hV6]; exact HG.out.put2 (by omega) _ _)
    rw [← hV6]
    clear hV6 x0 x1 y0 y1 a0 a1 b0 b1 fa0 fa1 fb0 fb1
    have x0 := kx0
    have x1 := kx1
    have y0 := ky0
    have y1 := ky1
    have a0 := ka0
    have fa0 := kfa0
    have a1 := ka1
    have fa1 := kfa1
    have b0 := kb0
    have fb0 := kfb0
    have b1 := kb1
    have fb1 := kfb1
    clear kx0 kx1 ky0 ky1 ka0 ka1 kb0 kb1 kfa0 kfa1 kfb0 kfb1
    refine (shown_of HDIV.out _ (HT.out.later HG.out)).mono ?_
    rintro e w9 ⟨rfl, g⟩
    have HG := Lib.hid (HG.out.trans g)
    clear g
    go_wp2_with fail
    go_ret
    exact ⟨rfl, HG.out⟩
end Go.Proofs.YtgalgldnhdiggaaGreatDoor

