/- Div on forms. -/
import Derived.Test.YtnehcafmebokmaaGreatDoorPDivs
import Derived.Deep.DeepCutAuto
import Derived.Test.YtnehcafmebokmaaGreatDoorPGj
namespace Go.Proofs.YtnehcafmebokmaaGreatDoor
open Go.RowKit
set_option linter.unusedVariables false

set_option maxRecDepth 100000 in
set_option maxHeartbeats 8000000 in
theorem div_ok (neg : Bool) (s : ByteArray) (neg' : Bool) (s' : ByteArray) (w : World) (h : Form neg s) (h' : Form neg' s') (h0 : s'.size ≠ 0) (hy : zOf neg' s' ≠ 0) :
    Calls Tryz.prog 6 #[.agg #[.bool neg, .string s], .agg #[.bool neg', .string s']] w (Div3 (fNeg (zOf neg s / zOf neg' s')) (fStr (zOf neg s / zOf neg' s')) (fNeg (zOf neg s % zOf neg' s')) (fStr (zOf neg s % zOf neg' s')) 0 w) := by
  have HF := Lib.hid h
  have HF' := Lib.hid h'
  have HY := Lib.hid hy
  have hs : s.size ≤ 256 := by rcases h with ⟨h0, _⟩ | ⟨_, h2, _⟩ <;> omega
  have hs' : s'.size ≤ 256 := by rcases h' with ⟨h0, _⟩ | ⟨_, h2, _⟩ <;> omega
  have he : s'.toList.isEmpty = false := by rw [empty_iff]; simpa using h0
  clear h h' h0 hy
  go_enter Tryz.func6, Tryz.ntmps6
  go_wp2_with fail
  refine (valid_any neg s _ (by omega)).mono ?_
  rintro e w1 ⟨r, rfl, hr, g⟩
  obtain rfl : r = true := hr.2 HF.out
  have g0 : Gr w ((((w.alloc (.cells #[.bool neg, .string s] 23)).alloc (.cells #[.bool neg', .string s'] 23)).alloc (.cells #[.bool false, .string ⟨#[]⟩] 23)).alloc (.cells #[.bool false, .string ⟨#[]⟩] 23)) := (((Gr.new w _).alloc _).alloc _).alloc _
  have x0 := g.keeps (p := ⟨w.heap.size, 0, none⟩) (v := .bool neg) (by simp [go_sem])
  have x1 := g.keeps (p := ⟨w.heap.size, 1, none⟩) (v := .string s) (by simp [go_sem])
  have y0 := g.keeps (p := ⟨w.heap.size + 1, 0, none⟩) (v := .bool neg') (by simp [go_sem])
  have y1 := g.keeps (p := ⟨w.heap.size + 1, 1, none⟩) (v := .string s') (by simp [go_sem])
  have RA0 := Lib.hid (g.keeps (p := ⟨w.heap.size + 1 + 1, 0, none⟩) (v := .bool false) (by simp [go_sem]))
  have RA1 := Lib.hid (g.keeps (p := ⟨w.heap.size + 1 + 1, 1, none⟩) (v := .string ⟨#[]⟩) (by simp [go_sem]))
  have RC0 := Lib.hid (g.keeps (p := ⟨w.heap.size + 1 + 1 + 1, 0, none⟩) (v := .bool false) (by simp [go_sem]))
  have RC1 := Lib.hid (g.keeps (p := ⟨w.heap.size + 1 + 1 + 1, 1, none⟩) (v := .string ⟨#[]⟩) (by simp [go_sem]))
  have FA0 := Lib.hid (g.frozen (p := ⟨w.heap.size + 1 + 1, 0, none⟩) (v := .bool false) (by simp [go_sem]) (by simp [go_sem]))
  have FA1 := Lib.hid (g.frozen (p := ⟨w.heap.size + 1 + 1, 1, none⟩) (v := .string ⟨#[]⟩) (by simp [go_sem]) (by simp [go_sem]))
  have FC0 := Lib.hid (g.frozen (p := ⟨w.heap.size + 1 + 1 + 1, 0, none⟩) (v := .bool false) (by simp [go_sem]) (by simp [go_sem]))
  have FC1 := Lib.hid (g.frozen (p := ⟨w.heap.size + 1 + 1 + 1, 1, none⟩) (v := .string ⟨#[]⟩) (by simp [go_sem]) (by simp [go_sem]))
  have HG := Lib.hid (g0.trans g)
  clear g g0 hr
  go_wp2_with fail
  refine (valid_any neg' s' _ (by omega)).mono ?_
  rintro e W ⟨r, rfl, hr, g⟩
  obtain rfl : r = true := hr.2 HF'.out
  have x0 := g.keeps x0
  have x1 := g.keeps x1
  have y0 := g.keeps y0
  have y1 := g.keeps y1
  have FA0 := Lib.hid (g.frozen RA0.out FA0.out)
  have FA1 := Lib.hid (g.frozen RA1.out FA1.out)
  have FC0 := Lib.hid (g.frozen RC0.out FC0.out)
  have FC1 := Lib.hid (g.frozen RC1.out FC1.out)
  have RA0 := Lib.hid (g.keeps RA0.out)
  have RA1 := Lib.hid (g.keeps RA1.out)
  have RC0 := Lib.hid (g.keeps RC0.out)
  have RC1 := Lib.hid (g.keeps RC1.out)
  have HG := Lib.hid (HG.out.trans g)
  clear g hr
  go_upto_region 3 with (fail)
  go_cut [7, 8] (fun s7 s8 wx => DivCut (zOf neg s) (zOf neg' s') W s7 s8 wx)
  case first =>
    refine wp_region_noPanic ?_
    refine div_region neg s neg' s' HF.out HF'.out HY.out W _ _ x0 x1 y0 y1 _ _ _ _ _ _ _ _ _ _ _ _ _ _ _ _ _ _ _ _ _ _ _ _ _ _ _ _ _ _ _ _ _ (fun _ _ _ _ _ h => h) ?_
    intro s7 s8 u24 u25 u26 u27 u28 u29 u30 u31 wx hd
    refine NoPanic.normal ?_
    go_wp2_with fail
    go_meet
    exact hd
  case rest =>
    obtain ⟨B, C, nq, sq, nr, sr, rfl, rfl, hB, hC, b0, b1, c0, c1, hq, hr, g⟩ := hcut
    have hsz : w.heap.size + 1 + 1 + 1 < W.heap.size := World.block_lt_of_cell? W _ RC0.out
    have FA0 := Lib.hid (g.frozen RA0.out FA0.out)
    have FA1 := Lib.hid (g.frozen RA1.out FA1.out)
    have FC0 := Lib.hid (g.frozen RC0.out FC0.out)
    have FC1 := Lib.hid (g.frozen RC1.out FC1.out)
    have RA0 := Lib.hid (g.keeps RA0.out)
    have RA1 := Lib.hid (g.keeps RA1.out)
    have RC0 := Lib.hid (g.keeps RC0.out)
    have RC1 := Lib.hid (g.keeps RC1.out)
    have HG := Lib.hid (HG.out.trans g)
    have HQ := Lib.hid hq
    have HR := Lib.hid hr
    have C0 := Lib.hid c0
    have C1 := Lib.hid c1
    clear g hq hr c0 c1
    go_wp2_with fail
    refine (form_any 65 _ _ _ HQ.out (by omega)).mono ?_
    rintro e w4 ⟨rfl, g⟩
    have FA0 := Lib.hid (g.frozen RA0.out FA0.out)
    have FA1 := Lib.hid (g.frozen RA1.out FA1.out)
    have FC0 := Lib.hid (g.frozen RC0.out FC0.out)
    have FC1 := Lib.hid (g.frozen RC1.out FC1.out)
    have RA0 := Lib.hid (g.keeps RA0.out)
    have RA1 := Lib.hid (g.keeps RA1.out)
    have RC0 := Lib.hid (g.keeps RC0.out)
    have RC1 := Lib.hid (g.keeps RC1.out)
    have HG := Lib.hid (HG.out.trans g)
    have HR := Lib.hid (HR.out.later g)
    have c0 := g.keeps C0.out
    have c1 := g.keeps C1.out
    obtain ⟨q, hqe⟩ : ∃ q, q = zOf neg s / zOf neg' s' := ⟨_, rfl⟩
    obtain ⟨r, hre⟩ : ∃ r, r = zOf neg s % zOf neg' s' := ⟨_, rfl⟩
    rw [← hre] at HR
    rw [← hqe]
    have HQE := Lib.hid hqe
    have HRE := Lib.hid hre
    clear hqe hre
    have n1 : ¬ (C = w.heap.size + 1 + 1) := by omega
    have n2 : ¬ (C = w.heap.size + 1 + 1 + 1) := by omega
    have n3 : ¬ (w.heap.size + 1 + 1 = C) := by omega
    have n4 : ¬ (w.heap.size + 1 + 1 + 1 = C) := by omega
    have HR2 := Lib.hid ((HR.out.set RA0.out (by simp) (.bool (fNeg q))).set ((cell_other (by simp) (.bool (fNeg q))).trans RA1.out) (by simp) (.string (fStr q)))
    have HP := Lib.hid (put2 RA0.out RA1.out (.bool (fNeg q)) (.string (fStr q)))
    have RC0' := Lib.hid (keep2 (C := w.heap.size + 1 + 1) (a := .bool (fNeg q)) (b := .string (fStr q)) RC0.out (by omega))
    have RC1' := Lib.hid (keep2 (C := w.heap.size + 1 + 1) (a := .bool (fNeg q)) (b := .string (fStr q)) RC1.out (by omega))
    have FZ : ∀ p, ((w4.setCell ⟨w.heap.size + 1 + 1, 0, none⟩ (.bool (fNeg q))).setCell ⟨w.heap.size + 1 + 1, 1, none⟩ (.string (fStr q))).frozen? p = w4.frozen? p := fun p => by simp only [frozen_set]
    have HFZ := Lib.hid FZ
    have HG4 := Lib.hid ((HG.out.setCell (p := ⟨w.heap.size + 1 + 1, 0, none⟩) (by simp; omega) (.bool (fNeg q))).setCell (p := ⟨w.heap.size + 1 + 1, 1, none⟩) (by simp; omega) (.string (fStr q)))
    have ra0 := RA0.out
    have ra1 := RA1.out
    have fa0 := FA0.out
    have fa1 := FA1.out
    clear g FZ
    go_wp2_with fail
    clear ra0 ra1 fa0 fa1
    obtain ⟨V, hV⟩ : ∃ V, V = (w4.setCell ⟨w.heap.size + 1 + 1, 0, none⟩ (.bool (fNeg q))).setCell ⟨w.heap.size + 1 + 1, 1, none⟩ (.string (fStr q)) := ⟨_, rfl⟩
    rw [← hV] at HR2 HP RC0' RC1' HFZ HG4 ⊢
    clear hV
    refine (form_any 64 _ _ _ HR2.out (by omega)).mono ?_
    rintro e w5 ⟨rfl, g⟩
    have f0 := g.frozen HP.out.1 (by rw [HFZ.out]; exact FA0.out)
    have f1 := g.frozen HP.out.2 (by rw [HFZ.out]; exact FA1.out)
    have r0 := g.keeps HP.out.1
    have r1 := g.keeps HP.out.2
    have f2 := g.frozen RC0'.out (by rw [HFZ.out]; exact FC0.out)
    have f3 := g.frozen RC1'.out (by rw [HFZ.out]; exact FC1.out)
    have r2 := g.keeps RC0'.out
    have r3 := g.keeps RC1'.out
    have HGG := Lib.hid (HG4.out.trans g)
    clear g
    go_wp2_with fail
    obtain ⟨V2, hV2⟩ : ∃ V2, V2 = (w5.setCell ⟨w.heap.size + 1 + 1 + 1, 0, none⟩ (.bool (fNeg r))).setCell ⟨w.heap.size + 1 + 1 + 1, 1, none⟩ (.string (fStr r)) := ⟨_, rfl⟩
    rw [← hV2]
    have k0 : V2.cell? ⟨w.heap.size + 1 + 1, 0, none⟩ = some (.bool (fNeg q)) := by rw [hV2]; exact keep2 r0 (by omega)
    have k1 : V2.cell? ⟨w.heap.size + 1 + 1, 1, none⟩ = some (.string (fStr q)) := by rw [hV2]; exact keep2 r1 (by omega)
    have k2 : V2.cell? ⟨w.heap.size + 1 + 1 + 1, 0, none⟩ = some (.bool (fNeg r)) := by rw [hV2]; exact (put2 r2 r3 _ _).1
    have k3 : V2.cell? ⟨w.heap.size + 1 + 1 + 1, 1, none⟩ = some (.string (fStr r)) := by rw [hV2]; exact (put2 r2 r3 _ _).2
    have j0 : V2.frozen? ⟨w.heap.size + 1 + 1, 0, none⟩ = false := by rw [hV2]; simp only [frozen_set]; exact f0
    have j1 : V2.frozen? ⟨w.heap.size + 1 + 1, 1, none⟩ = false := by rw [hV2]; simp only [frozen_set]; exact f1
    have j2 : V2.frozen? ⟨w.heap.size + 1 + 1 + 1, 0, none⟩ = false := by rw [hV2]; simp only [frozen_set]; exact f2
    have j3 : V2.frozen? ⟨w.heap.size + 1 + 1 + 1, 1, none⟩ = false := by rw [hV2]; simp only [frozen_set]; exact f3
    have HV2 := Lib.hid (show Gr w V2 by rw [hV2]; exact (HGG.out.setCell (p := ⟨w.heap.size + 1 + 1 + 1, 0, none⟩) (by simp; omega) _).setCell (p := ⟨w.heap.size + 1 + 1 + 1, 1, none⟩) (by simp; omega) _)
    clear hV2 r0 r1 r2 r3 f0 f1 f2 f3
    go_region
    all_goals
      go_wp2_with fail
      refine bodyPost_ret (v := .tuple #[.agg #[.bool (fNeg q), .string (fStr q)], .agg #[.bool (fNeg r), .string (fStr r)], .int .i64 0]) (by simp [results, Tryz.results6, go_sem, k0, k1, k2, k3]) rfl ?_
      refine ⟨by rw [HQE.out, HRE.out], ?_⟩
      exact ((((HV2.out.setCell (p := ⟨w.heap.size + 1 + 1, 0, none⟩) (by simp; omega) _).setCell (p := ⟨w.heap.size + 1 + 1, 1, none⟩) (by simp; omega) _).setCell (p := ⟨w.heap.size + 1 + 1 + 1, 0, none⟩) (by simp; omega) _).setCell (p := ⟨w.heap.size + 1 + 1 + 1, 1, none⟩) (by simp; omega) _).drewOne
theorem div_all : DivOK := fun neg s neg' s' w h h' hy => div_ok neg s neg' s' w h h' (fun h0 => hy (by
  have e := zOf_abs neg' s'
  rw [List.eq_nil_of_length_eq_zero ((list_len s').trans h0)] at e
  exact Int.natAbs_eq_zero.1 e)) hy
end Go.Proofs.YtnehcafmebokmaaGreatDoor

