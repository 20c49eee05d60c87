import Derived.Test.YtfpdemmdkiohhaaGreatLBreg
import Derived.Test.YtfpdemmdkiohhaaGreatLWR
/- The good cases of the reference's Div, Round and Balanced. -/
namespace Go.Proofs.YtfpdemmdkiohhaaGreat
open Go.RowKit
set_option linter.unusedVariables false

theorem pos_of {neg : Bool} {s : ByteArray} (h0 : s.size ≠ 0) (hn : neg = false) : Form neg s → 0 < zOf neg s := fun h => (zOf_pos h).2 ⟨h0, hn⟩
theorem rword_two (w : World) : Calls Tryz.prog 72 #[.int .u32 2] w (NumZ 2 2 w) := rword_any 2 w (by decide)
theorem emod_small (x : Int) {y : Int} (hy : y ≠ 0) : x % y < (y.natAbs : Int) := Int.emod_lt x hy

set_option maxRecDepth 100000 in
set_option maxHeartbeats 8000000 in
theorem rdiv_ok (neg : Bool) (s : ByteArray) (neg' : Bool) (s' : ByteArray) (w : World) (h : Form neg s) (h' : Form neg' s') (h0 : s'.size ≠ 0) (hy : zOf neg' s' ≠ 0) :
    Calls Tryz.prog 77 #[.agg #[.bool neg, .string s], .agg #[.bool neg', .string s']] w (Div3 (fNeg (zOf neg s / zOf neg' s')) (fStr (zOf neg s / zOf neg' s')) (fNeg (zOf neg s % zOf neg' s')) (fStr (zOf neg s % zOf neg' s')) 0 w) := by
  have HF := Lib.hid h
  have HF' := Lib.hid h'
  have hs : s.size ≤ 256 := by rcases h with ⟨h0, _⟩ | ⟨_, h2, _⟩ <;> omega
  have hs' : s'.size ≤ 256 := by rcases h' with ⟨h0, _⟩ | ⟨_, h2, _⟩ <;> omega
  have he : s'.toList.isEmpty = false := by rw [empty_iff]; simpa using h0
  have HY := Lib.hid hy
  have HEQ := Lib.hid (fErr_in (z := zOf neg s / zOf neg' s') (Nat.lt_of_le_of_lt (Int.natAbs_ediv_le_natAbs _ _) (form_range h)))
  have HER := Lib.hid (fErr_in (z := zOf neg s % zOf neg' s') (by
    have h1 := Int.emod_nonneg (zOf neg s) hy
    have h2 := emod_small (zOf neg s) hy
    have h3 := form_range h'
    omega))
  clear h0 hy
  clear h h'
  go_enter Tryz.func77, Tryz.ntmps77
  go_wp2_with fail
  obtain ⟨W, hW⟩ : ∃ W : World, W = ((((w.alloc (.cells #[.bool neg, .string s] 24)).alloc (.cells #[.bool neg', .string s'] 24)).alloc (.cells #[.bool false, .string ⟨#[]⟩] 24)).alloc (.cells #[.bool false, .string ⟨#[]⟩] 24)) := ⟨_, rfl⟩
  rw [← hW]
  have g1 : Gr w W := by rw [hW]; exact (((((Gr.refl _).alloc _).alloc _).alloc _).alloc _)
  have x0 : W.cell? ⟨w.heap.size, 0, none⟩ = some (.bool neg) := by rw [hW]; simp [go_sem]
  have x1 : W.cell? ⟨w.heap.size, 1, none⟩ = some (.string s) := by rw [hW]; simp [go_sem]
  have y0 : W.cell? ⟨w.heap.size + 1, 0, none⟩ = some (.bool neg') := by rw [hW]; simp [go_sem]
  have y1 : W.cell? ⟨w.heap.size + 1, 1, none⟩ = some (.string s') := by rw [hW]; simp [go_sem]
  have C0 := Lib.hid (show W.cell? ⟨w.heap.size + 1 + 1, 0, none⟩ = some (.bool false) by rw [hW]; simp [go_sem])
  have C1 := Lib.hid (show W.cell? ⟨w.heap.size + 1 + 1, 1, none⟩ = some (.string ⟨#[]⟩) by rw [hW]; simp [go_sem])
  have FC0 := Lib.hid (show W.frozen? ⟨w.heap.size + 1 + 1, 0, none⟩ = false by rw [hW]; simp [go_sem])
  have FC1 := Lib.hid (show W.frozen? ⟨w.heap.size + 1 + 1, 1, none⟩ = false by rw [hW]; simp [go_sem])
  have D0 := Lib.hid (show W.cell? ⟨w.heap.size + 1 + 1 + 1, 0, none⟩ = some (.bool false) by rw [hW]; simp [go_sem])
  have D1 := Lib.hid (show W.cell? ⟨w.heap.size + 1 + 1 + 1, 1, none⟩ = some (.string ⟨#[]⟩) by rw [hW]; simp [go_sem])
  have FD0 := Lib.hid (show W.frozen? ⟨w.heap.size + 1 + 1 + 1, 0, none⟩ = false by rw [hW]; simp [go_sem])
  have FD1 := Lib.hid (show W.frozen? ⟨w.heap.size + 1 + 1 + 1, 1, none⟩ = false by rw [hW]; simp [go_sem])
  have HSZ := Lib.hid (show w.heap.size + 1 + 1 + 1 < W.heap.size from by rw [hW]; simp)
  have HG := Lib.hid g1
  clear hW g1
  refine (rvalid_any neg s _ (by omega)).mono ?_
  rintro e w1 ⟨r, rfl, hr, g⟩
  obtain rfl : r = true := hr.2 HF.out
  have x0 := g.keeps x0
  have x1 := g.keeps x1
  have y0 := g.keeps y0
  have y1 := g.keeps y1
  have FC0 := Lib.hid (g.frozen C0.out FC0.out)
  have C0 := Lib.hid (g.keeps C0.out)
  have FC1 := Lib.hid (g.frozen C1.out FC1.out)
  have C1 := Lib.hid (g.keeps C1.out)
  have FD0 := Lib.hid (g.frozen D0.out FD0.out)
  have D0 := Lib.hid (g.keeps D0.out)
  have FD1 := Lib.hid (g.frozen D1.out FD1.out)
  have D1 := Lib.hid (g.keeps D1.out)
  have HSZ := Lib.hid (Nat.lt_of_lt_of_le HSZ.out g.size)
  have HG := Lib.hid (HG.out.trans g)
  clear hr g
  go_wp2_with fail
  refine (rvalid_any neg' s' _ (by omega)).mono ?_
  rintro e W ⟨r, rfl, hr, g⟩
  obtain rfl : r = true := hr.2 HF'.out
  have x0 := g.keeps x0
  have x1 := g.keeps x1
  have y0 := g.keeps y0
  have y1 := g.keeps y1
  have FC0 := Lib.hid (g.frozen C0.out FC0.out)
  have C0 := Lib.hid (g.keeps C0.out)
  have FC1 := Lib.hid (g.frozen C1.out FC1.out)
  have C1 := Lib.hid (g.keeps C1.out)
  have FD0 := Lib.hid (g.frozen D0.out FD0.out)
  have D0 := Lib.hid (g.keeps D0.out)
  have FD1 := Lib.hid (g.frozen D1.out FD1.out)
  have D1 := Lib.hid (g.keeps D1.out)
  have HSZ := Lib.hid (Nat.lt_of_lt_of_le HSZ.out g.size)
  have HG := Lib.hid (HG.out.trans g)
  clear hr g
  go_upto_region 3 with (fail)
  go_cut [7, 8] (fun s7 s8 wx => CutJ 130 129 (zOf neg s / zOf neg' s') (zOf neg s % zOf neg' s') W s7 s8 wx)
  case first =>
    refine wp_region_noPanic ?_
    refine rdiv_region neg s neg' s' HF.out HF'.out HY.out W _ _ x0 x1 y0 y1 _ _ _ _ _ _ _ _ _ _ _ _ _ _ _ _ _ _ _ _ _ _ _ _ _ _ _ _ _ _ _ _ _ _ _ _ _ _ _ _ _ _ _ _ (fun _ _ _ _ _ h => h) ?_
    intro s7 s8 u27 u28 u29 u30 u31 u32 u33 u34 wx hd
    refine NoPanic.normal ?_
    go_wp2_with fail
    go_meet
    exact hd
  case rest =>
    obtain ⟨P, T, nq, aq, kq, cq, nr, ar, kr, cr, rfl, rfl, hP, hT, p0, p1, t0, t1, -, -, hq, hr, g⟩ := hcut
    have HSZ2 := Lib.hid (Nat.lt_of_lt_of_le HSZ.out hP)
    have HSZ3 := Lib.hid (Nat.lt_of_lt_of_le HSZ.out hT)
    have FC0 := Lib.hid (g.frozen C0.out FC0.out)
    have C0 := Lib.hid (g.keeps C0.out)
    have FC1 := Lib.hid (g.frozen C1.out FC1.out)
    have C1 := Lib.hid (g.keeps C1.out)
    have FD0 := Lib.hid (g.frozen D0.out FD0.out)
    have D0 := Lib.hid (g.keeps D0.out)
    have FD1 := Lib.hid (g.frozen D1.out FD1.out)
    have D1 := Lib.hid (g.keeps D1.out)
    have HG := Lib.hid (HG.out.trans g)
    have HQ := Lib.hid hq
    have HR := Lib.hid hr
    have T0 := Lib.hid t0
    have T1 := Lib.hid t1
    clear g hq hr t0 t1 hP hT
    obtain ⟨q, hqe⟩ : ∃ q, q = zOf neg s / zOf neg' s' := ⟨_, rfl⟩
    obtain ⟨r, hre⟩ : ∃ r, r = zOf neg s % zOf neg' s' := ⟨_, rfl⟩
    rw [← hqe] at HQ HEQ
    rw [← hre] at HR HER
    have HQE := Lib.hid hqe
    have HRE := Lib.hid hre
    clear hqe hre
    go_wp2_with fail
    refine (rout_any 130 _ _ _ HQ.out (by omega)).mono ?_
    rintro e w4 ⟨rfl, g⟩
    rw [HEQ.out]
    have t0 := g.keeps T0.out
    have t1 := g.keeps T1.out
    have HR := Lib.hid (HR.out.later g)
    have FC0 := Lib.hid (g.frozen C0.out FC0.out)
    have C0 := Lib.hid (g.keeps C0.out)
    have FC1 := Lib.hid (g.frozen C1.out FC1.out)
    have C1 := Lib.hid (g.keeps C1.out)
    have FD0 := Lib.hid (g.frozen D0.out FD0.out)
    have D0 := Lib.hid (g.keeps D0.out)
    have FD1 := Lib.hid (g.frozen D1.out FD1.out)
    have D1 := Lib.hid (g.keeps D1.out)
    have HG := Lib.hid (HG.out.trans g)
    have hE4 : w.heap.size + 1 + 1 + 1 < w4.heap.size := World.block_lt_of_cell? w4 _ D0.out
    have gn := Gr.new w4 (.cells #[.bool (fNeg q), .string (fStr q)] 24)
    have e0 := (two_cells w4 (.bool (fNeg q)) (.string (fStr q)) 24).1
    have e1 := (two_cells w4 (.bool (fNeg q)) (.string (fStr q)) 24).2
    have t0 := gn.keeps t0
    have t1 := gn.keeps t1
    have HR := Lib.hid (HR.out.later gn)
    have FC0 := Lib.hid (gn.frozen C0.out FC0.out)
    have C0 := Lib.hid (gn.keeps C0.out)
    have FC1 := Lib.hid (gn.frozen C1.out FC1.out)
    have C1 := Lib.hid (gn.keeps C1.out)
    have FD0 := Lib.hid (gn.frozen D0.out FD0.out)
    have D0 := Lib.hid (gn.keeps D0.out)
    have FD1 := Lib.hid (gn.frozen D1.out FD1.out)
    have D1 := Lib.hid (gn.keeps D1.out)
    have HG := Lib.hid (HG.out.trans gn)
    clear g gn
    go_wp2_with fail
    refine (rout_any 129 _ _ _ HR.out (by omega)).mono ?_
    rintro e w5 ⟨rfl, g⟩
    rw [HER.out]
    have e0 := g.keeps e0
    have e1 := g.keeps e1
    have FC0 := Lib.hid (g.frozen C0.out FC0.out)
    have C0 := Lib.hid (g.keeps C0.out)
    have FC1 := Lib.hid (g.frozen C1.out FC1.out)
    have C1 := Lib.hid (g.keeps C1.out)
    have FD0 := Lib.hid (g.frozen D0.out FD0.out)
    have D0 := Lib.hid (g.keeps D0.out)
    have FD1 := Lib.hid (g.frozen D1.out FD1.out)
    have D1 := Lib.hid (g.keeps D1.out)
    have HG := Lib.hid (HG.out.trans g)
    have hE5 : w4.heap.size < w5.heap.size := World.block_lt_of_cell? w5 _ e0
    have gn := Gr.new w5 (.cells #[.bool (fNeg r), .string (fStr r)] 24)
    have f0 := (two_cells w5 (.bool (fNeg r)) (.string (fStr r)) 24).1
    have f1 := (two_cells w5 (.bool (fNeg r)) (.string (fStr r)) 24).2
    have e0 := gn.keeps e0
    have e1 := gn.keeps e1
    have FC0 := Lib.hid (gn.frozen C0.out FC0.out)
    have C0 := Lib.hid (gn.keeps C0.out)
    have FC1 := Lib.hid (gn.frozen C1.out FC1.out)
    have C1 := Lib.hid (gn.keeps C1.out)
    have FD0 := Lib.hid (gn.frozen D0.out FD0.out)
    have D0 := Lib.hid (gn.keeps D0.out)
    have FD1 := Lib.hid (gn.frozen D1.out FD1.out)
    have D1 := Lib.hid (gn.keeps D1.out)
    have HG := Lib.hid (HG.out.trans gn)
    clear g gn
    go_wp2_with fail
    have c0 := C0.out
    have c1 := C1.out
    have d0 := D0.out
    have d1 := D1.out
    have fc0 := FC0.out
    have fc1 := FC1.out
    have fd0 := FD0.out
    have fd1 := FD1.out
    clear C0 C1 D0 D1 FC0 FC1 FD0 FD1
    generalize (w5.alloc (.cells #[.bool (fNeg r), .string (fStr r)] 24)) = W6 at *
    generalize w5.heap.size = F at *
    generalize w4.heap.size = E at *
    have m1 : ¬ (F = w.heap.size + 1 + 1) := by omega
    have m2 : ¬ (w.heap.size + 1 + 1 = F) := by omega
    have m3 : ¬ (F = w.heap.size + 1 + 1 + 1) := by omega
    have m4 : ¬ (w.heap.size + 1 + 1 + 1 = F) := by omega
    have m5 : ¬ (E = w.heap.size + 1 + 1) := by omega
    have m6 : ¬ (w.heap.size + 1 + 1 = E) := by omega
    have m7 : ¬ (E = w.heap.size + 1 + 1 + 1) := by omega
    have m8 : ¬ (w.heap.size + 1 + 1 + 1 = E) := by omega
    go_region
    go_wp2_with fail
    refine bodyPost_ret (v := .tuple #[.agg #[.bool (fNeg q), .string (fStr q)], .agg #[.bool (fNeg r), .string (fStr r)], .int .i64 0]) (by simp [results, Tryz.results77, go_sem, c0, c1, d0, d1]) rfl ?_
    exact ⟨by rw [HQE.out, HRE.out], Gr.drw (HG.out.set4 (by omega) (by omega) _ _ _ _)⟩

set_option maxRecDepth 100000 in
set_option maxHeartbeats 8000000 in
theorem rbal_ok (neg : Bool) (s : ByteArray) (neg' : Bool) (s' : ByteArray) (w : World) (h : Form neg s) (h' : Form neg' s') (hs0 : s'.size ≠ 0) (hn : neg' = false) :
    Calls Tryz.prog 42 #[.agg #[.bool neg, .string s], .agg #[.bool neg', .string s']] w (Res (fNeg (bal (zOf neg s) (zOf neg' s'))) (fStr (bal (zOf neg s) (zOf neg' s'))) (fErr (bal (zOf neg s) (zOf neg' s'))) w) := by
  have HF := Lib.hid h
  have HF' := Lib.hid h'
  have hs : s.size ≤ 256 := by rcases h with ⟨h0, _⟩ | ⟨_, h2, _⟩ <;> omega
  have hs' : s'.size ≤ 256 := by rcases h' with ⟨h0, _⟩ | ⟨_, h2, _⟩ <;> omega
  have hy0 : 0 < zOf neg' s' := pos_of hs0 hn h'
  have HY := Lib.hid hy0
  have HY2 := Lib.hid (show zOf neg' s' ≠ 0 by omega)
  have he : s'.toList.isEmpty = false := by rw [empty_iff]; simpa using hs0
  subst hn
  clear hs0 hy0
  clear h h'
  go_enter Tryz.func42, Tryz.ntmps42
  go_wp2_with fail
  obtain ⟨W, hW⟩ : ∃ W : World, W = (((w.alloc (.cells #[.bool neg, .string s] 24)).alloc (.cells #[.bool false, .string s'] 24)).alloc (.cells #[.bool false, .string ⟨#[]⟩] 24)) := ⟨_, rfl⟩
  rw [← hW]
  have g1 : Gr w W := by rw [hW]; exact ((((Gr.refl _).alloc _).alloc _).alloc _)
  have x0 : W.cell? ⟨w.heap.size, 0, none⟩ = some (.bool neg) := by rw [hW]; simp [go_sem]
  have x1 : W.cell? ⟨w.heap.size, 1, none⟩ = some (.string s) := by rw [hW]; simp [go_sem]
  have y0 : W.cell? ⟨w.heap.size + 1, 0, none⟩ = some (.bool false) := by rw [hW]; simp [go_sem]
  have y1 : W.cell? ⟨w.heap.size + 1, 1, none⟩ = some (.string s') := by rw [hW]; simp [go_sem]
  have C0 := Lib.hid (show W.cell? ⟨w.heap.size + 1 + 1, 0, none⟩ = some (.bool false) by rw [hW]; simp [go_sem])
  have C1 := Lib.hid (show W.cell? ⟨w.heap.size + 1 + 1, 1, none⟩ = some (.string ⟨#[]⟩) by rw [hW]; simp [go_sem])
  have FC0 := Lib.hid (show W.frozen? ⟨w.heap.size + 1 + 1, 0, none⟩ = false by rw [hW]; simp [go_sem])
  have FC1 := Lib.hid (show W.frozen? ⟨w.heap.size + 1 + 1, 1, none⟩ = false by rw [hW]; simp [go_sem])
  have HSZ := Lib.hid (show w.heap.size + 1 + 1 < W.heap.size from by rw [hW]; simp)
  have HG := Lib.hid g1
  clear hW g1
  refine (rvalid_any neg s _ (by omega)).mono ?_
  rintro e w1 ⟨r, rfl, hr, g⟩
  obtain rfl : r = true := hr.2 HF.out
  have x0 := g.keeps x0
  have x1 := g.keeps x1
  have y0 := g.keeps y0
  have y1 := g.keeps y1
  have FC0 := Lib.hid (g.frozen C0.out FC0.out)
  have C0 := Lib.hid (g.keeps C0.out)
  have FC1 := Lib.hid (g.frozen C1.out FC1.out)
  have C1 := Lib.hid (g.keeps C1.out)
  have HSZ := Lib.hid (Nat.lt_of_lt_of_le HSZ.out g.size)
  have HG := Lib.hid (HG.out.trans g)
  clear hr g
  go_wp2_with fail
  refine (rvalid_any false s' _ (by omega)).mono ?_
  rintro e W ⟨r, rfl, hr, g⟩
  obtain rfl : r = true := hr.2 HF'.out
  have x0 := g.keeps x0
  have x1 := g.keeps x1
  have y0 := g.keeps y0
  have y1 := g.keeps y1
  have FC0 := Lib.hid (g.frozen C0.out FC0.out)
  have C0 := Lib.hid (g.keeps C0.out)
  have FC1 := Lib.hid (g.frozen C1.out FC1.out)
  have C1 := Lib.hid (g.keeps C1.out)
  have HSZ := Lib.hid (Nat.lt_of_lt_of_le HSZ.out g.size)
  have HG := Lib.hid (HG.out.trans g)
  clear hr g
  go_upto_region 3 with (fail)
  go_cut [6, 7] (fun s7 s8 wx => CutJ 130 129 (zOf neg s / zOf false s') (zOf neg s % zOf false s') W s7 s8 wx)
  case first =>
    refine wp_region_noPanic ?_
    refine rbal_region neg s false s' HF.out HF'.out HY2.out W _ _ x0 x1 y0 y1 _ _ _ _ _ _ _ _ _ _ _ _ _ _ _ _ _ _ _ _ _ _ _ _ _ _ _ _ _ _ _ _ _ _ _ _ _ _ _ (fun _ _ _ _ _ h => h) ?_
    intro s7 s8 u26 u27 u28 u29 u30 u31 u32 u33 wx hd
    refine NoPanic.normal ?_
    go_wp2_with fail
    go_meet
    exact hd
  case rest =>
    obtain ⟨P, T, nq, aq, kq, cq, nr, ar, kr, cr, rfl, rfl, hP, hT, p0, p1, t0, t1, ft0, ft1, hq, hr, g⟩ := hcut
    have hTC : w.heap.size + 1 + 1 < T := Nat.lt_of_lt_of_le HSZ.out hT
    have y0 := g.keeps y0
    have y1 := g.keeps y1
    have FC0 := Lib.hid (g.frozen C0.out FC0.out)
    have C0 := Lib.hid (g.keeps C0.out)
    have FC1 := Lib.hid (g.frozen C1.out FC1.out)
    have C1 := Lib.hid (g.keeps C1.out)
    have HG := Lib.hid (HG.out.trans g)
    have HR := Lib.hid hr
    have T0 := Lib.hid t0
    have T1 := Lib.hid t1
    have FT0 := Lib.hid ft0
    have FT1 := Lib.hid ft1
    clear g hq hr hP hT p0 p1 ft0 ft1
    obtain ⟨r, hre⟩ : ∃ r, r = zOf neg s % zOf false s' := ⟨_, rfl⟩
    rw [← hre] at HR
    have HRE := Lib.hid hre
    clear hre
    obtain ⟨cc, hcc⟩ : ∃ cc, cc = sgn (2 * r) (zOf false s') := ⟨_, rfl⟩
    have HCC := Lib.hid hcc
    have h2lt : (2 : Nat) < 4294967296 := by decide
    have h131 : 2 + 129 ≤ 90000 := by decide
    have h1310 : 131 ≤ 90000 := by decide
    have hwid : 129 ≤ 131 := by decide
    have n1 : ¬ (T = w.heap.size + 1 + 1) := by omega
    have n2 : ¬ (w.heap.size + 1 + 1 = T) := by omega
    have hcase : (cc > 0 ∧ zOf false s' < 2 * r) ∨ (¬ cc > 0 ∧ ¬ zOf false s' < 2 * r) := by
      rcases Int.lt_or_le (zOf false s') (2 * r) with h | h
      · exact .inl ⟨by rw [hcc, sgn_gt h]; omega, h⟩
      · refine .inr ⟨?_, by omega⟩
        rcases Int.lt_or_eq_of_le h with h | h
        · rw [hcc, sgn_lt h]; omega
        · rw [hcc, sgn_eq h]; omega
    clear hcc
    rcases hcase with ⟨hc, hlt⟩ | ⟨hc, hlt⟩
    all_goals
      have HLT := Lib.hid hlt
      clear hlt
      go_wp2_with fail
      go_region_held3 (fun w' => w'.cell? ⟨T, 0, none⟩ = some (.bool nr) ∧ w'.cell? ⟨T, 1, none⟩ = some (.slice ar kr cr) ∧ w'.cell? ⟨w.heap.size + 1, 0, none⟩ = some (.bool false) ∧ w'.cell? ⟨w.heap.size + 1, 1, none⟩ = some (.string s')) (first | exact ⟨t0, t1, y0, y1⟩ | go_keep)
        (first
          | (go_at_call 72; (with_reducible refine (rword_two _).mono ?_); rintro e w' ⟨a1, rfl, ha1, g⟩; have g := Gr.trans (show Gr wc wc.drew from Below.drew (Gr.refl wc)) g; have y0 := g.keeps y0; have y1 := g.keeps y1; have t0 := g.keeps t0; have t1 := g.keeps t1; have FT0 := Lib.hid (g.frozen T0.out FT0.out); have FT1 := Lib.hid (g.frozen T1.out FT1.out); have T0 := Lib.hid (g.keeps T0.out); have T1 := Lib.hid (g.keeps T1.out); have FC0 := Lib.hid (g.frozen C0.out FC0.out); have C0 := Lib.hid (g.keeps C0.out); have FC1 := Lib.hid (g.frozen C1.out FC1.out); have C1 := Lib.hid (g.keeps C1.out); have HR := Lib.hid (HR.out.later g); have HG := Lib.hid (HG.out.trans g); have HA := Lib.hid ha1; clear ha1 g)
          | (go_at_call 67; (with_reducible refine (rmul_any 2 129 _ _ _ _ _ HA.out HR.out h131).mono ?_); rintro e w' ⟨p3, rfl, hp3, g⟩; have y0 := g.keeps y0; have y1 := g.keeps y1; have t0 := g.keeps t0; have t1 := g.keeps t1; have FT0 := Lib.hid (g.frozen T0.out FT0.out); have FT1 := Lib.hid (g.frozen T1.out FT1.out); have T0 := Lib.hid (g.keeps T0.out); have T1 := Lib.hid (g.keeps T1.out); have FC0 := Lib.hid (g.frozen C0.out FC0.out); have C0 := Lib.hid (g.keeps C0.out); have FC1 := Lib.hid (g.frozen C1.out FC1.out); have C1 := Lib.hid (g.keeps C1.out); have HR := Lib.hid (HR.out.later g); have HG := Lib.hid (HG.out.trans g); have HP := Lib.hid hp3; clear hp3 g)
          | (go_at_call 68; (with_reducible refine (rin_129 false s' _ HF'.out).mono ?_); rintro e w' ⟨v4, rfl, hv4, g⟩; have y0 := g.keeps y0; have y1 := g.keeps y1; have t0 := g.keeps t0; have t1 := g.keeps t1; have FT0 := Lib.hid (g.frozen T0.out FT0.out); have FT1 := Lib.hid (g.frozen T1.out FT1.out); have T0 := Lib.hid (g.keeps T0.out); have T1 := Lib.hid (g.keeps T1.out); have FC0 := Lib.hid (g.frozen C0.out FC0.out); have C0 := Lib.hid (g.keeps C0.out); have FC1 := Lib.hid (g.frozen C1.out FC1.out); have C1 := Lib.hid (g.keeps C1.out); have HR := Lib.hid (HR.out.later g); have HG := Lib.hid (HG.out.trans g); have HP := Lib.hid (HP.out.later g); have HV4 := Lib.hid (hv4.wider hwid); clear hv4 g)
          | (go_at_call 71; (with_reducible refine (rcompare_any 131 _ _ _ _ _ HP.out HV4.out h1310).mono ?_); rintro e w' ⟨rfl, g⟩; have y0 := g.keeps y0; have y1 := g.keeps y1; have t0 := g.keeps t0; have t1 := g.keeps t1; have FT0 := Lib.hid (g.frozen T0.out FT0.out); have FT1 := Lib.hid (g.frozen T1.out FT1.out); have T0 := Lib.hid (g.keeps T0.out); have T1 := Lib.hid (g.keeps T1.out); have FC0 := Lib.hid (g.frozen C0.out FC0.out); have C0 := Lib.hid (g.keeps C0.out); have FC1 := Lib.hid (g.frozen C1.out FC1.out); have C1 := Lib.hid (g.keeps C1.out); have HR := Lib.hid (HR.out.later g); have HG := Lib.hid (HG.out.trans g); rw [← HCC.out]; clear g))
      go_wp2_with fail
    · refine wp_region_noPanic ?_
      refine rbal5_region s' HF'.out r w _ T _ nr ar kr cr (by omega) HG.out y0 y1 ⟨by omega, T0.out, T1.out, FT0.out, FT1.out⟩ HR.out _ _ _ _ _ _ _ _ _ _ _ _ _ _ _ _ _ _ _ _ _ _ _ _ _ _ _ _ _ _ _ _ _ _ _ _ _ _ _ _ _ _ _ _ _ _ _ _ _ (fun _ _ _ _ _ h => h) ?_
      rintro u41 u42 u43 u44 u45 wx ⟨pn, pa, pk, pc, p0, p1, hp, hk, g⟩
      refine NoPanic.normal ?_
      have k0 := hk _ (fun e => n2 e) _ C0.out FC0.out
      have k1 := hk _ (fun e => n2 e) _ C1.out FC1.out
      have C0 := Lib.hid k0.1
      have FC0 := Lib.hid k0.2
      have C1 := Lib.hid k1.1
      have FC1 := Lib.hid k1.2
      have HP := Lib.hid hp
      have HG := Lib.hid g
      have HBAL := Lib.hid (show bal (zOf neg s) (zOf false s') = r + -(zOf false s') from by unfold bal; rw [← HRE.out, if_pos HLT.out]; omega)
      clear k0 k1 hk hp g t0 t1 y0 y1
      go_wp2_with fail
      refine (rout_any 130 _ _ _ HP.out (by omega)).mono ?_
      rintro e w6 ⟨rfl, g⟩
      have c0 := g.keeps C0.out
      have c1 := g.keeps C1.out
      have fc0 := g.frozen C0.out FC0.out
      have fc1 := g.frozen C1.out FC1.out
      have HG := Lib.hid (HG.out.trans g)
      clear g
      obtain ⟨q, hqe⟩ : ∃ q, q = r + -(zOf false s') := ⟨_, rfl⟩
      rw [← hqe]
      have HQE := Lib.hid (show bal (zOf neg s) (zOf false s') = q from by rw [HBAL.out, hqe])
      clear hqe
      go_wp2_with fail
      refine bodyPost_ret (v := .tuple #[.agg #[.bool (fNeg q), .string (fStr q)], .int .i64 (fErr q)]) (by simp [results, Tryz.results42, go_sem, c0, c1]) rfl ?_
      exact ⟨by rw [HQE.out], HG.out.put2 (by omega) _ _⟩
    · refine (rout_any 129 _ _ _ HR.out (by omega)).mono ?_
      rintro e w6 ⟨rfl, g⟩
      have c0 := g.keeps C0.out
      have c1 := g.keeps C1.out
      have fc0 := g.frozen C0.out FC0.out
      have fc1 := g.frozen C1.out FC1.out
      have HG := Lib.hid (HG.out.trans g)
      have HQE := Lib.hid (show bal (zOf neg s) (zOf false s') = r from by unfold bal; rw [← HRE.out, if_neg (by have := HLT.out; omega)])
      clear g
      go_wp2_with fail
      refine bodyPost_ret (v := .tuple #[.agg #[.bool (fNeg r), .string (fStr r)], .int .i64 (fErr r)]) (by simp [results, Tryz.results42, go_sem, c0, c1]) rfl ?_
      exact ⟨by rw [HQE.out], HG.out.put2 (by omega) _ _⟩
end Go.Proofs.YtfpdemmdkiohhaaGreat
