/- order and sum of integers. -/
import Derived.Test.YtgalgldnhdiggaaDoorNeg
namespace Go.Proofs.YtgalgldnhdiggaaDoor
open Go.RowKit
set_option linter.unusedVariables false

theorem sg_same (x y : Int) (h : decide (x < 0) = decide (y < 0)) : sg (decide (x < 0)) (x.natAbs + y.natAbs) = x + y := by
  unfold sg
  by_cases h1 : x < 0 <;> by_cases h2 : y < 0 <;> simp [h1, h2] at h ⊢ <;> omega
theorem sg_diff (x y : Int) (h : decide (x < 0) ≠ decide (y < 0)) (hle : y.natAbs ≤ x.natAbs) : sg (decide (x < 0)) (x.natAbs - y.natAbs) = x + y := by
  unfold sg
  by_cases h1 : x < 0 <;> by_cases h2 : y < 0 <;> simp [h1, h2] at h ⊢ <;> omega
theorem sg_diff2 (x y : Int) (h : decide (x < 0) ≠ decide (y < 0)) (hle : x.natAbs ≤ y.natAbs) : -(sg (decide (x < 0)) (y.natAbs - x.natAbs)) = x + y := by
  unfold sg
  by_cases h1 : x < 0 <;> by_cases h2 : y < 0 <;> simp [h1, h2] at h ⊢ <;> omega
theorem len_le {l m : List Nat} (hl : Ow.Nm l) (hm : Ow.Nm m) (h : Ow.val m ≤ Ow.val l) : m.length ≤ l.length := by
  apply Classical.byContradiction; intro hn
  have := Ow.val_short hl hm (by omega)
  omega

set_option maxRecDepth 100000 in
set_option maxHeartbeats 1000000 in
theorem sum_any (M N : Nat) (x y : Int) (u v : Value) (w : World) (hu : HasI M w u x) (hv : HasI M w v y) (hM : M ≤ 100000) (hN : x.natAbs + y.natAbs < 4294967296 ^ N) :
    Calls Tryd.prog 48 #[u, v] w (IntZ N (x + y) w) := by
  obtain ⟨s, l, rfl, hd, hn, hval, hlM⟩ := hu
  obtain ⟨t, m, rfl, hd', hn', hval', hmM⟩ := hv
  have HD := Lib.hid hd
  have HD' := Lib.hid hd'
  have HNm := Lib.hid hn
  have HNm' := Lib.hid hn'
  have HV := Lib.hid hval
  have HV' := Lib.hid hval'
  have HN := Lib.hid hN
  have hl : l.length ≤ 100000 := by omega
  have hm : m.length ≤ 100000 := by omega
  obtain ⟨nx, hnx⟩ : ∃ nx, nx = decide (x < 0) := ⟨_, rfl⟩
  obtain ⟨ny, hny⟩ : ∃ ny, ny = decide (y < 0) := ⟨_, rfl⟩
  rw [← hnx, ← hny]
  have HNX := Lib.hid hnx
  have HNY := Lib.hid hny
  clear hd hd' hn hn' hval hval' hlM hmM hnx hny hM hN
  obtain ⟨-, a, cap, rfl, -, -, -⟩ := id HD.out
  obtain ⟨-, a', cap', rfl, -, -, -⟩ := id HD'.out
  go_enter Tryd.func48, Tryd.ntmps48
  go_wp2_with fail
  refine (signs_any _ _).mono ?_
  rintro e w1 ⟨rfl, hw1⟩
  obtain ⟨z0, hz0⟩ : ∃ z0 : World, z0 = ((w.alloc (.cells #[.bool nx, .slice a l.length cap] 56)).alloc (.cells #[.bool ny, .slice a' m.length cap'] 56)).alloc (.cells #[.bool false, .slice none 0 0] 56) := ⟨_, rfl⟩
  rw [← hz0] at hw1 ⊢
  have g0 : Gr w z0 := by rw [hz0]; exact ((Gr.new w _).alloc _).alloc _
  have g1 : Gr z0 w1 := by rw [← hw1]; exact Gr.new _ _
  have x0 : z0.cell? ⟨w.heap.size, 0, none⟩ = some (.bool nx) := by rw [hz0]; simp [go_sem]
  have x1 : z0.cell? ⟨w.heap.size, 1, none⟩ = some (.slice a l.length cap) := by rw [hz0]; simp [go_sem]
  have y0 : z0.cell? ⟨w.heap.size + 1, 0, none⟩ = some (.bool ny) := by rw [hz0]; simp [go_sem]
  have y1 : z0.cell? ⟨w.heap.size + 1, 1, none⟩ = some (.slice a' m.length cap') := by rw [hz0]; simp [go_sem]
  have r0 : z0.cell? ⟨w.heap.size + 1 + 1, 0, none⟩ = some (.bool false) := by rw [hz0]; simp [go_sem]
  have r1 : z0.cell? ⟨w.heap.size + 1 + 1, 1, none⟩ = some (.slice none 0 0) := by rw [hz0]; simp [go_sem]
  have e0 : z0.frozen? ⟨w.heap.size + 1 + 1, 0, none⟩ = false := by rw [hz0]; simp [go_sem]
  have e1 : z0.frozen? ⟨w.heap.size + 1 + 1, 1, none⟩ = false := by rw [hz0]; simp [go_sem]
  have b0 : w1.cell? ⟨z0.heap.size, 0, none⟩ = some (.bool nx) := by rw [← hw1]; simp [go_sem]
  have E0 := Lib.hid (g1.frozen r0 e0)
  have E1 := Lib.hid (g1.frozen r1 e1)
  have R0 := Lib.hid (g1.keeps r0)
  have R1 := Lib.hid (g1.keeps r1)
  have B0 := Lib.hid b0
  have x0 := g1.keeps x0
  have x1 := g1.keeps x1
  have y0 := g1.keeps y0
  have y1 := g1.keeps y1
  have HG := Lib.hid (g0.trans g1)
  clear hz0 hw1 g0 g1 b0 e0 e1 r0 r1
  by_cases heq : nx = ny
  · subst heq
    have HEQ := Lib.hid (show sg nx (x.natAbs + y.natAbs) = x + y by rw [HNX.out]; exact sg_same x y (by rw [← HNX.out, ← HNY.out]))
    go_wp2_with fail
    refine (plus_any l m _ _ _ (HD.out.later HG.out) (HD'.out.later HG.out) hl hm).mono ?_
    rintro e w2 ⟨p, lp, rfl, hdp, hnp, hvp, g2⟩
    have HDP := Lib.hid hdp
    have HNP := Lib.hid hnp
    have HVP := Lib.hid hvp
    have HG2 := Lib.hid g2
    clear hdp hnp hvp g2
    go_wp2_with fail
    refine (signs1_int nx lp p z0.heap.size N _ HDP.out (HG2.out.keeps B0.out) (Ow.nm_len (by rw [HNP.out.2]; exact HNP.out) (by rw [HNP.out.2, HVP.out, HV.out, HV'.out]; exact HN.out))).mono ?_
    rintro e w3 ⟨q, rfl, ⟨s', l', rfl, hs, hnl, hvl, hln⟩, g3⟩
    have HG3 := Lib.hid (HG2.out.trans g3)
    obtain ⟨-, a'', cap'', rfl, -, -, -⟩ := id hs
    have j0 := HG3.out.keeps R0.out
    have j1 := HG3.out.keeps R1.out
    have f0 := HG3.out.frozen R0.out E0.out
    have f1 := HG3.out.frozen R1.out E1.out
    have HS := Lib.hid hs
    have HL := Lib.hid (And.intro hnl (And.intro hvl hln))
    clear hs hnl hvl hln g3
    go_wp2_with fail
    refine bodyPost_ret (v := .agg #[.bool (decide (sg nx (Ow.val lp) < 0)), .slice a'' l'.length cap'']) (by simp [results, Tryd.results48, go_sem, j0, j1]) rfl ?_
    exact intz_stored (by rw [HVP.out, HV.out, HV'.out]; exact HEQ.out) rfl HS.out HL.out.1 HL.out.2.1 HL.out.2.2 (HG.out.trans HG3.out) (by omega) j0 j1 (by simp) (by simp)
  · have t0 : (nx == ny) = false := by simpa using heq
    have hne : decide (x < 0) ≠ decide (y < 0) := by rw [← HNX.out, ← HNY.out]; exact heq
    have HNE := Lib.hid hne
    clear hne heq
    go_wp2_with fail
    refine (compare_any l m _ _ _ (HD.out.later HG.out) (HD'.out.later HG.out) HNm.out HNm'.out).mono ?_
    rintro e w2 ⟨rfl, g2⟩
    have x0 := g2.keeps x0
    have x1 := g2.keeps x1
    have y0 := g2.keeps y0
    have y1 := g2.keeps y1
    have E0 := Lib.hid (g2.frozen R0.out E0.out)
    have E1 := Lib.hid (g2.frozen R1.out E1.out)
    have R0 := Lib.hid (g2.keeps R0.out)
    have R1 := Lib.hid (g2.keeps R1.out)
    have B0 := Lib.hid (g2.keeps B0.out)
    have HG := Lib.hid (HG.out.trans g2)
    clear g2
    by_cases hle : Ow.val m ≤ Ow.val l
    · have t1 : decide ((0 : Int) ≤ sgn (Ow.val l) (Ow.val m)) = true := by unfold sgn; simp; split <;> (try split) <;> omega
      have HLE := Lib.hid hle
      clear hle
      go_wp2_with fail
      refine (minus_any l m _ _ _ (HD.out.later HG.out) (HD'.out.later HG.out) hl (len_le HNm.out HNm'.out HLE.out) HLE.out).mono ?_
      rintro e w3 ⟨p, lp, rfl, hdp, hnp, hvp, g2⟩
      have HDP := Lib.hid hdp
      have HNP := Lib.hid hnp
      have HVP := Lib.hid hvp
      have HG2 := Lib.hid g2
      clear hdp hnp hvp g2
      go_wp2_with fail
      refine (signs1_int nx lp p z0.heap.size N _ HDP.out (HG2.out.keeps B0.out) (Ow.nm_len (by rw [HNP.out.2]; exact HNP.out) (by rw [HNP.out.2, HVP.out, HV.out, HV'.out]; have := HN.out; omega))).mono ?_
      rintro e w4 ⟨q, rfl, ⟨s', l', rfl, hs, hnl, hvl, hln⟩, g3⟩
      have HG3 := Lib.hid (HG2.out.trans g3)
      obtain ⟨-, a'', cap'', rfl, -, -, -⟩ := id hs
      have j0 := HG3.out.keeps R0.out
      have j1 := HG3.out.keeps R1.out
      have f0 := HG3.out.frozen R0.out E0.out
      have f1 := HG3.out.frozen R1.out E1.out
      have HS := Lib.hid hs
      have HL := Lib.hid (And.intro hnl (And.intro hvl hln))
      clear hs hnl hvl hln g3
      go_wp2_with fail
      refine bodyPost_ret (v := .agg #[.bool (decide (sg nx (Ow.val lp) < 0)), .slice a'' l'.length cap'']) (by simp [results, Tryd.results48, go_sem, j0, j1]) rfl ?_
      exact intz_stored (by rw [HVP.out, HV.out, HV'.out, HNX.out]; exact sg_diff x y HNE.out (by rw [← HV.out, ← HV'.out]; exact HLE.out)) rfl HS.out HL.out.1 HL.out.2.1 HL.out.2.2 (HG.out.trans HG3.out) (by omega) j0 j1 (by simp) (by simp)
    · have t1 : decide ((0 : Int) ≤ sgn (Ow.val l) (Ow.val m)) = false := by unfold sgn; simp; split <;> (try split) <;> omega
      have HLE := Lib.hid (show Ow.val l ≤ Ow.val m by omega)
      clear hle
      go_wp2_with fail
      refine (minus_any m l _ _ _ (HD'.out.later HG.out) (HD.out.later HG.out) hm (len_le HNm'.out HNm.out HLE.out) HLE.out).mono ?_
      rintro e w3 ⟨p, lp, rfl, hdp, hnp, hvp, g2⟩
      have HDP := Lib.hid hdp
      have HNP := Lib.hid hnp
      have HVP := Lib.hid hvp
      have HG2 := Lib.hid g2
      clear hdp hnp hvp g2
      go_wp2_with fail
      refine (signs1_int nx lp p z0.heap.size N _ HDP.out (HG2.out.keeps B0.out) (Ow.nm_len (by rw [HNP.out.2]; exact HNP.out) (by rw [HNP.out.2, HVP.out, HV.out, HV'.out]; have := HN.out; omega))).mono ?_
      rintro e w4 ⟨q, rfl, hI, g3⟩
      have HG3 := Lib.hid (HG2.out.trans g3)
      have HI := Lib.hid hI
      clear hI g3
      go_wp2_with fail
      refine (negative_any N _ q _ HI.out).mono ?_
      rintro e w5 ⟨q2, rfl, ⟨s', l', rfl, hs, hnl, hvl, hln⟩, g4⟩
      have HG4 := Lib.hid (HG3.out.trans g4)
      obtain ⟨nz, hnz⟩ : ∃ nz, nz = decide (-(sg nx (Ow.val lp)) < 0) := ⟨_, rfl⟩
      rw [← hnz]
      have HNZ := Lib.hid hnz
      clear hnz
      obtain ⟨-, a'', cap'', rfl, -, -, -⟩ := id hs
      have j0 := HG4.out.keeps R0.out
      have j1 := HG4.out.keeps R1.out
      have f0 := HG4.out.frozen R0.out E0.out
      have f1 := HG4.out.frozen R1.out E1.out
      have HS := Lib.hid hs
      have HL := Lib.hid (And.intro hnl (And.intro hvl hln))
      clear hs hnl hvl hln g4
      go_wp2_with fail
      refine bodyPost_ret (v := .agg #[.bool nz, .slice a'' l'.length cap'']) (by simp [results, Tryd.results48, go_sem, j0, j1]) rfl ?_
      exact intz_stored (z' := -(sg nx (Ow.val lp))) (by rw [HVP.out, HV.out, HV'.out, HNX.out]; exact sg_diff2 x y HNE.out (by rw [← HV.out, ← HV'.out]; exact HLE.out)) HNZ.out HS.out HL.out.1 HL.out.2.1 HL.out.2.2 (HG.out.trans HG4.out) (by omega) j0 j1 (by simp) (by simp)
end Go.Proofs.YtgalgldnhdiggaaDoor
