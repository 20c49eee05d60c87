/- product, and unit. -/
import Derived.Test.YtgalgldnhdiggaaDoorTimes
namespace Go.Proofs.YtgalgldnhdiggaaDoor
open Go.RowKit
set_option linter.unusedVariables false

/-- The closure that gives a sign. -/
theorem signs_box (neg : Bool) (w : World) :
    Calls Tryd.prog 34 #[.bool neg] w fun e w' => ∃ p, e = .returned (.func (.func 62) #[] #[.pointer (some ⟨p, 0, none⟩)]) ∧ w'.cell? ⟨p, 0, none⟩ = some (.bool neg) ∧ Gr w w' := by
  refine (signs_any neg w).mono ?_
  rintro e w' ⟨rfl, rfl⟩
  exact ⟨_, rfl, cell_new _ _ _, Gr.new _ _⟩
theorem sg_mul (x y : Int) : sg (decide (x < 0) != decide (y < 0)) (x.natAbs * y.natAbs) = x * y := by
  unfold sg
  by_cases h1 : x < 0 <;> by_cases h2 : y < 0
  · have hx : (x.natAbs : Int) = -x := by omega
    have hy : (y.natAbs : Int) = -y := by omega
    simp [h1, h2, hx, hy, Int.neg_mul_neg]
  · have hx : (x.natAbs : Int) = -x := by omega
    have hy : (y.natAbs : Int) = y := by omega
    simp [h1, h2, hx, hy, Int.neg_mul]
  · have hx : (x.natAbs : Int) = x := by omega
    have hy : (y.natAbs : Int) = -y := by omega
    simp [h1, h2, hx, hy, Int.mul_neg]
  · have hx : (x.natAbs : Int) = x := by omega
    have hy : (y.natAbs : Int) = y := by omega
    simp [h1, h2, hx, hy]
set_option maxRecDepth 100000 in
set_option maxHeartbeats 1000000 in
theorem unit_any (w : World) : Calls Tryd.prog 78 #[] w fun e w' => ∃ v, e = .returned v ∧ HasD w' v [1] ∧ Gr w w' := by
  go_enter Tryd.func78, Tryd.ntmps78
  go_wp2_with fail
  go_ret
  refine ⟨_, rfl, ⟨by intro x hx; rcases List.mem_singleton.1 hx; omega, some ⟨w.heap.size, 0, none⟩, 1, rfl, by simp, by omega, fun i hi => ⟨w.heap.size, 0, rfl, ?_⟩⟩, Gr.new _ _⟩
  obtain rfl : i = 0 := by simp at hi; omega
  rw [cell_new]; rfl

set_option maxRecDepth 100000 in
set_option maxHeartbeats 2000000 in
theorem product_any (N : Nat) (x y : Int) (u v : Value) (w : World) (hu : HasI 64 w u x) (hv : HasI 64 w v y) (hN : x.natAbs * y.natAbs < 4294967296 ^ N) :
    Calls Tryd.prog 52 #[u, v] w (IntZ N (x * y) w) := by
  obtain ⟨s, l, rfl, hd, hn, hval, hl⟩ := hu
  obtain ⟨t, m, rfl, hd', hn', hval', hm⟩ := hv
  have HD := Lib.hid hd
  have HD' := Lib.hid hd'
  have HV := Lib.hid hval
  have HV' := Lib.hid hval'
  have HN := Lib.hid hN
  have HSG := Lib.hid (sg_mul x y)
  obtain ⟨nx, hnx⟩ : ∃ nx, nx = decide (x < 0) := ⟨_, rfl⟩
  obtain ⟨ny, hny⟩ : ∃ ny, ny = decide (y < 0) := ⟨_, rfl⟩
  rw [← hnx, ← hny] at HSG ⊢
  clear hd hd' hn hn' hval hval' hnx hny hN
  obtain ⟨-, a, cap, rfl, -, -, -⟩ := id HD.out
  obtain ⟨-, a', cap', rfl, -, -, -⟩ := id HD'.out
  go_enter Tryd.func52, Tryd.ntmps52
  go_wp2_with fail
  obtain ⟨W, hW⟩ : ∃ W : World, W = ((w.alloc (.cells #[.bool nx, .slice a l.length cap] 56)).alloc (.cells #[.bool ny, .slice a' m.length cap'] 56)).alloc (.cells #[.bool false, .slice none 0 0] 56) := ⟨_, rfl⟩
  rw [← hW]
  have g1 : Gr w W := by rw [hW]; exact ((Gr.new w _).alloc _).alloc _
  have x0 : W.cell? ⟨w.heap.size, 0, none⟩ = some (.bool nx) := by rw [hW]; simp [go_sem]
  have x1 : W.cell? ⟨w.heap.size, 1, none⟩ = some (.slice a l.length cap) := by rw [hW]; simp [go_sem]
  have y0 : W.cell? ⟨w.heap.size + 1, 0, none⟩ = some (.bool ny) := by rw [hW]; simp [go_sem]
  have y1 : W.cell? ⟨w.heap.size + 1, 1, none⟩ = some (.slice a' m.length cap') := by rw [hW]; simp [go_sem]
  have r0 : W.cell? ⟨w.heap.size + 1 + 1, 0, none⟩ = some (.bool false) := by rw [hW]; simp [go_sem]
  have r1 : W.cell? ⟨w.heap.size + 1 + 1, 1, none⟩ = some (.slice none 0 0) := by rw [hW]; simp [go_sem]
  have e0 : W.frozen? ⟨w.heap.size + 1 + 1, 0, none⟩ = false := by rw [hW]; simp [go_sem]
  have e1 : W.frozen? ⟨w.heap.size + 1 + 1, 1, none⟩ = false := by rw [hW]; simp [go_sem]
  clear hW
  have x0 : W.drew.cell? ⟨w.heap.size, 0, none⟩ = some (.bool nx) := x0
  have x1 : W.drew.cell? ⟨w.heap.size, 1, none⟩ = some (.slice a l.length cap) := x1
  have y0 : W.drew.cell? ⟨w.heap.size + 1, 0, none⟩ = some (.bool ny) := y0
  have y1 : W.drew.cell? ⟨w.heap.size + 1, 1, none⟩ = some (.slice a' m.length cap') := y1
  have R0 := Lib.hid (show W.drew.cell? ⟨w.heap.size + 1 + 1, 0, none⟩ = some (.bool false) from r0)
  have R1 := Lib.hid (show W.drew.cell? ⟨w.heap.size + 1 + 1, 1, none⟩ = some (.slice none 0 0) from r1)
  have F0 := Lib.hid (show W.drew.frozen? ⟨w.heap.size + 1 + 1, 0, none⟩ = false from e0)
  have F1 := Lib.hid (show W.drew.frozen? ⟨w.heap.size + 1 + 1, 1, none⟩ = false from e1)
  have HG := Lib.hid (show Gr w W.drew from Below.drew g1)
  have n1 : ¬ (w.heap.size = w.heap.size + 1 + 1) := by omega
  have n2 : ¬ (w.heap.size + 1 + 1 = w.heap.size) := by omega
  clear g1 r0 r1 e0 e1
  go_region_held3 (fun w' => w'.cell? ⟨w.heap.size, 0, none⟩ = some (.bool nx) ∧ w'.cell? ⟨w.heap.size, 1, none⟩ = some (.slice a l.length cap) ∧ w'.cell? ⟨w.heap.size + 1, 0, none⟩ = some (.bool ny) ∧ w'.cell? ⟨w.heap.size + 1, 1, none⟩ = some (.slice a' m.length cap')) (first | exact ⟨x0, x1, y0, y1⟩ | go_keep)
    (first
      | (go_at_call 34; (with_reducible refine (signs_box _ _).mono ?_); rintro e w' ⟨p, rfl, hb, g⟩; have x0 := g.keeps x0; have x1 := g.keeps x1; have y0 := g.keeps y0; have y1 := g.keeps y1; have HB := Lib.hid hb; (try have HP := Lib.hid (HP.out.later g)); have F0 := Lib.hid (g.frozen R0.out F0.out); have F1 := Lib.hid (g.frozen R1.out F1.out); have R0 := Lib.hid (g.keeps R0.out); have R1 := Lib.hid (g.keeps R1.out); have HG := Lib.hid (HG.out.trans g); clear hb g)
      | (go_at_call 76; (with_reducible refine (times_any l m _ _ _ (HD.out.later HG.out) (HD'.out.later HG.out) hl hm).mono ?_); rintro e w' ⟨q, lq, rfl, hdq, hnq, hvq, g⟩; have x0 := g.keeps x0; have x1 := g.keeps x1; have y0 := g.keeps y0; have y1 := g.keeps y1; (try have HB := Lib.hid (g.keeps HB.out)); have HP := Lib.hid hdq; have HNQ := Lib.hid (show (Ow.tr lq).length ≤ N from Ow.nm_len (by rw [hnq.2]; exact hnq) (by rw [hnq.2, hvq, HV.out, HV'.out]; exact HN.out)); have HVQ := Lib.hid hvq; have F0 := Lib.hid (g.frozen R0.out F0.out); have F1 := Lib.hid (g.frozen R1.out F1.out); have R0 := Lib.hid (g.keeps R0.out); have R1 := Lib.hid (g.keeps R1.out); have HG := Lib.hid (HG.out.trans g); clear hdq hnq hvq g)
      | (go_at_call 62; (with_reducible refine (signs1_int _ lq q p N _ HP.out HB.out HNQ.out).mono ?_); rintro e w' ⟨t, rfl, ⟨s', l', rfl, hs, hnl, hvl, hln⟩, g⟩; have x0 := g.keeps x0; have x1 := g.keeps x1; have y0 := g.keeps y0; have y1 := g.keeps y1; have f0 := g.frozen R0.out F0.out; have f1 := g.frozen R1.out F1.out; have r0 := g.keeps R0.out; have r1 := g.keeps R1.out; have HGG := Lib.hid (HG.out.trans g); obtain ⟨nz, hnz⟩ : ∃ nz, nz = decide (sg (!(nx == ny)) (Ow.val lq) < 0) := ⟨_, rfl⟩; rw [← hnz]; have HNZ := Lib.hid hnz; obtain ⟨-, a'', cap'', rfl, -, -, -⟩ := id hs; have HS := Lib.hid hs; have HE := Lib.hid (And.intro hnl (And.intro hvl hln)); clear hs hnl hvl hln hnz g))
  all_goals
    go_wp2_with fail
    refine bodyPost_ret (v := .agg #[.bool nz, .slice a'' l'.length cap'']) (by simp [results, Tryd.results52, go_sem, r0, r1]) rfl ?_
    exact intz_stored (by rw [HVQ.out, HV.out, HV'.out]; exact HSG.out) HNZ.out HS.out HE.out.1 HE.out.2.1 HE.out.2.2 HGG.out (by omega) r0 r1 (by simp) (by simp)
end Go.Proofs.YtgalgldnhdiggaaDoor
