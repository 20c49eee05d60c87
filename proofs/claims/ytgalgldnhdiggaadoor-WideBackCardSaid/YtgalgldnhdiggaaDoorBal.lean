/- balanced: the rest of least absolute value. -/
import Derived.Test.YtgalgldnhdiggaaDoorDivi
import Derived.Test.YtgalgldnhdiggaaDoorOf
namespace Go.Proofs.YtgalgldnhdiggaaDoor
open Go.RowKit
set_option linter.unusedVariables false

theorem ne_of_cell {W : World} {B o : Nat} {v : Value} (h : W.cell? ⟨B, o, none⟩ = some v) : ¬ (B = W.heap.size) := fun e => Nat.lt_irrefl _ (e ▸ World.block_lt_of_cell? W _ h)
theorem keep2 {W : World} {B C o : Nat} {v a b : Value} (h : W.cell? ⟨B, o, none⟩ = some v) (hne : ¬ (B = C)) : ((W.setCell ⟨C, 0, none⟩ a).setCell ⟨C, 1, none⟩ b).cell? ⟨B, o, none⟩ = some v := by
  rw [cell_other (fun e => hne (congrArg Addr.block e).symm), cell_other (fun e => hne (congrArg Addr.block e).symm)]; exact h
theorem frozen_set (W : World) (p q : Addr) (u : Value) : (W.setCell p u).frozen? q = W.frozen? q := by simp [go_sem]
theorem froz0 (w : World) (a b : Value) (t : TypeId) : (w.alloc (.cells #[a, b] t)).frozen? ⟨w.heap.size, 0, none⟩ = false := by simp [go_sem]
theorem froz1 (w : World) (a b : Value) (t : TypeId) : (w.alloc (.cells #[a, b] t)).frozen? ⟨w.heap.size, 1, none⟩ = false := by simp [go_sem]
/-- The rest of least absolute value. -/
def bal (x y : Int) : Int := if y < 2 * (x % y) then x % y - y else x % y

set_option maxRecDepth 100000 in
set_option maxHeartbeats 3000000 in
theorem balanced_any (x y : Int) (u v : Value) (w : World) (hu : HasI 64 w u x) (hv : HasI 64 w v y) (hy : 0 < y) (hyR : y.natAbs < 4294967296 ^ 64) :
    Calls Tryd.prog 60 #[u, v] w (IntZ 65 (bal x y) w) := by
  obtain ⟨s, l, rfl, hd, hh⟩ := hu
  obtain ⟨t, m, rfl, hd', hh'⟩ := hv
  have HX := Lib.hid (show HasI 64 w _ x from ⟨s, l, rfl, hd, hh⟩)
  have HY := Lib.hid (show HasI 64 w _ y from ⟨t, m, rfl, hd', hh'⟩)
  have HYR := Lib.hid hyR
  obtain ⟨-, a, cap, rfl, -, -, -⟩ := hd
  obtain ⟨-, a', cap', rfl, -, -, -⟩ := hd'
  obtain ⟨nx, hnx⟩ : ∃ nx, nx = decide (x < 0) := ⟨_, rfl⟩
  obtain ⟨ny, hny⟩ : ∃ ny, ny = decide (y < 0) := ⟨_, rfl⟩
  rw [← hnx] at HX
  rw [← hny] at HY
  rw [← hnx, ← hny]
  obtain ⟨q, hq⟩ : ∃ q, q = x / y := ⟨_, rfl⟩
  obtain ⟨r, hr⟩ : ∃ r, r = x % y := ⟨_, rfl⟩
  have hr0 : 0 ≤ r := by rw [hr]; exact Int.emod_nonneg _ (by omega)
  have hr1 : r < y := by rw [hr]; exact Int.emod_lt_of_pos _ hy
  have HR := Lib.hid hr
  have HQQ := Lib.hid hq
  have HBAL := Lib.hid (show bal x y = if y < 2 * r then r - y else r by unfold bal; rw [← hr])
  clear hh hh' hnx hny hq hr hyR
  go_enter Tryd.func60, Tryd.ntmps60
  go_wp2_with fail
  obtain ⟨W, hW⟩ : ∃ W : World, W = ((w.alloc (.cells #[.bool nx, .slice a l.length cap] 56)).alloc (.cells #[.bool ny, .slice a' m.length cap'] 56)).alloc (.cells #[.bool false, .slice none 0 0] 56) := ⟨_, rfl⟩
  rw [← hW]
  have g1 : Gr w W := by rw [hW]; exact ((Gr.new w _).alloc _).alloc _
  have y0 : W.cell? ⟨w.heap.size + 1, 0, none⟩ = some (.bool ny) := by rw [hW]; simp [go_sem]
  have y1 : W.cell? ⟨w.heap.size + 1, 1, none⟩ = some (.slice a' m.length cap') := by rw [hW]; simp [go_sem]
  have R0 := Lib.hid (show W.cell? ⟨w.heap.size + 1 + 1, 0, none⟩ = some (.bool false) by rw [hW]; simp [go_sem])
  have R1 := Lib.hid (show W.cell? ⟨w.heap.size + 1 + 1, 1, none⟩ = some (.slice none 0 0) by rw [hW]; simp [go_sem])
  have F0 := Lib.hid (show W.frozen? ⟨w.heap.size + 1 + 1, 0, none⟩ = false by rw [hW]; simp [go_sem])
  have F1 := Lib.hid (show W.frozen? ⟨w.heap.size + 1 + 1, 1, none⟩ = false by rw [hW]; simp [go_sem])
  have HG := Lib.hid g1
  clear hW g1
  refine (divide_any x y _ _ _ (HX.out.later HG.out) (HY.out.later HG.out) (by omega)).mono ?_
  rintro e w1 ⟨uq, ur, rfl, hq, hr, g⟩
  rw [← HQQ.out] at hq
  rw [← HR.out] at hr
  have y0 := g.keeps y0
  have y1 := g.keeps y1
  have F0 := Lib.hid (g.frozen R0.out F0.out)
  have F1 := Lib.hid (g.frozen R1.out F1.out)
  have R0 := Lib.hid (g.keeps R0.out)
  have R1 := Lib.hid (g.keeps R1.out)
  have HG := Lib.hid (HG.out.trans g)
  obtain ⟨sq, lq, rfl, hdq, -⟩ := id hq
  obtain ⟨sr, lr, rfl, hdr, -⟩ := id hr
  obtain ⟨-, aq, cq, rfl, -, -, -⟩ := id hdq
  obtain ⟨-, ar, cr, rfl, -, -, -⟩ := id hdr
  obtain ⟨nq, hnq⟩ : ∃ b, b = decide (q < 0) := ⟨_, rfl⟩
  obtain ⟨nr, hnr⟩ : ∃ b, b = decide (r < 0) := ⟨_, rfl⟩
  rw [← hnq] at hq
  rw [← hnr] at hr
  rw [← hnq, ← hnr]
  have HI := Lib.hid hr
  clear hq hr g hdq hdr hnq hnr
  go_wp2_with fail
  obtain ⟨V, hV⟩ : ∃ V : World, V = (w1.alloc (.cells #[.bool nq, .slice aq lq.length cq] 56)).alloc (.cells #[.bool nr, .slice ar lr.length cr] 56) := ⟨_, rfl⟩
  rw [← hV]
  have gV : Gr w1 V := by rw [hV]; exact (Gr.new _ _).alloc _
  have z0 : V.drew.cell? ⟨w1.heap.size + 1, 0, none⟩ = some (.bool nr) := by rw [hV]; simp [go_sem]
  have z1 : V.drew.cell? ⟨w1.heap.size + 1, 1, none⟩ = some (.slice ar lr.length cr) := by rw [hV]; simp [go_sem]
  have g : Gr w1 V.drew := Below.drew gV
  clear hV gV
  have y0 := g.keeps y0
  have y1 := g.keeps y1
  have F0 := Lib.hid (g.frozen R0.out F0.out)
  have F1 := Lib.hid (g.frozen R1.out F1.out)
  have R0 := Lib.hid (g.keeps R0.out)
  have R1 := Lib.hid (g.keeps R1.out)
  have HG := Lib.hid (HG.out.trans g)
  have HI := Lib.hid (HI.out.later g)
  clear g
  have h64 : 64 ≤ 100000 := by omega
  have HSN := Lib.hid (show y.natAbs + (-r).natAbs < 4294967296 ^ 65 by
    have h1 := HYR.out
    have h2 : (-r).natAbs ≤ y.natAbs := by omega
    rw [Nat.pow_succ]; generalize 4294967296 ^ 64 = P at *; omega)
  have GV := Lib.hid (Gr.refl V.drew)
  have RV0 := R0
  have m1 : ¬ (w.heap.size + 1 = V.heap.size) := ne_of_cell y0
  have m2 : ¬ (V.heap.size = w.heap.size + 1) := fun e => m1 e.symm
  have m3 : ¬ (w1.heap.size + 1 = V.heap.size) := ne_of_cell z0
  have m4 : ¬ (V.heap.size = w1.heap.size + 1) := fun e => m3 e.symm
  go_region_held3 (fun w' => w'.cell? ⟨w.heap.size + 1, 0, none⟩ = some (.bool ny) ∧ w'.cell? ⟨w.heap.size + 1, 1, none⟩ = some (.slice a' m.length cap') ∧ w'.cell? ⟨w1.heap.size + 1, 0, none⟩ = some (.bool nr) ∧ w'.cell? ⟨w1.heap.size + 1, 1, none⟩ = some (.slice ar lr.length cr)) (first | exact ⟨y0, y1, z0, z1⟩ | exact ⟨(Gr.new V _).keeps y0, (Gr.new V _).keeps y1, (Gr.new V _).keeps z0, (Gr.new V _).keeps z1⟩ | exact ⟨(Gr.new _ _).keeps y0, (Gr.new _ _).keeps y1, (Gr.new _ _).keeps z0, (Gr.new _ _).keeps z1⟩ | exact ⟨keep2 y0 (by assumption), keep2 y1 (by assumption), keep2 z0 (by assumption), keep2 z1 (by assumption)⟩ | exact ⟨keep2 ((Gr.new _ _).keeps y0) (by assumption), keep2 ((Gr.new _ _).keeps y1) (by assumption), keep2 ((Gr.new _ _).keeps z0) (by assumption), keep2 ((Gr.new _ _).keeps z1) (by assumption)⟩ | go_keep)
    (first
      | (go_at_call 50; (with_reducible refine (negative_any 64 r _ _ (by first | exact HI.out | exact HI.out.later (Gr.new _ _))).mono ?_); rintro e wn ⟨vn, rfl, hn, g⟩; (first | have y0 := g.keeps y0 | have y0 := g.keeps ((Gr.new _ _).keeps y0)); (first | have y1 := g.keeps y1 | have y1 := g.keeps ((Gr.new _ _).keeps y1)); (first | have z0 := g.keeps z0 | have z0 := g.keeps ((Gr.new _ _).keeps z0)); (first | have z1 := g.keeps z1 | have z1 := g.keeps ((Gr.new _ _).keeps z1)); (try have b0 := g.keeps (two_cells _ _ _ _).1); (try have b1 := g.keeps (two_cells _ _ _ _).2); (try have fb0 := g.frozen (two_cells _ _ _ _).1 (froz0 _ _ _ _)); (try have fb1 := g.frozen (two_cells _ _ _ _).2 (froz1 _ _ _ _)); (try have fb0 := g.frozen b0 fb0); (try have fb1 := g.frozen b1 fb1); (try have b0 := g.keeps b0); (try have b1 := g.keeps b1); have F0 := Lib.hid (g.frozen (by first | exact R0.out | exact (Gr.new _ _).keeps R0.out) (by first | exact F0.out | exact (Gr.new _ _).frozen R0.out F0.out)); have F1 := Lib.hid (g.frozen (by first | exact R1.out | exact (Gr.new _ _).keeps R1.out) (by first | exact F1.out | exact (Gr.new _ _).frozen R1.out F1.out)); have R0 := Lib.hid (g.keeps (by first | exact R0.out | exact (Gr.new _ _).keeps R0.out)); have R1 := Lib.hid (g.keeps (by first | exact R1.out | exact (Gr.new _ _).keeps R1.out)); have HG := Lib.hid (show Gr w wn from (by first | exact HG.out.trans g | exact (HG.out.alloc _).trans g)); have m1 : ¬ (w.heap.size + 1 = wn.heap.size) := ne_of_cell y0; have m2 : ¬ (wn.heap.size = w.heap.size + 1) := fun e => m1 e.symm; have m3 : ¬ (w1.heap.size + 1 = wn.heap.size) := ne_of_cell z0; have m4 : ¬ (wn.heap.size = w1.heap.size + 1) := fun e => m3 e.symm; have GV := Lib.hid (show Gr V.drew wn from (by first | exact GV.out.trans g | exact (GV.out.alloc _).trans g)); have hsn := GV.out.size; have HNG := Lib.hid hn; clear hn g)
      | (go_at_call 48; (with_reducible refine (sum_any 64 65 y (-r) _ _ _ (HY.out.later (by first | exact HG.out | exact HG.out.alloc _)) (by first | exact HNG.out | exact HNG.out.later (Gr.new _ _)) h64 HSN.out).mono ?_); rintro e w' ⟨vs, rfl, ⟨s', l', rfl, hs, hnl, hvl, hln⟩, g⟩; (first | have y0 := g.keeps y0 | have y0 := g.keeps ((Gr.new _ _).keeps y0)); (first | have y1 := g.keeps y1 | have y1 := g.keeps ((Gr.new _ _).keeps y1)); (first | have z0 := g.keeps z0 | have z0 := g.keeps ((Gr.new _ _).keeps z0)); (first | have z1 := g.keeps z1 | have z1 := g.keeps ((Gr.new _ _).keeps z1)); (try have b0 := g.keeps (two_cells _ _ _ _).1); (try have b1 := g.keeps (two_cells _ _ _ _).2); (try have fb0 := g.frozen (two_cells _ _ _ _).1 (froz0 _ _ _ _)); (try have fb1 := g.frozen (two_cells _ _ _ _).2 (froz1 _ _ _ _)); (try have fb0 := g.frozen b0 fb0); (try have fb1 := g.frozen b1 fb1); (try have b0 := g.keeps b0); (try have b1 := g.keeps b1); have F0 := Lib.hid (g.frozen (by first | exact R0.out | exact (Gr.new _ _).keeps R0.out) (by first | exact F0.out | exact (Gr.new _ _).frozen R0.out F0.out)); have F1 := Lib.hid (g.frozen (by first | exact R1.out | exact (Gr.new _ _).keeps R1.out) (by first | exact F1.out | exact (Gr.new _ _).frozen R1.out F1.out)); have R0 := Lib.hid (g.keeps (by first | exact R0.out | exact (Gr.new _ _).keeps R0.out)); have R1 := Lib.hid (g.keeps (by first | exact R1.out | exact (Gr.new _ _).keeps R1.out)); have HG := Lib.hid (show Gr w w' from (by first | exact HG.out.trans g | exact (HG.out.alloc _).trans g)); have m1 : ¬ (w.heap.size + 1 = w'.heap.size) := ne_of_cell y0; have m2 : ¬ (w'.heap.size = w.heap.size + 1) := fun e => m1 e.symm; have m3 : ¬ (w1.heap.size + 1 = w'.heap.size) := ne_of_cell z0; have m4 : ¬ (w'.heap.size = w1.heap.size + 1) := fun e => m3 e.symm; have GV := Lib.hid (show Gr V.drew w' from (by first | exact GV.out.trans g | exact (GV.out.alloc _).trans g)); have hss := GV.out.size; obtain ⟨nl, hnl2⟩ : ∃ b, b = decide (y + -r < 0) := ⟨_, rfl⟩; have HL := Lib.hid (show HasI 65 w' _ (y + -r) from ⟨s', l', rfl, hs, hnl, hvl, hln⟩); rw [← hnl2] at HL; rw [← hnl2]; have HNL := Lib.hid hnl2; obtain ⟨-, a3, c3, rfl, -, -, -⟩ := id hs; clear hs hnl hvl hln hnl2 g)
)
  · go_wp2_with fail
    have GC0 : Gr w (w'.alloc (.cells #[.bool nl, .slice a3 l'.length c3] 56)) := HG.out.alloc _
    have gn : Gr w' (w'.alloc (.cells #[.bool nl, .slice a3 l'.length c3] 56)) := Gr.new _ _
    have HIC0 := HI.out.later (GV.out.trans gn)
    have HLC0 := HL.out.later gn
    have zc0 := gn.keeps z0
    have zc1 := gn.keeps z1
    have lc0 := (two_cells w' (.bool nl) (.slice a3 l'.length c3) 56).1
    have lc1 := (two_cells w' (.bool nl) (.slice a3 l'.length c3) 56).2
    have rc0 := gn.keeps R0.out
    have rc1 := gn.keeps R1.out
    have fc0 := gn.frozen R0.out F0.out
    have fc1 := gn.frozen R1.out F1.out
    clear gn
    have HIC := Lib.hid (HIC0.wider (M := 65) (by omega))
    have HLC := Lib.hid HLC0
    have HGC := Lib.hid GC0
    have z0 := zc0
    have z1 := zc1
    have k0 := lc0
    have k1 := lc1
    have R0 := Lib.hid rc0
    have R1 := Lib.hid rc1
    have F0 := Lib.hid fc0
    have F1 := Lib.hid fc1
    clear HIC0 HLC0 GC0 zc0 zc1 lc0 lc1 rc0 rc1 fc0 fc1
    refine (order_any 65 r (y + -r) _ _ _ HIC.out HLC.out).mono ?_
    rintro e w7 ⟨rfl, g⟩
    have z0 := g.keeps z0
    have z1 := g.keeps z1
    have k0 := g.keeps k0
    have k1 := g.keeps k1
    have F0 := Lib.hid (g.frozen R0.out F0.out)
    have F1 := Lib.hid (g.frozen R1.out F1.out)
    have R0 := Lib.hid (g.keeps R0.out)
    have R1 := Lib.hid (g.keeps R1.out)
    have HIC := Lib.hid (HIC.out.later g)
    have HLC := Lib.hid (HLC.out.later g)
    have HGC := Lib.hid (HGC.out.trans g)
    clear g
    by_cases hgt : y + -r < r
    · have t1 : decide ((0 : Int) < sgn r (y + -r)) = true := by unfold sgn; simp; split <;> (try split) <;> omega
      have HZ := Lib.hid (show -(y + -r) = bal x y by rw [HBAL.out, if_pos (by omega)]; omega)
      clear hgt
      go_wp2_with fail
      refine (negative_any 65 (y + -r) _ _ HLC.out).mono ?_
      rintro e w8 ⟨t9, rfl, ⟨s9, l9, rfl, hs, hnl9, hvl, hln⟩, g⟩
      have r0 := g.keeps R0.out
      have r1 := g.keeps R1.out
      have f0 := g.frozen R0.out F0.out
      have f1 := g.frozen R1.out F1.out
      have HGG := Lib.hid (HGC.out.trans g)
      obtain ⟨nz, hnz⟩ : ∃ nz, nz = decide (-(y + -r) < 0) := ⟨_, rfl⟩
      rw [← hnz]
      have HNZ := Lib.hid hnz
      obtain ⟨-, a9, c9, rfl, -, -, -⟩ := id hs
      have HS := Lib.hid hs
      have HE := Lib.hid (And.intro hnl9 (And.intro hvl hln))
      clear hs hnl9 hvl hln hnz g
      go_wp2_with fail
      refine bodyPost_ret (v := .agg #[.bool nz, .slice a9 l9.length c9]) (by simp [results, Tryd.results60, go_sem, r0, r1]) rfl ?_
      exact intz_stored HZ.out HNZ.out HS.out HE.out.1 HE.out.2.1 HE.out.2.2 HGG.out (by omega) r0 r1 (by simp) (by simp)
    · have t1 : decide ((0 : Int) < sgn r (y + -r)) = false := by unfold sgn; simp; split <;> (try split) <;> omega
      have HZ := Lib.hid (show r = bal x y by rw [HBAL.out, if_neg (by omega)])
      clear hgt
      have r0 := R0.out
      have r1 := R1.out
      have f0 := F0.out
      have f1 := F1.out
      obtain ⟨s9, l9, he, hs, hnl9, hvl, hln⟩ := HIC.out
      simp only [Value.agg.injEq, Array.mk.injEq, List.cons.injEq, Value.bool.injEq, and_true] at he
      have HS := Lib.hid (And.intro he (And.intro hs (And.intro hnl9 (And.intro hvl hln))))
      clear he hs hnl9 hvl hln
      go_wp2_with fail
      refine bodyPost_ret (v := .agg #[.bool nr, .slice ar lr.length cr]) (by simp [results, Tryd.results60, go_sem, r0, r1]) rfl ?_
      exact intz_stored (s := .slice ar lr.length cr) HZ.out HS.out.1.1 (by rw [HS.out.1.2]; exact HS.out.2.1) HS.out.2.2.1 HS.out.2.2.2.1 HS.out.2.2.2.2 HGC.out (by omega) r0 r1 (by simp) (by simp)
  · go_wp2_with fail
    have hle : V.drew.heap.size ≤ wn.heap.size := hsn
    have hww : w.heap.size + 1 + 1 < V.drew.heap.size := World.block_lt_of_cell? V.drew _ RV0.out
    have GC0 : Gr w ((w'.setCell ⟨wn.heap.size, 0, none⟩ (.bool nl)).setCell ⟨wn.heap.size, 1, none⟩ (.slice a3 l'.length c3)) := (HG.out.setCell (p := ⟨wn.heap.size, 0, none⟩) (by show _ ≤ wn.heap.size; omega) _).setCell (p := ⟨wn.heap.size, 1, none⟩) (by show _ ≤ wn.heap.size; omega) _
    have HIC0 := HI.out.later ((GV.out.setCell (p := ⟨wn.heap.size, 0, none⟩) hle (.bool nl)).setCell (p := ⟨wn.heap.size, 1, none⟩) hle (.slice a3 l'.length c3))
    have HLC0 := (HL.out.set b0 (by simp) (.bool nl)).set ((cell_other (by simp) (.bool nl)).trans b1) (by simp) (.slice a3 l'.length c3)
    have zc0 := keep2 (a := .bool nl) (b := .slice a3 l'.length c3) z0 (show ¬ (w1.heap.size + 1 = wn.heap.size) by assumption)
    have zc1 := keep2 (a := .bool nl) (b := .slice a3 l'.length c3) z1 (show ¬ (w1.heap.size + 1 = wn.heap.size) by assumption)
    have lc0 := (put2 b0 b1 (.bool nl) (.slice a3 l'.length c3)).1
    have lc1 := (put2 b0 b1 (.bool nl) (.slice a3 l'.length c3)).2
    have hrb : ¬ (w.heap.size + 1 + 1 = wn.heap.size) := by omega
    have rc0 := keep2 (a := .bool nl) (b := .slice a3 l'.length c3) R0.out hrb
    have rc1 := keep2 (a := .bool nl) (b := .slice a3 l'.length c3) R1.out hrb
    have fc0 : ((w'.setCell ⟨wn.heap.size, 0, none⟩ (.bool nl)).setCell ⟨wn.heap.size, 1, none⟩ (.slice a3 l'.length c3)).frozen? ⟨w.heap.size + 1 + 1, 0, none⟩ = false := by simp only [frozen_set]; exact F0.out
    have fc1 : ((w'.setCell ⟨wn.heap.size, 0, none⟩ (.bool nl)).setCell ⟨wn.heap.size, 1, none⟩ (.slice a3 l'.length c3)).frozen? ⟨w.heap.size + 1 + 1, 1, none⟩ = false := by simp only [frozen_set]; exact F1.out
    have HIC := Lib.hid (HIC0.wider (M := 65) (by omega))
    have HLC := Lib.hid HLC0
    have HGC := Lib.hid GC0
    have z0 := zc0
    have z1 := zc1
    have k0 := lc0
    have k1 := lc1
    have R0 := Lib.hid rc0
    have R1 := Lib.hid rc1
    have F0 := Lib.hid fc0
    have F1 := Lib.hid fc1
    clear HIC0 HLC0 GC0 zc0 zc1 lc0 lc1 rc0 rc1 fc0 fc1
    refine (order_any 65 r (y + -r) _ _ _ HIC.out HLC.out).mono ?_
    rintro e w7 ⟨rfl, g⟩
    have z0 := g.keeps z0
    have z1 := g.keeps z1
    have k0 := g.keeps k0
    have k1 := g.keeps k1
    have F0 := Lib.hid (g.frozen R0.out F0.out)
    have F1 := Lib.hid (g.frozen R1.out F1.out)
    have R0 := Lib.hid (g.keeps R0.out)
    have R1 := Lib.hid (g.keeps R1.out)
    have HIC := Lib.hid (HIC.out.later g)
    have HLC := Lib.hid (HLC.out.later g)
    have HGC := Lib.hid (HGC.out.trans g)
    clear g
    by_cases hgt : y + -r < r
    · have t1 : decide ((0 : Int) < sgn r (y + -r)) = true := by unfold sgn; simp; split <;> (try split) <;> omega
      have HZ := Lib.hid (show -(y + -r) = bal x y by rw [HBAL.out, if_pos (by omega)]; omega)
      clear hgt
      go_wp2_with fail
      refine (negative_any 65 (y + -r) _ _ HLC.out).mono ?_
      rintro e w8 ⟨t9, rfl, ⟨s9, l9, rfl, hs, hnl9, hvl, hln⟩, g⟩
      have r0 := g.keeps R0.out
      have r1 := g.keeps R1.out
      have f0 := g.frozen R0.out F0.out
      have f1 := g.frozen R1.out F1.out
      have HGG := Lib.hid (HGC.out.trans g)
      obtain ⟨nz, hnz⟩ : ∃ nz, nz = decide (-(y + -r) < 0) := ⟨_, rfl⟩
      rw [← hnz]
      have HNZ := Lib.hid hnz
      obtain ⟨-, a9, c9, rfl, -, -, -⟩ := id hs
      have HS := Lib.hid hs
      have HE := Lib.hid (And.intro hnl9 (And.intro hvl hln))
      clear hs hnl9 hvl hln hnz g
      go_wp2_with fail
      refine bodyPost_ret (v := .agg #[.bool nz, .slice a9 l9.length c9]) (by simp [results, Tryd.results60, go_sem, r0, r1]) rfl ?_
      exact intz_stored HZ.out HNZ.out HS.out HE.out.1 HE.out.2.1 HE.out.2.2 HGG.out (by omega) r0 r1 (by simp) (by simp)
    · have t1 : decide ((0 : Int) < sgn r (y + -r)) = false := by unfold sgn; simp; split <;> (try split) <;> omega
      have HZ := Lib.hid (show r = bal x y by rw [HBAL.out, if_neg (by omega)])
      clear hgt
      have r0 := R0.out
      have r1 := R1.out
      have f0 := F0.out
      have f1 := F1.out
      obtain ⟨s9, l9, he, hs, hnl9, hvl, hln⟩ := HIC.out
      simp only [Value.agg.injEq, Array.mk.injEq, List.cons.injEq, Value.bool.injEq, and_true] at he
      have HS := Lib.hid (And.intro he (And.intro hs (And.intro hnl9 (And.intro hvl hln))))
      clear he hs hnl9 hvl hln
      go_wp2_with fail
      refine bodyPost_ret (v := .agg #[.bool nr, .slice ar lr.length cr]) (by simp [results, Tryd.results60, go_sem, r0, r1]) rfl ?_
      exact intz_stored (s := .slice ar lr.length cr) HZ.out HS.out.1.1 (by rw [HS.out.1.2]; exact HS.out.2.1) HS.out.2.2.1 HS.out.2.2.2.1 HS.out.2.2.2.2 HGC.out (by omega) r0 r1 (by simp) (by simp)
  · go_wp2_with fail
    have hle : V.drew.heap.size ≤ V.heap.size := Nat.le_refl _
    have hww : w.heap.size + 1 + 1 < V.drew.heap.size := World.block_lt_of_cell? V.drew _ RV0.out
    have GC0 : Gr w ((w'.setCell ⟨V.heap.size, 0, none⟩ (.bool nl)).setCell ⟨V.heap.size, 1, none⟩ (.slice a3 l'.length c3)) := (HG.out.setCell (p := ⟨V.heap.size, 0, none⟩) (by show _ ≤ V.heap.size; omega) _).setCell (p := ⟨V.heap.size, 1, none⟩) (by show _ ≤ V.heap.size; omega) _
    have HIC0 := HI.out.later ((GV.out.setCell (p := ⟨V.heap.size, 0, none⟩) hle (.bool nl)).setCell (p := ⟨V.heap.size, 1, none⟩) hle (.slice a3 l'.length c3))
    have HLC0 := (HL.out.set b0 (by simp) (.bool nl)).set ((cell_other (by simp) (.bool nl)).trans b1) (by simp) (.slice a3 l'.length c3)
    have zc0 := keep2 (a := .bool nl) (b := .slice a3 l'.length c3) z0 (show ¬ (w1.heap.size + 1 = V.heap.size) by assumption)
    have zc1 := keep2 (a := .bool nl) (b := .slice a3 l'.length c3) z1 (show ¬ (w1.heap.size + 1 = V.heap.size) by assumption)
    have lc0 := (put2 b0 b1 (.bool nl) (.slice a3 l'.length c3)).1
    have lc1 := (put2 b0 b1 (.bool nl) (.slice a3 l'.length c3)).2
    have hrb : ¬ (w.heap.size + 1 + 1 = V.heap.size) := by omega
    have rc0 := keep2 (a := .bool nl) (b := .slice a3 l'.length c3) R0.out hrb
    have rc1 := keep2 (a := .bool nl) (b := .slice a3 l'.length c3) R1.out hrb
    have fc0 : ((w'.setCell ⟨V.heap.size, 0, none⟩ (.bool nl)).setCell ⟨V.heap.size, 1, none⟩ (.slice a3 l'.length c3)).frozen? ⟨w.heap.size + 1 + 1, 0, none⟩ = false := by simp only [frozen_set]; exact F0.out
    have fc1 : ((w'.setCell ⟨V.heap.size, 0, none⟩ (.bool nl)).setCell ⟨V.heap.size, 1, none⟩ (.slice a3 l'.length c3)).frozen? ⟨w.heap.size + 1 + 1, 1, none⟩ = false := by simp only [frozen_set]; exact F1.out
    have HIC := Lib.hid (HIC0.wider (M := 65) (by omega))
    have HLC := Lib.hid HLC0
    have HGC := Lib.hid GC0
    have z0 := zc0
    have z1 := zc1
    have k0 := lc0
    have k1 := lc1
    have R0 := Lib.hid rc0
    have R1 := Lib.hid rc1
    have F0 := Lib.hid fc0
    have F1 := Lib.hid fc1
    clear HIC0 HLC0 GC0 zc0 zc1 lc0 lc1 rc0 rc1 fc0 fc1
    refine (order_any 65 r (y + -r) _ _ _ HIC.out HLC.out).mono ?_
    rintro e w7 ⟨rfl, g⟩
    have z0 := g.keeps z0
    have z1 := g.keeps z1
    have k0 := g.keeps k0
    have k1 := g.keeps k1
    have F0 := Lib.hid (g.frozen R0.out F0.out)
    have F1 := Lib.hid (g.frozen R1.out F1.out)
    have R0 := Lib.hid (g.keeps R0.out)
    have R1 := Lib.hid (g.keeps R1.out)
    have HIC := Lib.hid (HIC.out.later g)
    have HLC := Lib.hid (HLC.out.later g)
    have HGC := Lib.hid (HGC.out.trans g)
    clear g
    by_cases hgt : y + -r < r
    · have t1 : decide ((0 : Int) < sgn r (y + -r)) = true := by unfold sgn; simp; split <;> (try split) <;> omega
      have HZ := Lib.hid (show -(y + -r) = bal x y by rw [HBAL.out, if_pos (by omega)]; omega)
      clear hgt
      go_wp2_with fail
      refine (negative_any 65 (y + -r) _ _ HLC.out).mono ?_
      rintro e w8 ⟨t9, rfl, ⟨s9, l9, rfl, hs, hnl9, hvl, hln⟩, g⟩
      have r0 := g.keeps R0.out
      have r1 := g.keeps R1.out
      have f0 := g.frozen R0.out F0.out
      have f1 := g.frozen R1.out F1.out
      have HGG := Lib.hid (HGC.out.trans g)
      obtain ⟨nz, hnz⟩ : ∃ nz, nz = decide (-(y + -r) < 0) := ⟨_, rfl⟩
      rw [← hnz]
      have HNZ := Lib.hid hnz
      obtain ⟨-, a9, c9, rfl, -, -, -⟩ := id hs
      have HS := Lib.hid hs
      have HE := Lib.hid (And.intro hnl9 (And.intro hvl hln))
      clear hs hnl9 hvl hln hnz g
      go_wp2_with fail
      refine bodyPost_ret (v := .agg #[.bool nz, .slice a9 l9.length c9]) (by simp [results, Tryd.results60, go_sem, r0, r1]) rfl ?_
      exact intz_stored HZ.out HNZ.out HS.out HE.out.1 HE.out.2.1 HE.out.2.2 HGG.out (by omega) r0 r1 (by simp) (by simp)
    · have t1 : decide ((0 : Int) < sgn r (y + -r)) = false := by unfold sgn; simp; split <;> (try split) <;> omega
      have HZ := Lib.hid (show r = bal x y by rw [HBAL.out, if_neg (by omega)])
      clear hgt
      have r0 := R0.out
      have r1 := R1.out
      have f0 := F0.out
      have f1 := F1.out
      obtain ⟨s9, l9, he, hs, hnl9, hvl, hln⟩ := HIC.out
      simp only [Value.agg.injEq, Array.mk.injEq, List.cons.injEq, Value.bool.injEq, and_true] at he
      have HS := Lib.hid (And.intro he (And.intro hs (And.intro hnl9 (And.intro hvl hln))))
      clear he hs hnl9 hvl hln
      go_wp2_with fail
      refine bodyPost_ret (v := .agg #[.bool nr, .slice ar lr.length cr]) (by simp [results, Tryd.results60, go_sem, r0, r1]) rfl ?_
      exact intz_stored (s := .slice ar lr.length cr) HZ.out HS.out.1.1 (by rw [HS.out.1.2]; exact HS.out.2.1) HS.out.2.2.1 HS.out.2.2.2.1 HS.out.2.2.2.2 HGC.out (by omega) r0 r1 (by simp) (by simp)
end Go.Proofs.YtgalgldnhdiggaaDoor
