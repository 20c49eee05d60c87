import Derived.Test.YtlfiakpmnkhcdaaGreatLWC
import Derived.Deep.RegionHeld3
import Derived.Test.YtlfiakpmnkhcdaaGreatLWB
namespace Ow
set_option linter.unusedVariables false
end Ow
namespace Go.Proofs.YtlfiakpmnkhcdaaGreat
open Go.RowKit
set_option linter.unusedVariables false
end Go.Proofs.YtlfiakpmnkhcdaaGreat
namespace Ow
set_option linter.unusedVariables false
end Ow
namespace Go.Proofs.YtlfiakpmnkhcdaaGreat
open Go.RowKit
set_option linter.unusedVariables false
end Go.Proofs.YtlfiakpmnkhcdaaGreat
namespace Ow
set_option linter.unusedVariables false
theorem tr_pos {l : List Nat} (h : Dg l) : 0 < (tr l).length ↔ 0 < val l := by
  constructor
  · intro h1
    have := val_ge (tr l) (tr_tr l) (by intro e; rw [e] at h1; simp at h1)
    rw [val_tr] at this
    exact Nat.lt_of_lt_of_le (Nat.pow_pos (by omega)) this
  · intro h1
    rcases Nat.eq_zero_or_pos (tr l).length with h2 | h2
    · have := List.length_eq_zero_iff.1 h2
      rw [← val_tr, this] at h1; simp [val] at h1
    · exact h2
theorem nm_len {l : List Nat} (h : Nm l) {N : Nat} (hv : val l < 4294967296 ^ N) : l.length ≤ N := by
  rcases Nat.eq_zero_or_pos l.length with h0 | h0
  · omega
  · have := val_ge l h.2 (by intro e; rw [e] at h0; simp at h0)
    have := (Nat.pow_lt_pow_iff_right (by omega : 1 < 4294967296)).1 (Nat.lt_of_le_of_lt this hv)
    omega
end Ow
namespace Go.Proofs.YtlfiakpmnkhcdaaGreat
open Go.RowKit
set_option linter.unusedVariables false
def HasI (N : Nat) (W : World) (v : Value) (z : Int) : Prop := ∃ s l, v = .agg #[.bool (decide (z < 0)), s] ∧ HasD W s l ∧ Ow.Nm l ∧ Ow.val l = z.natAbs ∧ l.length ≤ N
theorem HasI.later {N : Nat} {W W' : World} {v : Value} {z : Int} (h : HasI N W v z) (hg : Gr W W') : HasI N W' v z := by
  obtain ⟨s, l, h1, h2, h3⟩ := h
  exact ⟨s, l, h1, h2.later hg, h3⟩
def IntZ (N : Nat) (z : Int) (w : World) (e : Ending) (w' : World) : Prop := ∃ v, e = .returned v ∧ HasI N w' v z ∧ Gr w w'
theorem Gr.frozen {a b : World} (h : Gr a b) {p : Addr} {v : Value} (hv : a.cell? p = some v) (hf : a.frozen? p = false) : b.frozen? p = false :=
  (World.frozen?_of_block (w := a) (h.block p.block (World.block_lt_of_cell? a p hv))).trans hf
theorem HasD.setAt {W : World} {v : Value} {l : List Nat} {p : Addr} {u0 : Value} (h : HasD W v l) (hc : W.cell? p = some u0) (hu : ∀ n, u0 ≠ .int .u32 n) (u : Value) : HasD (W.setCell p u) v l := by
  obtain ⟨hd, a, cap, rfl, h1, h2, h3⟩ := h
  refine ⟨hd, a, cap, rfl, h1, h2, fun i hi => ?_⟩
  obtain ⟨b, o, e, hc2⟩ := h3 i hi
  refine ⟨b, o, e, ?_⟩
  rw [World.cell?_setCell_other W p ⟨b, o + i, none⟩ u (fun e => by rw [e, hc2] at hc; exact hu _ (Option.some.inj hc).symm)]
  exact hc2
theorem intz_stored {N : Nat} {z z' : Int} {w w' : World} {B : Nat} {neg : Bool} {s u0 u1 : Value} {l : List Nat} (hz : z' = z) (hneg : neg = decide (z' < 0)) (hs : HasD w' s l) (hn : Ow.Nm l) (hv : Ow.val l = z'.natAbs) (hl : l.length ≤ N) (hG : Gr w w') (hB : w.heap.size ≤ B)
    (j0 : w'.cell? ⟨B, 0, none⟩ = some u0) (j1 : w'.cell? ⟨B, 1, none⟩ = some u1) (h0 : ∀ n, u0 ≠ .int .u32 n) (h1 : ∀ n, u1 ≠ .int .u32 n) :
    IntZ N z w (.returned (.agg #[.bool neg, s])) ((w'.setCell ⟨B, 0, none⟩ (.bool neg)).setCell ⟨B, 1, none⟩ s) := by
  subst hz hneg
  refine ⟨_, rfl, ⟨s, l, rfl, ?_, hn, hv, hl⟩, (hG.setCell (p := ⟨B, 0, none⟩) hB _).setCell (p := ⟨B, 1, none⟩) hB _⟩
  exact (hs.setAt j0 h0 _).setAt ((World.cell?_setCell_other w' ⟨B, 0, none⟩ ⟨B, 1, none⟩ _ (by simp)).trans j1) h1 _
def sg (neg : Bool) (n : Nat) : Int := if neg then -(n : Int) else n
theorem sg_neg (neg : Bool) (n : Nat) : decide (sg neg n < 0) = (neg && decide (0 < n)) := by
  unfold sg; cases neg
  · simp
  · simp [Int.natCast_pos]
theorem sg_abs (neg : Bool) (n : Nat) : (sg neg n).natAbs = n := by unfold sg; cases neg <;> simp
theorem sg_self (z : Int) : sg (decide (z < 0)) z.natAbs = z := by
  unfold sg
  by_cases h : z < 0
  · simp [h]; try omega
  · simp [h]; try omega
theorem sg_not (z : Int) : sg (!decide (z < 0)) z.natAbs = -z := by
  unfold sg
  by_cases h : z < 0
  · simp [h]; omega
  · simp [h]; omega
theorem signs1_int (neg : Bool) (l : List Nat) (v : Value) (B N : Nat) (w : World) (h : HasD w v l) (hB : w.cell? ⟨B, 0, none⟩ = some (.bool neg)) (hN : (Ow.tr l).length ≤ N) :
    Calls Tryz.prog 141 #[v, .pointer (some ⟨B, 0, none⟩)] w (IntZ N (sg neg (Ow.val l)) w) := by
  refine (signs1_any neg l v B w h hB).mono ?_
  rintro e w' ⟨s, rfl, h1, h2⟩
  refine ⟨_, rfl, ⟨s, Ow.tr l, ?_, h1, Ow.nm_tr h.1, by rw [Ow.val_tr, sg_abs], hN⟩, h2⟩
  have hp := Ow.tr_pos h.1
  rw [sg_neg, show decide (0 < (Ow.tr l).length) = decide (0 < Ow.val l) from by simp [hp]]
set_option maxRecDepth 100000 in
set_option maxHeartbeats 1000000 in
theorem negative_any (N : Nat) (z : Int) (v : Value) (w : World) (h : HasI N w v z) :
    Calls Tryz.prog 164 #[v] w (IntZ N (-z) w) := by
  obtain ⟨s, l, rfl, hd, hn, hval, hN⟩ := h
  have HD := Lib.hid hd
  have HN := Lib.hid hn
  have HV := Lib.hid hval
  have HNN := Lib.hid (show (Ow.tr l).length ≤ N by rw [hn.2]; exact hN)
  clear hd hn hval hN
  obtain ⟨neg, hneg⟩ : ∃ neg, neg = decide (z < 0) := ⟨_, rfl⟩
  rw [← hneg]
  have HNEG := Lib.hid hneg
  clear hneg
  go_enter Tryz.func164, Tryz.ntmps164
  go_wp2_with fail
  obtain ⟨W, hW⟩ : ∃ W, W = (w.alloc (.cells #[.bool neg, s] 121)).alloc (.cells #[.bool false, .slice none 0 0] 121) := ⟨_, rfl⟩
  rw [← hW]
  have g1 : Gr w W := by rw [hW]; exact (Gr.new w _).alloc _
  have c0 : W.cell? ⟨w.heap.size, 0, none⟩ = some (.bool neg) := by rw [hW]; simp [go_sem]
  have c1 : W.cell? ⟨w.heap.size, 1, none⟩ = some s := by rw [hW]; simp [go_sem]
  have r0 : W.cell? ⟨w.heap.size + 1, 0, none⟩ = some (.bool false) := by rw [hW]; simp [go_sem]
  have r1 : W.cell? ⟨w.heap.size + 1, 1, none⟩ = some (.slice none 0 0) := by rw [hW]; simp [go_sem]
  have e0 : W.frozen? ⟨w.heap.size + 1, 0, none⟩ = false := by rw [hW]; simp [go_sem]
  have e1 : W.frozen? ⟨w.heap.size + 1, 1, none⟩ = false := by rw [hW]; simp [go_sem]
  clear hW
  have HG := Lib.hid g1
  clear g1
  go_region_held3 (fun w' => w'.cell? ⟨w.heap.size, 0, none⟩ = some (.bool neg) ∧ w'.cell? ⟨w.heap.size, 1, none⟩ = some s) (go_keep)
    (first
      | (go_at_call 109; refine (signs_any _ _).mono ?_; rintro e w' ⟨rfl, rfl⟩)
      | (go_at_call 141; have gA : Gr W (W.alloc (.cells #[.bool !neg] 4)).drew := Below.drew (Gr.new W _); refine (signs1_int (!neg) l s W.heap.size N _ (HD.out.later (HG.out.trans gA)) (by simp [go_sem]) HNN.out).mono ?_; rintro e w' ⟨v, rfl, ⟨s', l', rfl, hs, hnl, hvl, hln⟩, hG⟩; have k0 := (gA.trans hG).keeps c0; have k1 := (gA.trans hG).keeps c1; have j0 := (gA.trans hG).keeps r0; have j1 := (gA.trans hG).keeps r1; have f0 := (gA.trans hG).frozen r0 e0; have f1 := (gA.trans hG).frozen r1 e1; have HGG := Lib.hid (gA.trans hG); have hs2 := hs; obtain ⟨-, a', cap', rfl, -, -, -⟩ := hs2; have HS := Lib.hid hs; have HE := Lib.hid (And.intro hnl (And.intro hvl hln)); clear hs hnl hvl hln hG gA))
  go_wp2_with fail
  refine bodyPost_ret (v := .agg #[.bool (decide (sg (!neg) (Ow.val l) < 0)), .slice a' l'.length cap']) (by simp [results, Tryz.results164, go_sem, j0, j1]) rfl ?_
  exact intz_stored (by rw [HNEG.out, HV.out]; exact sg_not z) rfl HS.out HE.out.1 HE.out.2.1 HE.out.2.2 (HG.out.trans HGG.out) (by omega) j0 j1 (by simp) (by simp)
end Go.Proofs.YtlfiakpmnkhcdaaGreat
namespace Go.Proofs.YtlfiakpmnkhcdaaGreat
open Go.RowKit
set_option linter.unusedVariables false
set_option maxRecDepth 100000 in
set_option maxHeartbeats 4000000 in
theorem order_any (M : Nat) (x y : Int) (u v : Value) (w : World) (hu : HasI M w u x) (hv : HasI M w v y) :
    Calls Tryz.prog 114 #[u, v] w (CmpPost (sgn x y) w) := by
  obtain ⟨s, l, rfl, hd, hn, hval, hlM⟩ := hu
  obtain ⟨t, m, rfl, hd', hn', hval', hmM⟩ := hv
  have HD := Lib.hid hd
  have HD' := Lib.hid hd'
  have HNm := Lib.hid hn
  have HNm' := Lib.hid hn'
  have HV := Lib.hid hval
  have HV' := Lib.hid hval'
  obtain ⟨nx, hnx⟩ : ∃ nx, nx = decide (x < 0) := ⟨_, rfl⟩
  obtain ⟨ny, hny⟩ : ∃ ny, ny = decide (y < 0) := ⟨_, rfl⟩
  rw [← hnx, ← hny]
  have HNX := Lib.hid hnx
  have HNY := Lib.hid hny
  clear hd hd' hn hn' hval hval' hlM hmM hnx hny
  obtain ⟨-, a, cap, rfl, -, -, -⟩ := id HD.out
  obtain ⟨-, a', cap', rfl, -, -, -⟩ := id HD'.out
  rcases nx with _ | _ <;> rcases ny with _ | _
  · have h1 : ¬ x < 0 := by simpa using HNX.out.symm
    have h2 : ¬ y < 0 := by simpa using HNY.out.symm
    have HS := Lib.hid (show sgn (Ow.val l : Int) (Ow.val m : Int) = sgn x y by rw [HV.out, HV'.out, show ((x.natAbs : Nat) : Int) = x by omega, show ((y.natAbs : Nat) : Int) = y by omega])
    clear h1 h2
    go_enter Tryz.func114, Tryz.ntmps114
    go_wp2_with fail
    refine (compare_any l m _ _ _ (HD.out.later ((Gr.new w _).alloc _)) (HD'.out.later ((Gr.new w _).alloc _)) HNm.out HNm'.out).mono ?_
    rintro e w2 ⟨rfl, g2⟩
    have HG := Lib.hid ((((Gr.new w _).alloc _)).trans g2)
    clear g2
    go_wp2_with fail
    go_ret
    exact ⟨by rw [HS.out]; rfl, HG.out⟩
  · have HS := Lib.hid (show sgn x y = 1 from sgn_gt (by have h1 : ¬ x < 0 := by simpa using HNX.out.symm
                                                         have h2 : y < 0 := by simpa using HNY.out.symm
                                                         omega))
    go_enter Tryz.func114, Tryz.ntmps114
    go_wp2_with fail
    go_ret
    exact ⟨by rw [HS.out]; rfl, (Gr.new w _).alloc _⟩
  · have HS := Lib.hid (show sgn x y = -1 from sgn_lt (by have h1 : x < 0 := by simpa using HNX.out.symm
                                                          have h2 : ¬ y < 0 := by simpa using HNY.out.symm
                                                          omega))
    go_enter Tryz.func114, Tryz.ntmps114
    go_wp2_with fail
    go_ret
    exact ⟨by rw [HS.out]; rfl, (Gr.new w _).alloc _⟩
  · have HS := Lib.hid (show sgn (Ow.val m : Int) (Ow.val l : Int) = sgn x y by
      have h1 : x < 0 := by simpa using HNX.out.symm
      have h2 : y < 0 := by simpa using HNY.out.symm
      rw [HV.out, HV'.out, show ((x.natAbs : Nat) : Int) = -x by omega, show ((y.natAbs : Nat) : Int) = -y by omega]
      unfold sgn
      by_cases a : x < y
      · rw [if_pos (by omega), if_pos a]
      · rw [if_neg (by omega), if_neg a]
        by_cases b : y < x
        · rw [if_pos (by omega), if_pos b]
        · rw [if_neg (by omega), if_neg b])
    go_enter Tryz.func114, Tryz.ntmps114
    go_wp2_with fail
    refine (compare_any m l _ _ _ (HD'.out.later ((Gr.new w _).alloc _)) (HD.out.later ((Gr.new w _).alloc _)) HNm'.out HNm.out).mono ?_
    rintro e w2 ⟨rfl, g2⟩
    have HG := Lib.hid ((((Gr.new w _).alloc _)).trans g2)
    clear g2
    go_wp2_with fail
    go_ret
    exact ⟨by rw [HS.out]; rfl, HG.out⟩
end Go.Proofs.YtlfiakpmnkhcdaaGreat
namespace Go.Proofs.YtlfiakpmnkhcdaaGreat
open Go.RowKit
set_option linter.unusedVariables false
theorem sg_same (x y : Int) (h : decide (x < 0) = decide (y < 0)) : sg (decide (x < 0)) (x.natAbs + y.natAbs) = x + y := by
  unfold sg
  by_cases h1 : x < 0 <;> by_cases h2 : y < 0 <;> simp [h1, h2] at h ⊢ <;> omega
theorem sg_diff (x y : Int) (h : decide (x < 0) ≠ decide (y < 0)) (hle : y.natAbs ≤ x.natAbs) : sg (decide (x < 0)) (x.natAbs - y.natAbs) = x + y := by
  unfold sg
  by_cases h1 : x < 0 <;> by_cases h2 : y < 0 <;> simp [h1, h2] at h ⊢ <;> omega
theorem sg_diff2 (x y : Int) (h : decide (x < 0) ≠ decide (y < 0)) (hle : x.natAbs ≤ y.natAbs) : -(sg (decide (x < 0)) (y.natAbs - x.natAbs)) = x + y := by
  unfold sg
  by_cases h1 : x < 0 <;> by_cases h2 : y < 0 <;> simp [h1, h2] at h ⊢ <;> omega
theorem len_le {l m : List Nat} (hl : Ow.Nm l) (hm : Ow.Nm m) (h : Ow.val m ≤ Ow.val l) : m.length ≤ l.length := by
  apply Classical.byContradiction; intro hn
  have := Ow.val_short hl hm (by omega)
  omega
set_option maxRecDepth 100000 in
set_option maxHeartbeats 1000000 in
theorem sum_any (M N : Nat) (x y : Int) (u v : Value) (w : World) (hu : HasI M w u x) (hv : HasI M w v y) (hM : M ≤ 100000) (hN : x.natAbs + y.natAbs < 4294967296 ^ N) :
    Calls Tryz.prog 139 #[u, v] w (IntZ N (x + y) w) := by
  obtain ⟨s, l, rfl, hd, hn, hval, hlM⟩ := hu
  obtain ⟨t, m, rfl, hd', hn', hval', hmM⟩ := hv
  have HD := Lib.hid hd
  have HD' := Lib.hid hd'
  have HNm := Lib.hid hn
  have HNm' := Lib.hid hn'
  have HV := Lib.hid hval
  have HV' := Lib.hid hval'
  have HN := Lib.hid hN
  have hl : l.length ≤ 100000 := by omega
  have hm : m.length ≤ 100000 := by omega
  obtain ⟨nx, hnx⟩ : ∃ nx, nx = decide (x < 0) := ⟨_, rfl⟩
  obtain ⟨ny, hny⟩ : ∃ ny, ny = decide (y < 0) := ⟨_, rfl⟩
  rw [← hnx, ← hny]
  have HNX := Lib.hid hnx
  have HNY := Lib.hid hny
  clear hd hd' hn hn' hval hval' hlM hmM hnx hny hM hN
  obtain ⟨-, a, cap, rfl, -, -, -⟩ := id HD.out
  obtain ⟨-, a', cap', rfl, -, -, -⟩ := id HD'.out
  go_enter Tryz.func139, Tryz.ntmps139
  go_wp2_with fail
  refine (signs_any _ _).mono ?_
  rintro e w1 ⟨rfl, hw1⟩
  obtain ⟨z0, hz0⟩ : ∃ z0 : World, z0 = ((w.alloc (.cells #[.bool nx, .slice a l.length cap] 121)).alloc (.cells #[.bool ny, .slice a' m.length cap'] 121)).alloc (.cells #[.bool false, .slice none 0 0] 121) := ⟨_, rfl⟩
  rw [← hz0] at hw1 ⊢
  have g0 : Gr w z0 := by rw [hz0]; exact ((Gr.new w _).alloc _).alloc _
  have g1 : Gr z0 w1 := by rw [← hw1]; exact Gr.new _ _
  have x0 : z0.cell? ⟨w.heap.size, 0, none⟩ = some (.bool nx) := by rw [hz0]; simp [go_sem]
  have x1 : z0.cell? ⟨w.heap.size, 1, none⟩ = some (.slice a l.length cap) := by rw [hz0]; simp [go_sem]
  have y0 : z0.cell? ⟨w.heap.size + 1, 0, none⟩ = some (.bool ny) := by rw [hz0]; simp [go_sem]
  have y1 : z0.cell? ⟨w.heap.size + 1, 1, none⟩ = some (.slice a' m.length cap') := by rw [hz0]; simp [go_sem]
  have r0 : z0.cell? ⟨w.heap.size + 1 + 1, 0, none⟩ = some (.bool false) := by rw [hz0]; simp [go_sem]
  have r1 : z0.cell? ⟨w.heap.size + 1 + 1, 1, none⟩ = some (.slice none 0 0) := by rw [hz0]; simp [go_sem]
  have e0 : z0.frozen? ⟨w.heap.size + 1 + 1, 0, none⟩ = false := by rw [hz0]; simp [go_sem]
  have e1 : z0.frozen? ⟨w.heap.size + 1 + 1, 1, none⟩ = false := by rw [hz0]; simp [go_sem]
  have b0 : w1.cell? ⟨z0.heap.size, 0, none⟩ = some (.bool nx) := by rw [← hw1]; simp [go_sem]
  have E0 := Lib.hid (g1.frozen r0 e0)
  have E1 := Lib.hid (g1.frozen r1 e1)
  have R0 := Lib.hid (g1.keeps r0)
  have R1 := Lib.hid (g1.keeps r1)
  have B0 := Lib.hid b0
  have x0 := g1.keeps x0
  have x1 := g1.keeps x1
  have y0 := g1.keeps y0
  have y1 := g1.keeps y1
  have HG := Lib.hid (g0.trans g1)
  clear hz0 hw1 g0 g1 b0 e0 e1 r0 r1
  by_cases heq : nx = ny
  · subst heq
    have HEQ := Lib.hid (show sg nx (x.natAbs + y.natAbs) = x + y by rw [HNX.out]; exact sg_same x y (by rw [← HNX.out, ← HNY.out]))
    go_wp2_with fail
    refine (plus_any l m _ _ _ (HD.out.later HG.out) (HD'.out.later HG.out) hl hm).mono ?_
    rintro e w2 ⟨p, lp, rfl, hdp, hnp, hvp, g2⟩
    have HDP := Lib.hid hdp
    have HNP := Lib.hid hnp
    have HVP := Lib.hid hvp
    have HG2 := Lib.hid g2
    clear hdp hnp hvp g2
    go_wp2_with fail
    refine (signs1_int nx lp p z0.heap.size N _ HDP.out (HG2.out.keeps B0.out) (Ow.nm_len (by rw [HNP.out.2]; exact HNP.out) (by rw [HNP.out.2, HVP.out, HV.out, HV'.out]; exact HN.out))).mono ?_
    rintro e w3 ⟨q, rfl, ⟨s', l', rfl, hs, hnl, hvl, hln⟩, g3⟩
    have HG3 := Lib.hid (HG2.out.trans g3)
    obtain ⟨-, a'', cap'', rfl, -, -, -⟩ := id hs
    have j0 := HG3.out.keeps R0.out
    have j1 := HG3.out.keeps R1.out
    have f0 := HG3.out.frozen R0.out E0.out
    have f1 := HG3.out.frozen R1.out E1.out
    have HS := Lib.hid hs
    have HL := Lib.hid (And.intro hnl (And.intro hvl hln))
    clear hs hnl hvl hln g3
    go_wp2_with fail
    refine bodyPost_ret (v := .agg #[.bool (decide (sg nx (Ow.val lp) < 0)), .slice a'' l'.length cap'']) (by simp [results, Tryz.results139, go_sem, j0, j1]) rfl ?_
    exact intz_stored (by rw [HVP.out, HV.out, HV'.out]; exact HEQ.out) rfl HS.out HL.out.1 HL.out.2.1 HL.out.2.2 (HG.out.trans HG3.out) (by omega) j0 j1 (by simp) (by simp)
  · have t0 : (nx == ny) = false := by simpa using heq
    have hne : decide (x < 0) ≠ decide (y < 0) := by rw [← HNX.out, ← HNY.out]; exact heq
    have HNE := Lib.hid hne
    clear hne heq
    go_wp2_with fail
    refine (compare_any l m _ _ _ (HD.out.later HG.out) (HD'.out.later HG.out) HNm.out HNm'.out).mono ?_
    rintro e w2 ⟨rfl, g2⟩
    have x0 := g2.keeps x0
    have x1 := g2.keeps x1
    have y0 := g2.keeps y0
    have y1 := g2.keeps y1
    have E0 := Lib.hid (g2.frozen R0.out E0.out)
    have E1 := Lib.hid (g2.frozen R1.out E1.out)
    have R0 := Lib.hid (g2.keeps R0.out)
    have R1 := Lib.hid (g2.keeps R1.out)
    have B0 := Lib.hid (g2.keeps B0.out)
    have HG := Lib.hid (HG.out.trans g2)
    clear g2
    by_cases hle : Ow.val m ≤ Ow.val l
    · have t1 : decide ((0 : Int) ≤ sgn (Ow.val l) (Ow.val m)) = true := by unfold sgn; simp; split <;> (try split) <;> omega
      have HLE := Lib.hid hle
      clear hle
      go_wp2_with fail
      refine (minus_any l m _ _ _ (HD.out.later HG.out) (HD'.out.later HG.out) hl (len_le HNm.out HNm'.out HLE.out) HLE.out).mono ?_
      rintro e w3 ⟨p, lp, rfl, hdp, hnp, hvp, g2⟩
      have HDP := Lib.hid hdp
      have HNP := Lib.hid hnp
      have HVP := Lib.hid hvp
      have HG2 := Lib.hid g2
      clear hdp hnp hvp g2
      go_wp2_with fail
      refine (signs1_int nx lp p z0.heap.size N _ HDP.out (HG2.out.keeps B0.out) (Ow.nm_len (by rw [HNP.out.2]; exact HNP.out) (by rw [HNP.out.2, HVP.out, HV.out, HV'.out]; have := HN.out; omega))).mono ?_
      rintro e w4 ⟨q, rfl, ⟨s', l', rfl, hs, hnl, hvl, hln⟩, g3⟩
      have HG3 := Lib.hid (HG2.out.trans g3)
      obtain ⟨-, a'', cap'', rfl, -, -, -⟩ := id hs
      have j0 := HG3.out.keeps R0.out
      have j1 := HG3.out.keeps R1.out
      have f0 := HG3.out.frozen R0.out E0.out
      have f1 := HG3.out.frozen R1.out E1.out
      have HS := Lib.hid hs
      have HL := Lib.hid (And.intro hnl (And.intro hvl hln))
      clear hs hnl hvl hln g3
      go_wp2_with fail
      refine bodyPost_ret (v := .agg #[.bool (decide (sg nx (Ow.val lp) < 0)), .slice a'' l'.length cap'']) (by simp [results, Tryz.results139, go_sem, j0, j1]) rfl ?_
      exact intz_stored (by rw [HVP.out, HV.out, HV'.out, HNX.out]; exact sg_diff x y HNE.out (by rw [← HV.out, ← HV'.out]; exact HLE.out)) rfl HS.out HL.out.1 HL.out.2.1 HL.out.2.2 (HG.out.trans HG3.out) (by omega) j0 j1 (by simp) (by simp)
    · have t1 : decide ((0 : Int) ≤ sgn (Ow.val l) (Ow.val m)) = false := by unfold sgn; simp; split <;> (try split) <;> omega
      have HLE := Lib.hid (show Ow.val l ≤ Ow.val m by omega)
      clear hle
      go_wp2_with fail
      refine (minus_any m l _ _ _ (HD'.out.later HG.out) (HD.out.later HG.out) hm (len_le HNm'.out HNm.out HLE.out) HLE.out).mono ?_
      rintro e w3 ⟨p, lp, rfl, hdp, hnp, hvp, g2⟩
      have HDP := Lib.hid hdp
      have HNP := Lib.hid hnp
      have HVP := Lib.hid hvp
      have HG2 := Lib.hid g2
      clear hdp hnp hvp g2
      go_wp2_with fail
      refine (signs1_int nx lp p z0.heap.size N _ HDP.out (HG2.out.keeps B0.out) (Ow.nm_len (by rw [HNP.out.2]; exact HNP.out) (by rw [HNP.out.2, HVP.out, HV.out, HV'.out]; have := HN.out; omega))).mono ?_
      rintro e w4 ⟨q, rfl, hI, g3⟩
      have HG3 := Lib.hid (HG2.out.trans g3)
      have HI := Lib.hid hI
      clear hI g3
      go_wp2_with fail
      refine (negative_any N _ q _ HI.out).mono ?_
      rintro e w5 ⟨q2, rfl, ⟨s', l', rfl, hs, hnl, hvl, hln⟩, g4⟩
      have HG4 := Lib.hid (HG3.out.trans g4)
      obtain ⟨nz, hnz⟩ : ∃ nz, nz = decide (-(sg nx (Ow.val lp)) < 0) := ⟨_, rfl⟩
      rw [← hnz]
      have HNZ := Lib.hid hnz
      clear hnz
      obtain ⟨-, a'', cap'', rfl, -, -, -⟩ := id hs
      have j0 := HG4.out.keeps R0.out
      have j1 := HG4.out.keeps R1.out
      have f0 := HG4.out.frozen R0.out E0.out
      have f1 := HG4.out.frozen R1.out E1.out
      have HS := Lib.hid hs
      have HL := Lib.hid (And.intro hnl (And.intro hvl hln))
      clear hs hnl hvl hln g4
      go_wp2_with fail
      refine bodyPost_ret (v := .agg #[.bool nz, .slice a'' l'.length cap'']) (by simp [results, Tryz.results139, go_sem, j0, j1]) rfl ?_
      exact intz_stored (z' := -(sg nx (Ow.val lp))) (by rw [HVP.out, HV.out, HV'.out, HNX.out]; exact sg_diff2 x y HNE.out (by rw [← HV.out, ← HV'.out]; exact HLE.out)) HNZ.out HS.out HL.out.1 HL.out.2.1 HL.out.2.2 (HG.out.trans HG4.out) (by omega) j0 j1 (by simp) (by simp)
end Go.Proofs.YtlfiakpmnkhcdaaGreat
namespace Ow
set_option linter.unusedVariables false
end Ow
namespace Go.Proofs.YtlfiakpmnkhcdaaGreat
open Go.RowKit
set_option linter.unusedVariables false
end Go.Proofs.YtlfiakpmnkhcdaaGreat
namespace Ow
set_option linter.unusedVariables false
def put (L : List Nat) (i : Nat) (l : List Nat) : List Nat := L.take i ++ (l ++ L.drop (i + l.length))
theorem put_len {L l : List Nat} {i : Nat} (h : i + l.length ≤ L.length) : (put L i l).length = L.length := by simp [put]; omega
theorem dg_drop {l : List Nat} (h : Dg l) (k : Nat) : Dg (l.drop k) := fun x hx => h x (List.mem_of_mem_drop hx)
end Ow
namespace Go.Proofs.YtlfiakpmnkhcdaaGreat
open Go.RowKit
set_option linter.unusedVariables false
end Go.Proofs.YtlfiakpmnkhcdaaGreat
namespace Ow
set_option linter.unusedVariables false
end Ow
namespace Go.Proofs.YtlfiakpmnkhcdaaGreat
open Go.RowKit
set_option linter.unusedVariables false
end Go.Proofs.YtlfiakpmnkhcdaaGreat
namespace Ow
set_option linter.unusedVariables false
def byt (n : Nat) : List UInt8 := if h : n = 0 then [] else byt (n / 256) ++ [UInt8.ofNat (n % 256)]
termination_by n
decreasing_by omega
theorem byt_zero : byt 0 = [] := by rw [byt]; simp
theorem byt_step {M b : Nat} (hb : b < 256) (h : 0 < 256 * M + b) : byt (256 * M + b) = byt M ++ [UInt8.ofNat b] := by
 rw [byt, dif_neg (by omega), show (256 * M + b) / 256 = M by omega, show (256 * M + b) % 256 = b by omega]
theorem mg_byt (n : Nat) : mg (byt n) = n := by
 induction n using Nat.strongRecOn with
 | ind n ih =>
  rw [byt]
  by_cases h : n = 0
  ·rw [dif_pos h, h]; rfl
  ·rw [dif_neg h, mg_snoc, ih _ (by omega)]
   have : (UInt8.ofNat (n % 256)).toNat = n % 256 := by
    rw [UInt8.toNat_ofNat']; omega
   rw [this]; omega
theorem byt_ne {n : Nat} (h : 0 < n) : byt n ≠ [] := by
 rw [byt, dif_neg (by omega)]; simp
theorem byt_head (n : Nat) : ∀ b l, byt n = b :: l → b ≠ 0 := by
 induction n using Nat.strongRecOn with
 | ind n ih =>
  intro b l h
  rw [byt] at h
  by_cases h0 : n = 0
  ·rw [dif_pos h0] at h; cases h
  ·rw [dif_neg h0] at h
   cases hb : byt (n / 256) with
   | nil =>
    rw [hb] at h
    have hz : n / 256 = 0 := by
     apply Classical.byContradiction; intro hz
     exact byt_ne (by omega) hb
    simp only [List.nil_append, List.cons.injEq] at h
    rw [← h.1]
    intro e
    have := congrArg UInt8.toNat e
    rw [UInt8.toNat_ofNat'] at this
    have h3 : (0 : UInt8).toNat = 0 := rfl
    rw [h3] at this
    omega
   | cons c t =>
    rw [hb] at h
    simp only [List.cons_append, List.cons.injEq] at h
    rw [← h.1]
    exact ih (n / 256) (by omega) c t hb
theorem byt_mg : ∀ (k : Nat) (l : List UInt8), l.length = k → (∀ b t, l = b :: t → b ≠ 0) → byt (mg l) = l
 | 0, l, hk, h => by
  have := List.length_eq_zero_iff.1 hk
  subst this; exact byt_zero
 | k + 1, l, hk, h => by
  rcases List.eq_nil_or_concat l with e | ⟨t, b, e⟩
  ·subst e; simp at hk
  ·rw [List.concat_eq_append] at e; rw [e] at hk h ⊢
   have hl : t.length = k := by simp at hk; omega
   have ht : ∀ c s, t = c :: s → c ≠ 0 := fun c s e2 => h c (s ++ [b]) (by rw [e2]; simp)
   have ih := byt_mg k t hl ht
   rw [mg_snoc, Nat.mul_comm, byt_step b.toNat_lt, ih, UInt8.ofNat_toNat]
   cases t with
   | nil =>
    have := h b [] (by simp)
    have h4 : b.toNat ≠ 0 := fun e3 => this (UInt8.toNat_inj.1 (by rw [e3]; rfl))
    omega
   | cons c s =>
    have := h c (s ++ [b]) (by simp)
    have h4 : 0 < mg (c :: s) := by
     apply Nat.pos_of_ne_zero
     intro e3
     rw [e3, byt_zero] at ih
     cases ih
    omega
theorem byt_lt (n : Nat) : n < 256 ^ (byt n).length := by
 have := mg_bound (byt n); rwa [mg_byt] at this
theorem byt_ge (n : Nat) (h : 0 < n) : 256 ^ ((byt n).length - 1) ≤ n := by
 induction n using Nat.strongRecOn with
 | ind n ih =>
  rw [byt, dif_neg (by omega), List.length_append, List.length_singleton, Nat.add_sub_cancel]
  rcases Nat.eq_zero_or_pos (n / 256) with h0 | h0
  ·rw [h0, byt_zero]; simp; omega
  ·have := ih (n / 256) (by omega) h0
   have hl : 0 < (byt (n / 256)).length := List.length_pos_iff.2 (byt_ne h0)
   obtain ⟨m, hm⟩ : ∃ m, (byt (n / 256)).length = m + 1 := ⟨_, (Nat.sub_add_cancel hl).symm⟩
   rw [hm] at this ⊢
   rw [Nat.add_sub_cancel] at this
   rw [Nat.pow_succ]
   omega
theorem byt_len {n k : Nat} : n < 256 ^ k ↔ (byt n).length ≤ k := by
 constructor
 ·intro h
  rcases Nat.eq_zero_or_pos n with h0 | h0
  ·rw [h0, byt_zero]; simp
  ·have := byt_ge n h0
   have := (Nat.pow_lt_pow_iff_right (by omega : 1 < 256)).1 (Nat.lt_of_le_of_lt this h)
   omega
 ·intro h
  exact Nat.lt_of_lt_of_le (byt_lt n) (Nat.pow_le_pow_right (by omega) h)
theorem byt_at (n i : Nat) (h : i < (byt n).length) : (byt n)[(byt n).length - 1 - i]? = some (UInt8.ofNat (n / 256 ^ i % 256)) := by
 induction i generalizing n with
 | zero =>
  rcases Nat.eq_zero_or_pos n with h0 | h0
  ·rw [h0, byt_zero] at h; simp at h
  ·rw [byt, dif_neg (by omega)]; simp
 | succ i ih =>
  rcases Nat.eq_zero_or_pos n with h0 | h0
  ·rw [h0, byt_zero] at h; simp at h
  ·rw [byt, dif_neg (by omega)] at h ⊢
   rw [List.length_append, List.length_singleton] at h ⊢
   have := ih (n / 256) (by omega)
   rw [Nat.add_sub_cancel, List.getElem?_append_left (by omega), show (byt (n / 256)).length - (i + 1) = (byt (n / 256)).length - 1 - i by omega, this, Nat.div_div_eq_div_mul, Nat.pow_succ, Nat.mul_comm]
def R : Nat := 256 ^ 256
theorem R_eq : R = 256 ^ 256 := rfl
theorem R_digits : R = 4294967296 ^ 64 := by unfold R; rw [show (4294967296 : Nat) = 256 ^ 4 from rfl, ← Nat.pow_mul]
end Ow
namespace Go.Proofs.YtlfiakpmnkhcdaaGreat
open Go.RowKit
set_option linter.unusedVariables false
def bstr (n : Nat) : ByteArray := ⟨(Ow.byt n).toArray⟩
theorem bstr_size (n : Nat) : (bstr n).size = (Ow.byt n).length := by simp [bstr, ByteArray.size]
theorem bstr_list (n : Nat) : (bstr n).data.toList = Ow.byt n := by simp [bstr]
def zOf (neg : Bool) (s : ByteArray) : Int := sg neg (Ow.mg s.data.toList)
theorem zOf_abs (neg : Bool) (s : ByteArray) : (zOf neg s).natAbs = Ow.mg s.data.toList := sg_abs _ _
theorem list_len (s : ByteArray) : s.data.toList.length = s.size := by simp
theorem form_str {neg : Bool} {s : ByteArray} (h : Form neg s) : s = bstr (zOf neg s).natAbs := by
 rw [zOf_abs]
 have hb : Ow.byt (Ow.mg s.data.toList) = s.data.toList := by
  refine Ow.byt_mg _ _ rfl (fun b t e => ?_)
  rcases h with ⟨h0, _⟩ | ⟨h1, h2, h3, h4⟩
  ·have := list_len s; rw [h0, e] at this; simp at this
  ·intro hb
   apply h4
   have : s.data.toList[0]? = some s[0] := by
    rw [List.getElem?_eq_getElem (by rw [list_len]; exact h3)]; rfl
   rw [e] at this
   have e3 : b = s[0] := by simpa using this
   rw [← e3, hb]
 unfold bstr
 rw [hb]
theorem form_range {neg : Bool} {s : ByteArray} (h : Form neg s) : (zOf neg s).natAbs < Ow.R := by
 rw [zOf_abs, Ow.R_eq]
 refine Nat.lt_of_lt_of_le (Ow.mg_bound _) (Nat.pow_le_pow_right (by omega) ?_)
 rw [list_len]
 rcases h with ⟨h0, _⟩ | ⟨_, h2, _⟩ <;> omega
theorem form_pos {neg : Bool} {s : ByteArray} (h : Form neg s) (h1 : 1 ≤ s.size) : 256 ^ (s.size - 1) ≤ (zOf neg s).natAbs := by
 have e := form_str h
 have hp : 0 < (zOf neg s).natAbs := by
  apply Nat.pos_of_ne_zero; intro e0
  rw [e0] at e
  rw [e, bstr_size, Ow.byt_zero] at h1; simp at h1
 have := Ow.byt_ge _ hp
 rw [← bstr_size, ← e] at this
 exact this
theorem form_neg {neg : Bool} {s : ByteArray} (h : Form neg s) : neg = decide (zOf neg s < 0) := by
 unfold zOf
 rw [sg_neg]
 rcases h with ⟨h0, rfl⟩ | ⟨h1, h2, h3, h4⟩
 ·rfl
 ·have hp := form_pos (neg := neg) (.inr ⟨h1, h2, h3, h4⟩) h1
  rw [zOf_abs] at hp
  have : 0 < Ow.mg s.data.toList := Nat.lt_of_lt_of_le (Nat.pow_pos (by omega)) hp
  simp [this]
theorem form_bstr (z : Int) (h : z.natAbs < Ow.R) : Form (decide (z < 0)) (bstr z.natAbs) := by
 have hl := (Ow.byt_len (n := z.natAbs) (k := 256)).1 (by rw [← Ow.R_eq]; exact h)
 rw [← bstr_size] at hl
 rcases Nat.eq_zero_or_pos (bstr z.natAbs).size with h0 | h0
 ·refine .inl ⟨h0, ?_⟩
  have : z.natAbs = 0 := by
   apply Classical.byContradiction; intro hn
   rw [bstr_size] at h0
   exact Ow.byt_ne (n := z.natAbs) (by omega) (List.length_eq_zero_iff.1 h0)
  simp; omega
 ·refine .inr ⟨h0, hl, h0, ?_⟩
  cases hb : Ow.byt z.natAbs with
  | nil => rw [bstr_size, hb] at h0; simp at h0
  | cons b t =>
   have h1 := Ow.byt_head _ b t hb
   have h2 : (bstr z.natAbs).data.toList[0]? = some ((bstr z.natAbs)[0]) := by
    rw [List.getElem?_eq_getElem (by rw [list_len]; exact h0)]; rfl
   rw [bstr_list, hb] at h2
   have e3 : b = (bstr z.natAbs)[0] := by simpa using h2
   rw [← e3]; exact h1
theorem zOf_bstr (z : Int) : zOf (decide (z < 0)) (bstr z.natAbs) = z := by
 unfold zOf; rw [bstr_list, Ow.mg_byt]; exact sg_self z
def fNeg (z : Int) : Bool := decide (z < 0) && decide (z.natAbs < Ow.R)
def fStr (z : Int) : ByteArray := if z.natAbs < Ow.R then bstr z.natAbs else ⟨#[]⟩
def fErr (z : Int) : Int := if z.natAbs < Ow.R then 0 else 7
theorem fNeg_in {z : Int} (h : z.natAbs < Ow.R) : fNeg z = decide (z < 0) := by unfold fNeg; rw [decide_eq_true h, Bool.and_true]
theorem fStr_in {z : Int} (h : z.natAbs < Ow.R) : fStr z = bstr z.natAbs := if_pos h
theorem fErr_in {z : Int} (h : z.natAbs < Ow.R) : fErr z = 0 := if_pos h
theorem fNeg_out {z : Int} (h : ¬ z.natAbs < Ow.R) : fNeg z = false := by unfold fNeg; rw [decide_eq_false h, Bool.and_false]
theorem fStr_out {z : Int} (h : ¬ z.natAbs < Ow.R) : fStr z = ⟨#[]⟩ := if_neg h
theorem fErr_out {z : Int} (h : ¬ z.natAbs < Ow.R) : fErr z = 7 := if_neg h
def Res (a : Bool) (s : ByteArray) (c : Int) (w : World) (e : Ending) (w' : World) : Prop := e = .returned (.tuple #[.agg #[.bool a, .string s], .int .i64 c]) ∧ Gr w w'
theorem integerOf_form (neg : Bool) (s : ByteArray) (w : World) (h : Form neg s) :
  Calls Tryz.prog 144 #[.agg #[.bool neg, .string s]] w (IntZ 64 (zOf neg s) w) := by
 have hs : s.size ≤ 256 := by rcases h with ⟨h0, _⟩ | ⟨_, h2, _⟩ <;> omega
 refine (integerOf_any neg s w (by omega)).mono ?_
 rintro e w' ⟨v, rfl, hd, hg⟩
 have hM := Ow.mg_bound s.data.toList
 rw [list_len] at hM
 have hlt : Ow.mg s.data.toList < 4294967296 ^ ((s.size + 3) / 4) := by
  rw [show (4294967296 : Nat) = 256 ^ 4 from rfl, ← Nat.pow_mul]
  exact Nat.lt_of_lt_of_le hM (Nat.pow_le_pow_right (by omega) (by omega))
 have hnm : Ow.Nm (Ow.digs ((s.size + 3) / 4) (Ow.mg s.data.toList)) := by
  refine Ow.digs_nm hlt ?_
  rcases Nat.eq_zero_or_pos s.size with h0 | h0
  ·left; omega
  ·right
   have hp := form_pos h h0
   rw [zOf_abs] at hp
   rw [show (4294967296 : Nat) = 256 ^ 4 from rfl, ← Nat.pow_mul]
   exact Nat.le_trans (Nat.pow_le_pow_right (by omega) (by omega)) hp
 refine ⟨_, rfl, ⟨v, _, by rw [← form_neg h], hd, hnm, by rw [Ow.digs_val _ _ hlt, zOf_abs], by rw [Ow.digs_len]; omega⟩, hg⟩
end Go.Proofs.YtlfiakpmnkhcdaaGreat
