import Derived.Test.YtlfiakpmnkhcdaaLWC
import Derived.Deep.RegionHeld3
namespace Ow
set_option linter.unusedVariables false
end Ow
namespace Go.Proofs.Ytlfiakpmnkhcdaa
open Go.RowKit
set_option linter.unusedVariables false
end Go.Proofs.Ytlfiakpmnkhcdaa
namespace Ow
set_option linter.unusedVariables false
end Ow
namespace Go.Proofs.Ytlfiakpmnkhcdaa
open Go.RowKit
set_option linter.unusedVariables false
end Go.Proofs.Ytlfiakpmnkhcdaa
namespace Ow
set_option linter.unusedVariables false
theorem tr_pos {l : List Nat} (h : Dg l) : 0 < (tr l).length ↔ 0 < val l := by
  constructor
  · intro h1
    have := val_ge (tr l) (tr_tr l) (by intro e; rw [e] at h1; simp at h1)
    rw [val_tr] at this
    exact Nat.lt_of_lt_of_le (Nat.pow_pos (by omega)) this
  · intro h1
    rcases Nat.eq_zero_or_pos (tr l).length with h2 | h2
    · have := List.length_eq_zero_iff.1 h2
      rw [← val_tr, this] at h1; simp [val] at h1
    · exact h2
theorem nm_len {l : List Nat} (h : Nm l) {N : Nat} (hv : val l < 4294967296 ^ N) : l.length ≤ N := by
  rcases Nat.eq_zero_or_pos l.length with h0 | h0
  · omega
  · have := val_ge l h.2 (by intro e; rw [e] at h0; simp at h0)
    have := (Nat.pow_lt_pow_iff_right (by omega : 1 < 4294967296)).1 (Nat.lt_of_le_of_lt this hv)
    omega
end Ow
namespace Go.Proofs.Ytlfiakpmnkhcdaa
open Go.RowKit
set_option linter.unusedVariables false
def HasI (N : Nat) (W : World) (v : Value) (z : Int) : Prop := ∃ s l, v = .agg #[.bool (decide (z < 0)), s] ∧ HasD W s l ∧ Ow.Nm l ∧ Ow.val l = z.natAbs ∧ l.length ≤ N
theorem HasI.later {N : Nat} {W W' : World} {v : Value} {z : Int} (h : HasI N W v z) (hg : Gr W W') : HasI N W' v z := by
  obtain ⟨s, l, h1, h2, h3⟩ := h
  exact ⟨s, l, h1, h2.later hg, h3⟩
def IntZ (N : Nat) (z : Int) (w : World) (e : Ending) (w' : World) : Prop := ∃ v, e = .returned v ∧ HasI N w' v z ∧ Gr w w'
theorem Gr.frozen {a b : World} (h : Gr a b) {p : Addr} {v : Value} (hv : a.cell? p = some v) (hf : a.frozen? p = false) : b.frozen? p = false :=
  (World.frozen?_of_block (w := a) (h.block p.block (World.block_lt_of_cell? a p hv))).trans hf
theorem HasD.setAt {W : World} {v : Value} {l : List Nat} {p : Addr} {u0 : Value} (h : HasD W v l) (hc : W.cell? p = some u0) (hu : ∀ n, u0 ≠ .int .u32 n) (u : Value) : HasD (W.setCell p u) v l := by
  obtain ⟨hd, a, cap, rfl, h1, h2, h3⟩ := h
  refine ⟨hd, a, cap, rfl, h1, h2, fun i hi => ?_⟩
  obtain ⟨b, o, e, hc2⟩ := h3 i hi
  refine ⟨b, o, e, ?_⟩
  rw [World.cell?_setCell_other W p ⟨b, o + i, none⟩ u (fun e => by rw [e, hc2] at hc; exact hu _ (Option.some.inj hc).symm)]
  exact hc2
theorem intz_stored {N : Nat} {z z' : Int} {w w' : World} {B : Nat} {neg : Bool} {s u0 u1 : Value} {l : List Nat} (hz : z' = z) (hneg : neg = decide (z' < 0)) (hs : HasD w' s l) (hn : Ow.Nm l) (hv : Ow.val l = z'.natAbs) (hl : l.length ≤ N) (hG : Gr w w') (hB : w.heap.size ≤ B)
    (j0 : w'.cell? ⟨B, 0, none⟩ = some u0) (j1 : w'.cell? ⟨B, 1, none⟩ = some u1) (h0 : ∀ n, u0 ≠ .int .u32 n) (h1 : ∀ n, u1 ≠ .int .u32 n) :
    IntZ N z w (.returned (.agg #[.bool neg, s])) ((w'.setCell ⟨B, 0, none⟩ (.bool neg)).setCell ⟨B, 1, none⟩ s) := by
  subst hz hneg
  refine ⟨_, rfl, ⟨s, l, rfl, ?_, hn, hv, hl⟩, (hG.setCell (p := ⟨B, 0, none⟩) hB _).setCell (p := ⟨B, 1, none⟩) hB _⟩
  exact (hs.setAt j0 h0 _).setAt ((World.cell?_setCell_other w' ⟨B, 0, none⟩ ⟨B, 1, none⟩ _ (by simp)).trans j1) h1 _
def sg (neg : Bool) (n : Nat) : Int := if neg then -(n : Int) else n
theorem sg_neg (neg : Bool) (n : Nat) : decide (sg neg n < 0) = (neg && decide (0 < n)) := by
  unfold sg; cases neg
  · simp
  · simp [Int.natCast_pos]
theorem sg_abs (neg : Bool) (n : Nat) : (sg neg n).natAbs = n := by unfold sg; cases neg <;> simp
theorem sg_self (z : Int) : sg (decide (z < 0)) z.natAbs = z := by
  unfold sg
  by_cases h : z < 0
  · simp [h]; try omega
  · simp [h]; try omega
theorem sg_not (z : Int) : sg (!decide (z < 0)) z.natAbs = -z := by
  unfold sg
  by_cases h : z < 0
  · simp [h]; omega
  · simp [h]; omega
theorem signs1_int (neg : Bool) (l : List Nat) (v : Value) (B N : Nat) (w : World) (h : HasD w v l) (hB : w.cell? ⟨B, 0, none⟩ = some (.bool neg)) (hN : (Ow.tr l).length ≤ N) :
    Calls Try.prog 67 #[v, .pointer (some ⟨B, 0, none⟩)] w (IntZ N (sg neg (Ow.val l)) w) := by
  refine (signs1_any neg l v B w h hB).mono ?_
  rintro e w' ⟨s, rfl, h1, h2⟩
  refine ⟨_, rfl, ⟨s, Ow.tr l, ?_, h1, Ow.nm_tr h.1, by rw [Ow.val_tr, sg_abs], hN⟩, h2⟩
  have hp := Ow.tr_pos h.1
  rw [sg_neg, show decide (0 < (Ow.tr l).length) = decide (0 < Ow.val l) from by simp [hp]]
set_option maxRecDepth 100000 in
set_option maxHeartbeats 1000000 in
theorem negative_any (N : Nat) (z : Int) (v : Value) (w : World) (h : HasI N w v z) :
    Calls Try.prog 82 #[v] w (IntZ N (-z) w) := by
  obtain ⟨s, l, rfl, hd, hn, hval, hN⟩ := h
  have HD := Lib.hid hd
  have HN := Lib.hid hn
  have HV := Lib.hid hval
  have HNN := Lib.hid (show (Ow.tr l).length ≤ N by rw [hn.2]; exact hN)
  clear hd hn hval hN
  obtain ⟨neg, hneg⟩ : ∃ neg, neg = decide (z < 0) := ⟨_, rfl⟩
  rw [← hneg]
  have HNEG := Lib.hid hneg
  clear hneg
  go_enter Try.func82, Try.ntmps82
  go_wp2_with fail
  obtain ⟨W, hW⟩ : ∃ W, W = (w.alloc (.cells #[.bool neg, s] 87)).alloc (.cells #[.bool false, .slice none 0 0] 87) := ⟨_, rfl⟩
  rw [← hW]
  have g1 : Gr w W := by rw [hW]; exact (Gr.new w _).alloc _
  have c0 : W.cell? ⟨w.heap.size, 0, none⟩ = some (.bool neg) := by rw [hW]; simp [go_sem]
  have c1 : W.cell? ⟨w.heap.size, 1, none⟩ = some s := by rw [hW]; simp [go_sem]
  have r0 : W.cell? ⟨w.heap.size + 1, 0, none⟩ = some (.bool false) := by rw [hW]; simp [go_sem]
  have r1 : W.cell? ⟨w.heap.size + 1, 1, none⟩ = some (.slice none 0 0) := by rw [hW]; simp [go_sem]
  have e0 : W.frozen? ⟨w.heap.size + 1, 0, none⟩ = false := by rw [hW]; simp [go_sem]
  have e1 : W.frozen? ⟨w.heap.size + 1, 1, none⟩ = false := by rw [hW]; simp [go_sem]
  clear hW
  have HG := Lib.hid g1
  clear g1
  go_region_held3 (fun w' => w'.cell? ⟨w.heap.size, 0, none⟩ = some (.bool neg) ∧ w'.cell? ⟨w.heap.size, 1, none⟩ = some s) (go_keep)
    (first
      | (go_at_call 46; refine (signs_any _ _).mono ?_; rintro e w' ⟨rfl, rfl⟩)
      | (go_at_call 67; have gA : Gr W (W.alloc (.cells #[.bool !neg] 4)).drew := Below.drew (Gr.new W _); refine (signs1_int (!neg) l s W.heap.size N _ (HD.out.later (HG.out.trans gA)) (by simp [go_sem]) HNN.out).mono ?_; rintro e w' ⟨v, rfl, ⟨s', l', rfl, hs, hnl, hvl, hln⟩, hG⟩; have k0 := (gA.trans hG).keeps c0; have k1 := (gA.trans hG).keeps c1; have j0 := (gA.trans hG).keeps r0; have j1 := (gA.trans hG).keeps r1; have f0 := (gA.trans hG).frozen r0 e0; have f1 := (gA.trans hG).frozen r1 e1; have HGG := Lib.hid (gA.trans hG); have hs2 := hs; obtain ⟨-, a', cap', rfl, -, -, -⟩ := hs2; have HS := Lib.hid hs; have HE := Lib.hid (And.intro hnl (And.intro hvl hln)); clear hs hnl hvl hln hG gA))
  go_wp2_with fail
  refine bodyPost_ret (v := .agg #[.bool (decide (sg (!neg) (Ow.val l) < 0)), .slice a' l'.length cap']) (by simp [results, Try.results82, go_sem, j0, j1]) rfl ?_
  exact intz_stored (by rw [HNEG.out, HV.out]; exact sg_not z) rfl HS.out HE.out.1 HE.out.2.1 HE.out.2.2 (HG.out.trans HGG.out) (by omega) j0 j1 (by simp) (by simp)
end Go.Proofs.Ytlfiakpmnkhcdaa
namespace Go.Proofs.Ytlfiakpmnkhcdaa
open Go.RowKit
set_option linter.unusedVariables false
set_option maxRecDepth 100000 in
set_option maxHeartbeats 4000000 in
theorem order_any (M : Nat) (x y : Int) (u v : Value) (w : World) (hu : HasI M w u x) (hv : HasI M w v y) :
    Calls Try.prog 51 #[u, v] w (CmpPost (sgn x y) w) := by
  obtain ⟨s, l, rfl, hd, hn, hval, hlM⟩ := hu
  obtain ⟨t, m, rfl, hd', hn', hval', hmM⟩ := hv
  have HD := Lib.hid hd
  have HD' := Lib.hid hd'
  have HNm := Lib.hid hn
  have HNm' := Lib.hid hn'
  have HV := Lib.hid hval
  have HV' := Lib.hid hval'
  obtain ⟨nx, hnx⟩ : ∃ nx, nx = decide (x < 0) := ⟨_, rfl⟩
  obtain ⟨ny, hny⟩ : ∃ ny, ny = decide (y < 0) := ⟨_, rfl⟩
  rw [← hnx, ← hny]
  have HNX := Lib.hid hnx
  have HNY := Lib.hid hny
  clear hd hd' hn hn' hval hval' hlM hmM hnx hny
  obtain ⟨-, a, cap, rfl, -, -, -⟩ := id HD.out
  obtain ⟨-, a', cap', rfl, -, -, -⟩ := id HD'.out
  rcases nx with _ | _ <;> rcases ny with _ | _
  · have h1 : ¬ x < 0 := by simpa using HNX.out.symm
    have h2 : ¬ y < 0 := by simpa using HNY.out.symm
    have HS := Lib.hid (show sgn (Ow.val l : Int) (Ow.val m : Int) = sgn x y by rw [HV.out, HV'.out, show ((x.natAbs : Nat) : Int) = x by omega, show ((y.natAbs : Nat) : Int) = y by omega])
    clear h1 h2
    go_enter Try.func51, Try.ntmps51
    go_wp2_with fail
    refine (compare_any l m _ _ _ (HD.out.later ((Gr.new w _).alloc _)) (HD'.out.later ((Gr.new w _).alloc _)) HNm.out HNm'.out).mono ?_
    rintro e w2 ⟨rfl, g2⟩
    have HG := Lib.hid ((((Gr.new w _).alloc _)).trans g2)
    clear g2
    go_wp2_with fail
    go_ret
    exact ⟨by rw [HS.out]; rfl, HG.out⟩
  · have HS := Lib.hid (show sgn x y = 1 from sgn_gt (by have h1 : ¬ x < 0 := by simpa using HNX.out.symm
                                                         have h2 : y < 0 := by simpa using HNY.out.symm
                                                         omega))
    go_enter Try.func51, Try.ntmps51
    go_wp2_with fail
    go_ret
    exact ⟨by rw [HS.out]; rfl, (Gr.new w _).alloc _⟩
  · have HS := Lib.hid (show sgn x y = -1 from sgn_lt (by have h1 : x < 0 := by simpa using HNX.out.symm
                                                          have h2 : ¬ y < 0 := by simpa using HNY.out.symm
                                                          omega))
    go_enter Try.func51, Try.ntmps51
    go_wp2_with fail
    go_ret
    exact ⟨by rw [HS.out]; rfl, (Gr.new w _).alloc _⟩
  · have HS := Lib.hid (show sgn (Ow.val m : Int) (Ow.val l : Int) = sgn x y by
      have h1 : x < 0 := by simpa using HNX.out.symm
      have h2 : y < 0 := by simpa using HNY.out.symm
      rw [HV.out, HV'.out, show ((x.natAbs : Nat) : Int) = -x by omega, show ((y.natAbs : Nat) : Int) = -y by omega]
      unfold sgn
      by_cases a : x < y
      · rw [if_pos (by omega), if_pos a]
      · rw [if_neg (by omega), if_neg a]
        by_cases b : y < x
        · rw [if_pos (by omega), if_pos b]
        · rw [if_neg (by omega), if_neg b])
    go_enter Try.func51, Try.ntmps51
    go_wp2_with fail
    refine (compare_any m l _ _ _ (HD'.out.later ((Gr.new w _).alloc _)) (HD.out.later ((Gr.new w _).alloc _)) HNm'.out HNm.out).mono ?_
    rintro e w2 ⟨rfl, g2⟩
    have HG := Lib.hid ((((Gr.new w _).alloc _)).trans g2)
    clear g2
    go_wp2_with fail
    go_ret
    exact ⟨by rw [HS.out]; rfl, HG.out⟩
end Go.Proofs.Ytlfiakpmnkhcdaa
namespace Go.Proofs.Ytlfiakpmnkhcdaa
open Go.RowKit
set_option linter.unusedVariables false
theorem sg_same (x y : Int) (h : decide (x < 0) = decide (y < 0)) : sg (decide (x < 0)) (x.natAbs + y.natAbs) = x + y := by
  unfold sg
  by_cases h1 : x < 0 <;> by_cases h2 : y < 0 <;> simp [h1, h2] at h ⊢ <;> omega
theorem sg_diff (x y : Int) (h : decide (x < 0) ≠ decide (y < 0)) (hle : y.natAbs ≤ x.natAbs) : sg (decide (x < 0)) (x.natAbs - y.natAbs) = x + y := by
  unfold sg
  by_cases h1 : x < 0 <;> by_cases h2 : y < 0 <;> simp [h1, h2] at h ⊢ <;> omega
theorem sg_diff2 (x y : Int) (h : decide (x < 0) ≠ decide (y < 0)) (hle : x.natAbs ≤ y.natAbs) : -(sg (decide (x < 0)) (y.natAbs - x.natAbs)) = x + y := by
  unfold sg
  by_cases h1 : x < 0 <;> by_cases h2 : y < 0 <;> simp [h1, h2] at h ⊢ <;> omega
theorem len_le {l m : List Nat} (hl : Ow.Nm l) (hm : Ow.Nm m) (h : Ow.val m ≤ Ow.val l) : m.length ≤ l.length := by
  apply Classical.byContradiction; intro hn
  have := Ow.val_short hl hm (by omega)
  omega
set_option maxRecDepth 100000 in
set_option maxHeartbeats 1000000 in
theorem sum_any (M N : Nat) (x y : Int) (u v : Value) (w : World) (hu : HasI M w u x) (hv : HasI M w v y) (hM : M ≤ 100000) (hN : x.natAbs + y.natAbs < 4294967296 ^ N) :
    Calls Try.prog 64 #[u, v] w (IntZ N (x + y) w) := by
  obtain ⟨s, l, rfl, hd, hn, hval, hlM⟩ := hu
  obtain ⟨t, m, rfl, hd', hn', hval', hmM⟩ := hv
  have HD := Lib.hid hd
  have HD' := Lib.hid hd'
  have HNm := Lib.hid hn
  have HNm' := Lib.hid hn'
  have HV := Lib.hid hval
  have HV' := Lib.hid hval'
  have HN := Lib.hid hN
  have hl : l.length ≤ 100000 := by omega
  have hm : m.length ≤ 100000 := by omega
  obtain ⟨nx, hnx⟩ : ∃ nx, nx = decide (x < 0) := ⟨_, rfl⟩
  obtain ⟨ny, hny⟩ : ∃ ny, ny = decide (y < 0) := ⟨_, rfl⟩
  rw [← hnx, ← hny]
  have HNX := Lib.hid hnx
  have HNY := Lib.hid hny
  clear hd hd' hn hn' hval hval' hlM hmM hnx hny hM hN
  obtain ⟨-, a, cap, rfl, -, -, -⟩ := id HD.out
  obtain ⟨-, a', cap', rfl, -, -, -⟩ := id HD'.out
  go_enter Try.func64, Try.ntmps64
  go_wp2_with fail
  refine (signs_any _ _).mono ?_
  rintro e w1 ⟨rfl, hw1⟩
  obtain ⟨z0, hz0⟩ : ∃ z0 : World, z0 = ((w.alloc (.cells #[.bool nx, .slice a l.length cap] 87)).alloc (.cells #[.bool ny, .slice a' m.length cap'] 87)).alloc (.cells #[.bool false, .slice none 0 0] 87) := ⟨_, rfl⟩
  rw [← hz0] at hw1 ⊢
  have g0 : Gr w z0 := by rw [hz0]; exact ((Gr.new w _).alloc _).alloc _
  have g1 : Gr z0 w1 := by rw [← hw1]; exact Gr.new _ _
  have x0 : z0.cell? ⟨w.heap.size, 0, none⟩ = some (.bool nx) := by rw [hz0]; simp [go_sem]
  have x1 : z0.cell? ⟨w.heap.size, 1, none⟩ = some (.slice a l.length cap) := by rw [hz0]; simp [go_sem]
  have y0 : z0.cell? ⟨w.heap.size + 1, 0, none⟩ = some (.bool ny) := by rw [hz0]; simp [go_sem]
  have y1 : z0.cell? ⟨w.heap.size + 1, 1, none⟩ = some (.slice a' m.length cap') := by rw [hz0]; simp [go_sem]
  have r0 : z0.cell? ⟨w.heap.size + 1 + 1, 0, none⟩ = some (.bool false) := by rw [hz0]; simp [go_sem]
  have r1 : z0.cell? ⟨w.heap.size + 1 + 1, 1, none⟩ = some (.slice none 0 0) := by rw [hz0]; simp [go_sem]
  have e0 : z0.frozen? ⟨w.heap.size + 1 + 1, 0, none⟩ = false := by rw [hz0]; simp [go_sem]
  have e1 : z0.frozen? ⟨w.heap.size + 1 + 1, 1, none⟩ = false := by rw [hz0]; simp [go_sem]
  have b0 : w1.cell? ⟨z0.heap.size, 0, none⟩ = some (.bool nx) := by rw [← hw1]; simp [go_sem]
  have E0 := Lib.hid (g1.frozen r0 e0)
  have E1 := Lib.hid (g1.frozen r1 e1)
  have R0 := Lib.hid (g1.keeps r0)
  have R1 := Lib.hid (g1.keeps r1)
  have B0 := Lib.hid b0
  have x0 := g1.keeps x0
  have x1 := g1.keeps x1
  have y0 := g1.keeps y0
  have y1 := g1.keeps y1
  have HG := Lib.hid (g0.trans g1)
  clear hz0 hw1 g0 g1 b0 e0 e1 r0 r1
  by_cases heq : nx = ny
  · subst heq
    have HEQ := Lib.hid (show sg nx (x.natAbs + y.natAbs) = x + y by rw [HNX.out]; exact sg_same x y (by rw [← HNX.out, ← HNY.out]))
    go_wp2_with fail
    refine (plus_any l m _ _ _ (HD.out.later HG.out) (HD'.out.later HG.out) hl hm).mono ?_
    rintro e w2 ⟨p, lp, rfl, hdp, hnp, hvp, g2⟩
    have HDP := Lib.hid hdp
    have HNP := Lib.hid hnp
    have HVP := Lib.hid hvp
    have HG2 := Lib.hid g2
    clear hdp hnp hvp g2
    go_wp2_with fail
    refine (signs1_int nx lp p z0.heap.size N _ HDP.out (HG2.out.keeps B0.out) (Ow.nm_len (by rw [HNP.out.2]; exact HNP.out) (by rw [HNP.out.2, HVP.out, HV.out, HV'.out]; exact HN.out))).mono ?_
    rintro e w3 ⟨q, rfl, ⟨s', l', rfl, hs, hnl, hvl, hln⟩, g3⟩
    have HG3 := Lib.hid (HG2.out.trans g3)
    obtain ⟨-, a'', cap'', rfl, -, -, -⟩ := id hs
    have j0 := HG3.out.keeps R0.out
    have j1 := HG3.out.keeps R1.out
    have f0 := HG3.out.frozen R0.out E0.out
    have f1 := HG3.out.frozen R1.out E1.out
    have HS := Lib.hid hs
    have HL := Lib.hid (And.intro hnl (And.intro hvl hln))
    clear hs hnl hvl hln g3
    go_wp2_with fail
    refine bodyPost_ret (v := .agg #[.bool (decide (sg nx (Ow.val lp) < 0)), .slice a'' l'.length cap'']) (by simp [results, Try.results64, go_sem, j0, j1]) rfl ?_
    exact intz_stored (by rw [HVP.out, HV.out, HV'.out]; exact HEQ.out) rfl HS.out HL.out.1 HL.out.2.1 HL.out.2.2 (HG.out.trans HG3.out) (by omega) j0 j1 (by simp) (by simp)
  · have t0 : (nx == ny) = false := by simpa using heq
    have hne : decide (x < 0) ≠ decide (y < 0) := by rw [← HNX.out, ← HNY.out]; exact heq
    have HNE := Lib.hid hne
    clear hne heq
    go_wp2_with fail
    refine (compare_any l m _ _ _ (HD.out.later HG.out) (HD'.out.later HG.out) HNm.out HNm'.out).mono ?_
    rintro e w2 ⟨rfl, g2⟩
    have x0 := g2.keeps x0
    have x1 := g2.keeps x1
    have y0 := g2.keeps y0
    have y1 := g2.keeps y1
    have E0 := Lib.hid (g2.frozen R0.out E0.out)
    have E1 := Lib.hid (g2.frozen R1.out E1.out)
    have R0 := Lib.hid (g2.keeps R0.out)
    have R1 := Lib.hid (g2.keeps R1.out)
    have B0 := Lib.hid (g2.keeps B0.out)
    have HG := Lib.hid (HG.out.trans g2)
    clear g2
    by_cases hle : Ow.val m ≤ Ow.val l
    · have t1 : decide ((0 : Int) ≤ sgn (Ow.val l) (Ow.val m)) = true := by unfold sgn; simp; split <;> (try split) <;> omega
      have HLE := Lib.hid hle
      clear hle
      go_wp2_with fail
      refine (minus_any l m _ _ _ (HD.out.later HG.out) (HD'.out.later HG.out) hl (len_le HNm.out HNm'.out HLE.out) HLE.out).mono ?_
      rintro e w3 ⟨p, lp, rfl, hdp, hnp, hvp, g2⟩
      have HDP := Lib.hid hdp
      have HNP := Lib.hid hnp
      have HVP := Lib.hid hvp
      have HG2 := Lib.hid g2
      clear hdp hnp hvp g2
      go_wp2_with fail
      refine (signs1_int nx lp p z0.heap.size N _ HDP.out (HG2.out.keeps B0.out) (Ow.nm_len (by rw [HNP.out.2]; exact HNP.out) (by rw [HNP.out.2, HVP.out, HV.out, HV'.out]; have := HN.out; omega))).mono ?_
      rintro e w4 ⟨q, rfl, ⟨s', l', rfl, hs, hnl, hvl, hln⟩, g3⟩
      have HG3 := Lib.hid (HG2.out.trans g3)
      obtain ⟨-, a'', cap'', rfl, -, -, -⟩ := id hs
      have j0 := HG3.out.keeps R0.out
      have j1 := HG3.out.keeps R1.out
      have f0 := HG3.out.frozen R0.out E0.out
      have f1 := HG3.out.frozen R1.out E1.out
      have HS := Lib.hid hs
      have HL := Lib.hid (And.intro hnl (And.intro hvl hln))
      clear hs hnl hvl hln g3
      go_wp2_with fail
      refine bodyPost_ret (v := .agg #[.bool (decide (sg nx (Ow.val lp) < 0)), .slice a'' l'.length cap'']) (by simp [results, Try.results64, go_sem, j0, j1]) rfl ?_
      exact intz_stored (by rw [HVP.out, HV.out, HV'.out, HNX.out]; exact sg_diff x y HNE.out (by rw [← HV.out, ← HV'.out]; exact HLE.out)) rfl HS.out HL.out.1 HL.out.2.1 HL.out.2.2 (HG.out.trans HG3.out) (by omega) j0 j1 (by simp) (by simp)
    · have t1 : decide ((0 : Int) ≤ sgn (Ow.val l) (Ow.val m)) = false := by unfold sgn; simp; split <;> (try split) <;> omega
      have HLE := Lib.hid (show Ow.val l ≤ Ow.val m by omega)
      clear hle
      go_wp2_with fail
      refine (minus_any m l _ _ _ (HD'.out.later HG.out) (HD.out.later HG.out) hm (len_le HNm'.out HNm.out HLE.out) HLE.out).mono ?_
      rintro e w3 ⟨p, lp, rfl, hdp, hnp, hvp, g2⟩
      have HDP := Lib.hid hdp
      have HNP := Lib.hid hnp
      have HVP := Lib.hid hvp
      have HG2 := Lib.hid g2
      clear hdp hnp hvp g2
      go_wp2_with fail
      refine (signs1_int nx lp p z0.heap.size N _ HDP.out (HG2.out.keeps B0.out) (Ow.nm_len (by rw [HNP.out.2]; exact HNP.out) (by rw [HNP.out.2, HVP.out, HV.out, HV'.out]; have := HN.out; omega))).mono ?_
      rintro e w4 ⟨q, rfl, hI, g3⟩
      have HG3 := Lib.hid (HG2.out.trans g3)
      have HI := Lib.hid hI
      clear hI g3
      go_wp2_with fail
      refine (negative_any N _ q _ HI.out).mono ?_
      rintro e w5 ⟨q2, rfl, ⟨s', l', rfl, hs, hnl, hvl, hln⟩, g4⟩
      have HG4 := Lib.hid (HG3.out.trans g4)
      obtain ⟨nz, hnz⟩ : ∃ nz, nz = decide (-(sg nx (Ow.val lp)) < 0) := ⟨_, rfl⟩
      rw [← hnz]
      have HNZ := Lib.hid hnz
      clear hnz
      obtain ⟨-, a'', cap'', rfl, -, -, -⟩ := id hs
      have j0 := HG4.out.keeps R0.out
      have j1 := HG4.out.keeps R1.out
      have f0 := HG4.out.frozen R0.out E0.out
      have f1 := HG4.out.frozen R1.out E1.out
      have HS := Lib.hid hs
      have HL := Lib.hid (And.intro hnl (And.intro hvl hln))
      clear hs hnl hvl hln g4
      go_wp2_with fail
      refine bodyPost_ret (v := .agg #[.bool nz, .slice a'' l'.length cap'']) (by simp [results, Try.results64, go_sem, j0, j1]) rfl ?_
      exact intz_stored (z' := -(sg nx (Ow.val lp))) (by rw [HVP.out, HV.out, HV'.out, HNX.out]; exact sg_diff2 x y HNE.out (by rw [← HV.out, ← HV'.out]; exact HLE.out)) HNZ.out HS.out HL.out.1 HL.out.2.1 HL.out.2.2 (HG.out.trans HG4.out) (by omega) j0 j1 (by simp) (by simp)
end Go.Proofs.Ytlfiakpmnkhcdaa
