/- divide: quotient and rest of integers. -/
import Derived.Test.YtnehcafmebokmaaGreatDoorPGg
namespace Go.Proofs.YtnehcafmebokmaaGreatDoor
open Go.RowKit
set_option linter.unusedVariables false

/-- Quotient and rest are determined. -/
theorem euclid {x y q r : Int} (hy : y ≠ 0) (h : x = y * q + r) (h0 : 0 ≤ r) (h1 : r < y.natAbs) : q = x / y ∧ r = x % y := by
  have e1 : x % y = r := by
    rw [h, Int.mul_add_emod_self_left]
    rcases Int.natAbs_eq y with e | e
    · rw [e]; exact Int.emod_eq_of_lt h0 (by omega)
    · rw [e, Int.emod_neg]; exact Int.emod_eq_of_lt h0 (by omega)
  have e2 := Int.mul_ediv_add_emod x y
  rw [e1] at e2
  have e3 : y * (x / y) = y * q := by omega
  exact ⟨(Int.eq_of_mul_eq_mul_left hy e3).symm, e1.symm⟩
theorem sg_sign (x : Int) : x = sg (decide (x < 0)) x.natAbs := (sg_self x).symm
/-- The rest needs no correction. -/
theorem div_plain {x y : Int} (hy : y ≠ 0) (h : ¬ (x < 0 ∧ 0 < x.natAbs % y.natAbs)) : sg (decide (x < 0) != decide (y < 0)) (x.natAbs / y.natAbs) = x / y ∧ ((x.natAbs % y.natAbs : Nat) : Int) = x % y := by
  have hb : 0 < y.natAbs := by omega
  have e := Nat.div_add_mod x.natAbs y.natAbs
  have hr := Nat.mod_lt x.natAbs hb
  generalize hq : x.natAbs / y.natAbs = q at *
  generalize hrr : x.natAbs % y.natAbs = r at *
  refine euclid hy ?_ (by omega) (by omega)
  have e' : (x.natAbs : Int) = (y.natAbs : Int) * (q : Int) + (r : Int) := by rw [← e]; simp
  by_cases h1 : x < 0 <;> by_cases h2 : y < 0
  · have hr0 : r = 0 := by omega
    have hx : (x.natAbs : Int) = -x := by omega
    have hyy : (y.natAbs : Int) = -y := by omega
    rw [hx, hyy, hr0] at e'
    rw [hr0]
    simp [sg, h1, h2]
    rw [Int.neg_mul] at e'
    omega
  · have hr0 : r = 0 := by omega
    have hx : (x.natAbs : Int) = -x := by omega
    have hyy : (y.natAbs : Int) = y := by omega
    rw [hx, hyy, hr0] at e'
    rw [hr0]
    simp [sg, h1, h2]
    rw [Int.mul_neg]
    omega
  · have hx : (x.natAbs : Int) = x := by omega
    have hyy : (y.natAbs : Int) = -y := by omega
    rw [hx, hyy, Int.neg_mul] at e'
    simp [sg, h1, h2]
    rw [Int.mul_neg]
    omega
  · have hx : (x.natAbs : Int) = x := by omega
    have hyy : (y.natAbs : Int) = y := by omega
    rw [hx, hyy] at e'
    simp [sg, h1, h2]
    omega
/-- One more is taken away. -/
theorem div_fix {x y : Int} (hy : y ≠ 0) (h : x < 0) (h2 : 0 < x.natAbs % y.natAbs) : sg (decide (x < 0) != decide (y < 0)) (x.natAbs / y.natAbs + 1) = x / y ∧ ((y.natAbs - x.natAbs % y.natAbs : Nat) : Int) = x % y := by
  have hb : 0 < y.natAbs := by omega
  have e := Nat.div_add_mod x.natAbs y.natAbs
  have hr := Nat.mod_lt x.natAbs hb
  generalize hq : x.natAbs / y.natAbs = q at *
  generalize hrr : x.natAbs % y.natAbs = r at *
  refine euclid hy ?_ (by omega) (by omega)
  have e' : (x.natAbs : Int) = (y.natAbs : Int) * (q : Int) + (r : Int) := by rw [← e]; simp
  have hs : ((y.natAbs - r : Nat) : Int) = (y.natAbs : Int) - (r : Int) := by omega
  rw [hs]
  have hx : (x.natAbs : Int) = -x := by omega
  by_cases h3 : y < 0
  · have hyy : (y.natAbs : Int) = -y := by omega
    rw [hx, hyy, Int.neg_mul] at e'
    rw [hyy]
    simp [sg, h, h3]
    rw [Int.mul_add]
    omega
  · have hyy : (y.natAbs : Int) = y := by omega
    rw [hx, hyy] at e'
    rw [hyy]
    simp [sg, h, h3]
    rw [Int.mul_neg, Int.mul_add]
    omega
/-- Quotient and rest. -/
def DivZ (M N : Nat) (x y : Int) (w : World) (e : Ending) (w' : World) : Prop := ∃ u v, e = .returned (.tuple #[u, v]) ∧ HasI M w' u (x / y) ∧ HasI N w' v (x % y) ∧ Gr w w'
theorem HasI.set {N : Nat} {W : World} {v : Value} {z : Int} (h : HasI N W v z) {p : Addr} {u0 : Value} (hc : W.cell? p = some u0) (hu : ∀ n, u0 ≠ .int .u32 n) (u : Value) : HasI N (W.setCell p u) v z := by
  obtain ⟨s, l, h1, h2, h3⟩ := h
  exact ⟨s, l, h1, h2.setAt hc hu u, h3⟩
theorem cell_other {W : World} {p q : Addr} (h : p ≠ q) (u : Value) : (W.setCell p u).cell? q = W.cell? q := World.cell?_setCell_other W p q u h
theorem HasI.set4 {N : Nat} {W : World} {v : Value} {z : Int} (h : HasI N W v z) {B C : Nat} {b0 b1 c0 c1 : Value} (hBC : B ≠ C) (k0 : W.cell? ⟨B, 0, none⟩ = some b0) (k1 : W.cell? ⟨B, 1, none⟩ = some b1) (k2 : W.cell? ⟨C, 0, none⟩ = some c0) (k3 : W.cell? ⟨C, 1, none⟩ = some c1)
    (n0 : ∀ n, b0 ≠ .int .u32 n) (n1 : ∀ n, b1 ≠ .int .u32 n) (n2 : ∀ n, c0 ≠ .int .u32 n) (n3 : ∀ n, c1 ≠ .int .u32 n) (a b c d : Value) :
    HasI N ((((W.setCell ⟨B, 0, none⟩ a).setCell ⟨B, 1, none⟩ b).setCell ⟨C, 0, none⟩ c).setCell ⟨C, 1, none⟩ d) v z := by
  refine (((h.set k0 n0 a).set ?_ n1 b).set ?_ n2 c).set ?_ n3 d
  · rw [cell_other (by simp)]; exact k1
  · rw [cell_other (fun e => hBC (congrArg Addr.block e)), cell_other (fun e => hBC (congrArg Addr.block e))]; exact k2
  · rw [cell_other (by simp), cell_other (fun e => hBC (congrArg Addr.block e)), cell_other (fun e => hBC (congrArg Addr.block e))]; exact k3

set_option maxRecDepth 100000 in
set_option maxHeartbeats 3000000 in
theorem divide_any (x y : Int) (u v : Value) (w : World) (hu : HasI 64 w u x) (hv : HasI 64 w v y) (hy : y ≠ 0) :
    Calls Tryz.prog 19 #[u, v] w (DivZ 65 64 x y w) := by
  obtain ⟨s, l, rfl, hd, hn, hval, hl⟩ := hu
  obtain ⟨t, m, rfl, hd', hn', hval', hm⟩ := hv
  have HD := Lib.hid hd
  have HD' := Lib.hid hd'
  have HNm := Lib.hid hn
  have HNm' := Lib.hid hn'
  have HV := Lib.hid hval
  have HV' := Lib.hid hval'
  have HY := Lib.hid hy
  have hm0 : 0 < m.length := by
    apply Nat.pos_of_ne_zero; intro h0
    rw [List.length_eq_zero_iff.1 h0] at hval'
    simp [Ow.val] at hval'
    omega
  have hA : x.natAbs < 4294967296 ^ 64 := by rw [← hval]; exact Nat.lt_of_lt_of_le (Ow.val_lt l hn.1) (Nat.pow_le_pow_right (by omega) hl)
  have hB : y.natAbs < 4294967296 ^ 64 := by rw [← hval']; exact Nat.lt_of_lt_of_le (Ow.val_lt m hn'.1) (Nat.pow_le_pow_right (by omega) hm)
  have HA := Lib.hid hA
  have HB0 := Lib.hid hB
  obtain ⟨nx, hnx⟩ : ∃ nx, nx = decide (x < 0) := ⟨_, rfl⟩
  obtain ⟨ny, hny⟩ : ∃ ny, ny = decide (y < 0) := ⟨_, rfl⟩
  rw [← hnx, ← hny]
  have HNX := Lib.hid hnx
  have HNY := Lib.hid hny
  clear hd hd' hn hn' hval hval' hnx hny hy hA hB
  obtain ⟨-, a, cap, rfl, -, -, -⟩ := id HD.out
  obtain ⟨-, a', cap', rfl, -, -, -⟩ := id HD'.out
  go_enter Tryz.func19, Tryz.ntmps19
  go_wp2_with fail
  refine (signs_box _ _).mono ?_
  rintro e w1 ⟨p, rfl, hb, g⟩
  obtain ⟨W, hW⟩ : ∃ W : World, W = (((w.alloc (.cells #[.bool nx, .slice a l.length cap] 44)).alloc (.cells #[.bool ny, .slice a' m.length cap'] 44)).alloc (.cells #[.bool false, .slice none 0 0] 44)).alloc (.cells #[.bool false, .slice none 0 0] 44) := ⟨_, rfl⟩
  rw [← hW] at g
  have g1 : Gr w W := by rw [hW]; exact (((Gr.new w _).alloc _).alloc _).alloc _
  have x0 : W.cell? ⟨w.heap.size, 0, none⟩ = some (.bool nx) := by rw [hW]; simp [go_sem]
  have x1 : W.cell? ⟨w.heap.size, 1, none⟩ = some (.slice a l.length cap) := by rw [hW]; simp [go_sem]
  have y0 : W.cell? ⟨w.heap.size + 1, 0, none⟩ = some (.bool ny) := by rw [hW]; simp [go_sem]
  have y1 : W.cell? ⟨w.heap.size + 1, 1, none⟩ = some (.slice a' m.length cap') := by rw [hW]; simp [go_sem]
  have RA0 := Lib.hid (show W.cell? ⟨w.heap.size + 1 + 1, 0, none⟩ = some (.bool false) by rw [hW]; simp [go_sem])
  have RA1 := Lib.hid (show W.cell? ⟨w.heap.size + 1 + 1, 1, none⟩ = some (.slice none 0 0) by rw [hW]; simp [go_sem])
  have RC0 := Lib.hid (show W.cell? ⟨w.heap.size + 1 + 1 + 1, 0, none⟩ = some (.bool false) by rw [hW]; simp [go_sem])
  have RC1 := Lib.hid (show W.cell? ⟨w.heap.size + 1 + 1 + 1, 1, none⟩ = some (.slice none 0 0) by rw [hW]; simp [go_sem])
  have FA0 := Lib.hid (show W.frozen? ⟨w.heap.size + 1 + 1, 0, none⟩ = false by rw [hW]; simp [go_sem])
  have FA1 := Lib.hid (show W.frozen? ⟨w.heap.size + 1 + 1, 1, none⟩ = false by rw [hW]; simp [go_sem])
  have FC0 := Lib.hid (show W.frozen? ⟨w.heap.size + 1 + 1 + 1, 0, none⟩ = false by rw [hW]; simp [go_sem])
  have FC1 := Lib.hid (show W.frozen? ⟨w.heap.size + 1 + 1 + 1, 1, none⟩ = false by rw [hW]; simp [go_sem])
  have HG := Lib.hid g1
  clear hW g1
  have x0 := g.keeps x0
  have x1 := g.keeps x1
  have y0 := g.keeps y0
  have y1 := g.keeps y1
  have FA0 := Lib.hid (g.frozen RA0.out FA0.out)
  have FA1 := Lib.hid (g.frozen RA1.out FA1.out)
  have FC0 := Lib.hid (g.frozen RC0.out FC0.out)
  have FC1 := Lib.hid (g.frozen RC1.out FC1.out)
  have RA0 := Lib.hid (g.keeps RA0.out)
  have RA1 := Lib.hid (g.keeps RA1.out)
  have RC0 := Lib.hid (g.keeps RC0.out)
  have RC1 := Lib.hid (g.keeps RC1.out)
  have HG := Lib.hid (HG.out.trans g)
  have HB := Lib.hid hb
  clear g hb
  go_wp2_with fail
  refine (split_any l m _ _ _ (HD.out.later HG.out) (HD'.out.later HG.out) HNm.out HNm'.out hm0 (by omega) (by omega)).mono ?_
  rintro e w2 ⟨vq, vr, lq, lr, rfl, hdq, hdr, hnq, hnr, hvq, hvr, g⟩
  have x0 := g.keeps x0
  have x1 := g.keeps x1
  have y0 := g.keeps y0
  have y1 := g.keeps y1
  have FA0 := Lib.hid (g.frozen RA0.out FA0.out)
  have FA1 := Lib.hid (g.frozen RA1.out FA1.out)
  have FC0 := Lib.hid (g.frozen RC0.out FC0.out)
  have FC1 := Lib.hid (g.frozen RC1.out FC1.out)
  have RA0 := Lib.hid (g.keeps RA0.out)
  have RA1 := Lib.hid (g.keeps RA1.out)
  have RC0 := Lib.hid (g.keeps RC0.out)
  have RC1 := Lib.hid (g.keeps RC1.out)
  have HG := Lib.hid (HG.out.trans g)
  have HB := Lib.hid (g.keeps HB.out)
  have HQ := Lib.hid hdq
  have HRR := Lib.hid hdr
  have HNQ := Lib.hid hnq
  have HNR := Lib.hid hnr
  have hvq2 : Ow.val lq = x.natAbs / y.natAbs := by rw [hvq, HV.out, HV'.out]
  have hvr2 : Ow.val lr = x.natAbs % y.natAbs := by rw [hvr, HV.out, HV'.out]
  have HVQ := Lib.hid hvq2
  have HVR := Lib.hid hvr2
  have hlq : lq.length ≤ 64 := Ow.nm_len hnq (by rw [hvq2]; exact Nat.lt_of_le_of_lt (Nat.div_le_self _ _) HA.out)
  have hlr : lr.length ≤ 64 := Ow.nm_len hnr (by rw [hvr2]; exact Nat.lt_trans (Nat.mod_lt _ (by have := HY.out; omega)) HB0.out)
  have hlr2 : lr.length ≤ m.length := Ow.nm_len hnr (by rw [hvr2]; exact Nat.lt_of_lt_of_le (Nat.mod_lt _ (by have := HY.out; omega)) (by rw [← HV'.out]; exact Nat.le_of_lt (Ow.val_lt m HNm'.out.1)))
  have hpos : 0 < lr.length ↔ 0 < Ow.val lr := by
    have := Ow.tr_pos hnr.1
    rw [hnr.2] at this
    exact this
  have HPOS := Lib.hid hpos
  clear g hdq hdr hnq hnr hvq hvr hvq2 hvr2 hpos
  obtain ⟨-, aq, cq, rfl, -, -, -⟩ := id HQ.out
  obtain ⟨-, ar, cr, rfl, -, -, -⟩ := id HRR.out
  by_cases hfix : nx = true ∧ 0 < lr.length
  · obtain ⟨hx1, hr1⟩ := hfix
    have hm5 : m.length ≤ 100000 := by omega
    have hq5 : lq.length ≤ 100000 := by omega
    have h15 : [1].length ≤ 100000 := by decide
    subst hx1
    have t1 : decide ((0 : Int) < (lr.length : Int)) = true := by simp; omega
    have t2 : decide (0 < lr.length) = true := by simp; omega
    have hx : x < 0 := by have := HNX.out; simp at this; omega
    have HDF := Lib.hid (div_fix HY.out hx (by rw [← HVR.out]; exact HPOS.out.1 hr1))
    have HLE := Lib.hid (show Ow.val lr ≤ Ow.val m by rw [HVR.out, HV'.out]; exact Nat.le_of_lt (Nat.mod_lt _ (by have := HY.out; omega)))
    go_wp2_with fail
    have HG := Lib.hid (show Gr w w2.drew from Below.drew HG.out)
    have HB := Lib.hid (show w2.drew.cell? ⟨p, 0, none⟩ = _ from HB.out)
    have x0 : w2.drew.cell? ⟨w.heap.size, 0, none⟩ = some (.bool true) := x0
    have x1 : w2.drew.cell? ⟨w.heap.size, 1, none⟩ = some (.slice a l.length cap) := x1
    have y0 : w2.drew.cell? ⟨w.heap.size + 1, 0, none⟩ = some (.bool ny) := y0
    have y1 : w2.drew.cell? ⟨w.heap.size + 1, 1, none⟩ = some (.slice a' m.length cap') := y1
    have HQ := Lib.hid (HQ.out.later (Below.drew (Gr.refl w2)))
    have HRR := Lib.hid (HRR.out.later (Below.drew (Gr.refl w2)))
    have RA0 := Lib.hid (show w2.drew.cell? ⟨w.heap.size + 1 + 1, 0, none⟩ = some (.bool false) from RA0.out)
    have FA0 := Lib.hid (show w2.drew.frozen? ⟨w.heap.size + 1 + 1, 0, none⟩ = false from FA0.out)
    have RA1 := Lib.hid (show w2.drew.cell? ⟨w.heap.size + 1 + 1, 1, none⟩ = some (.slice none 0 0) from RA1.out)
    have FA1 := Lib.hid (show w2.drew.frozen? ⟨w.heap.size + 1 + 1, 1, none⟩ = false from FA1.out)
    have RC0 := Lib.hid (show w2.drew.cell? ⟨w.heap.size + 1 + 1 + 1, 0, none⟩ = some (.bool false) from RC0.out)
    have FC0 := Lib.hid (show w2.drew.frozen? ⟨w.heap.size + 1 + 1 + 1, 0, none⟩ = false from FC0.out)
    have RC1 := Lib.hid (show w2.drew.cell? ⟨w.heap.size + 1 + 1 + 1, 1, none⟩ = some (.slice none 0 0) from RC1.out)
    have FC1 := Lib.hid (show w2.drew.frozen? ⟨w.heap.size + 1 + 1 + 1, 1, none⟩ = false from FC1.out)
    go_region_held3 (fun w' => w'.cell? ⟨w.heap.size + 1, 1, none⟩ = some (.slice a' m.length cap')) (first | exact y1 | go_keep)
      (first
        | (go_at_call 47; (with_reducible refine (unit_any _).mono ?_); rintro e w' ⟨vu, rfl, hu1, g⟩; have x0 := g.keeps x0; have x1 := g.keeps x1; have y0 := g.keeps y0; have y1 := g.keeps y1; have FA0 := Lib.hid (g.frozen RA0.out FA0.out); have FA1 := Lib.hid (g.frozen RA1.out FA1.out); have FC0 := Lib.hid (g.frozen RC0.out FC0.out); have FC1 := Lib.hid (g.frozen RC1.out FC1.out); have RA0 := Lib.hid (g.keeps RA0.out); have RA1 := Lib.hid (g.keeps RA1.out); have RC0 := Lib.hid (g.keeps RC0.out); have RC1 := Lib.hid (g.keeps RC1.out); have HG := Lib.hid (HG.out.trans g); have HB := Lib.hid (g.keeps HB.out); have HU := Lib.hid hu1; have HQ := Lib.hid (HQ.out.later g); have HRR := Lib.hid (HRR.out.later g); (try have HQ2 := Lib.hid (HQ2.out.later g)); (try have HR2 := Lib.hid (HR2.out.later g)); clear hu1 g)
        | (go_at_call 46; (with_reducible refine (plus_any lq [1] _ _ _ HQ.out HU.out hq5 h15).mono ?_); rintro e w' ⟨vq2, lq2, rfl, hd2, hn2, hv2, g⟩; have x0 := g.keeps x0; have x1 := g.keeps x1; have y0 := g.keeps y0; have y1 := g.keeps y1; have FA0 := Lib.hid (g.frozen RA0.out FA0.out); have FA1 := Lib.hid (g.frozen RA1.out FA1.out); have FC0 := Lib.hid (g.frozen RC0.out FC0.out); have FC1 := Lib.hid (g.frozen RC1.out FC1.out); have RA0 := Lib.hid (g.keeps RA0.out); have RA1 := Lib.hid (g.keeps RA1.out); have RC0 := Lib.hid (g.keeps RC0.out); have RC1 := Lib.hid (g.keeps RC1.out); have HG := Lib.hid (HG.out.trans g); have HB := Lib.hid (g.keeps HB.out); have HQ2 := Lib.hid hd2; have HQN := Lib.hid hn2; have HQV := Lib.hid hv2; have HQ := Lib.hid (HQ.out.later g); have HU := Lib.hid (HU.out.later g); have HRR := Lib.hid (HRR.out.later g); (try have HR2 := Lib.hid (HR2.out.later g)); clear hd2 hn2 hv2 g)
        | (go_at_call 48; (with_reducible refine (minus_any m lr _ _ _ (HD'.out.later HG.out) HRR.out hm5 hlr2 HLE.out).mono ?_); rintro e w' ⟨vr2, lr2, rfl, hd2, hn2, hv2, g⟩; have x0 := g.keeps x0; have x1 := g.keeps x1; have y0 := g.keeps y0; have y1 := g.keeps y1; have FA0 := Lib.hid (g.frozen RA0.out FA0.out); have FA1 := Lib.hid (g.frozen RA1.out FA1.out); have FC0 := Lib.hid (g.frozen RC0.out FC0.out); have FC1 := Lib.hid (g.frozen RC1.out FC1.out); have RA0 := Lib.hid (g.keeps RA0.out); have RA1 := Lib.hid (g.keeps RA1.out); have RC0 := Lib.hid (g.keeps RC0.out); have RC1 := Lib.hid (g.keeps RC1.out); have HG := Lib.hid (HG.out.trans g); have HB := Lib.hid (g.keeps HB.out); have HR2 := Lib.hid hd2; have HRN := Lib.hid hn2; have HRV := Lib.hid hv2; (try have HU := Lib.hid (HU.out.later g)); have HQ := Lib.hid (HQ.out.later g); (try have HQ2 := Lib.hid (HQ2.out.later g)); clear hd2 hn2 hv2 g))
    all_goals
      have HQ := HQ2
      have HRR := HR2
      obtain ⟨-, aq2, cq2, rfl, -, -, -⟩ := id HQ.out
      obtain ⟨-, ar2, cr2, rfl, -, -, -⟩ := id HRR.out
      have HVQ2 := Lib.hid (show Ow.val lq2 = x.natAbs / y.natAbs + 1 by rw [HQV.out, HVQ.out]; simp [Ow.val])
      have HVR2 := Lib.hid (show Ow.val lr2 = y.natAbs - x.natAbs % y.natAbs by rw [HRV.out, HVR.out, HV'.out])
      clear HQ2 HR2
      go_wp2_with fail
      refine (signs1_int _ lq2 _ p 65 _ HQ.out HB.out (Ow.nm_len (by rw [HQN.out.2]; exact HQN.out) (by rw [HQN.out.2, HVQ2.out, Nat.pow_succ]; have := HA.out; have := Nat.div_le_self x.natAbs y.natAbs; omega))).mono ?_
      rintro e w3 ⟨q1, rfl, hI, g⟩
      have x0 := g.keeps x0
      have x1 := g.keeps x1
      have y0 := g.keeps y0
      have y1 := g.keeps y1
      have FA0 := Lib.hid (g.frozen RA0.out FA0.out)
      have FA1 := Lib.hid (g.frozen RA1.out FA1.out)
      have FC0 := Lib.hid (g.frozen RC0.out FC0.out)
      have FC1 := Lib.hid (g.frozen RC1.out FC1.out)
      have RA0 := Lib.hid (g.keeps RA0.out)
      have RA1 := Lib.hid (g.keeps RA1.out)
      have RC0 := Lib.hid (g.keeps RC0.out)
      have RC1 := Lib.hid (g.keeps RC1.out)
      have HG := Lib.hid (HG.out.trans g)
      have HRR := Lib.hid (HRR.out.later g)
      rw [show sg (!true == ny) (Ow.val lq2) = x / y by rw [HVQ2.out, ← HDF.out.1, ← HNY.out, ← HNX.out]; rfl] at hI
      obtain ⟨Z1, hZ1⟩ : ∃ Z1, Z1 = x / y := ⟨_, rfl⟩
      rw [← hZ1] at hI
      have HZ1 := Lib.hid hZ1
      clear hZ1 g
      obtain ⟨s1, l1, rfl, hs1, hh1⟩ := id hI
      obtain ⟨-, a1, c1, rfl, -, -, -⟩ := id hs1
      obtain ⟨b1, hb1⟩ : ∃ b1, b1 = decide (Z1 < 0) := ⟨_, rfl⟩
      rw [← hb1] at hI
      rw [← hb1]
      have HI1 := Lib.hid hI
      clear hI hs1 hh1 hb1
      go_wp2_with fail
      refine (signs_box _ _).mono ?_
      rintro e w4 ⟨p2, rfl, hb, g⟩
      have x0 := g.keeps x0
      have x1 := g.keeps x1
      have y0 := g.keeps y0
      have y1 := g.keeps y1
      have FA0 := Lib.hid (g.frozen RA0.out FA0.out)
      have FA1 := Lib.hid (g.frozen RA1.out FA1.out)
      have FC0 := Lib.hid (g.frozen RC0.out FC0.out)
      have FC1 := Lib.hid (g.frozen RC1.out FC1.out)
      have RA0 := Lib.hid (g.keeps RA0.out)
      have RA1 := Lib.hid (g.keeps RA1.out)
      have RC0 := Lib.hid (g.keeps RC0.out)
      have RC1 := Lib.hid (g.keeps RC1.out)
      have HG := Lib.hid (HG.out.trans g)
      have HRR := Lib.hid (HRR.out.later g)
      have HI1 := Lib.hid (HI1.out.later g)
      have HB := Lib.hid hb
      clear hb g
      go_wp2_with fail
      refine (signs1_int _ lr2 _ p2 64 _ HRR.out HB.out (Ow.nm_len (by rw [HRN.out.2]; exact HRN.out) (by rw [HRN.out.2, HVR2.out]; have := HB0.out; omega))).mono ?_
      rintro e w5 ⟨q2, rfl, hI, g⟩
      have x0 := g.keeps x0
      have x1 := g.keeps x1
      have y0 := g.keeps y0
      have y1 := g.keeps y1
      have FA0 := Lib.hid (g.frozen RA0.out FA0.out)
      have FA1 := Lib.hid (g.frozen RA1.out FA1.out)
      have FC0 := Lib.hid (g.frozen RC0.out FC0.out)
      have FC1 := Lib.hid (g.frozen RC1.out FC1.out)
      have RA0 := Lib.hid (g.keeps RA0.out)
      have RA1 := Lib.hid (g.keeps RA1.out)
      have RC0 := Lib.hid (g.keeps RC0.out)
      have RC1 := Lib.hid (g.keeps RC1.out)
      have HG := Lib.hid (HG.out.trans g)
      have HI1 := Lib.hid (HI1.out.later g)
      rw [show sg false (Ow.val lr2) = x % y by rw [HVR2.out, ← HDF.out.2]; rfl] at hI
      obtain ⟨Z2, hZ2⟩ : ∃ Z2, Z2 = x % y := ⟨_, rfl⟩
      rw [← hZ2] at hI
      have HZ2 := Lib.hid hZ2
      clear hZ2 g
      obtain ⟨s2, l2, rfl, hs2, hh2⟩ := id hI
      obtain ⟨-, a2, c2, rfl, -, -, -⟩ := id hs2
      obtain ⟨b2, hb2⟩ : ∃ b2, b2 = decide (Z2 < 0) := ⟨_, rfl⟩
      rw [← hb2] at hI
      rw [← hb2]
      have HI2 := Lib.hid hI
      clear hI hs2 hh2 hb2
      have r0 := RA0.out
      have r1 := RA1.out
      have r2 := RC0.out
      have r3 := RC1.out
      have f0 := FA0.out
      have f1 := FA1.out
      have f2 := FC0.out
      have f3 := FC1.out
      go_wp2_with fail
      refine bodyPost_ret (v := .tuple #[.agg #[.bool b1, .slice a1 l1.length c1], .agg #[.bool b2, .slice a2 l2.length c2]]) (by simp [results, Tryz.results19, go_sem, r0, r1, r2, r3]) rfl ?_
      refine ⟨_, _, rfl, by rw [← HZ1.out]; exact HI1.out.set4 (by omega) RA0.out RA1.out RC0.out RC1.out (by simp) (by simp) (by simp) (by simp) _ _ _ _, by rw [← HZ2.out]; exact HI2.out.set4 (by omega) RA0.out RA1.out RC0.out RC1.out (by simp) (by simp) (by simp) (by simp) _ _ _ _, ?_⟩
      exact (((HG.out.setCell (p := ⟨w.heap.size + 1 + 1, 0, none⟩) (by simp; omega) _).setCell (p := ⟨w.heap.size + 1 + 1, 1, none⟩) (by simp; omega) _).setCell (p := ⟨w.heap.size + 1 + 1 + 1, 0, none⟩) (by simp; omega) _).setCell (p := ⟨w.heap.size + 1 + 1 + 1, 1, none⟩) (by simp; omega) _
  · have hh : ¬ (x < 0 ∧ 0 < x.natAbs % y.natAbs) := by
      intro h
      apply hfix
      refine ⟨by rw [HNX.out]; simp [h.1], HPOS.out.2 (by rw [HVR.out]; exact h.2)⟩
    have HDF := Lib.hid (div_plain HY.out hh)
    have HFIX := Lib.hid hfix
    clear hfix hh
    cases nx with
    | false =>
      go_wp2_with fail
      refine (signs1_int _ lq _ p 65 _ HQ.out HB.out (by rw [HNQ.out.2]; omega)).mono ?_
      rintro e w3 ⟨q1, rfl, hI, g⟩
      have x0 := g.keeps x0
      have x1 := g.keeps x1
      have y0 := g.keeps y0
      have y1 := g.keeps y1
      have FA0 := Lib.hid (g.frozen RA0.out FA0.out)
      have FA1 := Lib.hid (g.frozen RA1.out FA1.out)
      have FC0 := Lib.hid (g.frozen RC0.out FC0.out)
      have FC1 := Lib.hid (g.frozen RC1.out FC1.out)
      have RA0 := Lib.hid (g.keeps RA0.out)
      have RA1 := Lib.hid (g.keeps RA1.out)
      have RC0 := Lib.hid (g.keeps RC0.out)
      have RC1 := Lib.hid (g.keeps RC1.out)
      have HG := Lib.hid (HG.out.trans g)
      have HRR := Lib.hid (HRR.out.later g)
      rw [show sg (!false == ny) (Ow.val lq) = x / y by rw [HVQ.out, ← HDF.out.1, ← HNY.out, ← HNX.out]; rfl] at hI
      obtain ⟨Z1, hZ1⟩ : ∃ Z1, Z1 = x / y := ⟨_, rfl⟩
      rw [← hZ1] at hI
      have HZ1 := Lib.hid hZ1
      clear hZ1 g
      obtain ⟨s1, l1, rfl, hs1, hh1⟩ := id hI
      obtain ⟨-, a1, c1, rfl, -, -, -⟩ := id hs1
      obtain ⟨b1, hb1⟩ : ∃ b1, b1 = decide (Z1 < 0) := ⟨_, rfl⟩
      rw [← hb1] at hI
      rw [← hb1]
      have HI1 := Lib.hid hI
      clear hI hs1 hh1 hb1
      go_wp2_with fail
      refine (signs_box _ _).mono ?_
      rintro e w4 ⟨p2, rfl, hb, g⟩
      have x0 := g.keeps x0
      have x1 := g.keeps x1
      have y0 := g.keeps y0
      have y1 := g.keeps y1
      have FA0 := Lib.hid (g.frozen RA0.out FA0.out)
      have FA1 := Lib.hid (g.frozen RA1.out FA1.out)
      have FC0 := Lib.hid (g.frozen RC0.out FC0.out)
      have FC1 := Lib.hid (g.frozen RC1.out FC1.out)
      have RA0 := Lib.hid (g.keeps RA0.out)
      have RA1 := Lib.hid (g.keeps RA1.out)
      have RC0 := Lib.hid (g.keeps RC0.out)
      have RC1 := Lib.hid (g.keeps RC1.out)
      have HG := Lib.hid (HG.out.trans g)
      have HRR := Lib.hid (HRR.out.later g)
      have HI1 := Lib.hid (HI1.out.later g)
      have HB := Lib.hid hb
      clear hb g
      go_wp2_with fail
      refine (signs1_int _ lr _ p2 64 _ HRR.out HB.out (by rw [HNR.out.2]; omega)).mono ?_
      rintro e w5 ⟨q2, rfl, hI, g⟩
      have x0 := g.keeps x0
      have x1 := g.keeps x1
      have y0 := g.keeps y0
      have y1 := g.keeps y1
      have FA0 := Lib.hid (g.frozen RA0.out FA0.out)
      have FA1 := Lib.hid (g.frozen RA1.out FA1.out)
      have FC0 := Lib.hid (g.frozen RC0.out FC0.out)
      have FC1 := Lib.hid (g.frozen RC1.out FC1.out)
      have RA0 := Lib.hid (g.keeps RA0.out)
      have RA1 := Lib.hid (g.keeps RA1.out)
      have RC0 := Lib.hid (g.keeps RC0.out)
      have RC1 := Lib.hid (g.keeps RC1.out)
      have HG := Lib.hid (HG.out.trans g)
      have HI1 := Lib.hid (HI1.out.later g)
      rw [show sg false (Ow.val lr) = x % y by rw [HVR.out, ← HDF.out.2]; rfl] at hI
      obtain ⟨Z2, hZ2⟩ : ∃ Z2, Z2 = x % y := ⟨_, rfl⟩
      rw [← hZ2] at hI
      have HZ2 := Lib.hid hZ2
      clear hZ2 g
      obtain ⟨s2, l2, rfl, hs2, hh2⟩ := id hI
      obtain ⟨-, a2, c2, rfl, -, -, -⟩ := id hs2
      obtain ⟨b2, hb2⟩ : ∃ b2, b2 = decide (Z2 < 0) := ⟨_, rfl⟩
      rw [← hb2] at hI
      rw [← hb2]
      have HI2 := Lib.hid hI
      clear hI hs2 hh2 hb2
      have r0 := RA0.out
      have r1 := RA1.out
      have r2 := RC0.out
      have r3 := RC1.out
      have f0 := FA0.out
      have f1 := FA1.out
      have f2 := FC0.out
      have f3 := FC1.out
      go_wp2_with fail
      refine bodyPost_ret (v := .tuple #[.agg #[.bool b1, .slice a1 l1.length c1], .agg #[.bool b2, .slice a2 l2.length c2]]) (by simp [results, Tryz.results19, go_sem, r0, r1, r2, r3]) rfl ?_
      refine ⟨_, _, rfl, by rw [← HZ1.out]; exact HI1.out.set4 (by omega) RA0.out RA1.out RC0.out RC1.out (by simp) (by simp) (by simp) (by simp) _ _ _ _, by rw [← HZ2.out]; exact HI2.out.set4 (by omega) RA0.out RA1.out RC0.out RC1.out (by simp) (by simp) (by simp) (by simp) _ _ _ _, ?_⟩
      exact (((HG.out.setCell (p := ⟨w.heap.size + 1 + 1, 0, none⟩) (by simp; omega) _).setCell (p := ⟨w.heap.size + 1 + 1, 1, none⟩) (by simp; omega) _).setCell (p := ⟨w.heap.size + 1 + 1 + 1, 0, none⟩) (by simp; omega) _).setCell (p := ⟨w.heap.size + 1 + 1 + 1, 1, none⟩) (by simp; omega) _
    | true =>
      have hz : lr.length = 0 := by
        apply Classical.byContradiction; intro h
        exact HFIX.out ⟨rfl, by omega⟩
      have t1 : decide ((0 : Int) < (lr.length : Int)) = false := decide_eq_false (by omega)
      have t2 : decide (0 < lr.length) = false := decide_eq_false (by omega)
      clear hz
      go_wp2_with fail
      refine (signs1_int _ lq _ p 65 _ HQ.out HB.out (by rw [HNQ.out.2]; omega)).mono ?_
      rintro e w3 ⟨q1, rfl, hI, g⟩
      have x0 := g.keeps x0
      have x1 := g.keeps x1
      have y0 := g.keeps y0
      have y1 := g.keeps y1
      have FA0 := Lib.hid (g.frozen RA0.out FA0.out)
      have FA1 := Lib.hid (g.frozen RA1.out FA1.out)
      have FC0 := Lib.hid (g.frozen RC0.out FC0.out)
      have FC1 := Lib.hid (g.frozen RC1.out FC1.out)
      have RA0 := Lib.hid (g.keeps RA0.out)
      have RA1 := Lib.hid (g.keeps RA1.out)
      have RC0 := Lib.hid (g.keeps RC0.out)
      have RC1 := Lib.hid (g.keeps RC1.out)
      have HG := Lib.hid (HG.out.trans g)
      have HRR := Lib.hid (HRR.out.later g)
      rw [show sg (!true == ny) (Ow.val lq) = x / y by rw [HVQ.out, ← HDF.out.1, ← HNY.out, ← HNX.out]; rfl] at hI
      obtain ⟨Z1, hZ1⟩ : ∃ Z1, Z1 = x / y := ⟨_, rfl⟩
      rw [← hZ1] at hI
      have HZ1 := Lib.hid hZ1
      clear hZ1 g
      obtain ⟨s1, l1, rfl, hs1, hh1⟩ := id hI
      obtain ⟨-, a1, c1, rfl, -, -, -⟩ := id hs1
      obtain ⟨b1, hb1⟩ : ∃ b1, b1 = decide (Z1 < 0) := ⟨_, rfl⟩
      rw [← hb1] at hI
      rw [← hb1]
      have HI1 := Lib.hid hI
      clear hI hs1 hh1 hb1
      go_wp2_with fail
      refine (signs_box _ _).mono ?_
      rintro e w4 ⟨p2, rfl, hb, g⟩
      have x0 := g.keeps x0
      have x1 := g.keeps x1
      have y0 := g.keeps y0
      have y1 := g.keeps y1
      have FA0 := Lib.hid (g.frozen RA0.out FA0.out)
      have FA1 := Lib.hid (g.frozen RA1.out FA1.out)
      have FC0 := Lib.hid (g.frozen RC0.out FC0.out)
      have FC1 := Lib.hid (g.frozen RC1.out FC1.out)
      have RA0 := Lib.hid (g.keeps RA0.out)
      have RA1 := Lib.hid (g.keeps RA1.out)
      have RC0 := Lib.hid (g.keeps RC0.out)
      have RC1 := Lib.hid (g.keeps RC1.out)
      have HG := Lib.hid (HG.out.trans g)
      have HRR := Lib.hid (HRR.out.later g)
      have HI1 := Lib.hid (HI1.out.later g)
      have HB := Lib.hid hb
      clear hb g
      go_wp2_with fail
      refine (signs1_int _ lr _ p2 64 _ HRR.out HB.out (by rw [HNR.out.2]; omega)).mono ?_
      rintro e w5 ⟨q2, rfl, hI, g⟩
      have x0 := g.keeps x0
      have x1 := g.keeps x1
      have y0 := g.keeps y0
      have y1 := g.keeps y1
      have FA0 := Lib.hid (g.frozen RA0.out FA0.out)
      have FA1 := Lib.hid (g.frozen RA1.out FA1.out)
      have FC0 := Lib.hid (g.frozen RC0.out FC0.out)
      have FC1 := Lib.hid (g.frozen RC1.out FC1.out)
      have RA0 := Lib.hid (g.keeps RA0.out)
      have RA1 := Lib.hid (g.keeps RA1.out)
      have RC0 := Lib.hid (g.keeps RC0.out)
      have RC1 := Lib.hid (g.keeps RC1.out)
      have HG := Lib.hid (HG.out.trans g)
      have HI1 := Lib.hid (HI1.out.later g)
      rw [show sg false (Ow.val lr) = x % y by rw [HVR.out, ← HDF.out.2]; rfl] at hI
      obtain ⟨Z2, hZ2⟩ : ∃ Z2, Z2 = x % y := ⟨_, rfl⟩
      rw [← hZ2] at hI
      have HZ2 := Lib.hid hZ2
      clear hZ2 g
      obtain ⟨s2, l2, rfl, hs2, hh2⟩ := id hI
      obtain ⟨-, a2, c2, rfl, -, -, -⟩ := id hs2
      obtain ⟨b2, hb2⟩ : ∃ b2, b2 = decide (Z2 < 0) := ⟨_, rfl⟩
      rw [← hb2] at hI
      rw [← hb2]
      have HI2 := Lib.hid hI
      clear hI hs2 hh2 hb2
      have r0 := RA0.out
      have r1 := RA1.out
      have r2 := RC0.out
      have r3 := RC1.out
      have f0 := FA0.out
      have f1 := FA1.out
      have f2 := FC0.out
      have f3 := FC1.out
      go_wp2_with fail
      refine bodyPost_ret (v := .tuple #[.agg #[.bool b1, .slice a1 l1.length c1], .agg #[.bool b2, .slice a2 l2.length c2]]) (by simp [results, Tryz.results19, go_sem, r0, r1, r2, r3]) rfl ?_
      refine ⟨_, _, rfl, by rw [← HZ1.out]; exact HI1.out.set4 (by omega) RA0.out RA1.out RC0.out RC1.out (by simp) (by simp) (by simp) (by simp) _ _ _ _, by rw [← HZ2.out]; exact HI2.out.set4 (by omega) RA0.out RA1.out RC0.out RC1.out (by simp) (by simp) (by simp) (by simp) _ _ _ _, ?_⟩
      exact (((HG.out.setCell (p := ⟨w.heap.size + 1 + 1, 0, none⟩) (by simp; omega) _).setCell (p := ⟨w.heap.size + 1 + 1, 1, none⟩) (by simp; omega) _).setCell (p := ⟨w.heap.size + 1 + 1 + 1, 0, none⟩) (by simp; omega) _).setCell (p := ⟨w.heap.size + 1 + 1 + 1, 1, none⟩) (by simp; omega) _
end Go.Proofs.YtnehcafmebokmaaGreatDoor

/- balanced: the rest of least absolute value. -/
namespace Go.Proofs.YtnehcafmebokmaaGreatDoor
open Go.RowKit
set_option linter.unusedVariables false

theorem ne_of_cell {W : World} {B o : Nat} {v : Value} (h : W.cell? ⟨B, o, none⟩ = some v) : ¬ (B = W.heap.size) := fun e => Nat.lt_irrefl _ (e ▸ World.block_lt_of_cell? W _ h)
theorem keep2 {W : World} {B C o : Nat} {v a b : Value} (h : W.cell? ⟨B, o, none⟩ = some v) (hne : ¬ (B = C)) : ((W.setCell ⟨C, 0, none⟩ a).setCell ⟨C, 1, none⟩ b).cell? ⟨B, o, none⟩ = some v := by
  rw [cell_other (fun e => hne (congrArg Addr.block e).symm), cell_other (fun e => hne (congrArg Addr.block e).symm)]; exact h
theorem frozen_set (W : World) (p q : Addr) (u : Value) : (W.setCell p u).frozen? q = W.frozen? q := by simp [go_sem]
theorem froz0 (w : World) (a b : Value) (t : TypeId) : (w.alloc (.cells #[a, b] t)).frozen? ⟨w.heap.size, 0, none⟩ = false := by simp [go_sem]
theorem froz1 (w : World) (a b : Value) (t : TypeId) : (w.alloc (.cells #[a, b] t)).frozen? ⟨w.heap.size, 1, none⟩ = false := by simp [go_sem]
/-- The rest of least absolute value. -/
def bal (x y : Int) : Int := if y < 2 * (x % y) then x % y - y else x % y

set_option maxRecDepth 100000 in
set_option maxHeartbeats 3000000 in
theorem balanced_any (x y : Int) (u v : Value) (w : World) (hu : HasI 64 w u x) (hv : HasI 64 w v y) (hy : 0 < y) (hyR : y.natAbs < 4294967296 ^ 64) :
    Calls Tryz.prog 32 #[u, v] w (IntZ 65 (bal x y) w) := by
  obtain ⟨s, l, rfl, hd, hh⟩ := hu
  obtain ⟨t, m, rfl, hd', hh'⟩ := hv
  have HX := Lib.hid (show HasI 64 w _ x from ⟨s, l, rfl, hd, hh⟩)
  have HY := Lib.hid (show HasI 64 w _ y from ⟨t, m, rfl, hd', hh'⟩)
  have HYR := Lib.hid hyR
  obtain ⟨-, a, cap, rfl, -, -, -⟩ := hd
  obtain ⟨-, a', cap', rfl, -, -, -⟩ := hd'
  obtain ⟨nx, hnx⟩ : ∃ nx, nx = decide (x < 0) := ⟨_, rfl⟩
  obtain ⟨ny, hny⟩ : ∃ ny, ny = decide (y < 0) := ⟨_, rfl⟩
  rw [← hnx] at HX
  rw [← hny] at HY
  rw [← hnx, ← hny]
  obtain ⟨q, hq⟩ : ∃ q, q = x / y := ⟨_, rfl⟩
  obtain ⟨r, hr⟩ : ∃ r, r = x % y := ⟨_, rfl⟩
  have hr0 : 0 ≤ r := by rw [hr]; exact Int.emod_nonneg _ (by omega)
  have hr1 : r < y := by rw [hr]; exact Int.emod_lt_of_pos _ hy
  have HR := Lib.hid hr
  have HQQ := Lib.hid hq
  have HBAL := Lib.hid (show bal x y = if y < 2 * r then r - y else r by unfold bal; rw [← hr])
  clear hh hh' hnx hny hq hr hyR
  go_enter Tryz.func32, Tryz.ntmps32
  go_wp2_with fail
  obtain ⟨W, hW⟩ : ∃ W : World, W = ((w.alloc (.cells #[.bool nx, .slice a l.length cap] 44)).alloc (.cells #[.bool ny, .slice a' m.length cap'] 44)).alloc (.cells #[.bool false, .slice none 0 0] 44) := ⟨_, rfl⟩
  rw [← hW]
  have g1 : Gr w W := by rw [hW]; exact ((Gr.new w _).alloc _).alloc _
  have y0 : W.cell? ⟨w.heap.size + 1, 0, none⟩ = some (.bool ny) := by rw [hW]; simp [go_sem]
  have y1 : W.cell? ⟨w.heap.size + 1, 1, none⟩ = some (.slice a' m.length cap') := by rw [hW]; simp [go_sem]
  have R0 := Lib.hid (show W.cell? ⟨w.heap.size + 1 + 1, 0, none⟩ = some (.bool false) by rw [hW]; simp [go_sem])
  have R1 := Lib.hid (show W.cell? ⟨w.heap.size + 1 + 1, 1, none⟩ = some (.slice none 0 0) by rw [hW]; simp [go_sem])
  have F0 := Lib.hid (show W.frozen? ⟨w.heap.size + 1 + 1, 0, none⟩ = false by rw [hW]; simp [go_sem])
  have F1 := Lib.hid (show W.frozen? ⟨w.heap.size + 1 + 1, 1, none⟩ = false by rw [hW]; simp [go_sem])
  have HG := Lib.hid g1
  clear hW g1
  refine (divide_any x y _ _ _ (HX.out.later HG.out) (HY.out.later HG.out) (by omega)).mono ?_
  rintro e w1 ⟨uq, ur, rfl, hq, hr, g⟩
  rw [← HQQ.out] at hq
  rw [← HR.out] at hr
  have y0 := g.keeps y0
  have y1 := g.keeps y1
  have F0 := Lib.hid (g.frozen R0.out F0.out)
  have F1 := Lib.hid (g.frozen R1.out F1.out)
  have R0 := Lib.hid (g.keeps R0.out)
  have R1 := Lib.hid (g.keeps R1.out)
  have HG := Lib.hid (HG.out.trans g)
  obtain ⟨sq, lq, rfl, hdq, -⟩ := id hq
  obtain ⟨sr, lr, rfl, hdr, -⟩ := id hr
  obtain ⟨-, aq, cq, rfl, -, -, -⟩ := id hdq
  obtain ⟨-, ar, cr, rfl, -, -, -⟩ := id hdr
  obtain ⟨nq, hnq⟩ : ∃ b, b = decide (q < 0) := ⟨_, rfl⟩
  obtain ⟨nr, hnr⟩ : ∃ b, b = decide (r < 0) := ⟨_, rfl⟩
  rw [← hnq] at hq
  rw [← hnr] at hr
  rw [← hnq, ← hnr]
  have HI := Lib.hid hr
  clear hq hr g hdq hdr hnq hnr
  go_wp2_with fail
  obtain ⟨V, hV⟩ : ∃ V : World, V = (w1.alloc (.cells #[.bool nq, .slice aq lq.length cq] 44)).alloc (.cells #[.bool nr, .slice ar lr.length cr] 44) := ⟨_, rfl⟩
  rw [← hV]
  have gV : Gr w1 V := by rw [hV]; exact (Gr.new _ _).alloc _
  have z0 : V.drew.cell? ⟨w1.heap.size + 1, 0, none⟩ = some (.bool nr) := by rw [hV]; simp [go_sem]
  have z1 : V.drew.cell? ⟨w1.heap.size + 1, 1, none⟩ = some (.slice ar lr.length cr) := by rw [hV]; simp [go_sem]
  have g : Gr w1 V.drew := Below.drew gV
  clear hV gV
  have y0 := g.keeps y0
  have y1 := g.keeps y1
  have F0 := Lib.hid (g.frozen R0.out F0.out)
  have F1 := Lib.hid (g.frozen R1.out F1.out)
  have R0 := Lib.hid (g.keeps R0.out)
  have R1 := Lib.hid (g.keeps R1.out)
  have HG := Lib.hid (HG.out.trans g)
  have HI := Lib.hid (HI.out.later g)
  clear g
  have h64 : 64 ≤ 100000 := by omega
  have HSN := Lib.hid (show y.natAbs + (-r).natAbs < 4294967296 ^ 65 by
    have h1 := HYR.out
    have h2 : (-r).natAbs ≤ y.natAbs := by omega
    rw [Nat.pow_succ]; generalize 4294967296 ^ 64 = P at *; omega)
  have GV := Lib.hid (Gr.refl V.drew)
  have RV0 := R0
  have m1 : ¬ (w.heap.size + 1 = V.heap.size) := ne_of_cell y0
  have m2 : ¬ (V.heap.size = w.heap.size + 1) := fun e => m1 e.symm
  have m3 : ¬ (w1.heap.size + 1 = V.heap.size) := ne_of_cell z0
  have m4 : ¬ (V.heap.size = w1.heap.size + 1) := fun e => m3 e.symm
  go_region_held3 (fun w' => w'.cell? ⟨w.heap.size + 1, 0, none⟩ = some (.bool ny) ∧ w'.cell? ⟨w.heap.size + 1, 1, none⟩ = some (.slice a' m.length cap') ∧ w'.cell? ⟨w1.heap.size + 1, 0, none⟩ = some (.bool nr) ∧ w'.cell? ⟨w1.heap.size + 1, 1, none⟩ = some (.slice ar lr.length cr)) (first | exact ⟨y0, y1, z0, z1⟩ | exact ⟨(Gr.new V _).keeps y0, (Gr.new V _).keeps y1, (Gr.new V _).keeps z0, (Gr.new V _).keeps z1⟩ | exact ⟨(Gr.new _ _).keeps y0, (Gr.new _ _).keeps y1, (Gr.new _ _).keeps z0, (Gr.new _ _).keeps z1⟩ | exact ⟨keep2 y0 (by assumption), keep2 y1 (by assumption), keep2 z0 (by assumption), keep2 z1 (by assumption)⟩ | exact ⟨keep2 ((Gr.new _ _).keeps y0) (by assumption), keep2 ((Gr.new _ _).keeps y1) (by assumption), keep2 ((Gr.new _ _).keeps z0) (by assumption), keep2 ((Gr.new _ _).keeps z1) (by assumption)⟩ | go_keep)
    (first
      | (go_at_call 55; (with_reducible refine (negative_any 64 r _ _ (by first | exact HI.out | exact HI.out.later (Gr.new _ _))).mono ?_); rintro e wn ⟨vn, rfl, hn, g⟩; (first | have y0 := g.keeps y0 | have y0 := g.keeps ((Gr.new _ _).keeps y0)); (first | have y1 := g.keeps y1 | have y1 := g.keeps ((Gr.new _ _).keeps y1)); (first | have z0 := g.keeps z0 | have z0 := g.keeps ((Gr.new _ _).keeps z0)); (first | have z1 := g.keeps z1 | have z1 := g.keeps ((Gr.new _ _).keeps z1)); (try have b0 := g.keeps (two_cells _ _ _ _).1); (try have b1 := g.keeps (two_cells _ _ _ _).2); (try have fb0 := g.frozen (two_cells _ _ _ _).1 (froz0 _ _ _ _)); (try have fb1 := g.frozen (two_cells _ _ _ _).2 (froz1 _ _ _ _)); (try have fb0 := g.frozen b0 fb0); (try have fb1 := g.frozen b1 fb1); (try have b0 := g.keeps b0); (try have b1 := g.keeps b1); have F0 := Lib.hid (g.frozen (by first | exact R0.out | exact (Gr.new _ _).keeps R0.out) (by first | exact F0.out | exact (Gr.new _ _).frozen R0.out F0.out)); have F1 := Lib.hid (g.frozen (by first | exact R1.out | exact (Gr.new _ _).keeps R1.out) (by first | exact F1.out | exact (Gr.new _ _).frozen R1.out F1.out)); have R0 := Lib.hid (g.keeps (by first | exact R0.out | exact (Gr.new _ _).keeps R0.out)); have R1 := Lib.hid (g.keeps (by first | exact R1.out | exact (Gr.new _ _).keeps R1.out)); have HG := Lib.hid (show Gr w wn from (by first | exact HG.out.trans g | exact (HG.out.alloc _).trans g)); have m1 : ¬ (w.heap.size + 1 = wn.heap.size) := ne_of_cell y0; have m2 : ¬ (wn.heap.size = w.heap.size + 1) := fun e => m1 e.symm; have m3 : ¬ (w1.heap.size + 1 = wn.heap.size) := ne_of_cell z0; have m4 : ¬ (wn.heap.size = w1.heap.size + 1) := fun e => m3 e.symm; have GV := Lib.hid (show Gr V.drew wn from (by first | exact GV.out.trans g | exact (GV.out.alloc _).trans g)); have hsn := GV.out.size; have HNG := Lib.hid hn; clear hn g)
      | (go_at_call 54; (with_reducible refine (sum_any 64 65 y (-r) _ _ _ (HY.out.later (by first | exact HG.out | exact HG.out.alloc _)) (by first | exact HNG.out | exact HNG.out.later (Gr.new _ _)) h64 HSN.out).mono ?_); rintro e w' ⟨vs, rfl, ⟨s', l', rfl, hs, hnl, hvl, hln⟩, g⟩; (first | have y0 := g.keeps y0 | have y0 := g.keeps ((Gr.new _ _).keeps y0)); (first | have y1 := g.keeps y1 | have y1 := g.keeps ((Gr.new _ _).keeps y1)); (first | have z0 := g.keeps z0 | have z0 := g.keeps ((Gr.new _ _).keeps z0)); (first | have z1 := g.keeps z1 | have z1 := g.keeps ((Gr.new _ _).keeps z1)); (try have b0 := g.keeps (two_cells _ _ _ _).1); (try have b1 := g.keeps (two_cells _ _ _ _).2); (try have fb0 := g.frozen (two_cells _ _ _ _).1 (froz0 _ _ _ _)); (try have fb1 := g.frozen (two_cells _ _ _ _).2 (froz1 _ _ _ _)); (try have fb0 := g.frozen b0 fb0); (try have fb1 := g.frozen b1 fb1); (try have b0 := g.keeps b0); (try have b1 := g.keeps b1); have F0 := Lib.hid (g.frozen (by first | exact R0.out | exact (Gr.new _ _).keeps R0.out) (by first | exact F0.out | exact (Gr.new _ _).frozen R0.out F0.out)); have F1 := Lib.hid (g.frozen (by first | exact R1.out | exact (Gr.new _ _).keeps R1.out) (by first | exact F1.out | exact (Gr.new _ _).frozen R1.out F1.out)); have R0 := Lib.hid (g.keeps (by first | exact R0.out | exact (Gr.new _ _).keeps R0.out)); have R1 := Lib.hid (g.keeps (by first | exact R1.out | exact (Gr.new _ _).keeps R1.out)); have HG := Lib.hid (show Gr w w' from (by first | exact HG.out.trans g | exact (HG.out.alloc _).trans g)); have m1 : ¬ (w.heap.size + 1 = w'.heap.size) := ne_of_cell y0; have m2 : ¬ (w'.heap.size = w.heap.size + 1) := fun e => m1 e.symm; have m3 : ¬ (w1.heap.size + 1 = w'.heap.size) := ne_of_cell z0; have m4 : ¬ (w'.heap.size = w1.heap.size + 1) := fun e => m3 e.symm; have GV := Lib.hid (show Gr V.drew w' from (by first | exact GV.out.trans g | exact (GV.out.alloc _).trans g)); have hss := GV.out.size; obtain ⟨nl, hnl2⟩ : ∃ b, b = decide (y + -r < 0) := ⟨_, rfl⟩; have HL := Lib.hid (show HasI 65 w' _ (y + -r) from ⟨s', l', rfl, hs, hnl, hvl, hln⟩); rw [← hnl2] at HL; rw [← hnl2]; have HNL := Lib.hid hnl2; obtain ⟨-, a3, c3, rfl, -, -, -⟩ := id hs; clear hs hnl hvl hln hnl2 g)
)
  · go_wp2_with fail
    have GC0 : Gr w (w'.alloc (.cells #[.bool nl, .slice a3 l'.length c3] 44)) := HG.out.alloc _
    have gn : Gr w' (w'.alloc (.cells #[.bool nl, .slice a3 l'.length c3] 44)) := Gr.new _ _
    have HIC0 := HI.out.later (GV.out.trans gn)
    have HLC0 := HL.out.later gn
    have zc0 := gn.keeps z0
    have zc1 := gn.keeps z1
    have lc0 := (two_cells w' (.bool nl) (.slice a3 l'.length c3) 44).1
    have lc1 := (two_cells w' (.bool nl) (.slice a3 l'.length c3) 44).2
    have rc0 := gn.keeps R0.out
    have rc1 := gn.keeps R1.out
    have fc0 := gn.frozen R0.out F0.out
    have fc1 := gn.frozen R1.out F1.out
    clear gn
    have HIC := Lib.hid (HIC0.wider (M := 65) (by omega))
    have HLC := Lib.hid HLC0
    have HGC := Lib.hid GC0
    have z0 := zc0
    have z1 := zc1
    have k0 := lc0
    have k1 := lc1
    have R0 := Lib.hid rc0
    have R1 := Lib.hid rc1
    have F0 := Lib.hid fc0
    have F1 := Lib.hid fc1
    clear HIC0 HLC0 GC0 zc0 zc1 lc0 lc1 rc0 rc1 fc0 fc1
    refine (order_any 65 r (y + -r) _ _ _ HIC.out HLC.out).mono ?_
    rintro e w7 ⟨rfl, g⟩
    have z0 := g.keeps z0
    have z1 := g.keeps z1
    have k0 := g.keeps k0
    have k1 := g.keeps k1
    have F0 := Lib.hid (g.frozen R0.out F0.out)
    have F1 := Lib.hid (g.frozen R1.out F1.out)
    have R0 := Lib.hid (g.keeps R0.out)
    have R1 := Lib.hid (g.keeps R1.out)
    have HIC := Lib.hid (HIC.out.later g)
    have HLC := Lib.hid (HLC.out.later g)
    have HGC := Lib.hid (HGC.out.trans g)
    clear g
    by_cases hgt : y + -r < r
    · have t1 : decide ((0 : Int) < sgn r (y + -r)) = true := by unfold sgn; simp; split <;> (try split) <;> omega
      have HZ := Lib.hid (show -(y + -r) = bal x y by rw [HBAL.out, if_pos (by omega)]; omega)
      clear hgt
      go_wp2_with fail
      refine (negative_any 65 (y + -r) _ _ HLC.out).mono ?_
      rintro e w8 ⟨t9, rfl, ⟨s9, l9, rfl, hs, hnl9, hvl, hln⟩, g⟩
      have r0 := g.keeps R0.out
      have r1 := g.keeps R1.out
      have f0 := g.frozen R0.out F0.out
      have f1 := g.frozen R1.out F1.out
      have HGG := Lib.hid (HGC.out.trans g)
      obtain ⟨nz, hnz⟩ : ∃ nz, nz = decide (-(y + -r) < 0) := ⟨_, rfl⟩
      rw [← hnz]
      have HNZ := Lib.hid hnz
      obtain ⟨-, a9, c9, rfl, -, -, -⟩ := id hs
      have HS := Lib.hid hs
      have HE := Lib.hid (And.intro hnl9 (And.intro hvl hln))
      clear hs hnl9 hvl hln hnz g
      go_wp2_with fail
      refine bodyPost_ret (v := .agg #[.bool nz, .slice a9 l9.length c9]) (by simp [results, Tryz.results32, go_sem, r0, r1]) rfl ?_
      exact intz_stored HZ.out HNZ.out HS.out HE.out.1 HE.out.2.1 HE.out.2.2 HGG.out (by omega) r0 r1 (by simp) (by simp)
    · have t1 : decide ((0 : Int) < sgn r (y + -r)) = false := by unfold sgn; simp; split <;> (try split) <;> omega
      have HZ := Lib.hid (show r = bal x y by rw [HBAL.out, if_neg (by omega)])
      clear hgt
      have r0 := R0.out
      have r1 := R1.out
      have f0 := F0.out
      have f1 := F1.out
      obtain ⟨s9, l9, he, hs, hnl9, hvl, hln⟩ := HIC.out
      simp only [Value.agg.injEq, Array.mk.injEq, List.cons.injEq, Value.bool.injEq, and_true] at he
      have HS := Lib.hid (And.intro he (And.intro hs (And.intro hnl9 (And.intro hvl hln))))
      clear he hs hnl9 hvl hln
      go_wp2_with fail
      refine bodyPost_ret (v := .agg #[.bool nr, .slice ar lr.length cr]) (by simp [results, Tryz.results32, go_sem, r0, r1]) rfl ?_
      exact intz_stored (s := .slice ar lr.length cr) HZ.out HS.out.1.1 (by rw [HS.out.1.2]; exact HS.out.2.1) HS.out.2.2.1 HS.out.2.2.2.1 HS.out.2.2.2.2 HGC.out (by omega) r0 r1 (by simp) (by simp)
  · go_wp2_with fail
    have hle : V.drew.heap.size ≤ wn.heap.size := hsn
    have hww : w.heap.size + 1 + 1 < V.drew.heap.size := World.block_lt_of_cell? V.drew _ RV0.out
    have GC0 : Gr w ((w'.setCell ⟨wn.heap.size, 0, none⟩ (.bool nl)).setCell ⟨wn.heap.size, 1, none⟩ (.slice a3 l'.length c3)) := (HG.out.setCell (p := ⟨wn.heap.size, 0, none⟩) (by show _ ≤ wn.heap.size; omega) _).setCell (p := ⟨wn.heap.size, 1, none⟩) (by show _ ≤ wn.heap.size; omega) _
    have HIC0 := HI.out.later ((GV.out.setCell (p := ⟨wn.heap.size, 0, none⟩) hle (.bool nl)).setCell (p := ⟨wn.heap.size, 1, none⟩) hle (.slice a3 l'.length c3))
    have HLC0 := (HL.out.set b0 (by simp) (.bool nl)).set ((cell_other (by simp) (.bool nl)).trans b1) (by simp) (.slice a3 l'.length c3)
    have zc0 := keep2 (a := .bool nl) (b := .slice a3 l'.length c3) z0 (show ¬ (w1.heap.size + 1 = wn.heap.size) by assumption)
    have zc1 := keep2 (a := .bool nl) (b := .slice a3 l'.length c3) z1 (show ¬ (w1.heap.size + 1 = wn.heap.size) by assumption)
    have lc0 := (put2 b0 b1 (.bool nl) (.slice a3 l'.length c3)).1
    have lc1 := (put2 b0 b1 (.bool nl) (.slice a3 l'.length c3)).2
    have hrb : ¬ (w.heap.size + 1 + 1 = wn.heap.size) := by omega
    have rc0 := keep2 (a := .bool nl) (b := .slice a3 l'.length c3) R0.out hrb
    have rc1 := keep2 (a := .bool nl) (b := .slice a3 l'.length c3) R1.out hrb
    have fc0 : ((w'.setCell ⟨wn.heap.size, 0, none⟩ (.bool nl)).setCell ⟨wn.heap.size, 1, none⟩ (.slice a3 l'.length c3)).frozen? ⟨w.heap.size + 1 + 1, 0, none⟩ = false := by simp only [frozen_set]; exact F0.out
    have fc1 : ((w'.setCell ⟨wn.heap.size, 0, none⟩ (.bool nl)).setCell ⟨wn.heap.size, 1, none⟩ (.slice a3 l'.length c3)).frozen? ⟨w.heap.size + 1 + 1, 1, none⟩ = false := by simp only [frozen_set]; exact F1.out
    have HIC := Lib.hid (HIC0.wider (M := 65) (by omega))
    have HLC := Lib.hid HLC0
    have HGC := Lib.hid GC0
    have z0 := zc0
    have z1 := zc1
    have k0 := lc0
    have k1 := lc1
    have R0 := Lib.hid rc0
    have R1 := Lib.hid rc1
    have F0 := Lib.hid fc0
    have F1 := Lib.hid fc1
    clear HIC0 HLC0 GC0 zc0 zc1 lc0 lc1 rc0 rc1 fc0 fc1
    refine (order_any 65 r (y + -r) _ _ _ HIC.out HLC.out).mono ?_
    rintro e w7 ⟨rfl, g⟩
    have z0 := g.keeps z0
    have z1 := g.keeps z1
    have k0 := g.keeps k0
    have k1 := g.keeps k1
    have F0 := Lib.hid (g.frozen R0.out F0.out)
    have F1 := Lib.hid (g.frozen R1.out F1.out)
    have R0 := Lib.hid (g.keeps R0.out)
    have R1 := Lib.hid (g.keeps R1.out)
    have HIC := Lib.hid (HIC.out.later g)
    have HLC := Lib.hid (HLC.out.later g)
    have HGC := Lib.hid (HGC.out.trans g)
    clear g
    by_cases hgt : y + -r < r
    · have t1 : decide ((0 : Int) < sgn r (y + -r)) = true := by unfold sgn; simp; split <;> (try split) <;> omega
      have HZ := Lib.hid (show -(y + -r) = bal x y by rw [HBAL.out, if_pos (by omega)]; omega)
      clear hgt
      go_wp2_with fail
      refine (negative_any 65 (y + -r) _ _ HLC.out).mono ?_
      rintro e w8 ⟨t9, rfl, ⟨s9, l9, rfl, hs, hnl9, hvl, hln⟩, g⟩
      have r0 := g.keeps R0.out
      have r1 := g.keeps R1.out
      have f0 := g.frozen R0.out F0.out
      have f1 := g.frozen R1.out F1.out
      have HGG := Lib.hid (HGC.out.trans g)
      obtain ⟨nz, hnz⟩ : ∃ nz, nz = decide (-(y + -r) < 0) := ⟨_, rfl⟩
      rw [← hnz]
      have HNZ := Lib.hid hnz
      obtain ⟨-, a9, c9, rfl, -, -, -⟩ := id hs
      have HS := Lib.hid hs
      have HE := Lib.hid (And.intro hnl9 (And.intro hvl hln))
      clear hs hnl9 hvl hln hnz g
      go_wp2_with fail
      refine bodyPost_ret (v := .agg #[.bool nz, .slice a9 l9.length c9]) (by simp [results, Tryz.results32, go_sem, r0, r1]) rfl ?_
      exact intz_stored HZ.out HNZ.out HS.out HE.out.1 HE.out.2.1 HE.out.2.2 HGG.out (by omega) r0 r1 (by simp) (by simp)
    · have t1 : decide ((0 : Int) < sgn r (y + -r)) = false := by unfold sgn; simp; split <;> (try split) <;> omega
      have HZ := Lib.hid (show r = bal x y by rw [HBAL.out, if_neg (by omega)])
      clear hgt
      have r0 := R0.out
      have r1 := R1.out
      have f0 := F0.out
      have f1 := F1.out
      obtain ⟨s9, l9, he, hs, hnl9, hvl, hln⟩ := HIC.out
      simp only [Value.agg.injEq, Array.mk.injEq, List.cons.injEq, Value.bool.injEq, and_true] at he
      have HS := Lib.hid (And.intro he (And.intro hs (And.intro hnl9 (And.intro hvl hln))))
      clear he hs hnl9 hvl hln
      go_wp2_with fail
      refine bodyPost_ret (v := .agg #[.bool nr, .slice ar lr.length cr]) (by simp [results, Tryz.results32, go_sem, r0, r1]) rfl ?_
      exact intz_stored (s := .slice ar lr.length cr) HZ.out HS.out.1.1 (by rw [HS.out.1.2]; exact HS.out.2.1) HS.out.2.2.1 HS.out.2.2.2.1 HS.out.2.2.2.2 HGC.out (by omega) r0 r1 (by simp) (by simp)
  · go_wp2_with fail
    have hle : V.drew.heap.size ≤ V.heap.size := Nat.le_refl _
    have hww : w.heap.size + 1 + 1 < V.drew.heap.size := World.block_lt_of_cell? V.drew _ RV0.out
    have GC0 : Gr w ((w'.setCell ⟨V.heap.size, 0, none⟩ (.bool nl)).setCell ⟨V.heap.size, 1, none⟩ (.slice a3 l'.length c3)) := (HG.out.setCell (p := ⟨V.heap.size, 0, none⟩) (by show _ ≤ V.heap.size; omega) _).setCell (p := ⟨V.heap.size, 1, none⟩) (by show _ ≤ V.heap.size; omega) _
    have HIC0 := HI.out.later ((GV.out.setCell (p := ⟨V.heap.size, 0, none⟩) hle (.bool nl)).setCell (p := ⟨V.heap.size, 1, none⟩) hle (.slice a3 l'.length c3))
    have HLC0 := (HL.out.set b0 (by simp) (.bool nl)).set ((cell_other (by simp) (.bool nl)).trans b1) (by simp) (.slice a3 l'.length c3)
    have zc0 := keep2 (a := .bool nl) (b := .slice a3 l'.length c3) z0 (show ¬ (w1.heap.size + 1 = V.heap.size) by assumption)
    have zc1 := keep2 (a := .bool nl) (b := .slice a3 l'.length c3) z1 (show ¬ (w1.heap.size + 1 = V.heap.size) by assumption)
    have lc0 := (put2 b0 b1 (.bool nl) (.slice a3 l'.length c3)).1
    have lc1 := (put2 b0 b1 (.bool nl) (.slice a3 l'.length c3)).2
    have hrb : ¬ (w.heap.size + 1 + 1 = V.heap.size) := by omega
    have rc0 := keep2 (a := .bool nl) (b := .slice a3 l'.length c3) R0.out hrb
    have rc1 := keep2 (a := .bool nl) (b := .slice a3 l'.length c3) R1.out hrb
    have fc0 : ((w'.setCell ⟨V.heap.size, 0, none⟩ (.bool nl)).setCell ⟨V.heap.size, 1, none⟩ (.slice a3 l'.length c3)).frozen? ⟨w.heap.size + 1 + 1, 0, none⟩ = false := by simp only [frozen_set]; exact F0.out
    have fc1 : ((w'.setCell ⟨V.heap.size, 0, none⟩ (.bool nl)).setCell ⟨V.heap.size, 1, none⟩ (.slice a3 l'.length c3)).frozen? ⟨w.heap.size + 1 + 1, 1, none⟩ = false := by simp only [frozen_set]; exact F1.out
    have HIC := Lib.hid (HIC0.wider (M := 65) (by omega))
    have HLC := Lib.hid HLC0
    have HGC := Lib.hid GC0
    have z0 := zc0
    have z1 := zc1
    have k0 := lc0
    have k1 := lc1
    have R0 := Lib.hid rc0
    have R1 := Lib.hid rc1
    have F0 := Lib.hid fc0
    have F1 := Lib.hid fc1
    clear HIC0 HLC0 GC0 zc0 zc1 lc0 lc1 rc0 rc1 fc0 fc1
    refine (order_any 65 r (y + -r) _ _ _ HIC.out HLC.out).mono ?_
    rintro e w7 ⟨rfl, g⟩
    have z0 := g.keeps z0
    have z1 := g.keeps z1
    have k0 := g.keeps k0
    have k1 := g.keeps k1
    have F0 := Lib.hid (g.frozen R0.out F0.out)
    have F1 := Lib.hid (g.frozen R1.out F1.out)
    have R0 := Lib.hid (g.keeps R0.out)
    have R1 := Lib.hid (g.keeps R1.out)
    have HIC := Lib.hid (HIC.out.later g)
    have HLC := Lib.hid (HLC.out.later g)
    have HGC := Lib.hid (HGC.out.trans g)
    clear g
    by_cases hgt : y + -r < r
    · have t1 : decide ((0 : Int) < sgn r (y + -r)) = true := by unfold sgn; simp; split <;> (try split) <;> omega
      have HZ := Lib.hid (show -(y + -r) = bal x y by rw [HBAL.out, if_pos (by omega)]; omega)
      clear hgt
      go_wp2_with fail
      refine (negative_any 65 (y + -r) _ _ HLC.out).mono ?_
      rintro e w8 ⟨t9, rfl, ⟨s9, l9, rfl, hs, hnl9, hvl, hln⟩, g⟩
      have r0 := g.keeps R0.out
      have r1 := g.keeps R1.out
      have f0 := g.frozen R0.out F0.out
      have f1 := g.frozen R1.out F1.out
      have HGG := Lib.hid (HGC.out.trans g)
      obtain ⟨nz, hnz⟩ : ∃ nz, nz = decide (-(y + -r) < 0) := ⟨_, rfl⟩
      rw [← hnz]
      have HNZ := Lib.hid hnz
      obtain ⟨-, a9, c9, rfl, -, -, -⟩ := id hs
      have HS := Lib.hid hs
      have HE := Lib.hid (And.intro hnl9 (And.intro hvl hln))
      clear hs hnl9 hvl hln hnz g
      go_wp2_with fail
      refine bodyPost_ret (v := .agg #[.bool nz, .slice a9 l9.length c9]) (by simp [results, Tryz.results32, go_sem, r0, r1]) rfl ?_
      exact intz_stored HZ.out HNZ.out HS.out HE.out.1 HE.out.2.1 HE.out.2.2 HGG.out (by omega) r0 r1 (by simp) (by simp)
    · have t1 : decide ((0 : Int) < sgn r (y + -r)) = false := by unfold sgn; simp; split <;> (try split) <;> omega
      have HZ := Lib.hid (show r = bal x y by rw [HBAL.out, if_neg (by omega)])
      clear hgt
      have r0 := R0.out
      have r1 := R1.out
      have f0 := F0.out
      have f1 := F1.out
      obtain ⟨s9, l9, he, hs, hnl9, hvl, hln⟩ := HIC.out
      simp only [Value.agg.injEq, Array.mk.injEq, List.cons.injEq, Value.bool.injEq, and_true] at he
      have HS := Lib.hid (And.intro he (And.intro hs (And.intro hnl9 (And.intro hvl hln))))
      clear he hs hnl9 hvl hln
      go_wp2_with fail
      refine bodyPost_ret (v := .agg #[.bool nr, .slice ar lr.length cr]) (by simp [results, Tryz.results32, go_sem, r0, r1]) rfl ?_
      exact intz_stored (s := .slice ar lr.length cr) HZ.out HS.out.1.1 (by rw [HS.out.1.2]; exact HS.out.2.1) HS.out.2.2.1 HS.out.2.2.2.1 HS.out.2.2.2.2 HGC.out (by omega) r0 r1 (by simp) (by simp)
end Go.Proofs.YtnehcafmebokmaaGreatDoor

