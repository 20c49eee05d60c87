import Derived.Test.YtlfiakpmnkhcdaaGreatLJw
/- The law RingAutos. -/
namespace Go.Proofs.YtlfiakpmnkhcdaaGreat.Mo
open Go.RowKit Go.Shelf
set_option linter.unusedVariables false

theorem au_auto {N : Int} {ch : List Int} {S lv : Int} {sp : Bool} {rA : List (List Int)} {k : Int} (hk : 1 ≤ k ∧ k < 2 * N ∧ k % 2 ≠ 0) (hv : VP N ch S) (h : EV N ch S lv sp rA) : auE N ch S lv sp rA k = 0 := if_pos ⟨hk, hv, h⟩
theorem two_zero {N : Int} {ch : List Int} {S lv : Int} {sp : Bool} {rA rB : List (List Int)} (hv : VP N ch S) (hA : EV N ch S lv sp rA) (hB : EV N ch S lv sp rB) : twoE N ch S lv sp rA lv sp rB = 0 := if_pos ⟨hv, hA, hB, rfl, rfl⟩
theorem resE_zeroB {c lv : Int} {sp : Bool} {ls : List (List Int)} {w w' : World} {e : Ending} (h : ResE c lv sp ls w e w') (h0 : c = 0) : ∃ x n cx, e = .returned (.tuple #[.agg #[.int .i64 lv, .bool sp, .slice x n cx], .int .i64 0]) ∧ HasB w' w.heap.size w'.heap.size (.slice x n cx) ls ∧ Gr w w' := by
  subst h0
  obtain ⟨x, cx, rfl, h1, h2⟩ := resE_ok h
  exact ⟨x, _, cx, rfl, h1, h2⟩
theorem blk_at {W9 V w10 : World} {t : TypeId} {cs : Array Value} (g : Gr V w10) (h : V.heap = (W9.alloc (.cells cs t)).heap) : Blk w10 W9.heap.size t cs := Blk.gr (show Blk V W9.heap.size t cs by unfold Blk; rw [h]; exact Blk.new W9 t cs) g
theorem put3a {w w1 : World} {k b : Nat} {u : Value} {ls : List (List Int)} (hb : HasB w1 b w1.heap.size u ls) (hg1 : Gr w w1) (h1 : w.heap.size ≤ k) (h2 : k < b) (x y z : Value) :
    HasB (((w1.setCell ⟨k, 0, none⟩ x).setCell ⟨k, 1, none⟩ y).setCell ⟨k, 2, none⟩ z) w.heap.size (((w1.setCell ⟨k, 0, none⟩ x).setCell ⟨k, 1, none⟩ y).setCell ⟨k, 2, none⟩ z).heap.size u ls ∧ Gr w (((w1.setCell ⟨k, 0, none⟩ x).setCell ⟨k, 1, none⟩ y).setCell ⟨k, 2, none⟩ z) := by
  have h := ((hb.grown (grown_cell w1 k 0 x) (fun r e => by cases e; exact .inl (by omega))).grown (grown_cell _ k 1 y) (fun r e => by cases e; exact .inl (by omega))).grown (grown_cell _ k 2 z) (fun r e => by cases e; exact .inl (by omega))
  exact ⟨(h.mono (by omega) (Nat.le_refl _)).cut, ((hg1.setCell (p := ⟨k, 0, none⟩) h1 _).setCell (p := ⟨k, 1, none⟩) h1 _).setCell (p := ⟨k, 2, none⟩) h1 _⟩
/-- A box with an element, and a code. -/
def EBox (lv : Int) (sp : Bool) (ls : List (List Int)) (W : World) (p c : Value) (wx : World) : Prop := ∃ G x n cx, p = .pointer (some ⟨G, 0, none⟩) ∧ c = .int .i64 0 ∧ Blk wx G 28 #[.int .i64 lv, .bool sp, .slice x n cx] ∧ HasR wx (.slice x n cx) ls ∧ Gr W wx
set_option maxRecDepth 100000 in
set_option maxHeartbeats 8000000 in
theorem autos9_all (N p1 p2 : Int) (uC : Value) (ch : List Int) (S p5 p6 lvA : Int) (spA : Bool) (uA : Value) (rA : List (List Int)) (lvB : Int) (spB : Bool) (uB : Value) (rB : List (List Int)) (n k lv : Int) (sp : Bool) (xL : Option Addr) (nL cL : Nat) (l : Int) (w : World) (hk : isW k) (hl : isW l) (hC : HasP w uC ch) (hS : 0 ≤ S ∧ S < 4294967296) (hA : HasR w uA rA) (hB : HasR w uB rB) :
    Calls Tryz.prog 7 #[.agg (csC N p1 p2 uC S p5 p6 lvA spA uA lvB spB uB n k lv sp (.slice xL nL cL)), .int .i64 l] w (Truth w) := by
  obtain ⟨xC, cC, rfl⟩ := hC.form
  obtain ⟨xA, cA, rfl⟩ := hA.form
  obtain ⟨xB, cB, rfl⟩ := hB.form
  generalize hnA : rA.length = nA at *
  generalize hnB : rB.length = nB at *
  generalize hnC : ch.length = nC at *
  obtain ⟨W0, hW0⟩ : ∃ W0, W0 = w.alloc (.cells (csC N p1 p2 (.slice xC nC cC) S p5 p6 lvA spA (.slice xA nA cA) lvB spB (.slice xB nB cB) n k lv sp (.slice xL nL cL)) 31) := ⟨_, rfl⟩
  have HG := Lib.hid (show Gr w W0 by rw [hW0]; exact Gr.new w _)
  have HX := Lib.hid (show Blk W0 w.heap.size 31 (csC N p1 p2 (.slice xC nC cC) S p5 p6 lvA spA (.slice xA nA cA) lvB spB (.slice xB nB cB) n k lv sp (.slice xL nL cL)) by rw [hW0]; exact Blk.new w _ _)
  have HA := Lib.hid (hA.later HG.out)
  have HB := Lib.hid (hB.later HG.out)
  have HC := Lib.hid (hC.later HG.out)
  have HS := Lib.hid hS
  have HK := Lib.hid hk
  have HLW := Lib.hid hl
  have HNC := Lib.hid hnC
  have HNA := Lib.hid hnA
  have HNB := Lib.hid hnB
  have HLG := Lib.hid (large_any N p1 p2 xC nC cC S p5 p6 lvA spA (.slice xA nA cA) rA lvB spB (.slice xB nB cB) rB n k lv sp xL nL cL W0 HA.out HB.out)
  clear hk hl hA hB hC hS hnA hnB hnC
  unfold csC at *
  go_enter Tryz.func7, Tryz.ntmps7
  go_wp2_with fail
  rw [← hW0]
  clear hW0
  refine HLG.out.mono ?_
  rintro e w1 ⟨b, rfl, hb, hg⟩
  have HL := Lib.hid hb
  replace HG := Lib.hid (HG.out.trans hg)
  replace HX := Lib.hid (HX.out.gr hg)
  replace HA := Lib.hid (HA.out.later hg)
  replace HB := Lib.hid (HB.out.later hg)
  replace HC := Lib.hid (HC.out.later hg)
  clear hb hg HLG
  cases b with
  | true =>
    go_wp2_with fail
    refine (awake9_any _).mono ?_
    rintro e w2 ⟨rfl, hg2⟩
    have HG := Lib.hid (HG.out.trans hg2)
    clear hg2
    go_wp2_with fail
    go_ret
    exact ⟨rfl, HG.out⟩
  | false =>
    have h3 : ch.length ≤ 1000 := by have := (HL.out (by first | rfl | trivial)).2.2.1; have := HNC.out; omega
    have SA := Lib.hid (HL.out (by first | rfl | trivial)).1
    have SB := Lib.hid (HL.out (by first | rfl | trivial)).2.1
    have H3 := Lib.hid h3
    clear h3
    obtain ⟨⟨q0, q1, q2, q3, q4, q5, q6⟩, ⟨k0, k1, k2, k3, k4, k5⟩, j0, j1, j2, j3, j4⟩ := HX.out.p18
    go_wp2_with fail
    refine (rAuto_any N p1 p2 xC nC cC S p5 p6 lvA spA ch _ rA k _ HK.out H3.out HC.out HS.out HA.out).mono ?_
    intro e w2 hres
    obtain ⟨lv1, sp1, x1, n1, c1, ls1, cc1, rfl, hr1, hg0, hd1⟩ := resE_any hres
    have hgn := Gr.new w2 (.cells #[.int .i64 lv1, .bool sp1, .slice x1 n1 c1] 28)
    have hgg := Gr.trans hg0 hgn
    replace HG := Lib.hid (HG.out.trans hgg)
    replace HX := Lib.hid (HX.out.gr hgg)
    replace HA := Lib.hid (HA.out.later hgg)
    replace HB := Lib.hid (HB.out.later hgg)
    replace HC := Lib.hid (HC.out.later hgg)
    have HE1 := Lib.hid (Blk.new w2 28 #[.int .i64 lv1, .bool sp1, .slice x1 n1 c1])
    have HR1 := Lib.hid (hr1.later hgn)
    have HD1 := Lib.hid hd1
    clear hres hr1 hg0 hgn hgg hd1 q0 q1 q2 q3 q4 q5 q6 k0 k1 k2 k3 k4 k5 j0 j1 j2 j3 j4
    obtain ⟨⟨q0, q1, q2, q3, q4, q5, q6⟩, ⟨k0, k1, k2, k3, k4, k5⟩, j0, j1, j2, j3, j4⟩ := HX.out.p18
    obtain ⟨a1, b1, d1⟩ := HE1.out.p3
    go_wp2_with fail
    refine (rAuto_any N p1 p2 xC nC cC S p5 p6 lvB spB ch _ rB k _ HK.out H3.out HC.out HS.out HB.out).mono ?_
    intro e w3 hres
    obtain ⟨lv2, sp2, x2, n2, c2, ls2, cc2, rfl, hr2, hg0, hd2⟩ := resE_any hres
    have hgn := Gr.new w3 (.cells #[.int .i64 lv2, .bool sp2, .slice x2 n2 c2] 28)
    have hgg := Gr.trans hg0 hgn
    replace HG := Lib.hid (HG.out.trans hgg)
    replace HX := Lib.hid (HX.out.gr hgg)
    replace HA := Lib.hid (HA.out.later hgg)
    replace HB := Lib.hid (HB.out.later hgg)
    replace HC := Lib.hid (HC.out.later hgg)
    replace HE1 := Lib.hid (HE1.out.gr hgg)
    replace HR1 := Lib.hid (HR1.out.later hgg)
    have HE2 := Lib.hid (Blk.new w3 28 #[.int .i64 lv2, .bool sp2, .slice x2 n2 c2])
    have HR2 := Lib.hid (hr2.later hgn)
    have HD2 := Lib.hid hd2
    clear hres hr2 hg0 hgn hgg hd2 q0 q1 q2 q3 q4 q5 q6 k0 k1 k2 k3 k4 k5 j0 j1 j2 j3 j4 a1 b1 d1
    obtain ⟨⟨q0, q1, q2, q3, q4, q5, q6⟩, ⟨k0, k1, k2, k3, k4, k5⟩, j0, j1, j2, j3, j4⟩ := HX.out.p18
    obtain ⟨a1, b1, d1⟩ := HE1.out.p3
    obtain ⟨a2, b2, d2⟩ := HE2.out.p3
    go_wp2_with fail
    refine (rMul_any N p1 p2 xC nC cC S p5 p6 lvA spA lvB spB ch _ _ rA rB _ H3.out HC.out HS.out HA.out HB.out).mono ?_
    intro e w4 hres
    obtain ⟨lv3, sp3, x3, n3, c3, ls3, cc3, rfl, hr3, hg0, hd3⟩ := resE_any hres
    have hgn := Gr.new w4 (.cells #[.int .i64 lv3, .bool sp3, .slice x3 n3 c3] 28)
    have hgg := Gr.trans hg0 hgn
    replace HG := Lib.hid (HG.out.trans hgg)
    replace HX := Lib.hid (HX.out.gr hgg)
    replace HA := Lib.hid (HA.out.later hgg)
    replace HB := Lib.hid (HB.out.later hgg)
    replace HC := Lib.hid (HC.out.later hgg)
    replace HE1 := Lib.hid (HE1.out.gr hgg)
    replace HR1 := Lib.hid (HR1.out.later hgg)
    replace HE2 := Lib.hid (HE2.out.gr hgg)
    replace HR2 := Lib.hid (HR2.out.later hgg)
    have HE3 := Lib.hid (Blk.new w4 28 #[.int .i64 lv3, .bool sp3, .slice x3 n3 c3])
    have HR3 := Lib.hid (hr3.later hgn)
    have HD3 := Lib.hid hd3
    clear hres hr3 hg0 hgn hgg hd3 q0 q1 q2 q3 q4 q5 q6 k0 k1 k2 k3 k4 k5 j0 j1 j2 j3 j4 a1 b1 d1 a2 b2 d2
    obtain ⟨⟨q0, q1, q2, q3, q4, q5, q6⟩, ⟨k0, k1, k2, k3, k4, k5⟩, j0, j1, j2, j3, j4⟩ := HX.out.p18
    obtain ⟨a1, b1, d1⟩ := HE1.out.p3
    obtain ⟨a2, b2, d2⟩ := HE2.out.p3
    obtain ⟨a3, b3, d3⟩ := HE3.out.p3
    rcases HD1.out with ⟨rfl, e1, rfl, rfl, rfl⟩ | rfl
    · rcases HD2.out with ⟨rfl, e2, rfl, rfl, rfl⟩ | rfl
      · rcases HD3.out with ⟨rfl, e3, z1, z2, z3⟩ | rfl
        · as_aux_lemma =>
            obtain ⟨T0, hv, hA1⟩ := au_zero e1
            obtain ⟨-, -, hB1⟩ := au_zero e2
            obtain ⟨-, -, -, z4, z5⟩ := twoE_zero e3
            clear HD1 HD2 HD3
            subst z1 z2
            subst z4 z5
            subst z3
            have HT0 := Lib.hid T0
            have HV := Lib.hid hv
            have HEA := Lib.hid hA1
            have HEB := Lib.hid hB1
            have HNA1 := Lib.hid (hasR_nn HA.out)
            have HNB1 := Lib.hid (hasR_nn HB.out)
            clear T0 hv hA1 hB1 e1 e2 e3
            have hk2 : k.toNat % 2 = 1 := by have := HT0.out; omega
            have HK2 := Lib.hid hk2
            have EVA := Lib.hid (ev_auto k.toNat HV.out HEA.out HNA1.out)
            have EVB := Lib.hid (ev_auto k.toNat HV.out HEB.out HNB1.out)
            have EP := Lib.hid (ev_prod (rB := rB) HV.out HEA.out)
            have EQ := Lib.hid (autoE_prod HK2.out HV.out HEA.out HNA1.out HEB.out HNB1.out)
            have EV5 := Lib.hid (ev_prod (rB := autoE (Oj.mods ch S lv3.toNat sp3) k.toNat rB) HV.out EVA.out.1)
            have SM5 := Lib.hid (ev_sm HV.out EV5.out)
            clear hk2
            go_wp2_with fail
            refine (rAuto_any N p1 p2 xC nC cC S p5 p6 lv3 sp3 ch _ _ k _ HK.out H3.out HC.out HS.out HR3.out).mono ?_
            intro e w5 hres
            obtain ⟨x4, n4, c4, rfl, hr4, hg0⟩ := resE_zero hres (au_auto HT0.out HV.out EP.out)
            have hd4 := trivial
            have hgn := Gr.new w5 (.cells #[.int .i64 lv3, .bool sp3, .slice x4 n4 c4] 28)
            have hgg := Gr.trans hg0 hgn
            replace HG := Lib.hid (HG.out.trans hgg)
            replace HX := Lib.hid (HX.out.gr hgg)
            replace HA := Lib.hid (HA.out.later hgg)
            replace HB := Lib.hid (HB.out.later hgg)
            replace HC := Lib.hid (HC.out.later hgg)
            replace HE1 := Lib.hid (HE1.out.gr hgg)
            replace HR1 := Lib.hid (HR1.out.later hgg)
            replace HE2 := Lib.hid (HE2.out.gr hgg)
            replace HR2 := Lib.hid (HR2.out.later hgg)
            replace HE3 := Lib.hid (HE3.out.gr hgg)
            replace HR3 := Lib.hid (HR3.out.later hgg)
            have HE4 := Lib.hid (Blk.new w5 28 #[.int .i64 lv3, .bool sp3, .slice x4 n4 c4])
            have HR4 := Lib.hid (hr4.later hgn)
            have HD4 := Lib.hid hd4
            clear hres hr4 hg0 hgn hgg hd4 q0 q1 q2 q3 q4 q5 q6 k0 k1 k2 k3 k4 k5 j0 j1 j2 j3 j4 a1 b1 d1 a2 b2 d2 a3 b3 d3
            obtain ⟨⟨q0, q1, q2, q3, q4, q5, q6⟩, ⟨k0, k1, k2, k3, k4, k5⟩, j0, j1, j2, j3, j4⟩ := HX.out.p18
            obtain ⟨a1, b1, d1⟩ := HE1.out.p3
            obtain ⟨a2, b2, d2⟩ := HE2.out.p3
            obtain ⟨a3, b3, d3⟩ := HE3.out.p3
            obtain ⟨a4, b4, d4⟩ := HE4.out.p3
            go_wp2_with fail
            refine (rMul_any N p1 p2 xC nC cC S p5 p6 lv3 sp3 lv3 sp3 ch _ _ _ _ _ H3.out HC.out HS.out HR1.out HR2.out).mono ?_
            intro e w6 hres
            obtain ⟨x5, n5, c5, rfl, hr5, hg0⟩ := resE_zero hres (two_zero HV.out EVA.out.1 EVB.out.1)
            have hd5 := trivial
            have hgn := Gr.new w6 (.cells #[.int .i64 lv3, .bool sp3, .slice x5 n5 c5] 28)
            have hgg := Gr.trans hg0 hgn
            replace HG := Lib.hid (HG.out.trans hgg)
            replace HX := Lib.hid (HX.out.gr hgg)
            replace HA := Lib.hid (HA.out.later hgg)
            replace HB := Lib.hid (HB.out.later hgg)
            replace HC := Lib.hid (HC.out.later hgg)
            replace HE1 := Lib.hid (HE1.out.gr hgg)
            replace HR1 := Lib.hid (HR1.out.later hgg)
            replace HE2 := Lib.hid (HE2.out.gr hgg)
            replace HR2 := Lib.hid (HR2.out.later hgg)
            replace HE3 := Lib.hid (HE3.out.gr hgg)
            replace HR3 := Lib.hid (HR3.out.later hgg)
            replace HE4 := Lib.hid (HE4.out.gr hgg)
            replace HR4 := Lib.hid (HR4.out.later hgg)
            have HE5 := Lib.hid (Blk.new w6 28 #[.int .i64 lv3, .bool sp3, .slice x5 n5 c5])
            have HR5 := Lib.hid (hr5.later hgn)
            have HD5 := Lib.hid hd5
            clear hres hr5 hg0 hgn hgg hd5 q0 q1 q2 q3 q4 q5 q6 k0 k1 k2 k3 k4 k5 j0 j1 j2 j3 j4 a1 b1 d1 a2 b2 d2 a3 b3 d3 a4 b4 d4
            obtain ⟨⟨q0, q1, q2, q3, q4, q5, q6⟩, ⟨k0, k1, k2, k3, k4, k5⟩, j0, j1, j2, j3, j4⟩ := HX.out.p18
            obtain ⟨a1, b1, d1⟩ := HE1.out.p3
            obtain ⟨a2, b2, d2⟩ := HE2.out.p3
            obtain ⟨a3, b3, d3⟩ := HE3.out.p3
            obtain ⟨a4, b4, d4⟩ := HE4.out.p3
            obtain ⟨a5, b5, d5⟩ := HE5.out.p3
            have hr4 : HasR _ _ (autoE (Oj.mods ch S lv3.toNat sp3) k.toNat (prodE (Oj.mods ch S lv3.toNat sp3) rA rB)) := HR4.out
            rw [EQ.out] at hr4
            replace HR4 := Lib.hid hr4
            clear hr4
            have hr5 : HasR _ _ (prodE (Oj.mods ch S lv3.toNat sp3) (autoE (Oj.mods ch S lv3.toNat sp3) k.toNat rA) (autoE (Oj.mods ch S lv3.toNat sp3) k.toNat rB)) := HR5.out
            replace HR5 := Lib.hid hr5
            clear hr5
            go_wp2_with fail
            refine (lsame_any lv3 sp3 lv3 sp3 _ _ _ _ _ HR4.out HR5.out SM5.out SM5.out).mono ?_
            rintro e w7 ⟨rfl, hg⟩
            rw [decide_eq_true (show SameE lv3 sp3 _ lv3 sp3 _ from ⟨rfl, rfl, rfl⟩)]
            replace HG := Lib.hid (HG.out.trans hg)
            replace HX := Lib.hid (HX.out.gr hg)
            replace HA := Lib.hid (HA.out.later hg)
            replace HC := Lib.hid (HC.out.later hg)
            replace HE1 := Lib.hid (HE1.out.gr hg)
            replace HR1 := Lib.hid (HR1.out.later hg)
            clear hg HB HE2 HR2 HE3 HR3 HE4 HR4 HE5 HR5 HD4 HD5 q0 q1 q2 q3 q4 q5 q6 k0 k1 k2 k3 k4 k5 j0 j1 j2 j3 j4 a1 b1 d1 a2 b2 d2 a3 b3 d3 a4 b4 d4 a5 b5 d5
            obtain ⟨⟨q0, q1, q2, q3, q4, q5, q6⟩, ⟨k0, k1, k2, k3, k4, k5⟩, j0, j1, j2, j3, j4⟩ := HX.out.p18
            obtain ⟨a1, b1, d1⟩ := HE1.out.p3
            go_wp2_with fail
            refine (rAuto_any N p1 p2 xC nC cC S p5 p6 lv3 sp3 ch _ _ l _ HLW.out H3.out HC.out HS.out HR1.out).mono ?_
            intro e w8 hres
            obtain ⟨lv7, sp7, x7, n7, c7, ls7, cc7, rfl, hr7, hg0, hd7⟩ := resE_any hres
            have hgn := Gr.new w8 (.cells #[.int .i64 lv7, .bool sp7, .slice x7 n7 c7] 28)
            have hgg := Gr.trans hg0 hgn
            replace HG := Lib.hid (HG.out.trans hgg)
            replace HX := Lib.hid (HX.out.gr hgg)
            replace HA := Lib.hid (HA.out.later hgg)
            replace HC := Lib.hid (HC.out.later hgg)
            have HE7 := Lib.hid (Blk.new w8 28 #[.int .i64 lv7, .bool sp7, .slice x7 n7 c7])
            have HR7 := Lib.hid (hr7.later hgn)
            clear HE1 HR1 hres hr7 hg0 hgn hgg q0 q1 q2 q3 q4 q5 q6 k0 k1 k2 k3 k4 k5 j0 j1 j2 j3 j4 a1 b1 d1
            obtain ⟨⟨q0, q1, q2, q3, q4, q5, q6⟩, ⟨k0, k1, k2, k3, k4, k5⟩, j0, j1, j2, j3, j4⟩ := HX.out.p18
            obtain ⟨a7, b7, d7⟩ := HE7.out.p3
            rcases hd7 with ⟨rfl, e7, rfl, rfl, rfl⟩ | rfl
            · obtain ⟨T7, -, -⟩ := au_zero e7
              obtain ⟨n0, hn0, h4, h32⟩ := vp_dim HV.out
              have HT7 := Lib.hid T7
              have HN0 := Lib.hid hn0
              have T0 := HT0.out
              have t1 : decide (N < 4) = false := by simp; omega
              have t2 : decide (N > 32) = false := by simp; omega
              have t2' : decide (32 < N) = false := by simp; omega
              have t3 : decide (k > 64) = false := by simp; omega
              have t3' : decide (64 < k) = false := by simp; omega
              have t4 : decide (l > 64) = false := by simp; omega
              have t4' : decide (64 < l) = false := by simp; omega
              clear e7 T7 T0 hn0
              have T7 := HT7.out
              have T0 := HT0.out
              have hN0 := HN0.out
              obtain ⟨KL, hKL⟩ : ∃ z, z = k * l := ⟨_, rfl⟩
              have m0 : 0 ≤ KL := by rw [hKL]; exact Int.mul_nonneg (by omega) (by omega)
              have m1 : KL ≤ 4096 := by
                rw [hKL]
                exact Int.le_trans (Int.mul_le_mul (show k ≤ 64 by omega) (show l ≤ 64 by omega) (by omega) (by omega)) (by omega)
              obtain ⟨r, hr⟩ : ∃ z, z = KL % (2 * N) := ⟨_, rfl⟩
              have r0 : 0 ≤ r := by rw [hr]; exact Int.emod_nonneg _ (by omega)
              have r1 : r < 2 * N := by rw [hr]; exact Int.emod_lt_of_pos _ (by omega)
              have HR0 := Lib.hid (show r.toNat = k.toNat * l.toNat % (2 * n0) by
                have e : r = ((k.toNat * l.toNat % (2 * n0) : Nat) : Int) := by
                  rw [hr, hKL, hN0]
                  simp only [Int.natCast_emod, Int.natCast_mul]
                  rw [Int.toNat_of_nonneg (by omega), Int.toNat_of_nonneg (by omega)]
                  rfl
                rw [e, Int.toNat_natCast])
              have HRO := Lib.hid (show 1 ≤ r ∧ r < 2 * N ∧ r % 2 ≠ 0 by
                have h1 : k.toNat * l.toNat % (2 * n0) % 2 = 1 := by
                  rw [Nat.mod_mod_of_dvd _ ⟨n0, rfl⟩, Nat.mul_mod, HK2.out, show l.toNat % 2 = 1 by omega]
                have h2 := HR0.out
                omega)
              have HRW := Lib.hid (show isW r by constructor <;> omega)
              have w1' : IntKind.i64.wrap (k * l) = KL := by rw [← hKL]; exact IntWalk.i64_in _ (by omega)
              have w2' : IntKind.i64.wrap (2 * N) = 2 * N := IntWalk.i64_in _ (by omega)
              have w3' : KL.tmod (2 * N) = r := by rw [hr]; exact Int.tmod_eq_emod_of_nonneg m0
              have w4' : IntKind.i64.wrap r = r := IntWalk.i64_in _ (by omega)
              have w5' : ¬ 2 * N = 0 := by omega
              have HCALL := Lib.hid (fun (W : World) (hC' : HasP W (.slice xC nC cC) ch) (hA' : HasR W (.slice xA nA cA) rA) => rAuto_any N p1 p2 xC nC cC S p5 p6 lv7 sp7 ch _ rA r W HRW.out H3.out hC' HS.out hA')
              obtain ⟨W9, hW9⟩ : ∃ W : World, W = w8.alloc (.cells #[.int .i64 lv7, .bool sp7, .slice x7 n7 c7] 28) := ⟨_, rfl⟩
              rw [← hW9] at HG HX HA HC HE7 HR7
              clear T7 T0 hN0 hKL hr r0 r1 m0 m1
              go_upto_region 17 with (fail)
              clear t1 t2 t2' t3 t3' t4 t4'
              go_cut [17, 18] (fun p c wx => EBox lv7 sp7 (autoE (Oj.mods ch S lv7.toNat sp7) r.toNat rA) W9 p c wx)
              case first =>
                rw [← hW9]
                rw [← hW9] at q0 q1 q2 q3 q4 q5 q6 k0 k1 k2 k3 k4 k5 j0 j1 j2 j3 j4
                clear hW9 a7 b7 d7
                have HKEEP := Lib.hid (show ∀ wz, Gr W9 wz → (wz.cell? ⟨w.heap.size, 0, none⟩ = some (.int .i64 N) ∧ wz.cell? ⟨w.heap.size, 1, none⟩ = some (.int .u32 p1) ∧ wz.cell? ⟨w.heap.size, 2, none⟩ = some (.int .i64 p2) ∧ wz.cell? ⟨w.heap.size, 3, none⟩ = some (.slice xC nC cC) ∧ wz.cell? ⟨w.heap.size, 4, none⟩ = some (.int .u32 S) ∧ wz.cell? ⟨w.heap.size, 5, none⟩ = some (.int .i64 p5) ∧ wz.cell? ⟨w.heap.size, 6, none⟩ = some (.int .u32 p6) ∧ wz.cell? ⟨w.heap.size, 7, none⟩ = some (.int .i64 lv7) ∧ wz.cell? ⟨w.heap.size, 8, none⟩ = some (.bool sp7) ∧ wz.cell? ⟨w.heap.size, 9, none⟩ = some (.slice xA nA cA) ∧ wz.cell? ⟨w.heap.size, 14, none⟩ = some (.int .i64 k)) from fun wz g => ⟨g.keeps q0, g.keeps q1, g.keeps q2, g.keeps q3, g.keeps q4, g.keeps q5, g.keeps q6, g.keeps k0, g.keeps k1, g.keeps k2, g.keeps j1⟩)
                have HAU := Lib.hid (au_auto HRO.out HV.out HEA.out)
                go_region_held3 (fun wz => wz.cell? ⟨w.heap.size, 0, none⟩ = some (.int .i64 N) ∧ wz.cell? ⟨w.heap.size, 1, none⟩ = some (.int .u32 p1) ∧ wz.cell? ⟨w.heap.size, 2, none⟩ = some (.int .i64 p2) ∧ wz.cell? ⟨w.heap.size, 3, none⟩ = some (.slice xC nC cC) ∧ wz.cell? ⟨w.heap.size, 4, none⟩ = some (.int .u32 S) ∧ wz.cell? ⟨w.heap.size, 5, none⟩ = some (.int .i64 p5) ∧ wz.cell? ⟨w.heap.size, 6, none⟩ = some (.int .u32 p6) ∧ wz.cell? ⟨w.heap.size, 7, none⟩ = some (.int .i64 lv7) ∧ wz.cell? ⟨w.heap.size, 8, none⟩ = some (.bool sp7) ∧ wz.cell? ⟨w.heap.size, 9, none⟩ = some (.slice xA nA cA) ∧ wz.cell? ⟨w.heap.size, 14, none⟩ = some (.int .i64 k)) ((refine HKEEP.out _ ?_; repeat (first | exact HG9.out | exact Gr.refl _ | refine Below.drew ?_ | refine Gr.setCell ?_ (by first | exact HG9.out.size | (simp; done) | (have := HG9.out.size; simp; omega)) _ | refine Gr.alloc ?_ _)))
                  (first
                    | (go_at_call 18; refine (HCALL.out _ (HC.out.later (by first | exact Below.drew (Gr.refl _) | exact Gr.alloc (Below.drew (Gr.refl _)) _ | exact Below.drew (Gr.new _ _))) (HA.out.later (by first | exact Below.drew (Gr.refl _) | exact Gr.alloc (Below.drew (Gr.refl _)) _ | exact Below.drew (Gr.new _ _)))).mono ?_; intro e w10 hres; obtain ⟨x8, n8, c8, rfl, hb8, hg8⟩ := resE_zeroB hres HAU.out; have HZ8 := Lib.hid (blk_at (W9 := W9) (t := 28) (cs := #[.int .i64 0, .bool false, .slice none 0 0]) hg8 rfl); obtain ⟨e0, e1, e2⟩ := HZ8.out.p3; obtain ⟨f0, f1, f2⟩ := HZ8.out.f3; have HB8 := Lib.hid hb8; have HC8 := Lib.hid hg8; have HG9 := Lib.hid (show Gr W9 w10 from Gr.trans (by first | exact Below.drew (Gr.refl _) | exact Gr.alloc (Below.drew (Gr.refl _)) _ | exact Below.drew (Gr.new _ _)) hg8); clear hres hb8 hg8)
                    | (go_at_call 18; refine (HCALL.out _ (HC.out.later (by first | exact Below.drew (Gr.refl _) | exact Gr.alloc (Below.drew (Gr.refl _)) _ | exact Below.drew (Gr.new _ _))) (HA.out.later (by first | exact Below.drew (Gr.refl _) | exact Gr.alloc (Below.drew (Gr.refl _)) _ | exact Below.drew (Gr.new _ _)))).mono ?_; intro e w10 hres; obtain ⟨x8, n8, c8, rfl, hb8, hg8⟩ := resE_zeroB hres HAU.out; have HB8 := Lib.hid hb8; have HC8 := Lib.hid hg8; have HG9 := Lib.hid (show Gr W9 w10 from Gr.trans (by first | exact Below.drew (Gr.refl _) | exact Gr.alloc (Below.drew (Gr.refl _)) _ | exact Below.drew (Gr.new _ _)) hg8); clear hres hb8 hg8))
                all_goals go_wp2_with fail
                all_goals go_meet
                · exact ⟨w10.heap.size, x8, n8, c8, rfl, rfl, Blk.new _ _ _, HB8.out.hasR.later (Gr.new _ _), HG9.out.trans (Gr.new _ _)⟩
                · have h := put3a (HB8.out.mono (lo' := W9.heap.size + 1) (by simp) (Nat.le_refl _)) HG9.out (k := W9.heap.size) (Nat.le_refl _) (by omega) (.int .i64 lv7) (.bool sp7) (.slice x8 n8 c8)
                  exact ⟨W9.heap.size, x8, n8, c8, rfl, rfl, ((HZ8.out.set 0 _).set 1 _).set 2 _, h.1.hasR, h.2⟩
              case rest =>
                obtain ⟨G8, x8, n8, c8, rfl, rfl, hb8, hr8, hg8⟩ := hcut
                replace HG := Lib.hid (HG.out.trans hg8)
                replace HE7 := Lib.hid (HE7.out.gr hg8)
                replace HR7 := Lib.hid (HR7.out.later hg8)
                have HE8 := Lib.hid hb8
                have hr8' := hr8
                rw [HR0.out, autoE_auto HN0.out HK2.out (show l.toNat % 2 = 1 by have := HT7.out; omega) HV.out HEA.out HNA1.out] at hr8'
                have HR8 := Lib.hid hr8'
                have hr7 : HasR _ _ (autoE (Oj.mods ch S lv7.toNat sp7) l.toNat (autoE (Oj.mods ch S lv7.toNat sp7) k.toNat rA)) := HR7.out
                replace HR7 := Lib.hid hr7
                have SM7 := Lib.hid (ev_sm HV.out (ev_auto l.toNat HV.out EVA.out.1 EVA.out.2).1)
                clear hb8 hr8 hr8' hr7 hg8 w1' w2' w3' w4' w5' HCALL HX HA HC hW9 q0 q1 q2 q3 q4 q5 q6 k0 k1 k2 k3 k4 k5 j0 j1 j2 j3 j4 a7 b7 d7
                obtain ⟨a7, b7, d7⟩ := HE7.out.p3
                obtain ⟨a8, b8, d8⟩ := HE8.out.p3
                go_wp2_with fail
                refine (lsame_any lv7 sp7 lv7 sp7 _ _ _ _ _ HR8.out HR7.out SM7.out SM7.out).mono ?_
                rintro e w7 ⟨rfl, hg⟩
                rw [decide_eq_true (show SameE lv7 sp7 _ lv7 sp7 _ from ⟨rfl, rfl, rfl⟩)]
                replace HG := Lib.hid (HG.out.trans hg)
                clear hg
                go_wp2_with fail
                refine (awake9_any _).mono ?_
                rintro e w9 ⟨rfl, hg2⟩
                replace HG := Lib.hid (HG.out.trans hg2)
                clear hg2
                go_wp2_with fail
                go_ret
                exact ⟨rfl, HG.out⟩
            · go_wp2_with fail
              refine (awake9_any _).mono ?_
              rintro e w9 ⟨rfl, hg2⟩
              replace HG := Lib.hid (HG.out.trans hg2)
              clear hg2
              go_wp2_with fail
              go_ret
              exact ⟨rfl, HG.out⟩
        · go_wp2_with fail
          refine (awake9_any _).mono ?_
          rintro e w9 ⟨rfl, hg2⟩
          have HG := Lib.hid (HG.out.trans hg2)
          clear hg2
          go_wp2_with fail
          go_ret
          exact ⟨rfl, HG.out⟩
      · go_wp2_with fail
        refine (awake9_any _).mono ?_
        rintro e w9 ⟨rfl, hg2⟩
        have HG := Lib.hid (HG.out.trans hg2)
        clear hg2
        go_wp2_with fail
        go_ret
        exact ⟨rfl, HG.out⟩
    · go_wp2_with fail
      refine (awake9_any _).mono ?_
      rintro e w9 ⟨rfl, hg2⟩
      have HG := Lib.hid (HG.out.trans hg2)
      clear hg2
      go_wp2_with fail
      go_ret
      exact ⟨rfl, HG.out⟩
end Go.Proofs.YtlfiakpmnkhcdaaGreat.Mo
