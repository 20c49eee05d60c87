import Derived.Test.YtlfiakpmnkhcdaaGreatLJu
/- The law RingRestricts. -/
namespace Go.Proofs.YtlfiakpmnkhcdaaGreat.Mo
open Go.RowKit Go.Shelf
set_option linter.unusedVariables false

theorem resE_zero {c lv : Int} {sp : Bool} {ls : List (List Int)} {w w' : World} {e : Ending} (h : ResE c lv sp ls w e w') (h0 : c = 0) : ∃ x n cx, e = .returned (.tuple #[.agg #[.int .i64 lv, .bool sp, .slice x n cx], .int .i64 0]) ∧ HasR w' (.slice x n cx) ls ∧ Gr w w' := by
  subst h0
  obtain ⟨x, cx, rfl, h1, h2⟩ := resE_ok h
  exact ⟨x, _, cx, rfl, h1.hasR, h2⟩
theorem rs_prod {N : Int} {ch : List Int} {S lvA lvB lv : Int} {spA spB sp : Bool} {rA rB : List (List Int)} (hT : TwoOK N ch S lvA spA rA lvB spB rB) (hR : RsOK N ch S lvA spA rA lv sp) : rsE N ch S lvA spA (rwA (Oj.mods ch S lvA.toNat spA) (fun i m => (fun m x y => Oj.prodR x.length m.toNat x y) m (rw_ rA i) (rw_ rB i))) lv sp = 0 := if_pos ⟨⟨hT.1, ev_prod hT.1 hT.2.1⟩, hR.2⟩
theorem two_res {N : Int} {ch : List Int} {S lvA lvB lv : Int} {spA spB sp : Bool} {rA rB : List (List Int)} (hA : RsOK N ch S lvA spA rA lv sp) (hB : RsOK N ch S lvB spB rB lv sp) : twoE N ch S lv sp (rwA (Oj.mods ch S lv.toNat sp) (fun i _ => rw_ rA (if i = lv.toNat then lvA.toNat else i))) lv sp (rwA (Oj.mods ch S lv.toNat sp) (fun i _ => rw_ rB (if i = lv.toNat then lvB.toNat else i))) = 0 := if_pos ⟨hA.1.1, ev_res hA, ev_res hB, rfl, rfl⟩
theorem ev_sm {N : Int} {ch : List Int} {S lv : Int} {sp : Bool} {rA : List (List Int)} (hv : VP N ch S) (h : EV N ch S lv sp rA) : Sm 1000 rA := by
  obtain ⟨n, hn, -, h32⟩ := vp_dim hv
  obtain ⟨he, hr⟩ := h
  have hl := Oj.mods_len (S := S) (sp := sp) (lv := lv.toNat) (ch := ch) (by have := he.2.1; have := he.1; omega)
  have hc := hv.2.2.1
  have h2 := he.2.1
  refine ⟨?_, fun i hi => ?_⟩
  · rw [hr.1, hl]; split <;> omega
  · have := (hr.2 i (by rw [← hr.1]; exact hi)).1; omega

set_option maxRecDepth 100000 in
set_option maxHeartbeats 8000000 in
theorem restricts9_all (N p1 p2 : Int) (uC : Value) (ch : List Int) (S p5 p6 lvA : Int) (spA : Bool) (uA : Value) (rA : List (List Int)) (lvB : Int) (spB : Bool) (uB : Value) (rB : List (List Int)) (n k lv : Int) (sp : Bool) (xL : Option Addr) (nL cL : Nat) (w : World) (hC : HasP w uC ch) (hS : 0 ≤ S ∧ S < 4294967296) (hA : HasR w uA rA) (hB : HasR w uB rB) :
    Calls Tryz.prog 8 #[.agg (csC N p1 p2 uC S p5 p6 lvA spA uA lvB spB uB n k lv sp (.slice xL nL cL))] w (Truth w) := by
  obtain ⟨xC, cC, rfl⟩ := hC.form
  obtain ⟨xA, cA, rfl⟩ := hA.form
  obtain ⟨xB, cB, rfl⟩ := hB.form
  generalize hnA : rA.length = nA at *
  generalize hnB : rB.length = nB at *
  generalize hnC : ch.length = nC at *
  obtain ⟨W0, hW0⟩ : ∃ W0, W0 = w.alloc (.cells (csC N p1 p2 (.slice xC nC cC) S p5 p6 lvA spA (.slice xA nA cA) lvB spB (.slice xB nB cB) n k lv sp (.slice xL nL cL)) 31) := ⟨_, rfl⟩
  have HG := Lib.hid (show Gr w W0 by rw [hW0]; exact Gr.new w _)
  have HX := Lib.hid (show Blk W0 w.heap.size 31 (csC N p1 p2 (.slice xC nC cC) S p5 p6 lvA spA (.slice xA nA cA) lvB spB (.slice xB nB cB) n k lv sp (.slice xL nL cL)) by rw [hW0]; exact Blk.new w _ _)
  have HA := Lib.hid (hA.later HG.out)
  have HB := Lib.hid (hB.later HG.out)
  have HC := Lib.hid (hC.later HG.out)
  have HS := Lib.hid hS
  have HNC := Lib.hid hnC
  have HNA := Lib.hid hnA
  have HNB := Lib.hid hnB
  have HLG := Lib.hid (large_any N p1 p2 xC nC cC S p5 p6 lvA spA (.slice xA nA cA) rA lvB spB (.slice xB nB cB) rB n k lv sp xL nL cL W0 HA.out HB.out)
  clear hA hB hC hS hnA hnB hnC
  unfold csC at *
  go_enter Tryz.func8, Tryz.ntmps8
  go_wp2_with fail
  rw [← hW0]
  clear hW0
  refine HLG.out.mono ?_
  rintro e w1 ⟨b, rfl, hb, hg⟩
  have HL := Lib.hid hb
  replace HG := Lib.hid (HG.out.trans hg)
  replace HX := Lib.hid (HX.out.gr hg)
  replace HA := Lib.hid (HA.out.later hg)
  replace HB := Lib.hid (HB.out.later hg)
  replace HC := Lib.hid (HC.out.later hg)
  clear hb hg HLG
  cases b with
  | true =>
    go_wp2_with fail
    refine (awake9_any _).mono ?_
    rintro e w2 ⟨rfl, hg2⟩
    have HG := Lib.hid (HG.out.trans hg2)
    clear hg2
    go_wp2_with fail
    go_ret
    exact ⟨rfl, HG.out⟩
  | false =>
    have h3 : ch.length ≤ 1000 := by have := (HL.out (by first | rfl | trivial)).2.2.1; have := HNC.out; omega
    have SA := Lib.hid (HL.out (by first | rfl | trivial)).1
    have SB := Lib.hid (HL.out (by first | rfl | trivial)).2.1
    have H3 := Lib.hid h3
    clear h3
    obtain ⟨⟨q0, q1, q2, q3, q4, q5, q6⟩, ⟨k0, k1, k2, k3, k4, k5⟩, j0, j1, j2, j3, j4⟩ := HX.out.p18
    go_wp2_with fail
    refine (rMul_any N p1 p2 xC nC cC S p5 p6 lvA spA lvB spB ch _ _ rA rB _ H3.out HC.out HS.out HA.out HB.out).mono ?_
    intro e w2 hres
    obtain ⟨lv1, sp1, x1, n1, c1, ls1, cc1, rfl, hr1, hg0, hd1⟩ := resE_any hres
    have hgn := Gr.new w2 (.cells #[.int .i64 lv1, .bool sp1, .slice x1 n1 c1] 28)
    have hgg := Gr.trans hg0 hgn
    replace HG := Lib.hid (HG.out.trans hgg)
    replace HX := Lib.hid (HX.out.gr hgg)
    replace HA := Lib.hid (HA.out.later hgg)
    replace HB := Lib.hid (HB.out.later hgg)
    replace HC := Lib.hid (HC.out.later hgg)
    have HE1 := Lib.hid (Blk.new w2 28 #[.int .i64 lv1, .bool sp1, .slice x1 n1 c1])
    have HR1 := Lib.hid (hr1.later hgn)
    have HD1 := Lib.hid hd1
    clear hres hr1 hg0 hgn hgg hd1 q0 q1 q2 q3 q4 q5 q6 k0 k1 k2 k3 k4 k5 j0 j1 j2 j3 j4
    obtain ⟨⟨q0, q1, q2, q3, q4, q5, q6⟩, ⟨k0, k1, k2, k3, k4, k5⟩, j0, j1, j2, j3, j4⟩ := HX.out.p18
    obtain ⟨a1, b1, d1⟩ := HE1.out.p3
    go_wp2_with fail
    refine (rRestrict_any N p1 p2 xC nC cC S p5 p6 lvA spA ch _ rA lv sp _ H3.out HC.out HS.out HA.out).mono ?_
    intro e w3 hres
    obtain ⟨lv2, sp2, x2, n2, c2, ls2, cc2, rfl, hr2, hg0, hd2⟩ := resE_any hres
    have hgn := Gr.new w3 (.cells #[.int .i64 lv2, .bool sp2, .slice x2 n2 c2] 28)
    have hgg := Gr.trans hg0 hgn
    replace HG := Lib.hid (HG.out.trans hgg)
    replace HX := Lib.hid (HX.out.gr hgg)
    replace HA := Lib.hid (HA.out.later hgg)
    replace HB := Lib.hid (HB.out.later hgg)
    replace HC := Lib.hid (HC.out.later hgg)
    replace HE1 := Lib.hid (HE1.out.gr hgg)
    replace HR1 := Lib.hid (HR1.out.later hgg)
    have HE2 := Lib.hid (Blk.new w3 28 #[.int .i64 lv2, .bool sp2, .slice x2 n2 c2])
    have HR2 := Lib.hid (hr2.later hgn)
    have HD2 := Lib.hid hd2
    clear hres hr2 hg0 hgn hgg hd2 q0 q1 q2 q3 q4 q5 q6 k0 k1 k2 k3 k4 k5 j0 j1 j2 j3 j4 a1 b1 d1
    obtain ⟨⟨q0, q1, q2, q3, q4, q5, q6⟩, ⟨k0, k1, k2, k3, k4, k5⟩, j0, j1, j2, j3, j4⟩ := HX.out.p18
    obtain ⟨a1, b1, d1⟩ := HE1.out.p3
    obtain ⟨a2, b2, d2⟩ := HE2.out.p3
    go_wp2_with fail
    refine (rRestrict_any N p1 p2 xC nC cC S p5 p6 lvB spB ch _ rB lv sp _ H3.out HC.out HS.out HB.out).mono ?_
    intro e w4 hres
    obtain ⟨lv3, sp3, x3, n3, c3, ls3, cc3, rfl, hr3, hg0, hd3⟩ := resE_any hres
    have hgn := Gr.new w4 (.cells #[.int .i64 lv3, .bool sp3, .slice x3 n3 c3] 28)
    have hgg := Gr.trans hg0 hgn
    replace HG := Lib.hid (HG.out.trans hgg)
    replace HX := Lib.hid (HX.out.gr hgg)
    replace HA := Lib.hid (HA.out.later hgg)
    replace HB := Lib.hid (HB.out.later hgg)
    replace HC := Lib.hid (HC.out.later hgg)
    replace HE1 := Lib.hid (HE1.out.gr hgg)
    replace HR1 := Lib.hid (HR1.out.later hgg)
    replace HE2 := Lib.hid (HE2.out.gr hgg)
    replace HR2 := Lib.hid (HR2.out.later hgg)
    have HE3 := Lib.hid (Blk.new w4 28 #[.int .i64 lv3, .bool sp3, .slice x3 n3 c3])
    have HR3 := Lib.hid (hr3.later hgn)
    have HD3 := Lib.hid hd3
    clear hres hr3 hg0 hgn hgg hd3 q0 q1 q2 q3 q4 q5 q6 k0 k1 k2 k3 k4 k5 j0 j1 j2 j3 j4 a1 b1 d1 a2 b2 d2
    obtain ⟨⟨q0, q1, q2, q3, q4, q5, q6⟩, ⟨k0, k1, k2, k3, k4, k5⟩, j0, j1, j2, j3, j4⟩ := HX.out.p18
    obtain ⟨a1, b1, d1⟩ := HE1.out.p3
    obtain ⟨a2, b2, d2⟩ := HE2.out.p3
    obtain ⟨a3, b3, d3⟩ := HE3.out.p3
    rcases HD1.out with ⟨rfl, e1, rfl, rfl, rfl⟩ | rfl
    · rcases HD2.out with ⟨rfl, e2, rfl, rfl, rfl⟩ | rfl
      · rcases HD3.out with ⟨rfl, e3, rfl, rfl, rfl⟩ | rfl
        · have T1 := Lib.hid (twoE_zero e1)
          have T2 := Lib.hid (rsE_zero e2)
          have T3 := Lib.hid (rsE_zero e3)
          obtain ⟨-, -, -, rfl, rfl⟩ := twoE_zero e1
          have E4 := Lib.hid (rs_prod T1.out T2.out)
          have E5 := Lib.hid (two_res T2.out T3.out)
          have EQ := Lib.hid (res_prod (rB := rB) T2.out)
          clear e1 e2 e3
          go_wp2_with fail
          refine (rRestrict_any N p1 p2 xC nC cC S p5 p6 lv1 sp1 ch _ _ lv3 sp3 _ H3.out HC.out HS.out HR1.out).mono ?_
          intro e w5 hres
          obtain ⟨x4, n4, c4, rfl, hr4, hg0⟩ := resE_zero hres E4.out
          have hd4 := trivial
          have hgn := Gr.new w5 (.cells #[.int .i64 lv3, .bool sp3, .slice x4 n4 c4] 28)
          have hgg := Gr.trans hg0 hgn
          replace HG := Lib.hid (HG.out.trans hgg)
          replace HX := Lib.hid (HX.out.gr hgg)
          replace HA := Lib.hid (HA.out.later hgg)
          replace HB := Lib.hid (HB.out.later hgg)
          replace HC := Lib.hid (HC.out.later hgg)
          replace HE1 := Lib.hid (HE1.out.gr hgg)
          replace HR1 := Lib.hid (HR1.out.later hgg)
          replace HE2 := Lib.hid (HE2.out.gr hgg)
          replace HR2 := Lib.hid (HR2.out.later hgg)
          replace HE3 := Lib.hid (HE3.out.gr hgg)
          replace HR3 := Lib.hid (HR3.out.later hgg)
          have HE4 := Lib.hid (Blk.new w5 28 #[.int .i64 lv3, .bool sp3, .slice x4 n4 c4])
          have HR4 := Lib.hid (hr4.later hgn)
          have HD4 := Lib.hid hd4
          clear hres hr4 hg0 hgn hgg hd4 q0 q1 q2 q3 q4 q5 q6 k0 k1 k2 k3 k4 k5 j0 j1 j2 j3 j4 a1 b1 d1 a2 b2 d2 a3 b3 d3
          obtain ⟨⟨q0, q1, q2, q3, q4, q5, q6⟩, ⟨k0, k1, k2, k3, k4, k5⟩, j0, j1, j2, j3, j4⟩ := HX.out.p18
          obtain ⟨a1, b1, d1⟩ := HE1.out.p3
          obtain ⟨a2, b2, d2⟩ := HE2.out.p3
          obtain ⟨a3, b3, d3⟩ := HE3.out.p3
          obtain ⟨a4, b4, d4⟩ := HE4.out.p3
          go_wp2_with fail
          refine (rMul_any N p1 p2 xC nC cC S p5 p6 lv3 sp3 lv3 sp3 ch _ _ _ _ _ H3.out HC.out HS.out HR2.out HR3.out).mono ?_
          intro e w6 hres
          obtain ⟨x5, n5, c5, rfl, hr5, hg0⟩ := resE_zero hres E5.out
          have hd5 := trivial
          have hgn := Gr.new w6 (.cells #[.int .i64 lv3, .bool sp3, .slice x5 n5 c5] 28)
          have hgg := Gr.trans hg0 hgn
          replace HG := Lib.hid (HG.out.trans hgg)
          replace HX := Lib.hid (HX.out.gr hgg)
          replace HA := Lib.hid (HA.out.later hgg)
          replace HB := Lib.hid (HB.out.later hgg)
          replace HC := Lib.hid (HC.out.later hgg)
          replace HE1 := Lib.hid (HE1.out.gr hgg)
          replace HR1 := Lib.hid (HR1.out.later hgg)
          replace HE2 := Lib.hid (HE2.out.gr hgg)
          replace HR2 := Lib.hid (HR2.out.later hgg)
          replace HE3 := Lib.hid (HE3.out.gr hgg)
          replace HR3 := Lib.hid (HR3.out.later hgg)
          replace HE4 := Lib.hid (HE4.out.gr hgg)
          replace HR4 := Lib.hid (HR4.out.later hgg)
          have HE5 := Lib.hid (Blk.new w6 28 #[.int .i64 lv3, .bool sp3, .slice x5 n5 c5])
          have HR5 := Lib.hid (hr5.later hgn)
          have HD5 := Lib.hid hd5
          clear hres hr5 hg0 hgn hgg hd5 q0 q1 q2 q3 q4 q5 q6 k0 k1 k2 k3 k4 k5 j0 j1 j2 j3 j4 a1 b1 d1 a2 b2 d2 a3 b3 d3 a4 b4 d4
          obtain ⟨⟨q0, q1, q2, q3, q4, q5, q6⟩, ⟨k0, k1, k2, k3, k4, k5⟩, j0, j1, j2, j3, j4⟩ := HX.out.p18
          obtain ⟨a1, b1, d1⟩ := HE1.out.p3
          obtain ⟨a2, b2, d2⟩ := HE2.out.p3
          obtain ⟨a3, b3, d3⟩ := HE3.out.p3
          obtain ⟨a4, b4, d4⟩ := HE4.out.p3
          obtain ⟨a5, b5, d5⟩ := HE5.out.p3
          have EV5 := Lib.hid (ev_prod (rB := rwA (Oj.mods ch S lv3.toNat sp3) (fun i _ => rw_ rB (if i = lv3.toNat then lv1.toNat else i))) T1.out.1 (ev_res T2.out))
          have SM := Lib.hid (ev_sm T1.out.1 EV5.out)
          have hr4 := HR4.out
          rw [EQ.out] at hr4
          have HR4 := Lib.hid hr4
          clear hr4
          go_wp2_with fail
          refine (lsame_any lv3 sp3 lv3 sp3 _ _ _ _ _ HR4.out HR5.out SM.out SM.out).mono ?_
          rintro e w7 ⟨rfl, hg2⟩
          have HG := Lib.hid (HG.out.trans hg2)
          rw [decide_eq_true (show SameE lv3 sp3 _ lv3 sp3 _ from ⟨rfl, rfl, rfl⟩)]
          clear hg2
          go_wp2_with fail
          refine (awake9_any _).mono ?_
          rintro e w8 ⟨rfl, hg2⟩
          have HG := Lib.hid (HG.out.trans hg2)
          clear hg2
          go_wp2_with fail
          go_ret
          exact ⟨rfl, HG.out⟩
        · go_wp2_with fail
          refine (awake9_any _).mono ?_
          rintro e w5 ⟨rfl, hg2⟩
          have HG := Lib.hid (HG.out.trans hg2)
          clear hg2
          go_wp2_with fail
          go_ret
          exact ⟨rfl, HG.out⟩
      · go_wp2_with fail
        refine (awake9_any _).mono ?_
        rintro e w5 ⟨rfl, hg2⟩
        have HG := Lib.hid (HG.out.trans hg2)
        clear hg2
        go_wp2_with fail
        go_ret
        exact ⟨rfl, HG.out⟩
    · go_wp2_with fail
      refine (awake9_any _).mono ?_
      rintro e w5 ⟨rfl, hg2⟩
      have HG := Lib.hid (HG.out.trans hg2)
      clear hg2
      go_wp2_with fail
      go_ret
      exact ⟨rfl, HG.out⟩
end Go.Proofs.YtlfiakpmnkhcdaaGreat.Mo
