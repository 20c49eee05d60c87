import Derived.Test.YtlfiakpmnkhcdaaGreatLJy
/- The law RingLaws. (made by mkjz.py) -/
namespace Go.Proofs.YtlfiakpmnkhcdaaGreat.Mo
open Go.RowKit Go.Shelf
set_option linter.unusedVariables false

theorem resE_any2 {c lv : Int} {sp : Bool} {ls : List (List Int)} {w w' : World} {e : Ending} (h : ResE c lv sp ls w e w') : ∃ lv' sp' x n cx ls' cc, e = .returned (.tuple #[.agg #[.int .i64 lv', .bool sp', .slice x n cx], .int .i64 cc]) ∧ HasR w' (.slice x n cx) ls' ∧ Gr w w' ∧ cc = c ∧ ((cc = 0 ∧ lv' = lv ∧ sp' = sp ∧ ls' = ls) ∨ cc = 2) := by
  obtain ⟨lv', sp', ls', u, rfl, h1, h2, h3⟩ := h
  obtain ⟨x, cx, rfl⟩ := h2.form
  refine ⟨lv', sp', x, ls'.length, cx, ls', c, rfl, h2.hasR, h3, rfl, ?_⟩
  rcases h1 with ⟨a, b, c, d⟩ | ⟨a, _⟩
  · exact .inl ⟨a, b, c, d⟩
  · exact .inr a
theorem two_ok {N : Int} {ch : List Int} {S lv : Int} {sp : Bool} {rA rB : List (List Int)} (hv : VP N ch S) (hA : EV N ch S lv sp rA) (hB : EV N ch S lv sp rB) : twoE N ch S lv sp rA lv sp rB = 0 := if_pos ⟨hv, hA, hB, rfl, rfl⟩
theorem twoE_symm (N : Int) (ch : List Int) (S lv : Int) (sp : Bool) (rA : List (List Int)) (lv2 : Int) (sp2 : Bool) (rB : List (List Int)) : twoE N ch S lv sp rA lv2 sp2 rB = twoE N ch S lv2 sp2 rB lv sp rA := by
  unfold twoE
  by_cases h : TwoOK N ch S lv sp rA lv2 sp2 rB
  · rw [if_pos h, if_pos ⟨h.1, h.2.2.1, h.2.1, h.2.2.2.1.symm, h.2.2.2.2.symm⟩]
  · rw [if_neg h, if_neg fun k => h ⟨k.1, k.2.2.1, k.2.1, k.2.2.2.1.symm, k.2.2.2.2.symm⟩]
def Thr3 (W : World) (cA cB cC : Array Value) (p q r : Value) (wx : World) : Prop := ∃ G5 G6 G7, p = .pointer (some ⟨G5, 0, none⟩) ∧ q = .pointer (some ⟨G6, 0, none⟩) ∧ r = .pointer (some ⟨G7, 0, none⟩) ∧ Blk wx G5 28 cA ∧ Blk wx G6 28 cB ∧ Blk wx G7 28 cC ∧ Gr W wx
theorem blk3 (W : World) (t : TypeId) (c0 c1 c2 : Array Value) : Blk (((W.alloc (.cells c0 t)).alloc (.cells c1 t)).alloc (.cells c2 t)).drew W.heap.size t c0 ∧ Blk (((W.alloc (.cells c0 t)).alloc (.cells c1 t)).alloc (.cells c2 t)).drew (W.heap.size + 1) t c1 ∧ Blk (((W.alloc (.cells c0 t)).alloc (.cells c1 t)).alloc (.cells c2 t)).drew (W.heap.size + 1 + 1) t c2 :=
  ⟨(Blk.new W t c0).gr (Below.drew ((Gr.new _ _).alloc _)), (Blk.newk t c1 (by simp)).gr (Below.drew (Gr.new _ _)), Blk.gr (Blk.newk t c2 (by simp)) (Below.drew (Gr.refl _))⟩
theorem Blk.p9 {W : World} {b : Nat} {t : TypeId} {a0 a1 a2 a3 a4 a5 a6 a7 a8 : Value} (h : Blk W b t #[a0, a1, a2, a3, a4, a5, a6, a7, a8]) :
    W.cell? ⟨b, 0, none⟩ = some a0 ∧ W.cell? ⟨b, 1, none⟩ = some a1 ∧ W.cell? ⟨b, 2, none⟩ = some a2 ∧ W.cell? ⟨b, 3, none⟩ = some a3 ∧ W.cell? ⟨b, 4, none⟩ = some a4 ∧ W.cell? ⟨b, 5, none⟩ = some a5 ∧ W.cell? ⟨b, 6, none⟩ = some a6 ∧ W.cell? ⟨b, 7, none⟩ = some a7 ∧ W.cell? ⟨b, 8, none⟩ = some a8 :=
  ⟨h.cell 0, h.cell 1, h.cell 2, h.cell 3, h.cell 4, h.cell 5, h.cell 6, h.cell 7, h.cell 8⟩

set_option maxRecDepth 100000 in
set_option maxHeartbeats 8000000 in
theorem laws9_all (N p1 p2 : Int) (uC : Value) (ch : List Int) (S p5 p6 lvA : Int) (spA : Bool) (uA : Value) (rA : List (List Int)) (lvB : Int) (spB : Bool) (uB : Value) (rB : List (List Int)) (lvC : Int) (spC : Bool) (uC3 : Value) (rC : List (List Int)) (w : World) (hC : HasP w uC ch) (hS : 0 ≤ S ∧ S < 4294967296) (hA : HasR w uA rA) (hB : HasR w uB rB) (hC3 : HasR w uC3 rC) :
    Calls Tryz.prog 6 #[.agg #[.int .i64 N, .int .u32 p1, .int .i64 p2, uC, .int .u32 S, .int .i64 p5, .int .u32 p6], .agg #[.int .i64 lvA, .bool spA, uA, .int .i64 lvB, .bool spB, uB, .int .i64 lvC, .bool spC, uC3]] w (Truth w) := by
  obtain ⟨xC, cC, rfl⟩ := hC.form
  obtain ⟨xA, cA, rfl⟩ := hA.form
  obtain ⟨xB, cB, rfl⟩ := hB.form
  obtain ⟨xC3, cC3, rfl⟩ := hC3.form
  generalize hnA : rA.length = nA at *
  generalize hnB : rB.length = nB at *
  generalize hnC3 : rC.length = nC3 at *
  generalize hnC : ch.length = nC at *
  obtain ⟨W0, hW0⟩ : ∃ W0, W0 = (w.alloc (.cells #[.int .i64 N, .int .u32 p1, .int .i64 p2, .slice xC nC cC, .int .u32 S, .int .i64 p5, .int .u32 p6] 25)).alloc (.cells #[.int .i64 lvA, .bool spA, .slice xA nA cA, .int .i64 lvB, .bool spB, .slice xB nB cB, .int .i64 lvC, .bool spC, .slice xC3 nC3 cC3] 53) := ⟨_, rfl⟩
  have HG := Lib.hid (show Gr w W0 by rw [hW0]; exact (Gr.new w _).alloc _)
  have HP := Lib.hid (show Blk W0 w.heap.size 25 #[.int .i64 N, .int .u32 p1, .int .i64 p2, .slice xC nC cC, .int .u32 S, .int .i64 p5, .int .u32 p6] by rw [hW0]; exact (Blk.new w _ _).gr (Gr.new _ _))
  have HX := Lib.hid (show Blk W0 (w.heap.size + 1) 53 #[.int .i64 lvA, .bool spA, .slice xA nA cA, .int .i64 lvB, .bool spB, .slice xB nB cB, .int .i64 lvC, .bool spC, .slice xC3 nC3 cC3] by rw [hW0]; exact Blk.newk _ _ (by simp))
  have HC := Lib.hid (hC.later HG.out)
  have HR5 := Lib.hid (hA.later HG.out)
  have HR6 := Lib.hid (hB.later HG.out)
  have HR7 := Lib.hid (hC3.later HG.out)
  have HS := Lib.hid hS
  have HNC := Lib.hid hnC
  clear hC hA hB hC3 hS hnA hnB hnC3 hnC
  go_enter Tryz.func6, Tryz.ntmps6
  go_upto_region 1 with (fail)
  rw [← hW0]
  clear hW0
  obtain ⟨q0, q1, q2, q3, q4, q5, q6⟩ := HP.out.p7
  obtain ⟨k0, k1, k2, k3, k4, k5, k6, k7, k8⟩ := HX.out.p9
  go_wp2_with fail
  refine (huge_any lvA spA rA _ _ HR5.out).mono ?_
  rintro e w1 ⟨b, rfl, hb, hg⟩
  clear q0 q1 q2 q3 q4 q5 q6 k0 k1 k2 k3 k4 k5 k6 k7 k8
  replace HG := Lib.hid (HG.out.trans hg)
  replace HP := Lib.hid (HP.out.gr hg)
  replace HC := Lib.hid (HC.out.later hg)
  replace HX := Lib.hid (HX.out.gr hg)
  replace HR5 := Lib.hid (HR5.out.later hg)
  replace HR6 := Lib.hid (HR6.out.later hg)
  replace HR7 := Lib.hid (HR7.out.later hg)
  have HH5 := Lib.hid hb
  clear hb hg
  obtain ⟨q0, q1, q2, q3, q4, q5, q6⟩ := HP.out.p7
  obtain ⟨k0, k1, k2, k3, k4, k5, k6, k7, k8⟩ := HX.out.p9
  cases b with
  | true =>
    go_wp2_with fail
    refine (awake9_any _).mono ?_
    rintro e w9 ⟨rfl, hg2⟩
    replace HG := Lib.hid (HG.out.trans hg2)
    clear hg2
    go_wp2_with fail
    go_ret
    exact ⟨rfl, HG.out⟩
  | false =>
    go_wp2_with fail
    refine (huge_any lvB spB rB _ _ HR6.out).mono ?_
    rintro e w1 ⟨b, rfl, hb, hg⟩
    clear q0 q1 q2 q3 q4 q5 q6 k0 k1 k2 k3 k4 k5 k6 k7 k8
    replace HG := Lib.hid (HG.out.trans hg)
    replace HP := Lib.hid (HP.out.gr hg)
    replace HC := Lib.hid (HC.out.later hg)
    replace HX := Lib.hid (HX.out.gr hg)
    replace HR5 := Lib.hid (HR5.out.later hg)
    replace HR6 := Lib.hid (HR6.out.later hg)
    replace HR7 := Lib.hid (HR7.out.later hg)
    have HH6 := Lib.hid hb
    clear hb hg
    obtain ⟨q0, q1, q2, q3, q4, q5, q6⟩ := HP.out.p7
    obtain ⟨k0, k1, k2, k3, k4, k5, k6, k7, k8⟩ := HX.out.p9
    cases b with
    | true =>
      go_wp2_with fail
      refine (awake9_any _).mono ?_
      rintro e w9 ⟨rfl, hg2⟩
      replace HG := Lib.hid (HG.out.trans hg2)
      clear hg2
      go_wp2_with fail
      go_ret
      exact ⟨rfl, HG.out⟩
    | false =>
      go_wp2_with fail
      refine (huge_any lvC spC rC _ _ HR7.out).mono ?_
      rintro e w1 ⟨b, rfl, hb, hg⟩
      clear q0 q1 q2 q3 q4 q5 q6 k0 k1 k2 k3 k4 k5 k6 k7 k8
      replace HG := Lib.hid (HG.out.trans hg)
      replace HP := Lib.hid (HP.out.gr hg)
      replace HC := Lib.hid (HC.out.later hg)
      replace HX := Lib.hid (HX.out.gr hg)
      replace HR5 := Lib.hid (HR5.out.later hg)
      replace HR6 := Lib.hid (HR6.out.later hg)
      replace HR7 := Lib.hid (HR7.out.later hg)
      have HH7 := Lib.hid hb
      clear hb hg
      obtain ⟨q0, q1, q2, q3, q4, q5, q6⟩ := HP.out.p7
      obtain ⟨k0, k1, k2, k3, k4, k5, k6, k7, k8⟩ := HX.out.p9
      cases b with
      | true =>
        go_wp2_with fail
        refine (awake9_any _).mono ?_
        rintro e w9 ⟨rfl, hg2⟩
        replace HG := Lib.hid (HG.out.trans hg2)
        clear hg2
        go_wp2_with fail
        go_ret
        exact ⟨rfl, HG.out⟩
      | false =>
        by_cases c1 : 100 < nC
        · have t1 : decide ((nC : Int) > 100) = true := by simp; omega
          have t1' : decide (100 < (nC : Int)) = true := by simp; omega
          go_wp2_with fail
          refine (awake9_any _).mono ?_
          rintro e w9 ⟨rfl, hg2⟩
          replace HG := Lib.hid (HG.out.trans hg2)
          clear hg2
          go_wp2_with fail
          go_ret
          exact ⟨rfl, HG.out⟩
        have t1 : decide ((nC : Int) > 100) = false := by simp; omega
        have t1' : decide (100 < (nC : Int)) = false := by simp; omega
        have h3 : ch.length ≤ 1000 := by have := HNC.out; omega
        have H3 := Lib.hid h3
        have SA := Lib.hid (HH5.out (by first | rfl | trivial)).2
        clear h3 c1 HH5 HH6 HH7
        go_upto_region 3 with (fail)
        clear t1 t1'
        go_cut [5, 6, 7] (fun p q r wx => Thr3 w1 #[.int .i64 lvA, .bool spA, .slice xA nA cA] #[.int .i64 lvB, .bool spB, .slice xB nB cB] #[.int .i64 lvC, .bool spC, .slice xC3 nC3 cC3] p q r wx)
        case first =>
          have HKEEP := Lib.hid (show ∀ w', Gr w1 w' → (w'.cell? ⟨w.heap.size + 1, 0, none⟩ = some (.int .i64 lvA) ∧ w'.cell? ⟨w.heap.size + 1, 1, none⟩ = some (.bool spA) ∧ w'.cell? ⟨w.heap.size + 1, 2, none⟩ = some (.slice xA nA cA) ∧ w'.cell? ⟨w.heap.size + 1, 3, none⟩ = some (.int .i64 lvB) ∧ w'.cell? ⟨w.heap.size + 1, 4, none⟩ = some (.bool spB) ∧ w'.cell? ⟨w.heap.size + 1, 5, none⟩ = some (.slice xB nB cB) ∧ w'.cell? ⟨w.heap.size + 1, 6, none⟩ = some (.int .i64 lvC) ∧ w'.cell? ⟨w.heap.size + 1, 7, none⟩ = some (.bool spC) ∧ w'.cell? ⟨w.heap.size + 1, 8, none⟩ = some (.slice xC3 nC3 cC3)) from fun w' g => ⟨g.keeps k0, g.keeps k1, g.keeps k2, g.keeps k3, g.keeps k4, g.keeps k5, g.keeps k6, g.keeps k7, g.keeps k8⟩)
          go_region_held3 (fun w' => w'.cell? ⟨w.heap.size + 1, 0, none⟩ = some (.int .i64 lvA) ∧ w'.cell? ⟨w.heap.size + 1, 1, none⟩ = some (.bool spA) ∧ w'.cell? ⟨w.heap.size + 1, 2, none⟩ = some (.slice xA nA cA) ∧ w'.cell? ⟨w.heap.size + 1, 3, none⟩ = some (.int .i64 lvB) ∧ w'.cell? ⟨w.heap.size + 1, 4, none⟩ = some (.bool spB) ∧ w'.cell? ⟨w.heap.size + 1, 5, none⟩ = some (.slice xB nB cB) ∧ w'.cell? ⟨w.heap.size + 1, 6, none⟩ = some (.int .i64 lvC) ∧ w'.cell? ⟨w.heap.size + 1, 7, none⟩ = some (.bool spC) ∧ w'.cell? ⟨w.heap.size + 1, 8, none⟩ = some (.slice xC3 nC3 cC3)) ((refine HKEEP.out _ ?_; repeat (first | exact Gr.refl _ | refine Below.drew ?_ | refine Gr.setCell ?_ (by first | (simp; done) | (simp; omega)) _ | refine Gr.alloc ?_ _))) (fail)
          all_goals
            go_wp2_with fail
            go_meet
            refine ⟨_, _, _, rfl, rfl, rfl, ?_, ?_, ?_, ?_⟩
            any_goals (exact Below.drew (((Gr.new _ _).alloc _).alloc _))
            all_goals first | exact (blk3 _ _ _ _ _).1 | exact (blk3 _ _ _ _ _).2.1 | exact (blk3 _ _ _ _ _).2.2
        case rest =>
          obtain ⟨G5, G6, G7, rfl, rfl, rfl, hE5, hE6, hE7, hg⟩ := hcut
          clear q0 q1 q2 q3 q4 q5 q6 k0 k1 k2 k3 k4 k5 k6 k7 k8
          replace HG := Lib.hid (HG.out.trans hg)
          replace HP := Lib.hid (HP.out.gr hg)
          replace HC := Lib.hid (HC.out.later hg)
          replace HR5 := Lib.hid (HR5.out.later hg)
          replace HR6 := Lib.hid (HR6.out.later hg)
          replace HR7 := Lib.hid (HR7.out.later hg)
          have HE5 := Lib.hid hE5
          have HE6 := Lib.hid hE6
          have HE7 := Lib.hid hE7
          clear HX hE5 hE6 hE7 hg
          obtain ⟨q0, q1, q2, q3, q4, q5, q6⟩ := HP.out.p7
          obtain ⟨a5, b5, d5⟩ := HE5.out.p3
          obtain ⟨a6, b6, d6⟩ := HE6.out.p3
          obtain ⟨a7, b7, d7⟩ := HE7.out.p3
          go_wp2_with fail
          refine (rMul_any N p1 p2 xC nC cC S p5 p6 lvA spA lvB spB ch _ _ _ _ _ H3.out HC.out HS.out HR5.out HR6.out).mono ?_
          intro e w2 hres
          obtain ⟨lv8, sp8, x8, n8, c8, ls8, cc8, rfl, hr8, hg0, hcc, hd8⟩ := resE_any2 hres
          have hgn := Gr.new w2 (.cells #[.int .i64 lv8, .bool sp8, .slice x8 n8 c8] 28)
          have hgg := Gr.trans hg0 hgn
          clear q0 q1 q2 q3 q4 q5 q6 a5 b5 d5 a6 b6 d6 a7 b7 d7
          replace HG := Lib.hid (HG.out.trans hgg)
          replace HP := Lib.hid (HP.out.gr hgg)
          replace HC := Lib.hid (HC.out.later hgg)
          replace HE5 := Lib.hid (HE5.out.gr hgg)
          replace HE6 := Lib.hid (HE6.out.gr hgg)
          replace HE7 := Lib.hid (HE7.out.gr hgg)
          replace HR5 := Lib.hid (HR5.out.later hgg)
          replace HR6 := Lib.hid (HR6.out.later hgg)
          replace HR7 := Lib.hid (HR7.out.later hgg)
          have HE8 := Lib.hid (Blk.new w2 28 #[.int .i64 lv8, .bool sp8, .slice x8 n8 c8])
          have HR8 := Lib.hid (hr8.later hgn)
          have HCC8 := Lib.hid hcc
          have HD8 := Lib.hid hd8
          clear hcc hd8
          clear hres hr8 hg0 hgn hgg
          obtain ⟨q0, q1, q2, q3, q4, q5, q6⟩ := HP.out.p7
          obtain ⟨a5, b5, d5⟩ := HE5.out.p3
          obtain ⟨a6, b6, d6⟩ := HE6.out.p3
          obtain ⟨a7, b7, d7⟩ := HE7.out.p3
          obtain ⟨a8, b8, d8⟩ := HE8.out.p3
          go_wp2_with fail
          refine (rMul_any N p1 p2 xC nC cC S p5 p6 lvB spB lvA spA ch _ _ _ _ _ H3.out HC.out HS.out HR6.out HR5.out).mono ?_
          intro e w2 hres
          obtain ⟨lv10, sp10, x10, n10, c10, ls10, cc10, rfl, hr10, hg0, hcc, hd10⟩ := resE_any2 hres
          have hgn := Gr.new w2 (.cells #[.int .i64 lv10, .bool sp10, .slice x10 n10 c10] 28)
          have hgg := Gr.trans hg0 hgn
          clear q0 q1 q2 q3 q4 q5 q6 a5 b5 d5 a6 b6 d6 a7 b7 d7 a8 b8 d8
          replace HG := Lib.hid (HG.out.trans hgg)
          replace HP := Lib.hid (HP.out.gr hgg)
          replace HC := Lib.hid (HC.out.later hgg)
          replace HE5 := Lib.hid (HE5.out.gr hgg)
          replace HE6 := Lib.hid (HE6.out.gr hgg)
          replace HE7 := Lib.hid (HE7.out.gr hgg)
          replace HE8 := Lib.hid (HE8.out.gr hgg)
          replace HR5 := Lib.hid (HR5.out.later hgg)
          replace HR6 := Lib.hid (HR6.out.later hgg)
          replace HR7 := Lib.hid (HR7.out.later hgg)
          replace HR8 := Lib.hid (HR8.out.later hgg)
          have HE10 := Lib.hid (Blk.new w2 28 #[.int .i64 lv10, .bool sp10, .slice x10 n10 c10])
          have HR10 := Lib.hid (hr10.later hgn)
          have HCC10 := Lib.hid hcc
          have HD10 := Lib.hid hd10
          clear hcc hd10
          clear hres hr10 hg0 hgn hgg
          obtain ⟨q0, q1, q2, q3, q4, q5, q6⟩ := HP.out.p7
          obtain ⟨a5, b5, d5⟩ := HE5.out.p3
          obtain ⟨a6, b6, d6⟩ := HE6.out.p3
          obtain ⟨a7, b7, d7⟩ := HE7.out.p3
          obtain ⟨a8, b8, d8⟩ := HE8.out.p3
          obtain ⟨a10, b10, d10⟩ := HE10.out.p3
          go_wp2_with fail
          refine (rMul_any N p1 p2 xC nC cC S p5 p6 lvB spB lvC spC ch _ _ _ _ _ H3.out HC.out HS.out HR6.out HR7.out).mono ?_
          intro e w2 hres
          obtain ⟨lv12, sp12, x12, n12, c12, ls12, cc12, rfl, hr12, hg0, hcc, hd12⟩ := resE_any2 hres
          have hgn := Gr.new w2 (.cells #[.int .i64 lv12, .bool sp12, .slice x12 n12 c12] 28)
          have hgg := Gr.trans hg0 hgn
          clear q0 q1 q2 q3 q4 q5 q6 a5 b5 d5 a6 b6 d6 a7 b7 d7 a8 b8 d8 a10 b10 d10
          replace HG := Lib.hid (HG.out.trans hgg)
          replace HP := Lib.hid (HP.out.gr hgg)
          replace HC := Lib.hid (HC.out.later hgg)
          replace HE5 := Lib.hid (HE5.out.gr hgg)
          replace HE6 := Lib.hid (HE6.out.gr hgg)
          replace HE7 := Lib.hid (HE7.out.gr hgg)
          replace HE8 := Lib.hid (HE8.out.gr hgg)
          replace HE10 := Lib.hid (HE10.out.gr hgg)
          replace HR5 := Lib.hid (HR5.out.later hgg)
          replace HR6 := Lib.hid (HR6.out.later hgg)
          replace HR7 := Lib.hid (HR7.out.later hgg)
          replace HR8 := Lib.hid (HR8.out.later hgg)
          replace HR10 := Lib.hid (HR10.out.later hgg)
          have HE12 := Lib.hid (Blk.new w2 28 #[.int .i64 lv12, .bool sp12, .slice x12 n12 c12])
          have HR12 := Lib.hid (hr12.later hgn)
          have HCC12 := Lib.hid hcc
          have HD12 := Lib.hid hd12
          clear hcc hd12
          clear hres hr12 hg0 hgn hgg
          obtain ⟨q0, q1, q2, q3, q4, q5, q6⟩ := HP.out.p7
          obtain ⟨a5, b5, d5⟩ := HE5.out.p3
          obtain ⟨a6, b6, d6⟩ := HE6.out.p3
          obtain ⟨a7, b7, d7⟩ := HE7.out.p3
          obtain ⟨a8, b8, d8⟩ := HE8.out.p3
          obtain ⟨a10, b10, d10⟩ := HE10.out.p3
          obtain ⟨a12, b12, d12⟩ := HE12.out.p3
          have HSY := Lib.hid (show cc8 = cc10 by rw [HCC8.out, HCC10.out]; exact twoE_symm _ _ _ _ _ _ _ _ _)
          obtain rfl := HSY.out
          rcases HD8.out with ⟨rfl, z1, z2, z3⟩ | rfl
          · rcases HD12.out with ⟨rfl, y1, y2, y3⟩ | rfl
            · as_aux_lemma =>
                have T1 := Lib.hid (twoE_zero HCC8.out.symm)
                have T2 := Lib.hid (twoE_zero HCC12.out.symm)
                have HD10' := HD10.out
                obtain ⟨-, x1', x2', x3'⟩ : (0 : Int) = 0 ∧ lv10 = lvB ∧ sp10 = spB ∧ ls10 = _ := HD10'.resolve_right (by omega)
                obtain ⟨-, -, -, e1, e2⟩ := twoE_zero HCC8.out.symm
                obtain ⟨-, -, -, e3, e4⟩ := twoE_zero HCC12.out.symm
                clear HD8 HD10 HD12 HSY HCC8 HCC10 HCC12 HD10'
                subst z1 z2 x1' x2' y1 y2
                subst e1 e2
                subst e3 e4
                subst z3 x3' y3
                have HV := Lib.hid T1.out.1
                have EA := Lib.hid T1.out.2.1
                have EB := Lib.hid T1.out.2.2.1
                have EC := Lib.hid T2.out.2.2.1
                have NA := Lib.hid (hasR_nn HR5.out)
                clear T1 T2
                have EAB := Lib.hid (ev_prodE (rB := rB) HV.out EA.out)
                have EBC := Lib.hid (ev_prodE (rB := rC) HV.out EB.out)
                have EAC := Lib.hid (ev_sum (rB := rC) 1 HV.out EA.out)
                have hr8 : HasR _ _ (prodE (Oj.mods ch S lv8.toNat sp8) rA rB) := HR8.out
                have hr10 : HasR _ _ (prodE (Oj.mods ch S lv8.toNat sp8) rB rA) := HR10.out
                have hr12 : HasR _ _ (prodE (Oj.mods ch S lv8.toNat sp8) rB rC) := HR12.out
                rw [← prodE_comm HV.out EA.out EB.out] at hr10
                replace HR8 := Lib.hid hr8
                replace HR10 := Lib.hid hr10
                replace HR12 := Lib.hid hr12
                clear hr8 hr10 hr12
                go_wp2_with fail
                refine (rMul_any N p1 p2 xC nC cC S p5 p6 lv8 sp8 lv8 sp8 ch _ _ _ _ _ H3.out HC.out HS.out HR8.out HR7.out).mono ?_
                intro e w2 hres
                obtain ⟨x14, n14, c14, rfl, hr14, hg0⟩ := resE_zero hres (two_ok HV.out EAB.out EC.out)
                have hgn := Gr.new w2 (.cells #[.int .i64 lv8, .bool sp8, .slice x14 n14 c14] 28)
                have hgg := Gr.trans hg0 hgn
                clear q0 q1 q2 q3 q4 q5 q6 a5 b5 d5 a6 b6 d6 a7 b7 d7 a8 b8 d8 a10 b10 d10 a12 b12 d12
                replace HG := Lib.hid (HG.out.trans hgg)
                replace HP := Lib.hid (HP.out.gr hgg)
                replace HC := Lib.hid (HC.out.later hgg)
                replace HE5 := Lib.hid (HE5.out.gr hgg)
                replace HE6 := Lib.hid (HE6.out.gr hgg)
                replace HE7 := Lib.hid (HE7.out.gr hgg)
                replace HE8 := Lib.hid (HE8.out.gr hgg)
                replace HE10 := Lib.hid (HE10.out.gr hgg)
                replace HE12 := Lib.hid (HE12.out.gr hgg)
                replace HR5 := Lib.hid (HR5.out.later hgg)
                replace HR6 := Lib.hid (HR6.out.later hgg)
                replace HR7 := Lib.hid (HR7.out.later hgg)
                replace HR8 := Lib.hid (HR8.out.later hgg)
                replace HR10 := Lib.hid (HR10.out.later hgg)
                replace HR12 := Lib.hid (HR12.out.later hgg)
                have HE14 := Lib.hid (Blk.new w2 28 #[.int .i64 lv8, .bool sp8, .slice x14 n14 c14])
                have HR14 := Lib.hid (hr14.later hgn)
                clear hres hr14 hg0 hgn hgg
                obtain ⟨q0, q1, q2, q3, q4, q5, q6⟩ := HP.out.p7
                obtain ⟨a5, b5, d5⟩ := HE5.out.p3
                obtain ⟨a6, b6, d6⟩ := HE6.out.p3
                obtain ⟨a7, b7, d7⟩ := HE7.out.p3
                obtain ⟨a8, b8, d8⟩ := HE8.out.p3
                obtain ⟨a10, b10, d10⟩ := HE10.out.p3
                obtain ⟨a12, b12, d12⟩ := HE12.out.p3
                obtain ⟨a14, b14, d14⟩ := HE14.out.p3
                have hr14 : HasR _ _ (prodE (Oj.mods ch S lv8.toNat sp8) (prodE (Oj.mods ch S lv8.toNat sp8) rA rB) rC) := HR14.out
                rw [prodE_assoc HV.out EA.out EB.out EC.out] at hr14
                replace HR14 := Lib.hid hr14
                clear hr14
                go_wp2_with fail
                refine (rMul_any N p1 p2 xC nC cC S p5 p6 lv8 sp8 lv8 sp8 ch _ _ _ _ _ H3.out HC.out HS.out HR5.out HR12.out).mono ?_
                intro e w2 hres
                obtain ⟨x16, n16, c16, rfl, hr16, hg0⟩ := resE_zero hres (two_ok HV.out EA.out EBC.out)
                have hgn := Gr.new w2 (.cells #[.int .i64 lv8, .bool sp8, .slice x16 n16 c16] 28)
                have hgg := Gr.trans hg0 hgn
                clear q0 q1 q2 q3 q4 q5 q6 a5 b5 d5 a6 b6 d6 a7 b7 d7 a8 b8 d8 a10 b10 d10 a12 b12 d12 a14 b14 d14
                replace HG := Lib.hid (HG.out.trans hgg)
                replace HP := Lib.hid (HP.out.gr hgg)
                replace HC := Lib.hid (HC.out.later hgg)
                replace HE5 := Lib.hid (HE5.out.gr hgg)
                replace HE6 := Lib.hid (HE6.out.gr hgg)
                replace HE7 := Lib.hid (HE7.out.gr hgg)
                replace HE8 := Lib.hid (HE8.out.gr hgg)
                replace HE10 := Lib.hid (HE10.out.gr hgg)
                replace HE12 := Lib.hid (HE12.out.gr hgg)
                replace HE14 := Lib.hid (HE14.out.gr hgg)
                replace HR5 := Lib.hid (HR5.out.later hgg)
                replace HR6 := Lib.hid (HR6.out.later hgg)
                replace HR7 := Lib.hid (HR7.out.later hgg)
                replace HR8 := Lib.hid (HR8.out.later hgg)
                replace HR10 := Lib.hid (HR10.out.later hgg)
                replace HR12 := Lib.hid (HR12.out.later hgg)
                replace HR14 := Lib.hid (HR14.out.later hgg)
                have HE16 := Lib.hid (Blk.new w2 28 #[.int .i64 lv8, .bool sp8, .slice x16 n16 c16])
                have HR16 := Lib.hid (hr16.later hgn)
                clear hres hr16 hg0 hgn hgg
                obtain ⟨q0, q1, q2, q3, q4, q5, q6⟩ := HP.out.p7
                obtain ⟨a5, b5, d5⟩ := HE5.out.p3
                obtain ⟨a6, b6, d6⟩ := HE6.out.p3
                obtain ⟨a7, b7, d7⟩ := HE7.out.p3
                obtain ⟨a8, b8, d8⟩ := HE8.out.p3
                obtain ⟨a10, b10, d10⟩ := HE10.out.p3
                obtain ⟨a12, b12, d12⟩ := HE12.out.p3
                obtain ⟨a14, b14, d14⟩ := HE14.out.p3
                obtain ⟨a16, b16, d16⟩ := HE16.out.p3
                have hr16 : HasR _ _ (prodE (Oj.mods ch S lv8.toNat sp8) rA (prodE (Oj.mods ch S lv8.toNat sp8) rB rC)) := HR16.out
                replace HR16 := Lib.hid hr16
                clear hr16
                go_wp2_with fail
                refine (rAdd_any N p1 p2 xC nC cC S p5 p6 lv8 sp8 lv8 sp8 ch _ _ _ _ _ H3.out HC.out HS.out HR5.out HR7.out).mono ?_
                intro e w2 hres
                obtain ⟨x18, n18, c18, rfl, hr18, hg0⟩ := resE_zero hres (two_ok HV.out EA.out EC.out)
                have hgn := Gr.new w2 (.cells #[.int .i64 lv8, .bool sp8, .slice x18 n18 c18] 28)
                have hgg := Gr.trans hg0 hgn
                clear q0 q1 q2 q3 q4 q5 q6 a5 b5 d5 a6 b6 d6 a7 b7 d7 a8 b8 d8 a10 b10 d10 a12 b12 d12 a14 b14 d14 a16 b16 d16
                replace HG := Lib.hid (HG.out.trans hgg)
                replace HP := Lib.hid (HP.out.gr hgg)
                replace HC := Lib.hid (HC.out.later hgg)
                replace HE5 := Lib.hid (HE5.out.gr hgg)
                replace HE6 := Lib.hid (HE6.out.gr hgg)
                replace HE7 := Lib.hid (HE7.out.gr hgg)
                replace HE8 := Lib.hid (HE8.out.gr hgg)
                replace HE10 := Lib.hid (HE10.out.gr hgg)
                replace HE12 := Lib.hid (HE12.out.gr hgg)
                replace HE14 := Lib.hid (HE14.out.gr hgg)
                replace HE16 := Lib.hid (HE16.out.gr hgg)
                replace HR5 := Lib.hid (HR5.out.later hgg)
                replace HR6 := Lib.hid (HR6.out.later hgg)
                replace HR7 := Lib.hid (HR7.out.later hgg)
                replace HR8 := Lib.hid (HR8.out.later hgg)
                replace HR10 := Lib.hid (HR10.out.later hgg)
                replace HR12 := Lib.hid (HR12.out.later hgg)
                replace HR14 := Lib.hid (HR14.out.later hgg)
                replace HR16 := Lib.hid (HR16.out.later hgg)
                have HE18 := Lib.hid (Blk.new w2 28 #[.int .i64 lv8, .bool sp8, .slice x18 n18 c18])
                have HR18 := Lib.hid (hr18.later hgn)
                clear hres hr18 hg0 hgn hgg
                obtain ⟨q0, q1, q2, q3, q4, q5, q6⟩ := HP.out.p7
                obtain ⟨a5, b5, d5⟩ := HE5.out.p3
                obtain ⟨a6, b6, d6⟩ := HE6.out.p3
                obtain ⟨a7, b7, d7⟩ := HE7.out.p3
                obtain ⟨a8, b8, d8⟩ := HE8.out.p3
                obtain ⟨a10, b10, d10⟩ := HE10.out.p3
                obtain ⟨a12, b12, d12⟩ := HE12.out.p3
                obtain ⟨a14, b14, d14⟩ := HE14.out.p3
                obtain ⟨a16, b16, d16⟩ := HE16.out.p3
                obtain ⟨a18, b18, d18⟩ := HE18.out.p3
                have hr18 : HasR _ _ (sumE (Oj.mods ch S lv8.toNat sp8) 1 rA rC) := HR18.out
                replace HR18 := Lib.hid hr18
                clear hr18
                go_wp2_with fail
                refine (rMul_any N p1 p2 xC nC cC S p5 p6 lv8 sp8 lv8 sp8 ch _ _ _ _ _ H3.out HC.out HS.out HR18.out HR6.out).mono ?_
                intro e w2 hres
                obtain ⟨x20, n20, c20, rfl, hr20, hg0⟩ := resE_zero hres (two_ok HV.out EAC.out EB.out)
                have hgn := Gr.new w2 (.cells #[.int .i64 lv8, .bool sp8, .slice x20 n20 c20] 28)
                have hgg := Gr.trans hg0 hgn
                clear q0 q1 q2 q3 q4 q5 q6 a5 b5 d5 a6 b6 d6 a7 b7 d7 a8 b8 d8 a10 b10 d10 a12 b12 d12 a14 b14 d14 a16 b16 d16 a18 b18 d18
                replace HG := Lib.hid (HG.out.trans hgg)
                replace HP := Lib.hid (HP.out.gr hgg)
                replace HC := Lib.hid (HC.out.later hgg)
                replace HE5 := Lib.hid (HE5.out.gr hgg)
                replace HE6 := Lib.hid (HE6.out.gr hgg)
                replace HE7 := Lib.hid (HE7.out.gr hgg)
                replace HE8 := Lib.hid (HE8.out.gr hgg)
                replace HE10 := Lib.hid (HE10.out.gr hgg)
                replace HE12 := Lib.hid (HE12.out.gr hgg)
                replace HE14 := Lib.hid (HE14.out.gr hgg)
                replace HE16 := Lib.hid (HE16.out.gr hgg)
                replace HE18 := Lib.hid (HE18.out.gr hgg)
                replace HR5 := Lib.hid (HR5.out.later hgg)
                replace HR6 := Lib.hid (HR6.out.later hgg)
                replace HR7 := Lib.hid (HR7.out.later hgg)
                replace HR8 := Lib.hid (HR8.out.later hgg)
                replace HR10 := Lib.hid (HR10.out.later hgg)
                replace HR12 := Lib.hid (HR12.out.later hgg)
                replace HR14 := Lib.hid (HR14.out.later hgg)
                replace HR16 := Lib.hid (HR16.out.later hgg)
                replace HR18 := Lib.hid (HR18.out.later hgg)
                have HE20 := Lib.hid (Blk.new w2 28 #[.int .i64 lv8, .bool sp8, .slice x20 n20 c20])
                have HR20 := Lib.hid (hr20.later hgn)
                clear hres hr20 hg0 hgn hgg
                obtain ⟨q0, q1, q2, q3, q4, q5, q6⟩ := HP.out.p7
                obtain ⟨a5, b5, d5⟩ := HE5.out.p3
                obtain ⟨a6, b6, d6⟩ := HE6.out.p3
                obtain ⟨a7, b7, d7⟩ := HE7.out.p3
                obtain ⟨a8, b8, d8⟩ := HE8.out.p3
                obtain ⟨a10, b10, d10⟩ := HE10.out.p3
                obtain ⟨a12, b12, d12⟩ := HE12.out.p3
                obtain ⟨a14, b14, d14⟩ := HE14.out.p3
                obtain ⟨a16, b16, d16⟩ := HE16.out.p3
                obtain ⟨a18, b18, d18⟩ := HE18.out.p3
                obtain ⟨a20, b20, d20⟩ := HE20.out.p3
                have hr20 : HasR _ _ (prodE (Oj.mods ch S lv8.toNat sp8) (sumE (Oj.mods ch S lv8.toNat sp8) 1 rA rC) rB) := HR20.out
                rw [prodE_dist HV.out EA.out EB.out EC.out] at hr20
                replace HR20 := Lib.hid hr20
                clear hr20
                go_wp2_with fail
                refine (rAdd_any N p1 p2 xC nC cC S p5 p6 lv8 sp8 lv8 sp8 ch _ _ _ _ _ H3.out HC.out HS.out HR8.out HR12.out).mono ?_
                intro e w2 hres
                obtain ⟨x22, n22, c22, rfl, hr22, hg0⟩ := resE_zero hres (two_ok HV.out EAB.out EBC.out)
                have hgn := Gr.new w2 (.cells #[.int .i64 lv8, .bool sp8, .slice x22 n22 c22] 28)
                have hgg := Gr.trans hg0 hgn
                clear q0 q1 q2 q3 q4 q5 q6 a5 b5 d5 a6 b6 d6 a7 b7 d7 a8 b8 d8 a10 b10 d10 a12 b12 d12 a14 b14 d14 a16 b16 d16 a18 b18 d18 a20 b20 d20
                replace HG := Lib.hid (HG.out.trans hgg)
                replace HP := Lib.hid (HP.out.gr hgg)
                replace HC := Lib.hid (HC.out.later hgg)
                replace HE5 := Lib.hid (HE5.out.gr hgg)
                replace HE6 := Lib.hid (HE6.out.gr hgg)
                replace HE7 := Lib.hid (HE7.out.gr hgg)
                replace HE8 := Lib.hid (HE8.out.gr hgg)
                replace HE10 := Lib.hid (HE10.out.gr hgg)
                replace HE12 := Lib.hid (HE12.out.gr hgg)
                replace HE14 := Lib.hid (HE14.out.gr hgg)
                replace HE16 := Lib.hid (HE16.out.gr hgg)
                replace HE18 := Lib.hid (HE18.out.gr hgg)
                replace HE20 := Lib.hid (HE20.out.gr hgg)
                replace HR5 := Lib.hid (HR5.out.later hgg)
                replace HR6 := Lib.hid (HR6.out.later hgg)
                replace HR7 := Lib.hid (HR7.out.later hgg)
                replace HR8 := Lib.hid (HR8.out.later hgg)
                replace HR10 := Lib.hid (HR10.out.later hgg)
                replace HR12 := Lib.hid (HR12.out.later hgg)
                replace HR14 := Lib.hid (HR14.out.later hgg)
                replace HR16 := Lib.hid (HR16.out.later hgg)
                replace HR18 := Lib.hid (HR18.out.later hgg)
                replace HR20 := Lib.hid (HR20.out.later hgg)
                have HE22 := Lib.hid (Blk.new w2 28 #[.int .i64 lv8, .bool sp8, .slice x22 n22 c22])
                have HR22 := Lib.hid (hr22.later hgn)
                clear hres hr22 hg0 hgn hgg
                obtain ⟨q0, q1, q2, q3, q4, q5, q6⟩ := HP.out.p7
                obtain ⟨a5, b5, d5⟩ := HE5.out.p3
                obtain ⟨a6, b6, d6⟩ := HE6.out.p3
                obtain ⟨a7, b7, d7⟩ := HE7.out.p3
                obtain ⟨a8, b8, d8⟩ := HE8.out.p3
                obtain ⟨a10, b10, d10⟩ := HE10.out.p3
                obtain ⟨a12, b12, d12⟩ := HE12.out.p3
                obtain ⟨a14, b14, d14⟩ := HE14.out.p3
                obtain ⟨a16, b16, d16⟩ := HE16.out.p3
                obtain ⟨a18, b18, d18⟩ := HE18.out.p3
                obtain ⟨a20, b20, d20⟩ := HE20.out.p3
                obtain ⟨a22, b22, d22⟩ := HE22.out.p3
                have hr22 : HasR _ _ (sumE (Oj.mods ch S lv8.toNat sp8) 1 (prodE (Oj.mods ch S lv8.toNat sp8) rA rB) (prodE (Oj.mods ch S lv8.toNat sp8) rB rC)) := HR22.out
                replace HR22 := Lib.hid hr22
                clear hr22
                go_wp2_with fail
                refine (rSub_any N p1 p2 xC nC cC S p5 p6 lv8 sp8 lv8 sp8 ch _ _ _ _ _ H3.out HC.out HS.out HR18.out HR7.out).mono ?_
                intro e w2 hres
                obtain ⟨x24, n24, c24, rfl, hr24, hg0⟩ := resE_zero hres (two_ok HV.out EAC.out EC.out)
                have hgn := Gr.new w2 (.cells #[.int .i64 lv8, .bool sp8, .slice x24 n24 c24] 28)
                have hgg := Gr.trans hg0 hgn
                clear q0 q1 q2 q3 q4 q5 q6 a5 b5 d5 a6 b6 d6 a7 b7 d7 a8 b8 d8 a10 b10 d10 a12 b12 d12 a14 b14 d14 a16 b16 d16 a18 b18 d18 a20 b20 d20 a22 b22 d22
                replace HG := Lib.hid (HG.out.trans hgg)
                replace HP := Lib.hid (HP.out.gr hgg)
                replace HC := Lib.hid (HC.out.later hgg)
                replace HE5 := Lib.hid (HE5.out.gr hgg)
                replace HE6 := Lib.hid (HE6.out.gr hgg)
                replace HE7 := Lib.hid (HE7.out.gr hgg)
                replace HE8 := Lib.hid (HE8.out.gr hgg)
                replace HE10 := Lib.hid (HE10.out.gr hgg)
                replace HE12 := Lib.hid (HE12.out.gr hgg)
                replace HE14 := Lib.hid (HE14.out.gr hgg)
                replace HE16 := Lib.hid (HE16.out.gr hgg)
                replace HE18 := Lib.hid (HE18.out.gr hgg)
                replace HE20 := Lib.hid (HE20.out.gr hgg)
                replace HE22 := Lib.hid (HE22.out.gr hgg)
                replace HR5 := Lib.hid (HR5.out.later hgg)
                replace HR6 := Lib.hid (HR6.out.later hgg)
                replace HR7 := Lib.hid (HR7.out.later hgg)
                replace HR8 := Lib.hid (HR8.out.later hgg)
                replace HR10 := Lib.hid (HR10.out.later hgg)
                replace HR12 := Lib.hid (HR12.out.later hgg)
                replace HR14 := Lib.hid (HR14.out.later hgg)
                replace HR16 := Lib.hid (HR16.out.later hgg)
                replace HR18 := Lib.hid (HR18.out.later hgg)
                replace HR20 := Lib.hid (HR20.out.later hgg)
                replace HR22 := Lib.hid (HR22.out.later hgg)
                have HE24 := Lib.hid (Blk.new w2 28 #[.int .i64 lv8, .bool sp8, .slice x24 n24 c24])
                have HR24 := Lib.hid (hr24.later hgn)
                clear hres hr24 hg0 hgn hgg
                obtain ⟨q0, q1, q2, q3, q4, q5, q6⟩ := HP.out.p7
                obtain ⟨a5, b5, d5⟩ := HE5.out.p3
                obtain ⟨a6, b6, d6⟩ := HE6.out.p3
                obtain ⟨a7, b7, d7⟩ := HE7.out.p3
                obtain ⟨a8, b8, d8⟩ := HE8.out.p3
                obtain ⟨a10, b10, d10⟩ := HE10.out.p3
                obtain ⟨a12, b12, d12⟩ := HE12.out.p3
                obtain ⟨a14, b14, d14⟩ := HE14.out.p3
                obtain ⟨a16, b16, d16⟩ := HE16.out.p3
                obtain ⟨a18, b18, d18⟩ := HE18.out.p3
                obtain ⟨a20, b20, d20⟩ := HE20.out.p3
                obtain ⟨a22, b22, d22⟩ := HE22.out.p3
                obtain ⟨a24, b24, d24⟩ := HE24.out.p3
                have hr24 : HasR _ _ (sumE (Oj.mods ch S lv8.toNat sp8) (-1) (sumE (Oj.mods ch S lv8.toNat sp8) 1 rA rC) rC) := HR24.out
                rw [sumE_back HV.out EA.out NA.out] at hr24
                replace HR24 := Lib.hid hr24
                clear hr24
                have M8 := Lib.hid (ev_sm HV.out EAB.out)
                have M14 := Lib.hid (ev_sm HV.out (ev_prodE (rB := (prodE (Oj.mods ch S lv8.toNat sp8) rB rC)) HV.out EA.out))
                have M20 := Lib.hid (ev_sm HV.out (ev_sum (rB := (prodE (Oj.mods ch S lv8.toNat sp8) rB rC)) 1 HV.out EAB.out))
                have M24 := Lib.hid (ev_sm HV.out EA.out)
                go_wp2_with fail
                refine (lsame_any lv8 sp8 lv8 sp8 _ _ _ _ _ HR8.out HR10.out M8.out M8.out).mono ?_
                rintro e w2 ⟨rfl, hg⟩
                rw [decide_eq_true (show SameE lv8 sp8 _ lv8 sp8 _ from ⟨rfl, rfl, rfl⟩)]
                clear q0 q1 q2 q3 q4 q5 q6 a5 b5 d5 a6 b6 d6 a7 b7 d7 a8 b8 d8 a10 b10 d10 a12 b12 d12 a14 b14 d14 a16 b16 d16 a18 b18 d18 a20 b20 d20 a22 b22 d22 a24 b24 d24
                replace HG := Lib.hid (HG.out.trans hg)
                replace HP := Lib.hid (HP.out.gr hg)
                replace HC := Lib.hid (HC.out.later hg)
                replace HE5 := Lib.hid (HE5.out.gr hg)
                replace HE6 := Lib.hid (HE6.out.gr hg)
                replace HE7 := Lib.hid (HE7.out.gr hg)
                replace HE8 := Lib.hid (HE8.out.gr hg)
                replace HE10 := Lib.hid (HE10.out.gr hg)
                replace HE12 := Lib.hid (HE12.out.gr hg)
                replace HE14 := Lib.hid (HE14.out.gr hg)
                replace HE16 := Lib.hid (HE16.out.gr hg)
                replace HE18 := Lib.hid (HE18.out.gr hg)
                replace HE20 := Lib.hid (HE20.out.gr hg)
                replace HE22 := Lib.hid (HE22.out.gr hg)
                replace HE24 := Lib.hid (HE24.out.gr hg)
                replace HR5 := Lib.hid (HR5.out.later hg)
                replace HR6 := Lib.hid (HR6.out.later hg)
                replace HR7 := Lib.hid (HR7.out.later hg)
                replace HR8 := Lib.hid (HR8.out.later hg)
                replace HR10 := Lib.hid (HR10.out.later hg)
                replace HR12 := Lib.hid (HR12.out.later hg)
                replace HR14 := Lib.hid (HR14.out.later hg)
                replace HR16 := Lib.hid (HR16.out.later hg)
                replace HR18 := Lib.hid (HR18.out.later hg)
                replace HR20 := Lib.hid (HR20.out.later hg)
                replace HR22 := Lib.hid (HR22.out.later hg)
                replace HR24 := Lib.hid (HR24.out.later hg)
                clear hg
                obtain ⟨q0, q1, q2, q3, q4, q5, q6⟩ := HP.out.p7
                obtain ⟨a5, b5, d5⟩ := HE5.out.p3
                obtain ⟨a6, b6, d6⟩ := HE6.out.p3
                obtain ⟨a7, b7, d7⟩ := HE7.out.p3
                obtain ⟨a8, b8, d8⟩ := HE8.out.p3
                obtain ⟨a10, b10, d10⟩ := HE10.out.p3
                obtain ⟨a12, b12, d12⟩ := HE12.out.p3
                obtain ⟨a14, b14, d14⟩ := HE14.out.p3
                obtain ⟨a16, b16, d16⟩ := HE16.out.p3
                obtain ⟨a18, b18, d18⟩ := HE18.out.p3
                obtain ⟨a20, b20, d20⟩ := HE20.out.p3
                obtain ⟨a22, b22, d22⟩ := HE22.out.p3
                obtain ⟨a24, b24, d24⟩ := HE24.out.p3
                go_wp2_with fail
                refine (lsame_any lv8 sp8 lv8 sp8 _ _ _ _ _ HR14.out HR16.out M14.out M14.out).mono ?_
                rintro e w2 ⟨rfl, hg⟩
                rw [decide_eq_true (show SameE lv8 sp8 _ lv8 sp8 _ from ⟨rfl, rfl, rfl⟩)]
                clear q0 q1 q2 q3 q4 q5 q6 a5 b5 d5 a6 b6 d6 a7 b7 d7 a8 b8 d8 a10 b10 d10 a12 b12 d12 a14 b14 d14 a16 b16 d16 a18 b18 d18 a20 b20 d20 a22 b22 d22 a24 b24 d24
                replace HG := Lib.hid (HG.out.trans hg)
                replace HP := Lib.hid (HP.out.gr hg)
                replace HC := Lib.hid (HC.out.later hg)
                replace HE5 := Lib.hid (HE5.out.gr hg)
                replace HE6 := Lib.hid (HE6.out.gr hg)
                replace HE7 := Lib.hid (HE7.out.gr hg)
                replace HE8 := Lib.hid (HE8.out.gr hg)
                replace HE10 := Lib.hid (HE10.out.gr hg)
                replace HE12 := Lib.hid (HE12.out.gr hg)
                replace HE14 := Lib.hid (HE14.out.gr hg)
                replace HE16 := Lib.hid (HE16.out.gr hg)
                replace HE18 := Lib.hid (HE18.out.gr hg)
                replace HE20 := Lib.hid (HE20.out.gr hg)
                replace HE22 := Lib.hid (HE22.out.gr hg)
                replace HE24 := Lib.hid (HE24.out.gr hg)
                replace HR5 := Lib.hid (HR5.out.later hg)
                replace HR6 := Lib.hid (HR6.out.later hg)
                replace HR7 := Lib.hid (HR7.out.later hg)
                replace HR8 := Lib.hid (HR8.out.later hg)
                replace HR10 := Lib.hid (HR10.out.later hg)
                replace HR12 := Lib.hid (HR12.out.later hg)
                replace HR14 := Lib.hid (HR14.out.later hg)
                replace HR16 := Lib.hid (HR16.out.later hg)
                replace HR18 := Lib.hid (HR18.out.later hg)
                replace HR20 := Lib.hid (HR20.out.later hg)
                replace HR22 := Lib.hid (HR22.out.later hg)
                replace HR24 := Lib.hid (HR24.out.later hg)
                clear hg
                obtain ⟨q0, q1, q2, q3, q4, q5, q6⟩ := HP.out.p7
                obtain ⟨a5, b5, d5⟩ := HE5.out.p3
                obtain ⟨a6, b6, d6⟩ := HE6.out.p3
                obtain ⟨a7, b7, d7⟩ := HE7.out.p3
                obtain ⟨a8, b8, d8⟩ := HE8.out.p3
                obtain ⟨a10, b10, d10⟩ := HE10.out.p3
                obtain ⟨a12, b12, d12⟩ := HE12.out.p3
                obtain ⟨a14, b14, d14⟩ := HE14.out.p3
                obtain ⟨a16, b16, d16⟩ := HE16.out.p3
                obtain ⟨a18, b18, d18⟩ := HE18.out.p3
                obtain ⟨a20, b20, d20⟩ := HE20.out.p3
                obtain ⟨a22, b22, d22⟩ := HE22.out.p3
                obtain ⟨a24, b24, d24⟩ := HE24.out.p3
                go_wp2_with fail
                refine (lsame_any lv8 sp8 lv8 sp8 _ _ _ _ _ HR20.out HR22.out M20.out M20.out).mono ?_
                rintro e w2 ⟨rfl, hg⟩
                rw [decide_eq_true (show SameE lv8 sp8 _ lv8 sp8 _ from ⟨rfl, rfl, rfl⟩)]
                clear q0 q1 q2 q3 q4 q5 q6 a5 b5 d5 a6 b6 d6 a7 b7 d7 a8 b8 d8 a10 b10 d10 a12 b12 d12 a14 b14 d14 a16 b16 d16 a18 b18 d18 a20 b20 d20 a22 b22 d22 a24 b24 d24
                replace HG := Lib.hid (HG.out.trans hg)
                replace HP := Lib.hid (HP.out.gr hg)
                replace HC := Lib.hid (HC.out.later hg)
                replace HE5 := Lib.hid (HE5.out.gr hg)
                replace HE6 := Lib.hid (HE6.out.gr hg)
                replace HE7 := Lib.hid (HE7.out.gr hg)
                replace HE8 := Lib.hid (HE8.out.gr hg)
                replace HE10 := Lib.hid (HE10.out.gr hg)
                replace HE12 := Lib.hid (HE12.out.gr hg)
                replace HE14 := Lib.hid (HE14.out.gr hg)
                replace HE16 := Lib.hid (HE16.out.gr hg)
                replace HE18 := Lib.hid (HE18.out.gr hg)
                replace HE20 := Lib.hid (HE20.out.gr hg)
                replace HE22 := Lib.hid (HE22.out.gr hg)
                replace HE24 := Lib.hid (HE24.out.gr hg)
                replace HR5 := Lib.hid (HR5.out.later hg)
                replace HR6 := Lib.hid (HR6.out.later hg)
                replace HR7 := Lib.hid (HR7.out.later hg)
                replace HR8 := Lib.hid (HR8.out.later hg)
                replace HR10 := Lib.hid (HR10.out.later hg)
                replace HR12 := Lib.hid (HR12.out.later hg)
                replace HR14 := Lib.hid (HR14.out.later hg)
                replace HR16 := Lib.hid (HR16.out.later hg)
                replace HR18 := Lib.hid (HR18.out.later hg)
                replace HR20 := Lib.hid (HR20.out.later hg)
                replace HR22 := Lib.hid (HR22.out.later hg)
                replace HR24 := Lib.hid (HR24.out.later hg)
                clear hg
                obtain ⟨q0, q1, q2, q3, q4, q5, q6⟩ := HP.out.p7
                obtain ⟨a5, b5, d5⟩ := HE5.out.p3
                obtain ⟨a6, b6, d6⟩ := HE6.out.p3
                obtain ⟨a7, b7, d7⟩ := HE7.out.p3
                obtain ⟨a8, b8, d8⟩ := HE8.out.p3
                obtain ⟨a10, b10, d10⟩ := HE10.out.p3
                obtain ⟨a12, b12, d12⟩ := HE12.out.p3
                obtain ⟨a14, b14, d14⟩ := HE14.out.p3
                obtain ⟨a16, b16, d16⟩ := HE16.out.p3
                obtain ⟨a18, b18, d18⟩ := HE18.out.p3
                obtain ⟨a20, b20, d20⟩ := HE20.out.p3
                obtain ⟨a22, b22, d22⟩ := HE22.out.p3
                obtain ⟨a24, b24, d24⟩ := HE24.out.p3
                go_wp2_with fail
                refine (lsame_any lv8 sp8 lv8 sp8 _ _ _ _ _ HR24.out HR5.out M24.out M24.out).mono ?_
                rintro e w2 ⟨rfl, hg⟩
                rw [decide_eq_true (show SameE lv8 sp8 _ lv8 sp8 _ from ⟨rfl, rfl, rfl⟩)]
                clear q0 q1 q2 q3 q4 q5 q6 a5 b5 d5 a6 b6 d6 a7 b7 d7 a8 b8 d8 a10 b10 d10 a12 b12 d12 a14 b14 d14 a16 b16 d16 a18 b18 d18 a20 b20 d20 a22 b22 d22 a24 b24 d24
                replace HG := Lib.hid (HG.out.trans hg)
                replace HP := Lib.hid (HP.out.gr hg)
                replace HC := Lib.hid (HC.out.later hg)
                replace HE5 := Lib.hid (HE5.out.gr hg)
                replace HE6 := Lib.hid (HE6.out.gr hg)
                replace HE7 := Lib.hid (HE7.out.gr hg)
                replace HE8 := Lib.hid (HE8.out.gr hg)
                replace HE10 := Lib.hid (HE10.out.gr hg)
                replace HE12 := Lib.hid (HE12.out.gr hg)
                replace HE14 := Lib.hid (HE14.out.gr hg)
                replace HE16 := Lib.hid (HE16.out.gr hg)
                replace HE18 := Lib.hid (HE18.out.gr hg)
                replace HE20 := Lib.hid (HE20.out.gr hg)
                replace HE22 := Lib.hid (HE22.out.gr hg)
                replace HE24 := Lib.hid (HE24.out.gr hg)
                replace HR5 := Lib.hid (HR5.out.later hg)
                replace HR6 := Lib.hid (HR6.out.later hg)
                replace HR7 := Lib.hid (HR7.out.later hg)
                replace HR8 := Lib.hid (HR8.out.later hg)
                replace HR10 := Lib.hid (HR10.out.later hg)
                replace HR12 := Lib.hid (HR12.out.later hg)
                replace HR14 := Lib.hid (HR14.out.later hg)
                replace HR16 := Lib.hid (HR16.out.later hg)
                replace HR18 := Lib.hid (HR18.out.later hg)
                replace HR20 := Lib.hid (HR20.out.later hg)
                replace HR22 := Lib.hid (HR22.out.later hg)
                replace HR24 := Lib.hid (HR24.out.later hg)
                clear hg
                obtain ⟨q0, q1, q2, q3, q4, q5, q6⟩ := HP.out.p7
                obtain ⟨a5, b5, d5⟩ := HE5.out.p3
                obtain ⟨a6, b6, d6⟩ := HE6.out.p3
                obtain ⟨a7, b7, d7⟩ := HE7.out.p3
                obtain ⟨a8, b8, d8⟩ := HE8.out.p3
                obtain ⟨a10, b10, d10⟩ := HE10.out.p3
                obtain ⟨a12, b12, d12⟩ := HE12.out.p3
                obtain ⟨a14, b14, d14⟩ := HE14.out.p3
                obtain ⟨a16, b16, d16⟩ := HE16.out.p3
                obtain ⟨a18, b18, d18⟩ := HE18.out.p3
                obtain ⟨a20, b20, d20⟩ := HE20.out.p3
                obtain ⟨a22, b22, d22⟩ := HE22.out.p3
                obtain ⟨a24, b24, d24⟩ := HE24.out.p3
                go_wp2_with fail
                refine (awake9_any _).mono ?_
                rintro e w9 ⟨rfl, hg2⟩
                replace HG := Lib.hid (HG.out.trans hg2)
                clear hg2
                go_wp2_with fail
                go_ret
                exact ⟨rfl, HG.out⟩
            · go_wp2_with fail
              refine (awake9_any _).mono ?_
              rintro e w9 ⟨rfl, hg2⟩
              replace HG := Lib.hid (HG.out.trans hg2)
              clear hg2
              go_wp2_with fail
              go_ret
              exact ⟨rfl, HG.out⟩
          · go_wp2_with fail
            refine (awake9_any _).mono ?_
            rintro e w9 ⟨rfl, hg2⟩
            replace HG := Lib.hid (HG.out.trans hg2)
            clear hg2
            go_wp2_with fail
            go_ret
            exact ⟨rfl, HG.out⟩
end Go.Proofs.YtlfiakpmnkhcdaaGreat.Mo
