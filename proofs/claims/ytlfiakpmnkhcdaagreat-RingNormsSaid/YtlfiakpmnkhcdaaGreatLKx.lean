import Derived.Test.YtlfiakpmnkhcdaaGreatLKw
/- The law RingNorms. (made by mknorms.py) -/
namespace Go.Proofs.YtlfiakpmnkhcdaaGreat.Mo
open Go.RowKit Go.Shelf
set_option linter.unusedVariables false

theorem wdP_any {N : Int} {ch : List Int} {S : Int} {lv : Int} {sp : Bool} {rows : List (List Int)} {w w' : World} {e : Ending} (h : WdP N ch S lv sp rows w e w') : ∃ x n c zs cc, e = .returned (.tuple #[.slice x n c, .int .i64 cc]) ∧ Gr w w' ∧ HasW w' (.slice x n c) zs ∧ ((WdOK N ch S lv sp rows ∧ cc = 0 ∧ WdZ N (Oj.mods ch S lv.toNat sp) rows zs) ∨ cc = 2) := by
  obtain ⟨v, zs, c, rfl, h1, h2, h3⟩ := h
  obtain ⟨a, cz, rfl, -⟩ := id h2
  refine ⟨a, zs.length, cz, zs, c, rfl, h1, h2, ?_⟩
  rcases h3 with ⟨a, b, c⟩ | ⟨-, b, -⟩
  · exact .inl ⟨a, b, c⟩
  · exact .inr b
/-- A box with a wide integer, and a code. -/
def WBox (X : Int) (W : World) (p c : Value) (wx : World) : Prop := ∃ G, p = .pointer (some ⟨G, 0, none⟩) ∧ c = .int .i64 0 ∧ Blk wx G 50 #[.bool (decide (X < 0)), .string (bstr X.natAbs)] ∧ Gr W wx

set_option maxRecDepth 100000 in
set_option maxHeartbeats 8000000 in
theorem norms9_all (N p1 p2 : Int) (uC : Value) (ch : List Int) (S p5 p6 lvA : Int) (spA : Bool) (uA : Value) (rA : List (List Int)) (lvB : Int) (spB : Bool) (uB : Value) (rB : List (List Int)) (n k lv : Int) (sp : Bool) (xL : Option Addr) (nL cL : Nat) (w : World) (hn : isW n) (hk : isW k) (hC : HasP w uC ch) (hS : 0 ≤ S ∧ S < 4294967296) (hA : HasR w uA rA) (hB : HasR w uB rB) :
    Calls Tryz.prog 9 #[.agg (csC N p1 p2 uC S p5 p6 lvA spA uA lvB spB uB n k lv sp (.slice xL nL cL))] w (Truth w) := by
  obtain ⟨xC, cC, rfl⟩ := hC.form
  obtain ⟨xA, cA, rfl⟩ := hA.form
  obtain ⟨xB, cB, rfl⟩ := hB.form
  generalize hnA : rA.length = nA at *
  generalize hnB : rB.length = nB at *
  generalize hnC : ch.length = nC at *
  obtain ⟨W0, hW0⟩ : ∃ W0, W0 = w.alloc (.cells (csC N p1 p2 (.slice xC nC cC) S p5 p6 lvA spA (.slice xA nA cA) lvB spB (.slice xB nB cB) n k lv sp (.slice xL nL cL)) 31) := ⟨_, rfl⟩
  have HG := Lib.hid (show Gr w W0 by rw [hW0]; exact Gr.new w _)
  have HX := Lib.hid (show Blk W0 w.heap.size 31 (csC N p1 p2 (.slice xC nC cC) S p5 p6 lvA spA (.slice xA nA cA) lvB spB (.slice xB nB cB) n k lv sp (.slice xL nL cL)) by rw [hW0]; exact Blk.new w _ _)
  have HA := Lib.hid (hA.later HG.out)
  have HB := Lib.hid (hB.later HG.out)
  have HC := Lib.hid (hC.later HG.out)
  have HS := Lib.hid hS
  have HK := Lib.hid hk
  have HN := Lib.hid hn
  have HNC := Lib.hid hnC
  have HNA := Lib.hid hnA
  have HNB := Lib.hid hnB
  have HLG := Lib.hid (large_any N p1 p2 xC nC cC S p5 p6 lvA spA (.slice xA nA cA) rA lvB spB (.slice xB nB cB) rB n k lv sp xL nL cL W0 HA.out HB.out)
  clear hn hk hA hB hC hS hnA hnB hnC
  unfold csC at *
  go_enter Tryz.func9, Tryz.ntmps9
  go_wp2_with fail
  rw [← hW0]
  clear hW0
  refine HLG.out.mono ?_
  rintro e w1 ⟨b, rfl, hb, hg⟩
  have HL := Lib.hid hb
  replace HG := Lib.hid (HG.out.trans hg)
  replace HX := Lib.hid (HX.out.gr hg)
  replace HA := Lib.hid (HA.out.later hg)
  replace HB := Lib.hid (HB.out.later hg)
  replace HC := Lib.hid (HC.out.later hg)
  clear hb hg HLG
  cases b with
  | true =>
    go_wp2_with fail
    refine (awake9_any _).mono ?_
    rintro e wz ⟨rfl, hg2⟩
    replace HG := Lib.hid (HG.out.trans hg2)
    clear hg2
    go_wp2_with fail
    go_ret
    exact ⟨rfl, HG.out⟩
  | false =>
    have h3 : ch.length ≤ 1000 := by have := (HL.out (by first | rfl | trivial)).2.2.1; have := HNC.out; omega
    have SA := Lib.hid (HL.out (by first | rfl | trivial)).1
    have SB := Lib.hid (HL.out (by first | rfl | trivial)).2.1
    have SL := Lib.hid (HL.out (by first | rfl | trivial)).2.2.2
    have H3 := Lib.hid h3
    clear h3 HL
    obtain ⟨⟨q0, q1, q2, q3, q4, q5, q6⟩, ⟨k0, k1, k2, k3, k4, k5⟩, j0, j1, j2, j3, j4⟩ := HX.out.p18
    go_wp2_with fail
    refine (norm_any N p1 p2 xC nC cC S p5 p6 lvA spA ch _ rA _ H3.out HC.out HS.out HA.out).mono ?_
    rintro e v3 ⟨X3, cc3, rfl, hg0, hd⟩
    have HD3 := Lib.hid hd
    clear hd
    rw [show wv X3 = .agg #[.bool (decide (X3 < 0)), .string (bstr X3.natAbs)] from rfl]
    have hgn := Gr.new v3 (.cells #[.bool (decide (X3 < 0)), .string (bstr X3.natAbs)] 50)
    have hgg := Gr.trans hg0 hgn
    clear q0 q1 q2 q3 q4 q5 q6 k0 k1 k2 k3 k4 k5 j0 j1 j2 j3 j4
    replace HG := Lib.hid (HG.out.trans hgg)
    replace HX := Lib.hid (HX.out.gr hgg)
    replace HA := Lib.hid (HA.out.later hgg)
    replace HB := Lib.hid (HB.out.later hgg)
    replace HC := Lib.hid (HC.out.later hgg)
    have HW3 := Lib.hid (Blk.new v3 50 #[.bool (decide (X3 < 0)), .string (bstr X3.natAbs)])
    clear hg0 hgn hgg
    obtain ⟨⟨q0, q1, q2, q3, q4, q5, q6⟩, ⟨k0, k1, k2, k3, k4, k5⟩, j0, j1, j2, j3, j4⟩ := HX.out.p18
    obtain ⟨a3, b3⟩ := HW3.out.p2
    go_wp2_with fail
    refine (norm_any N p1 p2 xC nC cC S p5 p6 lvB spB ch _ rB _ H3.out HC.out HS.out HB.out).mono ?_
    rintro e v5 ⟨X5, cc5, rfl, hg0, hd⟩
    have HD5 := Lib.hid hd
    clear hd
    rw [show wv X5 = .agg #[.bool (decide (X5 < 0)), .string (bstr X5.natAbs)] from rfl]
    have hgn := Gr.new v5 (.cells #[.bool (decide (X5 < 0)), .string (bstr X5.natAbs)] 50)
    have hgg := Gr.trans hg0 hgn
    clear q0 q1 q2 q3 q4 q5 q6 k0 k1 k2 k3 k4 k5 j0 j1 j2 j3 j4 a3 b3
    replace HG := Lib.hid (HG.out.trans hgg)
    replace HX := Lib.hid (HX.out.gr hgg)
    replace HW3 := Lib.hid (HW3.out.gr hgg)
    replace HA := Lib.hid (HA.out.later hgg)
    replace HB := Lib.hid (HB.out.later hgg)
    replace HC := Lib.hid (HC.out.later hgg)
    have HW5 := Lib.hid (Blk.new v5 50 #[.bool (decide (X5 < 0)), .string (bstr X5.natAbs)])
    clear hg0 hgn hgg
    obtain ⟨⟨q0, q1, q2, q3, q4, q5, q6⟩, ⟨k0, k1, k2, k3, k4, k5⟩, j0, j1, j2, j3, j4⟩ := HX.out.p18
    obtain ⟨a3, b3⟩ := HW3.out.p2
    obtain ⟨a5, b5⟩ := HW5.out.p2
    as_aux_lemma =>
      go_wp2_with fail
      refine (wides_any N p1 p2 xC nC cC S p5 p6 lvA spA ch _ rA _ H3.out HC.out HS.out HA.out).mono ?_
      intro e v7 hres
      obtain ⟨x7, n7, c7, zs7, cc8, rfl, hg0, hw7, hd⟩ := wdP_any hres
      have HD8 := Lib.hid hd
      have HZ7 := Lib.hid hw7
      clear hres hd hw7
      clear q0 q1 q2 q3 q4 q5 q6 k0 k1 k2 k3 k4 k5 j0 j1 j2 j3 j4 a3 b3 a5 b5
      replace HG := Lib.hid (HG.out.trans hg0)
      replace HX := Lib.hid (HX.out.gr hg0)
      replace HW3 := Lib.hid (HW3.out.gr hg0)
      replace HW5 := Lib.hid (HW5.out.gr hg0)
      replace HA := Lib.hid (HA.out.later hg0)
      replace HB := Lib.hid (HB.out.later hg0)
      replace HC := Lib.hid (HC.out.later hg0)
      clear hg0
      obtain ⟨⟨q0, q1, q2, q3, q4, q5, q6⟩, ⟨k0, k1, k2, k3, k4, k5⟩, j0, j1, j2, j3, j4⟩ := HX.out.p18
      obtain ⟨a3, b3⟩ := HW3.out.p2
      obtain ⟨a5, b5⟩ := HW5.out.p2
      as_aux_lemma =>
        go_wp2_with fail
        refine (rAdd_any N p1 p2 xC nC cC S p5 p6 lvA spA lvB spB ch _ _ rA rB _ H3.out HC.out HS.out HA.out HB.out).mono ?_
        intro e v9 hres
        obtain ⟨lv9, sp9, x9, n9, c9, ls9, cc9, rfl, hr9, hg0, hd⟩ := resE_any hres
        have HD9 := Lib.hid hd
        clear hres hd
        have hgn := Gr.new v9 (.cells #[.int .i64 lv9, .bool sp9, .slice x9 n9 c9] 28)
        have hgg := Gr.trans hg0 hgn
        clear q0 q1 q2 q3 q4 q5 q6 k0 k1 k2 k3 k4 k5 j0 j1 j2 j3 j4 a3 b3 a5 b5
        replace HG := Lib.hid (HG.out.trans hgg)
        replace HX := Lib.hid (HX.out.gr hgg)
        replace HW3 := Lib.hid (HW3.out.gr hgg)
        replace HW5 := Lib.hid (HW5.out.gr hgg)
        replace HA := Lib.hid (HA.out.later hgg)
        replace HB := Lib.hid (HB.out.later hgg)
        replace HC := Lib.hid (HC.out.later hgg)
        replace HZ7 := Lib.hid (HZ7.out.later hgg)
        have HE9 := Lib.hid (Blk.new v9 28 #[.int .i64 lv9, .bool sp9, .slice x9 n9 c9])
        have HR9 := Lib.hid (hr9.later hgn)
        clear hr9 hg0 hgn hgg
        obtain ⟨⟨q0, q1, q2, q3, q4, q5, q6⟩, ⟨k0, k1, k2, k3, k4, k5⟩, j0, j1, j2, j3, j4⟩ := HX.out.p18
        obtain ⟨a3, b3⟩ := HW3.out.p2
        obtain ⟨a5, b5⟩ := HW5.out.p2
        obtain ⟨a9, b9, d9⟩ := HE9.out.p3
        as_aux_lemma =>
          go_wp2_with fail
          refine (rMul_any N p1 p2 xC nC cC S p5 p6 lvA spA lvB spB ch _ _ rA rB _ H3.out HC.out HS.out HA.out HB.out).mono ?_
          intro e v11 hres
          obtain ⟨lv11, sp11, x11, n11, c11, ls11, cc11, rfl, hr11, hg0, hd⟩ := resE_any hres
          have HD11 := Lib.hid hd
          clear hres hd
          have hgn := Gr.new v11 (.cells #[.int .i64 lv11, .bool sp11, .slice x11 n11 c11] 28)
          have hgg := Gr.trans hg0 hgn
          clear q0 q1 q2 q3 q4 q5 q6 k0 k1 k2 k3 k4 k5 j0 j1 j2 j3 j4 a3 b3 a5 b5 a9 b9 d9
          replace HG := Lib.hid (HG.out.trans hgg)
          replace HX := Lib.hid (HX.out.gr hgg)
          replace HW3 := Lib.hid (HW3.out.gr hgg)
          replace HW5 := Lib.hid (HW5.out.gr hgg)
          replace HE9 := Lib.hid (HE9.out.gr hgg)
          replace HA := Lib.hid (HA.out.later hgg)
          replace HB := Lib.hid (HB.out.later hgg)
          replace HC := Lib.hid (HC.out.later hgg)
          replace HZ7 := Lib.hid (HZ7.out.later hgg)
          replace HR9 := Lib.hid (HR9.out.later hgg)
          have HE11 := Lib.hid (Blk.new v11 28 #[.int .i64 lv11, .bool sp11, .slice x11 n11 c11])
          have HR11 := Lib.hid (hr11.later hgn)
          clear hr11 hg0 hgn hgg
          obtain ⟨⟨q0, q1, q2, q3, q4, q5, q6⟩, ⟨k0, k1, k2, k3, k4, k5⟩, j0, j1, j2, j3, j4⟩ := HX.out.p18
          obtain ⟨a3, b3⟩ := HW3.out.p2
          obtain ⟨a5, b5⟩ := HW5.out.p2
          obtain ⟨a9, b9, d9⟩ := HE9.out.p3
          obtain ⟨a11, b11, d11⟩ := HE11.out.p3
          rcases HD3.out with ⟨ok3, rfl, zs3, hz3, hX3⟩ | ⟨-, rfl, -⟩
          · skip
            rcases HD5.out with ⟨ok5, rfl, zs5, hz5, hX5⟩ | ⟨-, rfl, -⟩
            · skip
              rcases HD8.out with ⟨ok8, rfl, hz8⟩ | rfl
              · skip
                rcases HD9.out with ⟨rfl, e9, z1, z2, z3⟩ | rfl
                · skip
                  rcases HD11.out with ⟨rfl, e11, y1, y2, y3⟩ | rfl
                  · skip
                    as_aux_lemma =>
                      have T1 := Lib.hid (twoE_zero e9)
                      obtain ⟨-, -, -, e1, e2⟩ := twoE_zero e9
                      clear HD3 HD5 HD8 HD9 HD11 e9 e11
                      subst z1 z2
                      subst y1 y2
                      subst e1 e2
                      subst z3 y3
                      have HV := Lib.hid T1.out.1
                      have EA := Lib.hid T1.out.2.1
                      have EB := Lib.hid T1.out.2.2.1
                      have NA := Lib.hid (hasR_nn HA.out)
                      have DS := Lib.hid ok3.2
                      have SY := Lib.hid ok3.2.sys
                      have HZ3 := Lib.hid hz3
                      have HZ5 := Lib.hid hz5
                      have HZ8 := Lib.hid hz8
                      have HX3 := Lib.hid hX3
                      have HX5 := Lib.hid hX5
                      have hN32 : N ≤ 32 := by obtain ⟨n0, hn0, -, h⟩ := vp_dim T1.out.1; omega
                      have HN32 := Lib.hid hN32
                      clear T1 ok3 ok5 ok8 hz3 hz5 hz8 hX3 hX5 hN32
                      have ES := Lib.hid (ev_sum (rB := rB) 1 HV.out EA.out)
                      have EP := Lib.hid (ev_prodE (rB := rB) HV.out EA.out)
                      go_wp2_with fail
                      refine (norm_any N p1 p2 xC nC cC S p5 p6 lv11 sp11 ch _ _ _ H3.out HC.out HS.out HR9.out).mono ?_
                      intro e v13 hres
                      obtain ⟨zs13, X13, rfl, hg0, hz, hX⟩ := nm_ok hres ⟨⟨HV.out, ES.out⟩, DS.out⟩
                      have HZ13 := Lib.hid hz
                      have HX13 := Lib.hid hX
                      clear hres hz hX
                      rw [show wv X13 = .agg #[.bool (decide (X13 < 0)), .string (bstr X13.natAbs)] from rfl]
                      have hgn := Gr.new v13 (.cells #[.bool (decide (X13 < 0)), .string (bstr X13.natAbs)] 50)
                      have hgg := Gr.trans hg0 hgn
                      clear q0 q1 q2 q3 q4 q5 q6 k0 k1 k2 k3 k4 k5 j0 j1 j2 j3 j4 a3 b3 a5 b5 a9 b9 d9 a11 b11 d11
                      replace HG := Lib.hid (HG.out.trans hgg)
                      replace HX := Lib.hid (HX.out.gr hgg)
                      replace HW3 := Lib.hid (HW3.out.gr hgg)
                      replace HW5 := Lib.hid (HW5.out.gr hgg)
                      replace HE9 := Lib.hid (HE9.out.gr hgg)
                      replace HE11 := Lib.hid (HE11.out.gr hgg)
                      replace HA := Lib.hid (HA.out.later hgg)
                      replace HB := Lib.hid (HB.out.later hgg)
                      replace HC := Lib.hid (HC.out.later hgg)
                      replace HZ7 := Lib.hid (HZ7.out.later hgg)
                      replace HR9 := Lib.hid (HR9.out.later hgg)
                      replace HR11 := Lib.hid (HR11.out.later hgg)
                      have HW13 := Lib.hid (Blk.new v13 50 #[.bool (decide (X13 < 0)), .string (bstr X13.natAbs)])
                      clear hg0 hgn hgg
                      obtain ⟨⟨q0, q1, q2, q3, q4, q5, q6⟩, ⟨k0, k1, k2, k3, k4, k5⟩, j0, j1, j2, j3, j4⟩ := HX.out.p18
                      obtain ⟨a3, b3⟩ := HW3.out.p2
                      obtain ⟨a5, b5⟩ := HW5.out.p2
                      obtain ⟨a9, b9, d9⟩ := HE9.out.p3
                      obtain ⟨a11, b11, d11⟩ := HE11.out.p3
                      obtain ⟨a13, b13⟩ := HW13.out.p2
                      as_aux_lemma =>
                        go_wp2_with fail
                        refine (norm_any N p1 p2 xC nC cC S p5 p6 lv11 sp11 ch _ _ _ H3.out HC.out HS.out HR11.out).mono ?_
                        intro e v14 hres
                        obtain ⟨zs14, X14, rfl, hg0, hz, hX⟩ := nm_ok hres ⟨⟨HV.out, EP.out⟩, DS.out⟩
                        have HZ14 := Lib.hid hz
                        have HX14 := Lib.hid hX
                        clear hres hz hX
                        rw [show wv X14 = .agg #[.bool (decide (X14 < 0)), .string (bstr X14.natAbs)] from rfl]
                        have hgn := Gr.new v14 (.cells #[.bool (decide (X14 < 0)), .string (bstr X14.natAbs)] 50)
                        have hgg := Gr.trans hg0 hgn
                        clear q0 q1 q2 q3 q4 q5 q6 k0 k1 k2 k3 k4 k5 j0 j1 j2 j3 j4 a3 b3 a5 b5 a9 b9 d9 a11 b11 d11 a13 b13
                        replace HG := Lib.hid (HG.out.trans hgg)
                        replace HX := Lib.hid (HX.out.gr hgg)
                        replace HW3 := Lib.hid (HW3.out.gr hgg)
                        replace HW5 := Lib.hid (HW5.out.gr hgg)
                        replace HE9 := Lib.hid (HE9.out.gr hgg)
                        replace HE11 := Lib.hid (HE11.out.gr hgg)
                        replace HW13 := Lib.hid (HW13.out.gr hgg)
                        replace HA := Lib.hid (HA.out.later hgg)
                        replace HB := Lib.hid (HB.out.later hgg)
                        replace HC := Lib.hid (HC.out.later hgg)
                        replace HZ7 := Lib.hid (HZ7.out.later hgg)
                        replace HR9 := Lib.hid (HR9.out.later hgg)
                        replace HR11 := Lib.hid (HR11.out.later hgg)
                        have HW14 := Lib.hid (Blk.new v14 50 #[.bool (decide (X14 < 0)), .string (bstr X14.natAbs)])
                        clear hg0 hgn hgg
                        obtain ⟨⟨q0, q1, q2, q3, q4, q5, q6⟩, ⟨k0, k1, k2, k3, k4, k5⟩, j0, j1, j2, j3, j4⟩ := HX.out.p18
                        obtain ⟨a3, b3⟩ := HW3.out.p2
                        obtain ⟨a5, b5⟩ := HW5.out.p2
                        obtain ⟨a9, b9, d9⟩ := HE9.out.p3
                        obtain ⟨a11, b11, d11⟩ := HE11.out.p3
                        obtain ⟨a13, b13⟩ := HW13.out.p2
                        obtain ⟨a14, b14⟩ := HW14.out.p2
                        as_aux_lemma =>
                          clear HE9 a9 b9 d9
                          clear HE11 a11 b11 d11
                          clear HR9 HR11
                          have I3 := Lib.hid (show InR X3 by rw [HX3.out]; exact inR_nrm SY.out HZ3.out)
                          have I5 := Lib.hid (show InR X5 by rw [HX5.out]; exact inR_nrm SY.out HZ5.out)
                          have I13 := Lib.hid (show InR X13 by rw [HX13.out]; exact inR_nrm SY.out HZ13.out)
                          have I14 := Lib.hid (show InR X14 by rw [HX14.out]; exact inR_nrm SY.out HZ14.out)
                          have I35 := Lib.hid (show InR (X3 + X5) by rw [HX3.out, HX5.out]; exact inR_nrm2 SY.out HZ3.out HZ5.out)
                          have I8 := Lib.hid (show InR (sAb zs7) from inR_sAb SY.out HZ8.out HN32.out)
                          have I85 := Lib.hid (show InR (sAb zs7 * X5) by rw [HX5.out]; exact inR_sAb2 SY.out HZ8.out HZ5.out HN32.out)
                          have LE1 := Lib.hid (show X13 ≤ X3 + X5 by rw [HX13.out, HX3.out, HX5.out]; exact wdz_sum HV.out EA.out EB.out SY.out HZ3.out HZ5.out HZ13.out)
                          have LE2 := Lib.hid (show X14 ≤ sAb zs7 * X5 by rw [HX14.out, HX5.out]; exact wdz_prod HV.out EA.out EB.out SY.out HZ8.out HZ5.out HZ14.out)
                          have HLZ := Lib.hid (show zs7.length ≤ 1000 by have := HZ8.out.1; have := HN32.out; omega)
                          have HZI := Lib.hid (show ∀ i, i < zs7.length → InR (Op.cf zs7 i) from fun i hi => joinV_inR SY.out (HZ8.out.2 i hi))
                          go_wp2_with fail
                          refine (rwadd_any X3 X5 _ I3.out I5.out I35.out).mono ?_
                          rintro e v15 ⟨rfl, hg0⟩
                          obtain ⟨X15, hX15⟩ : ∃ X, X = X3 + X5 := ⟨_, rfl⟩
                          rw [← hX15]
                          rw [← hX15] at LE1 I35
                          clear hX15
                          rw [show wv X15 = .agg #[.bool (decide (X15 < 0)), .string (bstr X15.natAbs)] from rfl]
                          have hgn := Gr.new v15 (.cells #[.bool (decide (X15 < 0)), .string (bstr X15.natAbs)] 50)
                          have hgg := Gr.trans hg0 hgn
                          clear q0 q1 q2 q3 q4 q5 q6 k0 k1 k2 k3 k4 k5 j0 j1 j2 j3 j4 a3 b3 a5 b5 a13 b13 a14 b14
                          replace HG := Lib.hid (HG.out.trans hgg)
                          replace HX := Lib.hid (HX.out.gr hgg)
                          replace HW3 := Lib.hid (HW3.out.gr hgg)
                          replace HW5 := Lib.hid (HW5.out.gr hgg)
                          replace HW13 := Lib.hid (HW13.out.gr hgg)
                          replace HW14 := Lib.hid (HW14.out.gr hgg)
                          replace HA := Lib.hid (HA.out.later hgg)
                          replace HB := Lib.hid (HB.out.later hgg)
                          replace HC := Lib.hid (HC.out.later hgg)
                          replace HZ7 := Lib.hid (HZ7.out.later hgg)
                          have HW15 := Lib.hid (Blk.new v15 50 #[.bool (decide (X15 < 0)), .string (bstr X15.natAbs)])
                          clear hg0 hgn hgg
                          obtain ⟨⟨q0, q1, q2, q3, q4, q5, q6⟩, ⟨k0, k1, k2, k3, k4, k5⟩, j0, j1, j2, j3, j4⟩ := HX.out.p18
                          obtain ⟨a3, b3⟩ := HW3.out.p2
                          obtain ⟨a5, b5⟩ := HW5.out.p2
                          obtain ⟨a13, b13⟩ := HW13.out.p2
                          obtain ⟨a14, b14⟩ := HW14.out.p2
                          obtain ⟨a15, b15⟩ := HW15.out.p2
                          as_aux_lemma =>
                            obtain ⟨W9, hW9⟩ : ∃ W : World, W = v15.alloc (.cells #[.bool (decide (X15 < 0)), .string (bstr X15.natAbs)] 50) := ⟨_, rfl⟩
                            rw [← hW9] at HG HX HA HB HC HZ7 HW3 HW5 HW13 HW14 HW15
                            obtain ⟨X16, hX16⟩ : ∃ X, X = sAb zs7 * X5 := ⟨_, rfl⟩
                            rw [← hX16] at LE2
                            have HCS := Lib.hid (show ∀ V, Gr W9 V → Calls Tryz.prog 42 #[.slice x7 n7 c7] V (fun e w' => e = .returned (wv (sAb zs7)) ∧ Gr V w') from fun V g => sumOf_any _ zs7 V (HZ7.out.later g) HLZ.out HZI.out I8.out)
                            have HMU := Lib.hid (show ∀ V, Calls Tryz.prog 41 #[wv (sAb zs7), .agg #[.bool (decide (X5 < 0)), .string (bstr X5.natAbs)]] V (fun e w' => e = .returned (.tuple #[.agg #[.bool (decide (X16 < 0)), .string (bstr X16.natAbs)], .int .i64 0]) ∧ Gr V w') from fun V => by
                              rw [hX16]
                              exact rwmul_any (sAb zs7) X5 V I8.out I5.out I85.out)
                            rw [← hX16] at I85
                            clear hX16
                            go_upto_region 13 with (fail)
                            go_cut [16, 10] (fun q c wx => WBox X16 W9 q c wx)
                            case first =>
                              as_aux_lemma =>
                                rw [← hW9]
                                clear q0 q1 q2 q3 q4 q5 q6 k0 k1 k2 k3 k4 k5 j0 j1 j2 j3 j4 a3 b3 a5 b5 a13 b13 a14 b14 a15 b15 hW9
                                obtain ⟨y0, y1⟩ := HW5.out.p2
                                have HKEEP := Lib.hid (show ∀ wz, Gr W9 wz → (wz.cell? ⟨v5.heap.size, 0, none⟩ = some (.bool (decide (X5 < 0))) ∧ wz.cell? ⟨v5.heap.size, 1, none⟩ = some (.string (bstr X5.natAbs))) from fun wz g => ⟨g.keeps y0, g.keeps y1⟩)
                                go_region_held3 (fun wz => wz.cell? ⟨v5.heap.size, 0, none⟩ = some (.bool (decide (X5 < 0))) ∧ wz.cell? ⟨v5.heap.size, 1, none⟩ = some (.string (bstr X5.natAbs))) ((refine HKEEP.out _ ?_; repeat (first | exact HG11.out | exact HG10.out | exact Gr.refl _ | refine Below.drew ?_ | refine Gr.setCell ?_ (by first | exact HG10.out.size | exact HG11.out.size | (simp; done)) _ | refine Gr.alloc ?_ _)))
                                  (first
                                    | (go_at_call 42; refine (HCS.out (W9.drew.alloc (.cells #[.bool false, .string ⟨#[]⟩] 50)) (Gr.alloc (Below.drew (Gr.refl W9)) (.cells #[.bool false, .string ⟨#[]⟩] 50))).mono ?_; rintro e w10 ⟨rfl, hg8⟩; have HZA := Lib.hid (Blk.gr (show Blk (W9.drew.alloc (.cells #[.bool false, .string ⟨#[]⟩] 50)) W9.heap.size 50 #[.bool false, .string ⟨#[]⟩] from Blk.new W9.drew 50 #[.bool false, .string ⟨#[]⟩]) hg8); have HG10 := Lib.hid (Gr.trans (Gr.alloc (Below.drew (Gr.refl W9)) (.cells #[.bool false, .string ⟨#[]⟩] 50)) hg8); clear hg8)
                                    | (go_at_call 42; refine (HCS.out W9.drew (Below.drew (Gr.refl W9))).mono ?_; rintro e w10 ⟨rfl, hg8⟩; have HG10 := Lib.hid (Gr.trans (show Gr W9 W9.drew from Below.drew (Gr.refl W9)) hg8); clear hg8)
                                    | (go_at_call 41; refine (HMU.out w10).mono ?_; rintro e w11 ⟨rfl, hg8⟩; have HZ11 := Lib.hid (HZA.out.gr hg8); obtain ⟨e0, e1⟩ := HZ11.out.p2; have f0 := HZ11.out.frozen 0; have f1 := HZ11.out.frozen 1; have HG11 := Lib.hid (HG10.out.trans hg8); clear hg8)
                                    | (go_at_call 41; refine (HMU.out (w10.alloc (.cells #[.bool false, .string ⟨#[]⟩] 50))).mono ?_; rintro e w11 ⟨rfl, hg8⟩; have HZ11 := Lib.hid (Blk.gr (Blk.new w10 50 #[.bool false, .string ⟨#[]⟩]) hg8); obtain ⟨e0, e1⟩ := HZ11.out.p2; have f0 := HZ11.out.frozen 0; have f1 := HZ11.out.frozen 1; have HG11 := Lib.hid ((HG10.out.alloc (.cells #[.bool false, .string ⟨#[]⟩] 50)).trans hg8); clear hg8)
                                    | (go_at_call 41; refine (HMU.out w10).mono ?_; rintro e w11 ⟨rfl, hg8⟩; have HG11 := Lib.hid (HG10.out.trans hg8); clear hg8))
                                all_goals go_wp2_with fail
                                all_goals go_meet
                                · exact ⟨w11.heap.size, rfl, rfl, Blk.new _ _ _, HG11.out.trans (Gr.new _ _)⟩
                                · exact ⟨w10.heap.size, rfl, rfl, (HZ11.out.set 0 _).set 1 _, (HG11.out.setCell (p := ⟨w10.heap.size, 0, none⟩) HG10.out.size _).setCell (p := ⟨w10.heap.size, 1, none⟩) HG10.out.size _⟩
                                · exact ⟨W9.heap.size, rfl, rfl, (HZ11.out.set 0 _).set 1 _, (HG11.out.setCell (p := ⟨W9.heap.size, 0, none⟩) (Nat.le_refl _) _).setCell (p := ⟨W9.heap.size, 1, none⟩) (Nat.le_refl _) _⟩
                            case rest =>
                              as_aux_lemma =>
                                obtain ⟨G16, rfl, rfl, hb16, hg0⟩ := hcut
                                have HB16 := Lib.hid hb16
                                clear q0 q1 q2 q3 q4 q5 q6 k0 k1 k2 k3 k4 k5 j0 j1 j2 j3 j4 a3 b3 a5 b5 a13 b13 a14 b14 a15 b15 hb16
                                replace HG := Lib.hid (HG.out.trans hg0)
                                replace HX := Lib.hid (HX.out.gr hg0)
                                replace HW3 := Lib.hid (HW3.out.gr hg0)
                                replace HW5 := Lib.hid (HW5.out.gr hg0)
                                replace HW13 := Lib.hid (HW13.out.gr hg0)
                                replace HW14 := Lib.hid (HW14.out.gr hg0)
                                replace HW15 := Lib.hid (HW15.out.gr hg0)
                                replace HA := Lib.hid (HA.out.later hg0)
                                replace HB := Lib.hid (HB.out.later hg0)
                                replace HC := Lib.hid (HC.out.later hg0)
                                replace HZ7 := Lib.hid (HZ7.out.later hg0)
                                have HW16 := Lib.hid HB16.out
                                clear HB16 hg0 HCS HMU hW9
                                obtain ⟨⟨q0, q1, q2, q3, q4, q5, q6⟩, ⟨k0, k1, k2, k3, k4, k5⟩, j0, j1, j2, j3, j4⟩ := HX.out.p18
                                obtain ⟨a3, b3⟩ := HW3.out.p2
                                obtain ⟨a5, b5⟩ := HW5.out.p2
                                obtain ⟨a13, b13⟩ := HW13.out.p2
                                obtain ⟨a14, b14⟩ := HW14.out.p2
                                obtain ⟨a15, b15⟩ := HW15.out.p2
                                obtain ⟨a16, b16⟩ := HW16.out.p2
                                go_wp2_with fail
                                refine (atMost_any X13 X15 _ I13.out I35.out LE1.out).mono ?_
                                rintro e u1 ⟨rfl, hg0⟩
                                clear q0 q1 q2 q3 q4 q5 q6 k0 k1 k2 k3 k4 k5 j0 j1 j2 j3 j4 a3 b3 a5 b5 a13 b13 a14 b14 a15 b15 a16 b16
                                replace HG := Lib.hid (HG.out.trans hg0)
                                replace HX := Lib.hid (HX.out.gr hg0)
                                replace HW3 := Lib.hid (HW3.out.gr hg0)
                                replace HW5 := Lib.hid (HW5.out.gr hg0)
                                replace HW13 := Lib.hid (HW13.out.gr hg0)
                                replace HW14 := Lib.hid (HW14.out.gr hg0)
                                replace HW15 := Lib.hid (HW15.out.gr hg0)
                                replace HW16 := Lib.hid (HW16.out.gr hg0)
                                replace HA := Lib.hid (HA.out.later hg0)
                                replace HB := Lib.hid (HB.out.later hg0)
                                replace HC := Lib.hid (HC.out.later hg0)
                                replace HZ7 := Lib.hid (HZ7.out.later hg0)
                                clear hg0
                                obtain ⟨⟨q0, q1, q2, q3, q4, q5, q6⟩, ⟨k0, k1, k2, k3, k4, k5⟩, j0, j1, j2, j3, j4⟩ := HX.out.p18
                                obtain ⟨a3, b3⟩ := HW3.out.p2
                                obtain ⟨a5, b5⟩ := HW5.out.p2
                                obtain ⟨a13, b13⟩ := HW13.out.p2
                                obtain ⟨a14, b14⟩ := HW14.out.p2
                                obtain ⟨a15, b15⟩ := HW15.out.p2
                                obtain ⟨a16, b16⟩ := HW16.out.p2
                                as_aux_lemma =>
                                  go_wp2_with fail
                                  refine (atMost_any X14 X16 _ I14.out I85.out LE2.out).mono ?_
                                  rintro e u2 ⟨rfl, hg0⟩
                                  clear q0 q1 q2 q3 q4 q5 q6 k0 k1 k2 k3 k4 k5 j0 j1 j2 j3 j4 a3 b3 a5 b5 a13 b13 a14 b14 a15 b15 a16 b16
                                  replace HG := Lib.hid (HG.out.trans hg0)
                                  replace HX := Lib.hid (HX.out.gr hg0)
                                  replace HW3 := Lib.hid (HW3.out.gr hg0)
                                  replace HW5 := Lib.hid (HW5.out.gr hg0)
                                  replace HW13 := Lib.hid (HW13.out.gr hg0)
                                  replace HW14 := Lib.hid (HW14.out.gr hg0)
                                  replace HW15 := Lib.hid (HW15.out.gr hg0)
                                  replace HW16 := Lib.hid (HW16.out.gr hg0)
                                  replace HA := Lib.hid (HA.out.later hg0)
                                  replace HB := Lib.hid (HB.out.later hg0)
                                  replace HC := Lib.hid (HC.out.later hg0)
                                  replace HZ7 := Lib.hid (HZ7.out.later hg0)
                                  clear hg0
                                  obtain ⟨⟨q0, q1, q2, q3, q4, q5, q6⟩, ⟨k0, k1, k2, k3, k4, k5⟩, j0, j1, j2, j3, j4⟩ := HX.out.p18
                                  obtain ⟨a3, b3⟩ := HW3.out.p2
                                  obtain ⟨a5, b5⟩ := HW5.out.p2
                                  obtain ⟨a13, b13⟩ := HW13.out.p2
                                  obtain ⟨a14, b14⟩ := HW14.out.p2
                                  obtain ⟨a15, b15⟩ := HW15.out.p2
                                  obtain ⟨a16, b16⟩ := HW16.out.p2
                                  clear HW5 a5 b5
                                  clear HW13 a13 b13
                                  clear HW14 a14 b14
                                  clear HW15 a15 b15
                                  clear HW16 a16 b16
                                  clear HZ7 HB
                                  as_aux_lemma =>
                                    go_wp2_with fail
                                    refine (rAuto_any N p1 p2 xC nC cC S p5 p6 lv11 sp11 ch _ rA k _ HK.out H3.out HC.out HS.out HA.out).mono ?_
                                    intro e v17 hres
                                    obtain ⟨lv17, sp17, x17, n17, c17, ls17, cc17, rfl, hr17, hg0, hd⟩ := resE_any hres
                                    have HD17 := Lib.hid hd
                                    clear hres hd
                                    have hgn := Gr.new v17 (.cells #[.int .i64 lv17, .bool sp17, .slice x17 n17 c17] 28)
                                    have hgg := Gr.trans hg0 hgn
                                    clear q0 q1 q2 q3 q4 q5 q6 k0 k1 k2 k3 k4 k5 j0 j1 j2 j3 j4 a3 b3
                                    replace HG := Lib.hid (HG.out.trans hgg)
                                    replace HX := Lib.hid (HX.out.gr hgg)
                                    replace HW3 := Lib.hid (HW3.out.gr hgg)
                                    replace HA := Lib.hid (HA.out.later hgg)
                                    replace HC := Lib.hid (HC.out.later hgg)
                                    have HE17 := Lib.hid (Blk.new v17 28 #[.int .i64 lv17, .bool sp17, .slice x17 n17 c17])
                                    have HR17 := Lib.hid (hr17.later hgn)
                                    clear hr17 hg0 hgn hgg
                                    obtain ⟨⟨q0, q1, q2, q3, q4, q5, q6⟩, ⟨k0, k1, k2, k3, k4, k5⟩, j0, j1, j2, j3, j4⟩ := HX.out.p18
                                    obtain ⟨a3, b3⟩ := HW3.out.p2
                                    obtain ⟨a17, b17, d17⟩ := HE17.out.p3
                                    as_aux_lemma =>
                                      rcases HD17.out with ⟨rfl, e17, z1, z2, z3⟩ | rfl
                                      · skip
                                        obtain ⟨T0, -, -⟩ := au_zero e17
                                        clear HD17 e17
                                        subst z1 z2
                                        subst z3
                                        have HK2 := Lib.hid (show k.toNat % 2 = 1 by omega)
                                        clear T0
                                        have EVA := Lib.hid (ev_auto k.toNat HV.out EA.out NA.out)
                                        go_wp2_with fail
                                        refine (norm_any N p1 p2 xC nC cC S p5 p6 lv17 sp17 ch _ _ _ H3.out HC.out HS.out HR17.out).mono ?_
                                        intro e v18 hres
                                        obtain ⟨zs18, X18, rfl, hg0, hz, hX⟩ := nm_ok hres ⟨⟨HV.out, EVA.out.1⟩, DS.out⟩
                                        obtain rfl : X18 = X3 := by rw [hX, HX3.out]; exact wdz_auto HK2.out HV.out EA.out NA.out SY.out HZ3.out hz
                                        clear hres hz hX
                                        rw [show wv X18 = .agg #[.bool (decide (X18 < 0)), .string (bstr X18.natAbs)] from rfl]
                                        have hgn := Gr.new v18 (.cells #[.bool (decide (X18 < 0)), .string (bstr X18.natAbs)] 50)
                                        have hgg := Gr.trans hg0 hgn
                                        clear q0 q1 q2 q3 q4 q5 q6 k0 k1 k2 k3 k4 k5 j0 j1 j2 j3 j4 a3 b3 a17 b17 d17
                                        replace HG := Lib.hid (HG.out.trans hgg)
                                        replace HX := Lib.hid (HX.out.gr hgg)
                                        replace HW3 := Lib.hid (HW3.out.gr hgg)
                                        replace HE17 := Lib.hid (HE17.out.gr hgg)
                                        replace HA := Lib.hid (HA.out.later hgg)
                                        replace HC := Lib.hid (HC.out.later hgg)
                                        replace HR17 := Lib.hid (HR17.out.later hgg)
                                        have HW18 := Lib.hid (Blk.new v18 50 #[.bool (decide (X18 < 0)), .string (bstr X18.natAbs)])
                                        clear hg0 hgn hgg
                                        obtain ⟨⟨q0, q1, q2, q3, q4, q5, q6⟩, ⟨k0, k1, k2, k3, k4, k5⟩, j0, j1, j2, j3, j4⟩ := HX.out.p18
                                        obtain ⟨a3, b3⟩ := HW3.out.p2
                                        obtain ⟨a17, b17, d17⟩ := HE17.out.p3
                                        obtain ⟨a18, b18⟩ := HW18.out.p2
                                        go_wp2_with fail
                                        refine (awake9_any _).mono ?_
                                        rintro e wz ⟨rfl, hg2⟩
                                        replace HG := Lib.hid (HG.out.trans hg2)
                                        clear hg2
                                        go_wp2_with fail
                                        go_ret
                                        exact ⟨rfl, HG.out⟩
                                      · skip
                                        go_wp2_with fail
                                        refine (awake9_any _).mono ?_
                                        rintro e wz ⟨rfl, hg2⟩
                                        replace HG := Lib.hid (HG.out.trans hg2)
                                        clear hg2
                                        go_wp2_with fail
                                        go_ret
                                        exact ⟨rfl, HG.out⟩
                  · skip
                    as_aux_lemma =>
                      go_wp2_with fail
                      refine (awake9_any _).mono ?_
                      rintro e wz ⟨rfl, hg2⟩
                      replace HG := Lib.hid (HG.out.trans hg2)
                      clear hg2
                      go_wp2_with fail
                      go_ret
                      exact ⟨rfl, HG.out⟩
                · skip
                  as_aux_lemma =>
                    go_wp2_with fail
                    refine (awake9_any _).mono ?_
                    rintro e wz ⟨rfl, hg2⟩
                    replace HG := Lib.hid (HG.out.trans hg2)
                    clear hg2
                    go_wp2_with fail
                    go_ret
                    exact ⟨rfl, HG.out⟩
              · skip
                as_aux_lemma =>
                  go_wp2_with fail
                  refine (awake9_any _).mono ?_
                  rintro e wz ⟨rfl, hg2⟩
                  replace HG := Lib.hid (HG.out.trans hg2)
                  clear hg2
                  go_wp2_with fail
                  go_ret
                  exact ⟨rfl, HG.out⟩
            · skip
              as_aux_lemma =>
                go_wp2_with fail
                refine (awake9_any _).mono ?_
                rintro e wz ⟨rfl, hg2⟩
                replace HG := Lib.hid (HG.out.trans hg2)
                clear hg2
                go_wp2_with fail
                go_ret
                exact ⟨rfl, HG.out⟩
          · skip
            as_aux_lemma =>
              go_wp2_with fail
              refine (awake9_any _).mono ?_
              rintro e wz ⟨rfl, hg2⟩
              replace HG := Lib.hid (HG.out.trans hg2)
              clear hg2
              go_wp2_with fail
              go_ret
              exact ⟨rfl, HG.out⟩
end Go.Proofs.YtlfiakpmnkhcdaaGreat.Mo
