import Derived.Test.YtlfiakpmnkhcdaaGreatLKk
import Derived.Test.YtlfiakpmnkhcdaaGreatLKj
import Derived.Test.YtlfiakpmnkhcdaaGreatLJu
import Derived.Test.YtlfiakpmnkhcdaaGreatLKt
namespace Go.Proofs.YtlfiakpmnkhcdaaGreat.Mo
open Go.RowKit Go.Shelf
set_option linter.unusedVariables false
set_option linter.unusedSimpArgs false
theorem wpList_loadCase {ops : Array Oper} {rest : List Oper} {o : Oper} {a : Act} {w : World} {Q : Exit → Act → World → Prop} (hgd : o.guard = none) (x : Operand) (ho : o.op = .load 31 x) (b : Nat) (hx : a.eval x = .pointer (some ⟨b, 0, none⟩)) (cs : Array Value) (hb : Blk w b 31 cs) (hn : cs.size = 18) (h : wpList Tryz.prog ops Q rest (a.put o.dst (.agg cs)) w) : wpList Tryz.prog ops Q (o :: rest) a w :=
 wpList_plain hgd fun K hK => by
  have hr : (Instr.loadAt 31 (.pointer (some ⟨b, 0, none⟩))).run Tryz.prog w = .ok (.agg cs) w := by
   simp only [Instr.loadAt, Instr.sureAddr, Sem.run_bind, Sem.run_pure, Result.andThen]
   exact run_loadVar_row w b _ _ cs (0, 0) _ hb Tryz.underlying31 rfl (by rw [hn]; kernel_rfl)
  unfold Oper.wp execOp
  simp only [ho, hx, Sem.run_bind, hr, Result.andThen_ok]
  exact hK _ _ h
def LentN (lv : Int) (sp : Bool) (n : Nat) (rA : List (List Int)) (w : World) (e : Ending) (w' : World) : Prop := ∃ x c, e = .returned (.agg #[.int .i64 lv, .bool sp, .slice x n c]) ∧ HasB w' w.heap.size w'.heap.size (.slice x n c) rA ∧ SpR w' w.heap.size w'.heap.size (.slice x n c) rA ∧ Gr w w'
theorem sm_up {ls : List (List Int)} (h : Sm 100 ls) : Sm 1000 ls := ⟨Nat.le_trans h.1 (by omega), fun i hi => Nat.le_trans (h.2 i hi) (by omega)⟩
theorem lentN {lv : Int} {sp : Bool} {xA : Option Addr} {nA cA : Nat} {rA : List (List Int)} {V : World} (hA : HasR V (.slice xA nA cA) rA) (hs : Sm 100 rA) (hn : rA.length = nA) : Calls Tryz.prog 13 #[.agg #[.int .i64 lv, .bool sp, .slice xA nA cA]] V (LentN lv sp nA rA V) := by
 subst hn
 exact lent_any lv sp _ rA V hA (sm_up hs)
end Go.Proofs.YtlfiakpmnkhcdaaGreat.Mo
namespace Go.Proofs.YtlfiakpmnkhcdaaGreat.Mo
open Go.RowKit Go.Shelf
set_option linter.unusedVariables false
set_option maxRecDepth 100000 in
set_option maxHeartbeats 4000000 in
theorem fNorm_any (N p1 p2 : Int) (xC : Option Addr) (nC cC : Nat) (S p5 p6 : Int) (lv : Int) (sp : Bool) (ch : List Int) (uA : Value) (rows : List (List Int)) (w : World) (h3 : ch.length ≤ 1000) (hC : HasP w (.slice xC nC cC) ch) (hS : 0 ≤ S ∧ S < 4294967296) (hA : HasR w uA rows) :
  Calls Tryz.prog 38 #[.agg #[.int .i64 N, .int .u32 p1, .int .i64 p2, .slice xC nC cC, .int .u32 S, .int .i64 p5, .int .u32 p6], .agg #[.int .i64 lv, .bool sp, uA]] w (NmP N ch S lv sp rows w) := by
 obtain ⟨xA, cA, rfl⟩ := hA.form
 generalize hnA : rows.length = nA at *
 obtain ⟨W0, hW0⟩ : ∃ W0, W0 = ((w.alloc (.cells #[.int .i64 N, .int .u32 p1, .int .i64 p2, .slice xC nC cC, .int .u32 S, .int .i64 p5, .int .u32 p6] 25)).alloc (.cells #[.int .i64 lv, .bool sp, .slice xA nA cA] 28)).alloc (.cells #[.bool false, .string ⟨#[]⟩] 50) := ⟨_, rfl⟩
 have HG0 := Lib.hid (show Gr w W0 by rw [hW0]; exact ((Gr.new w _).alloc _).alloc _)
 have HBR := Lib.hid (show Blk W0 (w.heap.size + 2) 50 #[.bool false, .string ⟨#[]⟩] by rw [hW0]; exact Blk.newk _ _ (by simp))
 have HCALL := Lib.hid (fWides_any N p1 p2 xC nC cC S p5 p6 lv sp ch (.slice xA nA cA) rows W0 h3 (hC.later HG0.out) hS (hA.later HG0.out))
 have HDIM := Lib.hid (show WdOK N ch S lv sp rows → 4 ≤ N ∧ N ≤ 32 from fun h => by have := h.1.1.1; unfold DimI at this; omega)
 clear hC hA hS hnA h3
 go_enter Tryz.func38, Tryz.ntmps38
 go_wp2_with fail
 rw [← hW0]
 refine HCALL.out.mono ?_
 rintro e w1 ⟨v, zs, c, rfl, hg1, hw, hr⟩
 have HGK := Lib.hid hg1
 have HG1 := Lib.hid (HG0.out.trans hg1)
 have HBR1 := Lib.hid (HBR.out.gr hg1)
 have HW := Lib.hid hw
 obtain ⟨a, cz, rfl, -, -, -⟩ := hw
 clear hg1 hW0
 rcases hr with ⟨hok, rfl, hz⟩ | ⟨hno, rfl, rfl⟩
 ·have HOK := Lib.hid hok
  have HZ := Lib.hid hz
  have HIN := Lib.hid (show ∀ i, i < zs.length → InR (Op.cf zs i) from fun i hi => joinV_inR hok.2.sys (hz.2 i hi))
  obtain ⟨n, hn⟩ : ∃ n, n = zs.length := ⟨_, rfl⟩
  have HN := Lib.hid hn
  have hn32 : n ≤ 1000 := by have h1 := hz.1; have h2 := HDIM.out hok; omega
  rw [← hn]
  clear hok hz hn
  obtain ⟨w2, rfl⟩ : ∃ w2 : World, w2 = w1 := ⟨_, rfl⟩
  have HG2 := Lib.hid HG1.out
  have HBR2 := Lib.hid HBR1.out
  have HW2 := Lib.hid HW.out
  have HB8 := Lib.hid (show Blk (w2.alloc (.cells #[.bool false, .string ⟨#[]⟩] 50)) w2.heap.size 50 #[.bool (decide ((0 : Int) < 0)), .string (bstr (0 : Int).natAbs)] by
   have h := Blk.new w2 50 #[.bool false, .string ⟨#[]⟩]
   rw [show bstr (0 : Int).natAbs = ⟨#[]⟩ from bstr00]
   exact h)
  have HG8 := Lib.hid (Gr.new w2 (.cells #[.bool false, .string ⟨#[]⟩] 50))
  go_wp2_with fail
  go_loopw [9, 10, 11] (fun t _ _ wr => ∃ (i : Nat) (X : Int), t = .int .i64 i ∧ i ≤ n ∧ X = nrm (zs.take i) ∧ InR X ∧ Blk wr w2.heap.size 50 #[.bool (decide (X < 0)), .string (bstr X.natAbs)] ∧ Gr w2 wr) (fun t _ _ _ => n - (intOf t).toNat)
  case atStart => exact ⟨0, 0, rfl, by omega, rfl, by unfold InR Ow.R; simp, HB8.out, HG8.out⟩
  case round =>
   obtain ⟨i, X, rfl, hi, hX, hin, hb, hg⟩ := hrel
   have HX := Lib.hid hX
   have HINX := Lib.hid hin
   have HB := Lib.hid hb
   have HG := Lib.hid hg
   clear hX hin hb hg
   by_cases hlt : i < n
   ·have i1 : (i : Int) < (n : Int) := by omega
    have i0 : (0 : Int) ≤ (i : Int) := by omega
    have hil : i < zs.length := by rw [← HN.out]; exact hlt
    obtain ⟨g, rfl, c1, c2⟩ := (HW2.out.later HG.out).at_ hil
    have hz := HIN.out i hil
    have HT := Lib.hid (nrm_take hil)
    obtain ⟨z, hze⟩ : ∃ z, z = Op.cf zs i := ⟨_, rfl⟩
    rw [← hze] at c1 c2 hz HT
    have HZI := Lib.hid hz
    have hzz : InR (z.natAbs : Int) := by unfold InR at *; omega
    have HZZ := Lib.hid hzz
    clear hil hz hze hzz
    go_wp2_with fail
    refine (rwabs_any z _ HZI.out).mono ?_
    rintro e w3 ⟨rfl, hg3⟩
    have hg3' : Gr wr w3 := hg3
    have HB3 := Lib.hid (HB.out.gr hg3')
    have HG3 := Lib.hid (HG.out.trans hg3')
    clear hg3 hg3'
    obtain ⟨Z, hZ⟩ : ∃ Z : Int, Z = (z.natAbs : Int) := ⟨_, rfl⟩
    rw [← hZ] at HZZ HT
    rw [← hZ]
    clear hZ
    rw [show wv Z = .agg #[.bool (decide (Z < 0)), .string (bstr Z.natAbs)] from rfl]
    have hg4 := Gr.new w3 (.cells #[.bool (decide (Z < 0)), .string (bstr Z.natAbs)] 50)
    obtain ⟨b0, b1⟩ := (HB3.out.gr hg4).p2
    have HG4 := Lib.hid (HG3.out.trans hg4)
    have HB4 := Lib.hid (HB3.out.gr hg4)
    clear hg4
    go_wp2_with fail
    refine (rwmax_any X Z _ HINX.out HZZ.out).mono ?_
    rintro e w5 ⟨rfl, hg5⟩
    have HB5 := Lib.hid (HB4.out.gr hg5)
    have HG5 := Lib.hid (HG4.out.trans hg5)
    clear hg5 b0 b1
    obtain ⟨Y, hY⟩ : ∃ Y : Int, Y = (if X < Z then Z else X) := ⟨_, rfl⟩
    have HYR := Lib.hid (show InR Y by rw [hY]; split; exact HZZ.out; exact HINX.out)
    have HYT := Lib.hid (show Y = nrm (zs.take (i + 1)) by rw [HT.out, hY, ← HX.out])
    rw [← hY]
    clear hY
    rw [show wv Y = .agg #[.bool (decide (Y < 0)), .string (bstr Y.natAbs)] from rfl]
    obtain ⟨b0, b1⟩ := HB5.out.p2
    have f0 := HB5.out.frozen 0
    have f1 := HB5.out.frozen 1
    go_wp2_with fail
    go_roundw
    case rel => exact ⟨i + 1, Y, by go_num, by omega, HYT.out, HYR.out, (show Blk _ _ _ #[.bool (decide (Y < 0)), .string (bstr Y.natAbs)] from (HB5.out.set 0 (.bool (decide (Y < 0)))).set 1 (.string (bstr Y.natAbs))), (HG5.out.setCell (p := ⟨w2.heap.size, 0, none⟩) (Nat.le_refl _) _).setCell (p := ⟨w2.heap.size, 1, none⟩) (Nat.le_refl _) _⟩
    case measure => simp [intOf]; omega
   ·obtain rfl : i = n := by omega
    have i1 : ¬ (i : Int) < (i : Int) := by omega
    obtain ⟨b0, b1⟩ := HB.out.p2
    have HBR3 := Lib.hid (HBR2.out.gr HG.out)
    obtain ⟨r0, r1⟩ := HBR3.out.p2
    have f0 := HBR3.out.frozen 0
    have f1 := HBR3.out.frozen 1
    have HXX := Lib.hid (show X = nrm zs by rw [HX.out, HN.out, List.take_length])
    go_wp2_with fail
    have hr := (HBR3.out.set 0 (.bool (decide (X < 0)))).set 1 (.string (bstr X.natAbs))
    obtain ⟨e0, e1⟩ := (show Blk _ _ _ #[.bool (decide (X < 0)), .string (bstr X.natAbs)] from hr).p2
    refine bodyPost_ret (v := .tuple #[.agg #[.bool (decide (X < 0)), .string (bstr X.natAbs)], .int .i64 0]) (by simp only [Nat.add_assoc, Nat.reduceAdd]; simp [results, Tryz.results38, go_sem, e0, e1]) rfl ?_
    exact ⟨X, 0, rfl, ((HG2.out.trans HG.out).setCell (p := ⟨w.heap.size + 2, 0, none⟩) (by simp) _).setCell (p := ⟨w.heap.size + 2, 1, none⟩) (by simp) _, .inl ⟨HOK.out, rfl, zs, HZ.out, HXX.out⟩⟩
 ·have HNO := Lib.hid hno
  clear hno
  obtain ⟨r0, r1⟩ := HBR1.out.p2
  have f0 := HBR1.out.frozen 0
  have f1 := HBR1.out.frozen 1
  go_wp2_with fail
  have hr := (HBR1.out.set 0 (.bool false)).set 1 (.string ⟨#[]⟩)
  obtain ⟨e0, e1⟩ := (show Blk _ _ _ #[.bool false, .string ⟨#[]⟩] from hr).p2
  refine bodyPost_ret (v := .tuple #[.agg #[.bool false, .string ⟨#[]⟩], .int .i64 2]) (by simp only [Nat.add_assoc, Nat.reduceAdd]; simp [results, Tryz.results38, go_sem, e0, e1]) rfl ?_
  exact ⟨0, 2, by rw [wv_zero], (HG1.out.setCell (p := ⟨w.heap.size + 2, 0, none⟩) (by simp) _).setCell (p := ⟨w.heap.size + 2, 1, none⟩) (by simp) _, .inr ⟨HNO.out, rfl, rfl⟩⟩
end Go.Proofs.YtlfiakpmnkhcdaaGreat.Mo
namespace Go.Proofs.YtlfiakpmnkhcdaaGreat.Mo
open Go.RowKit Go.Shelf
set_option linter.unusedVariables false
set_option linter.unusedSimpArgs false
set_option maxRecDepth 100000 in
set_option maxHeartbeats 8000000 in
theorem wides9_all (N p1 p2 : Int) (uC : Value) (ch : List Int) (S p5 p6 lvA : Int) (spA : Bool) (uA : Value) (rA : List (List Int)) (lvB : Int) (spB : Bool) (uB : Value) (rB : List (List Int)) (n k lv : Int) (sp : Bool) (xL : Option Addr) (nL cL : Nat) (w : World) (hn : isW n) (hk : isW k) (hC : HasP w uC ch) (hS : 0 ≤ S ∧ S < 4294967296) (hA : HasR w uA rA) (hB : HasR w uB rB) :
  Calls Tryz.prog 5 #[.agg (csC N p1 p2 uC S p5 p6 lvA spA uA lvB spB uB n k lv sp (.slice xL nL cL))] w (Truth w) := by
 obtain ⟨xC, cC, rfl⟩ := hC.form
 obtain ⟨xA, cA, rfl⟩ := hA.form
 obtain ⟨xB, cB, rfl⟩ := hB.form
 generalize hnA : rA.length = nA at *
 generalize hnB : rB.length = nB at *
 generalize hnC : ch.length = nC at *
 obtain ⟨W0, hW0⟩ : ∃ W0, W0 = w.alloc (.cells (csC N p1 p2 (.slice xC nC cC) S p5 p6 lvA spA (.slice xA nA cA) lvB spB (.slice xB nB cB) n k lv sp (.slice xL nL cL)) 31) := ⟨_, rfl⟩
 have HG := Lib.hid (show Gr w W0 by rw [hW0]; exact Gr.new w _)
 have HX := Lib.hid (show Blk W0 w.heap.size 31 (csC N p1 p2 (.slice xC nC cC) S p5 p6 lvA spA (.slice xA nA cA) lvB spB (.slice xB nB cB) n k lv sp (.slice xL nL cL)) by rw [hW0]; exact Blk.new w _ _)
 have HA := Lib.hid (hA.later HG.out)
 have HB := Lib.hid (hB.later HG.out)
 have HC := Lib.hid (hC.later HG.out)
 have HS := Lib.hid hS
 have HK := Lib.hid hk
 have HN := Lib.hid hn
 have HNC := Lib.hid hnC
 have HNA := Lib.hid hnA
 have HNB := Lib.hid hnB
 have HLG := Lib.hid (large_any N p1 p2 xC nC cC S p5 p6 lvA spA (.slice xA nA cA) rA lvB spB (.slice xB nB cB) rB n k lv sp xL nL cL W0 HA.out HB.out)
 clear hn hk hA hB hC hS hnA hnB hnC
 unfold csC at *
 go_enter Tryz.func5, Tryz.ntmps5
 go_upto_region 1 with (fail)
 rw [← hW0]
 clear hW0
 refine wp_region_lit ?_
 refine wpList_loadCase rfl (.tmp 1) rfl w.heap.size rfl _ HX.out rfl ?_
 go_wp2_with fail
 refine HLG.out.mono ?_
 rintro e w1 ⟨b, rfl, hb, hg⟩
 have HL := Lib.hid hb
 replace HG := Lib.hid (HG.out.trans hg)
 replace HX := Lib.hid (HX.out.gr hg)
 replace HA := Lib.hid (HA.out.later hg)
 replace HB := Lib.hid (HB.out.later hg)
 replace HC := Lib.hid (HC.out.later hg)
 clear hb hg HLG
 cases b with
 | true =>
  go_wp2_with fail
  refine (awake9_any _).mono ?_
  rintro e wz ⟨rfl, hg2⟩
  replace HG := Lib.hid (HG.out.trans hg2)
  clear hg2
  go_wp2_with fail
  go_ret
  exact ⟨rfl, HG.out⟩
 | false =>
  have h3 : ch.length ≤ 1000 := by have := (HL.out (by first | rfl | trivial)).2.2.1; have := HNC.out; omega
  have SA := Lib.hid (HL.out (by first | rfl | trivial)).1
  have SB := Lib.hid (HL.out (by first | rfl | trivial)).2.1
  have SL := Lib.hid (HL.out (by first | rfl | trivial)).2.2.2
  have CL := Lib.hid (show ch.length ≤ 100 by have := (HL.out (by first | rfl | trivial)).2.2.1; have := HNC.out; omega)
  have H3 := Lib.hid h3
  clear h3 HL
  obtain ⟨⟨q0, q1, q2, q3, q4, q5, q6⟩, ⟨k0, k1, k2, k3, k4, k5⟩, j0, j1, j2, j3, j4⟩ := HX.out.p18
  clear HB
  go_wp2_with fail
  refine (lentN (lv := lvA) (sp := spA) HA.out SA.out.2 HNA.out).mono ?_
  rintro e v3 ⟨x3, c3, rfl, hr3, -, hg0⟩
  have hgn := Gr.new v3 (.cells #[.int .i64 lvA, .bool spA, .slice x3 nA c3] 28)
  have hgg := Gr.trans hg0 hgn
  clear q0 q1 q2 q3 q4 q5 q6 k0 k1 k2 k3 k4 k5 j0 j1 j2 j3 j4
  replace HG := Lib.hid (HG.out.trans hgg)
  replace HX := Lib.hid (HX.out.gr hgg)
  replace HA := Lib.hid (HA.out.later hgg)
  replace HC := Lib.hid (HC.out.later hgg)
  have HE3 := Lib.hid (Blk.new v3 28 #[.int .i64 lvA, .bool spA, .slice x3 nA c3])
  have HR3 := Lib.hid (hr3.hasR.later hgn)
  clear hr3 hg0 hgn hgg
  obtain ⟨⟨q0, q1, q2, q3, q4, q5, q6⟩, ⟨k0, k1, k2, k3, k4, k5⟩, j0, j1, j2, j3, j4⟩ := HX.out.p18
  obtain ⟨a3, b3, d3⟩ := HE3.out.p3
  go_wp2_with fail
  refine (wides_any N p1 p2 xC nC cC S p5 p6 lvA spA ch _ rA _ H3.out HC.out HS.out HR3.out).mono ?_
  intro e v5 hres
  obtain ⟨x5, n5, c5, zs5, cc5, rfl, hn, hg0, hw, ha⟩ := wdP_of hres
  have HZ5 := Lib.hid hw
  have HN5 := Lib.hid hn
  have HA5 := Lib.hid ha
  clear hres hw hn ha
  clear q0 q1 q2 q3 q4 q5 q6 k0 k1 k2 k3 k4 k5 j0 j1 j2 j3 j4 a3 b3 d3
  replace HG := Lib.hid (HG.out.trans hg0)
  replace HX := Lib.hid (HX.out.gr hg0)
  replace HE3 := Lib.hid (HE3.out.gr hg0)
  replace HA := Lib.hid (HA.out.later hg0)
  replace HC := Lib.hid (HC.out.later hg0)
  replace HR3 := Lib.hid (HR3.out.later hg0)
  clear hg0
  obtain ⟨⟨q0, q1, q2, q3, q4, q5, q6⟩, ⟨k0, k1, k2, k3, k4, k5⟩, j0, j1, j2, j3, j4⟩ := HX.out.p18
  obtain ⟨a3, b3, d3⟩ := HE3.out.p3
  go_wp2_with fail
  refine (norm_any N p1 p2 xC nC cC S p5 p6 lvA spA ch _ rA _ H3.out HC.out HS.out HR3.out).mono ?_
  intro e v7 hres
  obtain ⟨X7, cc7, rfl, hg0, ha⟩ := nmP_of hres
  have HA7 := Lib.hid ha
  clear hres ha
  rw [show wv X7 = .agg #[.bool (decide (X7 < 0)), .string (bstr X7.natAbs)] from rfl]
  have hgn := Gr.new v7 (.cells #[.bool (decide (X7 < 0)), .string (bstr X7.natAbs)] 50)
  have hgg := Gr.trans hg0 hgn
  clear q0 q1 q2 q3 q4 q5 q6 k0 k1 k2 k3 k4 k5 j0 j1 j2 j3 j4 a3 b3 d3
  replace HG := Lib.hid (HG.out.trans hgg)
  replace HX := Lib.hid (HX.out.gr hgg)
  replace HE3 := Lib.hid (HE3.out.gr hgg)
  replace HA := Lib.hid (HA.out.later hgg)
  replace HC := Lib.hid (HC.out.later hgg)
  replace HR3 := Lib.hid (HR3.out.later hgg)
  replace HZ5 := Lib.hid (HZ5.out.later hgg)
  have HW7 := Lib.hid (Blk.new v7 50 #[.bool (decide (X7 < 0)), .string (bstr X7.natAbs)])
  clear hg0 hgn hgg
  obtain ⟨⟨q0, q1, q2, q3, q4, q5, q6⟩, ⟨k0, k1, k2, k3, k4, k5⟩, j0, j1, j2, j3, j4⟩ := HX.out.p18
  obtain ⟨a3, b3, d3⟩ := HE3.out.p3
  obtain ⟨a7, b7⟩ := HW7.out.p2
  as_aux_lemma =>
   go_wp2_with fail
   refine (lsame_any lvA spA lvA spA rA rA (.slice x3 nA c3) (.slice xA nA cA) _ HR3.out HA.out (sm_up SA.out.2) (sm_up SA.out.2)).mono ?_
   rintro e v8 ⟨rfl, hg0⟩
   rw [decide_eq_true (show SameE lvA spA rA lvA spA rA from ⟨rfl, rfl, rfl⟩)]
   clear q0 q1 q2 q3 q4 q5 q6 k0 k1 k2 k3 k4 k5 j0 j1 j2 j3 j4 a3 b3 d3 a7 b7
   replace HG := Lib.hid (HG.out.trans hg0)
   replace HX := Lib.hid (HX.out.gr hg0)
   replace HE3 := Lib.hid (HE3.out.gr hg0)
   replace HW7 := Lib.hid (HW7.out.gr hg0)
   replace HA := Lib.hid (HA.out.later hg0)
   replace HC := Lib.hid (HC.out.later hg0)
   replace HR3 := Lib.hid (HR3.out.later hg0)
   replace HZ5 := Lib.hid (HZ5.out.later hg0)
   clear hg0
   obtain ⟨⟨q0, q1, q2, q3, q4, q5, q6⟩, ⟨k0, k1, k2, k3, k4, k5⟩, j0, j1, j2, j3, j4⟩ := HX.out.p18
   obtain ⟨a3, b3, d3⟩ := HE3.out.p3
   obtain ⟨a7, b7⟩ := HW7.out.p2
   clear HE3 a3 b3 d3
   clear HR3
   as_aux_lemma =>
    go_wp2_with fail
    refine (fWides_any N p1 p2 xC nC cC S p5 p6 lvA spA ch _ rA _ H3.out HC.out HS.out HA.out).mono ?_
    intro e v9 hres
    obtain ⟨x9, n9, c9, zs9, cc9, rfl, hn, hg0, hw, ha⟩ := wdP_of hres
    have HZ9 := Lib.hid hw
    have HN9 := Lib.hid hn
    have HA9 := Lib.hid ha
    clear hres hw hn ha
    clear q0 q1 q2 q3 q4 q5 q6 k0 k1 k2 k3 k4 k5 j0 j1 j2 j3 j4 a7 b7
    replace HG := Lib.hid (HG.out.trans hg0)
    replace HX := Lib.hid (HX.out.gr hg0)
    replace HW7 := Lib.hid (HW7.out.gr hg0)
    replace HA := Lib.hid (HA.out.later hg0)
    replace HC := Lib.hid (HC.out.later hg0)
    replace HZ5 := Lib.hid (HZ5.out.later hg0)
    clear hg0
    obtain ⟨⟨q0, q1, q2, q3, q4, q5, q6⟩, ⟨k0, k1, k2, k3, k4, k5⟩, j0, j1, j2, j3, j4⟩ := HX.out.p18
    obtain ⟨a7, b7⟩ := HW7.out.p2
    obtain ⟨hc9, hz9⟩ := HA9.out.unique HA5.out
    subst hc9
    subst hz9
    obtain rfl : n5 = n9 := by rw [HN9.out, HN5.out]
    clear HA9 HN9
    go_wp2_with fail
    refine (fNorm_any N p1 p2 xC nC cC S p5 p6 lvA spA ch _ rA _ H3.out HC.out HS.out HA.out).mono ?_
    intro e v11 hres
    obtain ⟨X11, cc11, rfl, hg0, ha⟩ := nmP_of hres
    have HA11 := Lib.hid ha
    clear hres ha
    obtain ⟨hc11, hz11⟩ := HA11.out.unique HA7.out
    subst hc11
    subst hz11
    clear HA11
    rw [show wv X7 = .agg #[.bool (decide (X7 < 0)), .string (bstr X7.natAbs)] from rfl]
    have hgn := Gr.new v11 (.cells #[.bool (decide (X7 < 0)), .string (bstr X7.natAbs)] 50)
    have hgg := Gr.trans hg0 hgn
    clear q0 q1 q2 q3 q4 q5 q6 k0 k1 k2 k3 k4 k5 j0 j1 j2 j3 j4 a7 b7
    replace HG := Lib.hid (HG.out.trans hgg)
    replace HX := Lib.hid (HX.out.gr hgg)
    replace HW7 := Lib.hid (HW7.out.gr hgg)
    replace HA := Lib.hid (HA.out.later hgg)
    replace HC := Lib.hid (HC.out.later hgg)
    replace HZ5 := Lib.hid (HZ5.out.later hgg)
    replace HZ9 := Lib.hid (HZ9.out.later hgg)
    have HW11 := Lib.hid (Blk.new v11 50 #[.bool (decide (X7 < 0)), .string (bstr X7.natAbs)])
    clear hg0 hgn hgg
    obtain ⟨⟨q0, q1, q2, q3, q4, q5, q6⟩, ⟨k0, k1, k2, k3, k4, k5⟩, j0, j1, j2, j3, j4⟩ := HX.out.p18
    obtain ⟨a7, b7⟩ := HW7.out.p2
    obtain ⟨a11, b11⟩ := HW11.out.p2
    as_aux_lemma =>
     clear HA HC
     have HLN := Lib.hid (show n5 ≤ 1000 by
      have h1 := HN5.out
      rcases HA5.out with ⟨h, -, hz⟩ | ⟨-, -, rfl⟩
      ·have h2 := hz.1
       have h3 := h.1.1.1
       unfold DimI at h3
       omega
      ·simp at h1; omega)
     have hln := HLN.out
     go_wp2_with fail
     clear q0 q1 q2 q3 q4 q5 q6 k0 k1 k2 k3 k4 k5 j0 j1 j2 j3 j4 a7 b7 a11 b11
     go_loopw [12] (fun t wr => ∃ i : Nat, t = .int .i64 i ∧ i ≤ n5 ∧ Gr w wr ∧ HasW wr (.slice x5 n5 c5) zs5 ∧ HasW wr (.slice x9 n5 c9) zs5) (fun t _ => n5 - (intOf t).toNat)
     case atStart => exact ⟨0, rfl, by omega, HG.out, HZ5.out, HZ9.out⟩
     case round =>
      obtain ⟨i, rfl, hi, hg, hz5, hz9⟩ := hrel
      replace HG := Lib.hid hg
      replace HZ5 := Lib.hid hz5
      replace HZ9 := Lib.hid hz9
      clear hg hz5 hz9
      by_cases hlt : i < n5
      ·have i1 : (i : Int) < (n5 : Int) := by omega
       have i0 : (0 : Int) ≤ (i : Int) := by omega
       have hil : i < zs5.length := by have := HN5.out; omega
       obtain ⟨g, rfl, c1, c2⟩ := HZ5.out.at_ hil
       obtain ⟨g', rfl, d1, d2⟩ := HZ9.out.at_ hil
       clear hil
       go_wp2_with fail
       go_region
       all_goals go_wp2_with fail
       all_goals exact ⟨⟨i + 1, by go_num, by omega, Below.drew HG.out, HZ5.out.later (Below.drew (Gr.refl _)), HZ9.out.later (Below.drew (Gr.refl _))⟩, by simp [intOf]; omega⟩
      ·obtain rfl : i = n5 := by omega
       have i1 : ¬ (i : Int) < (i : Int) := by omega
       go_wp2_with fail
       refine (awake9_any _).mono ?_
       rintro e wz ⟨rfl, hg2⟩
       replace HG := Lib.hid (HG.out.trans hg2)
       clear hg2
       go_wp2_with fail
       go_ret
       exact ⟨rfl, HG.out⟩
end Go.Proofs.YtlfiakpmnkhcdaaGreat.Mo
