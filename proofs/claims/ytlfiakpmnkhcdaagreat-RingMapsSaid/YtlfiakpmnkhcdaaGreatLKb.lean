import Derived.Test.YtlfiakpmnkhcdaaGreatLJs
/- The reference's product of rows, pure. -/
namespace Oj
open Op Oq
set_option linter.unusedVariables false

end Oj
namespace Go.Proofs.YtlfiakpmnkhcdaaGreat.Mo
open Go.RowKit Go.Shelf
set_option linter.unusedVariables false

end Go.Proofs.YtlfiakpmnkhcdaaGreat.Mo
/- The law's Case in memory; large; results that are elements again. -/
namespace Go.Proofs.YtlfiakpmnkhcdaaGreat.Mo
open Go.RowKit Go.Shelf
set_option linter.unusedVariables false

/-- The cells of a Case. -/
def csC (N p1 p2 : Int) (uC : Value) (S p5 p6 lvA : Int) (spA : Bool) (uA : Value) (lvB : Int) (spB : Bool) (uB : Value) (n k lv : Int) (sp : Bool) (uL : Value) : Array Value := #[.int .i64 N, .int .u32 p1, .int .i64 p2, uC, .int .u32 S, .int .i64 p5, .int .u32 p6, .int .i64 lvA, .bool spA, uA, .int .i64 lvB, .bool spB, uB, .int .i64 n, .int .i64 k, .int .i64 lv, .bool sp, uL]
theorem Blk.p18 {W : World} {b : Nat} {t : TypeId} {a0 a1 a2 a3 a4 a5 a6 a7 a8 a9 a10 a11 a12 a13 a14 a15 a16 a17 : Value} (h : Blk W b t #[a0, a1, a2, a3, a4, a5, a6, a7, a8, a9, a10, a11, a12, a13, a14, a15, a16, a17]) :
    (W.cell? ⟨b, 0, none⟩ = some a0 ∧ W.cell? ⟨b, 1, none⟩ = some a1 ∧ W.cell? ⟨b, 2, none⟩ = some a2 ∧ W.cell? ⟨b, 3, none⟩ = some a3 ∧ W.cell? ⟨b, 4, none⟩ = some a4 ∧ W.cell? ⟨b, 5, none⟩ = some a5 ∧ W.cell? ⟨b, 6, none⟩ = some a6) ∧
    (W.cell? ⟨b, 7, none⟩ = some a7 ∧ W.cell? ⟨b, 8, none⟩ = some a8 ∧ W.cell? ⟨b, 9, none⟩ = some a9 ∧ W.cell? ⟨b, 10, none⟩ = some a10 ∧ W.cell? ⟨b, 11, none⟩ = some a11 ∧ W.cell? ⟨b, 12, none⟩ = some a12) ∧
    (W.cell? ⟨b, 13, none⟩ = some a13 ∧ W.cell? ⟨b, 14, none⟩ = some a14 ∧ W.cell? ⟨b, 15, none⟩ = some a15 ∧ W.cell? ⟨b, 16, none⟩ = some a16 ∧ W.cell? ⟨b, 17, none⟩ = some a17) :=
  ⟨⟨h.cell 0, h.cell 1, h.cell 2, h.cell 3, h.cell 4, h.cell 5, h.cell 6⟩, ⟨h.cell 7, h.cell 8, h.cell 9, h.cell 10, h.cell 11, h.cell 12⟩, h.cell 13, h.cell 14, h.cell 15, h.cell 16, h.cell 17⟩
def LargeP (rA rB : List (List Int)) (nC nL : Nat) (w : World) (e : Ending) (w' : World) : Prop := ∃ b, e = .returned (.bool b) ∧ (b = false → (rA.length ≤ 60 ∧ Sm 100 rA) ∧ (rB.length ≤ 60 ∧ Sm 100 rB) ∧ nC ≤ 100 ∧ nL ≤ 100) ∧ Gr w w'

set_option maxRecDepth 100000 in
set_option maxHeartbeats 4000000 in
theorem large_any (N p1 p2 : Int) (xC : Option Addr) (nC cC : Nat) (S p5 p6 lvA : Int) (spA : Bool) (uA : Value) (rA : List (List Int)) (lvB : Int) (spB : Bool) (uB : Value) (rB : List (List Int)) (n k lv : Int) (sp : Bool) (xL : Option Addr) (nL cL : Nat) (w : World) (hA : HasR w uA rA) (hB : HasR w uB rB) :
    Calls Tryz.prog 11 #[.agg (csC N p1 p2 (.slice xC nC cC) S p5 p6 lvA spA uA lvB spB uB n k lv sp (.slice xL nL cL))] w (LargeP rA rB nC nL w) := by
  obtain ⟨xA, cA, rfl⟩ := hA.form
  obtain ⟨xB, cB, rfl⟩ := hB.form
  generalize hnA : rA.length = nA at *
  generalize hnB : rB.length = nB at *
  obtain ⟨W0, hW0⟩ : ∃ W0, W0 = w.alloc (.cells (csC N p1 p2 (.slice xC nC cC) S p5 p6 lvA spA (.slice xA nA cA) lvB spB (.slice xB nB cB) n k lv sp (.slice xL nL cL)) 31) := ⟨_, rfl⟩
  have HG0 := Lib.hid (show Gr w W0 by rw [hW0]; exact Gr.new w _)
  have HB0 := Lib.hid (show Blk W0 w.heap.size 31 (csC N p1 p2 (.slice xC nC cC) S p5 p6 lvA spA (.slice xA nA cA) lvB spB (.slice xB nB cB) n k lv sp (.slice xL nL cL)) by rw [hW0]; exact Blk.new w _ _)
  have HA := Lib.hid hA
  have HB := Lib.hid hB
  have HNA := Lib.hid hnA
  have HNB := Lib.hid hnB
  clear hA hB hnA hnB
  unfold csC at *
  go_enter Tryz.func11, Tryz.ntmps11
  go_wp2_with fail
  rw [← hW0]
  clear hW0
  refine (huge_any lvA spA rA _ _ (HA.out.later HG0.out)).mono ?_
  rintro e w1 ⟨b1, rfl, h1, hg1⟩
  have HG1 := Lib.hid (HG0.out.trans hg1)
  have HB1 := Lib.hid (HB0.out.gr hg1)
  have H1 := Lib.hid h1
  obtain ⟨⟨q0, q1, q2, q3, q4, q5, q6⟩, ⟨k0, k1, k2, k3, k4, k5⟩, j0, j1, j2, j3, j4⟩ := HB1.out.p18
  clear h1 hg1
  cases b1 with
  | true =>
    go_wp2_with fail
    go_ret
    exact ⟨true, rfl, (fun h => by cases h), HG1.out⟩
  | false =>
    go_wp2_with fail
    refine (huge_any lvB spB rB _ _ (HB.out.later HG1.out)).mono ?_
    rintro e w2 ⟨b2, rfl, h2, hg2⟩
    have HG2 := Lib.hid (HG1.out.trans hg2)
    have HB2 := Lib.hid (HB1.out.gr hg2)
    have H2 := Lib.hid h2
    clear q0 q1 q2 q3 q4 q5 q6 k0 k1 k2 k3 k4 k5 j0 j1 j2 j3 j4
    obtain ⟨⟨q0, q1, q2, q3, q4, q5, q6⟩, ⟨k0, k1, k2, k3, k4, k5⟩, j0, j1, j2, j3, j4⟩ := HB2.out.p18
    clear h2 hg2
    cases b2 with
    | true =>
      go_wp2_with fail
      go_ret
      exact ⟨true, rfl, (fun h => by cases h), HG2.out⟩
    | false =>
      by_cases c1 : 100 < nC
      · have t1 : decide ((nC : Int) > 100) = true := by simp; omega
        have t1' : decide (100 < (nC : Int)) = true := by simp; omega
        go_wp2_with fail
        go_ret
        exact ⟨true, rfl, (fun h => by cases h), HG2.out⟩
      · have t1 : decide ((nC : Int) > 100) = false := by simp; omega
        have t1' : decide (100 < (nC : Int)) = false := by simp; omega
        by_cases c2 : 100 < nL
        · have t2 : decide ((nL : Int) > 100) = true := by simp; omega
          have t2' : decide (100 < (nL : Int)) = true := by simp; omega
          go_wp2_with fail
          go_ret
          exact ⟨true, rfl, (fun h => by cases h), HG2.out⟩
        · have t2 : decide ((nL : Int) > 100) = false := by simp; omega
          have t2' : decide (100 < (nL : Int)) = false := by simp; omega
          go_wp2_with fail
          go_ret
          exact ⟨false, rfl, (fun _ => ⟨H1.out (by first | rfl | trivial), H2.out (by first | rfl | trivial), by omega, by omega⟩), HG2.out⟩

/-- Rows of residues are rows of an element. -/
theorem rws_ok {n : Nat} {N m : Int} (hN : N = n) {l : List Int} (h : Oj.Rws n m l) : RowOK N m l := by
  refine ⟨by rw [h.1, hN], decide_eq_true fun i hi => (h.2 i (by rw [← h.1]; exact hi)).2⟩
theorem ev_rwA {N : Int} {ch : List Int} {S lv : Int} {sp : Bool} {rA : List (List Int)} {F : Nat → Int → List Int} (h : EV N ch S lv sp rA) (hF : ∀ i, i < (Oj.mods ch S lv.toNat sp).length → RowOK N (Op.cf (Oj.mods ch S lv.toNat sp) i) (F i (Op.cf (Oj.mods ch S lv.toNat sp) i))) : EV N ch S lv sp (rwA (Oj.mods ch S lv.toNat sp) F) :=
  ⟨h.1, by rw [rwA_len], fun i hi => by rw [rwA_at _ _ hi]; exact hF i hi⟩
theorem vp_dim {N : Int} {ch : List Int} {S : Int} (h : VP N ch S) : ∃ n : Nat, N = n ∧ 4 ≤ n ∧ n ≤ 32 := by
  have hN := h.1
  unfold DimI at hN
  obtain ⟨n, rfl⟩ := Int.eq_ofNat_of_zero_le (show 0 ≤ N by omega)
  exact ⟨n, rfl, by omega, by omega⟩
end Go.Proofs.YtlfiakpmnkhcdaaGreat.Mo
/- The reference of layer 9: Moduli, place, residue, Valid, Check. -/
namespace Go.Proofs.YtlfiakpmnkhcdaaGreat.Mo
open Go.RowKit Go.Shelf
set_option linter.unusedVariables false

set_option maxRecDepth 100000 in
set_option maxHeartbeats 1000000 in
theorem fPlace_any (N p1 p2 : Int) (xC : Option Addr) (nC cC : Nat) (S p5 p6 : Int) (lv : Int) (sp : Bool) (ch : List Int) (hl : nC = ch.length) (w : World) :
    Calls Tryz.prog 60 #[.agg #[.int .i64 N, .int .u32 p1, .int .i64 p2, .slice xC nC cC, .int .u32 S, .int .i64 p5, .int .u32 p6], .int .i64 lv, .bool sp] w (fun e w' => e = .returned (.bool (decide (EX ch S lv sp))) ∧ Gr w w') := by
  have HD := Lib.hid (show ∀ b : Bool, (b = true ↔ EX ch S lv sp) → decide (EX ch S lv sp) = b from fun b hb => by
    cases b with
    | false => exact decide_eq_false fun h => by have := hb.2 h; cases this
    | true => exact decide_eq_true (hb.1 rfl))
  have HE := Lib.hid (show EX ch S lv sp ↔ 1 ≤ lv ∧ lv ≤ nC ∧ (sp = true → S ≠ 0) by rw [hl]; exact Iff.rfl)
  have HG := Lib.hid (Gr.new w (.cells #[.int .i64 N, .int .u32 p1, .int .i64 p2, .slice xC nC cC, .int .u32 S, .int .i64 p5, .int .u32 p6] 25))
  clear hl
  by_cases h1 : lv ≥ 1
  · have t1 : decide (lv ≥ 1) = true := by simpa using h1
    have t1' : decide (1 ≤ lv) = true := by simpa using h1
    by_cases h2 : lv ≤ (nC : Int)
    · have t2 : decide (lv ≤ (nC : Int)) = true := by simpa using h2
      cases sp with
      | false =>
        go_enter Tryz.func60, Tryz.ntmps60
        go_wp2_with fail
        go_ret
        exact ⟨by rw [HD.out true (by rw [HE.out]; simp; omega)]; rfl, HG.out⟩
      | true =>
        by_cases h3 : S = 0
        · subst h3
          go_enter Tryz.func60, Tryz.ntmps60
          go_wp2_with fail
          go_ret
          exact ⟨by rw [HD.out false (by rw [HE.out]; simp)]; rfl, HG.out⟩
        · have t3 : (S != 0) = true := by simpa using h3
          go_enter Tryz.func60, Tryz.ntmps60
          go_wp2_with fail
          go_ret
          exact ⟨by rw [HD.out true (by rw [HE.out]; simp; omega)]; rfl, HG.out⟩
    · have t2 : decide (lv ≤ (nC : Int)) = false := by simpa using h2
      go_enter Tryz.func60, Tryz.ntmps60
      go_wp2_with fail
      go_ret
      exact ⟨by rw [HD.out false (by rw [HE.out]; simp; omega)]; rfl, HG.out⟩
  · have t1 : decide (lv ≥ 1) = false := by simpa using h1
    have t1' : decide (1 ≤ lv) = false := by simpa using h1
    go_enter Tryz.func60, Tryz.ntmps60
    go_wp2_with fail
    go_ret
    exact ⟨by rw [HD.out false (by rw [HE.out]; simp; omega)]; rfl, HG.out⟩

set_option maxRecDepth 100000 in
set_option maxHeartbeats 1000000 in
theorem fModuli_any (N p1 p2 : Int) (xC : Option Addr) (nC cC : Nat) (S p5 p6 : Int) (lv : Nat) (sp : Bool) (ch : List Int) (w : World) (hl : lv ≤ ch.length) (h3 : ch.length ≤ 1000) (hC : HasP w (.slice xC nC cC) ch) (hS : 0 ≤ S ∧ S < 4294967296) :
    Calls Tryz.prog 61 #[.agg #[.int .i64 N, .int .u32 p1, .int .i64 p2, .slice xC nC cC, .int .u32 S, .int .i64 p5, .int .u32 p6], .int .i64 lv, .bool sp] w (NewP (Oj.mods ch S lv sp) w) := by
  obtain ⟨W0, hW0⟩ : ∃ W0, W0 = w.alloc (.cells #[.int .i64 N, .int .u32 p1, .int .i64 p2, .slice xC nC cC, .int .u32 S, .int .i64 p5, .int .u32 p6] 25) := ⟨_, rfl⟩
  have HG0 := Lib.hid (show Gr w W0 by rw [hW0]; exact Gr.new w _)
  have HBP := Lib.hid (show Blk W0 w.heap.size 25 #[.int .i64 N, .int .u32 p1, .int .i64 p2, .slice xC nC cC, .int .u32 S, .int .i64 p5, .int .u32 p6] by rw [hW0]; exact Blk.new w _ _)
  have HSZ := Lib.hid (show w.heap.size ≤ W0.heap.size by rw [hW0]; simp)
  have HT := Lib.hid ((hC.later HG0.out).take hl)
  have HTL := Lib.hid (show (ch.take lv).length = lv by rw [List.length_take]; omega)
  have HLN := Lib.hid (show ([] : List Int).length + (ch.take lv).length ≤ 1000000 by rw [HTL.out]; simp; omega)
  have HLM := Lib.hid (show (ch.take lv).length + ([S] : List Int).length ≤ 1000000 by rw [HTL.out]; simp; omega)
  have HS := Lib.hid hS
  have hcc : (lv : Int) ≤ (cC : Int) := by have := hC.len; omega
  have hc0 : (0 : Int) ≤ (lv : Int) := by omega
  obtain ⟨q0, q1, q2, q3, q4, q5, q6⟩ := HBP.out.p7
  clear hC hS hl h3
  cases sp with
  | false =>
    go_enter Tryz.func61, Tryz.ntmps61
    go_upto_region 1 with (fail)
    rw [← hW0]
    clear hW0
    go_wp2_with (at_builtin; refine wpList_app rfl (.tmp 8) (.tmp 12) rfl rfl w.heap.size (.slice none 0 0) [] rfl (Own1.nil _ _) (.slice xC lv cC) (ch.take lv) rfl HT.out HLN.out HSZ.out ?_; intro v' w2 hown hgrow; rw [List.nil_append] at hown; have HO := Lib.hid hown; have HG := Lib.hid (show Gr W0 w2 from grown_own (Gr.refl _) (Own1.nil _ W0.heap.size) hgrow (Nat.le_refl _)); clear hown hgrow)
    go_ret
    obtain ⟨a, c, rfl, -, -⟩ := HO.out.form
    refine ⟨_, _, _, rfl, ?_, HO.out.fresh rfl, HG0.out.trans HG.out⟩
    have := HO.out.hasP
    rw [show Oj.mods ch S lv false = ch.take lv by simp [Oj.mods]]
    exact this
  | true =>
    go_enter Tryz.func61, Tryz.ntmps61
    go_upto_region 1 with (fail)
    rw [← hW0]
    clear hW0
    go_wp2_with (first
      | (at_builtin; refine wpList_app rfl (.tmp 8) (.tmp 12) rfl rfl w.heap.size (.slice none 0 0) [] rfl (Own1.nil _ _) (.slice xC lv cC) (ch.take lv) rfl HT.out HLN.out HSZ.out ?_; intro v' w2 hown hgrow; rw [List.nil_append] at hown; have HO := Lib.hid hown; have HG := Lib.hid (show Gr W0 w2 from grown_own (Gr.refl _) (Own1.nil _ W0.heap.size) hgrow (Nat.le_refl _)); have q4 := HG.out.keeps q4; clear hown hgrow)
      | (at_builtin; refine wpList_app rfl (.tmp 15) (.tmp 18) rfl rfl w.heap.size v' (ch.take lv) rfl (HO.out.alloc _) (.slice (some ⟨w2.heap.size, 0, none⟩) 1 1) [S] rfl (one_hasP' _ _ _ rfl HS.out) HLM.out (Nat.le_trans (HG0.out.trans HG.out).size (Nat.le_of_lt (by simp))) ?_; intro v3 w3 hown hgrow; have HO3 := Lib.hid hown; have HG3 := Lib.hid (show Gr w w3 from grown_own ((HG0.out.trans HG.out).alloc _) (HO.out.alloc _) hgrow (Nat.le_refl _)); clear hown hgrow))
    go_ret
    obtain ⟨a, c, rfl, -, -⟩ := HO3.out.form
    exact ⟨_, _, _, rfl, HO3.out.hasP, HO3.out.fresh rfl, HG3.out⟩

set_option maxRecDepth 100000 in
set_option maxHeartbeats 1000000 in
theorem fResidue_any (x m : Int) (w : World) (hm : okM' m) (hx : isW x) :
    Calls Tryz.prog 62 #[.int .i64 x, .int .u32 m] w (fun e w' => e = .returned (.int .u64 (x % m)) ∧ w = w') := by
  obtain ⟨m1, m2⟩ := hm
  obtain ⟨x1, x2⟩ := hx
  have h1 : x.tmod m < m := Int.tmod_lt_of_pos _ (by omega)
  have h2 : - m < x.tmod m := by have := Int.lt_tmod_of_pos x (b := m) (by omega); omega
  by_cases h0 : x.tmod m < 0
  · have HE := Lib.hid (emod_neg_case x m h0 h2)
    go_enter Tryz.func62, Tryz.ntmps62
    go_wp2_with fail
    go_ret
    exact ⟨by rw [HE.out]; rfl, rfl⟩
  · have HE := Lib.hid (emod_pos_case x m h0 h1)
    go_enter Tryz.func62, Tryz.ntmps62
    go_wp2_with fail
    go_ret
    exact ⟨by rw [HE.out]; rfl, rfl⟩

set_option maxRecDepth 100000 in
set_option maxHeartbeats 4000000 in
theorem fValid_any (N p1 p2 : Int) (xC : Option Addr) (nC cC : Nat) (S p5 p6 : Int) (ch : List Int) (w : World) (hC : HasP w (.slice xC nC cC) ch) (hS : 0 ≤ S ∧ S < 4294967296) :
    Calls Tryz.prog 59 #[.agg #[.int .i64 N, .int .u32 p1, .int .i64 p2, .slice xC nC cC, .int .u32 S, .int .i64 p5, .int .u32 p6]] w (fun e w' => e = .returned (.bool (decide (VP N ch S))) ∧ Gr w w') := by
  have HC := Lib.hid hC
  have HS := Lib.hid hS
  have HNC := Lib.hid hC.len.1
  have HCC := Lib.hid hC.len.2
  have HD := Lib.hid (show ∀ b : Bool, (b = true ↔ VP N ch S) → decide (VP N ch S) = b from fun b hb => by
    cases b with
    | false => exact decide_eq_false fun h => by have := hb.2 h; cases this
    | true => exact decide_eq_true (hb.1 rfl))
  obtain ⟨W0, hW0⟩ : ∃ W0, W0 = w.alloc (.cells #[.int .i64 N, .int .u32 p1, .int .i64 p2, .slice xC nC cC, .int .u32 S, .int .i64 p5, .int .u32 p6] 25) := ⟨_, rfl⟩
  have HG0 := Lib.hid (show Gr w W0 by rw [hW0]; exact Gr.new w _)
  have HBP := Lib.hid (show Blk W0 w.heap.size 25 #[.int .i64 N, .int .u32 p1, .int .i64 p2, .slice xC nC cC, .int .u32 S, .int .i64 p5, .int .u32 p6] by rw [hW0]; exact Blk.new w _ _)
  have HSZ := Lib.hid (show w.heap.size ≤ W0.heap.size by rw [hW0]; simp)
  obtain ⟨q0, q1, q2, q3, q4, q5, q6⟩ := HBP.out.p7
  clear hC hS
  go_enter Tryz.func59, Tryz.ntmps59
  go_upto_region 1 with (fail)
  rw [← hW0]
  clear hW0
  go_cut [23] (fun t wx => t = .bool (!decide (DimI N)) ∧ wx = W0)
  case first =>
    by_cases h4 : N = 4
    · subst h4; go_wp2_with fail; go_meet; exact ⟨rfl, rfl⟩
    by_cases h8 : N = 8
    · subst h8; go_wp2_with fail; go_meet; exact ⟨rfl, rfl⟩
    by_cases h16 : N = 16
    · subst h16; go_wp2_with fail; go_meet; exact ⟨rfl, rfl⟩
    by_cases h32 : N = 32
    · subst h32; go_wp2_with fail; go_meet; exact ⟨rfl, rfl⟩
    have HX := Lib.hid (show decide (DimI N) = false from decide_eq_false (by unfold DimI; omega))
    have a1 : (N != 4) = true := by simpa using h4
    have a2 : (N != 8) = true := by simpa using h8
    have a3 : (N != 16) = true := by simpa using h16
    have a4 : (N != 32) = true := by simpa using h32
    clear h4 h8 h16 h32
    go_wp2_with fail
    go_meet
    exact ⟨by rw [HX.out]; rfl, rfl⟩
  case rest =>
    obtain ⟨rfl, rfl⟩ := hcut
    by_cases hN : DimI N
    · have HN := Lib.hid hN
      rw [decide_eq_true hN]
      clear hN
      by_cases hl1 : (nC : Int) < 1
      · have t1 : decide ((nC : Int) < 1) = true := by simpa using hl1
        go_wp2_with fail
        go_ret
        exact ⟨by rw [HD.out false (by simp [VP]; intro _ h; have := HNC.out; omega)]; rfl, HG0.out⟩
      by_cases hl2 : (nC : Int) > 24
      · have t1 : decide ((nC : Int) < 1) = false := by simpa using hl1
        have t2 : decide ((nC : Int) > 24) = true := by simpa using hl2
        have t2' : decide (24 < (nC : Int)) = true := by simpa using hl2
        go_wp2_with fail
        go_ret
        exact ⟨by rw [HD.out false (by simp [VP]; intro _ _ h; have := HNC.out; omega)]; rfl, HG0.out⟩
      have t1 : decide ((nC : Int) < 1) = false := by simpa using hl1
      have t2 : decide ((nC : Int) > 24) = false := by simpa using hl2
      have t2' : decide (24 < (nC : Int)) = false := by simpa using hl2
      have h1 : 1 ≤ nC := by omega
      have h2 : nC ≤ 24 := by omega
      have HLN := Lib.hid (show ([] : List Int).length + ch.length ≤ 1000000 by have := HNC.out; simp; omega)
      have HLM := Lib.hid (show ch.length + ([S] : List Int).length ≤ 1000000 by have := HNC.out; simp; omega)
      have HALL := Lib.hid (show allM ch S = if S = 0 then ch else ch ++ [S] by
        unfold allM Oj.mods
        rw [List.take_length]
        by_cases h : S = 0
        · subst h; simp
        · rw [if_neg h, if_pos (by simpa using h)])
      clear hl1 hl2
      go_upto_region 6 with (fail)
      clear t1 t2 t2'
      go_upto_if 40 with (at_builtin; refine wpList_app rfl (.tmp 34) (.tmp 36) rfl rfl w.heap.size (.slice none 0 0) [] rfl (Own1.nil _ _) (.slice xC nC cC) ch rfl (HC.out.later HG0.out) HLN.out HSZ.out ?_; intro v' w2 hown hgrow; rw [List.nil_append] at hown; have HO := Lib.hid hown; have HG := Lib.hid (show Gr _ w2 from grown_own (Gr.refl _) (Own1.nil _ _) hgrow (Nat.le_refl _)); have q4 := HG.out.keeps q4; clear hown hgrow)
      go_cut [3] (fun t wx => ∃ n7 va vc, t = .slice va n7 vc ∧ n7 = (allM ch S).length ∧ Own1 wx w.heap.size (.slice va n7 vc) (allM ch S) ∧ Gr w wx)
      case first =>
        obtain ⟨va, vc, hve, -, -⟩ := HO.out.form
        subst hve
        by_cases hS0 : S = 0
        · have hz : (S != 0) = false := by simpa using hS0
          have HE := Lib.hid (show allM ch S = ch by rw [HALL.out, if_pos hS0])
          clear hS0
          go_wp2_with fail
          go_meet
          exact ⟨_, va, vc, rfl, by rw [HE.out], by rw [HE.out]; exact HO.out, HG0.out.trans HG.out⟩
        · have hz : (S != 0) = true := by simpa using hS0
          have HE := Lib.hid (show allM ch S = ch ++ [S] by rw [HALL.out, if_neg hS0])
          clear hS0
          go_wp2_with (at_builtin; refine wpList_app rfl (.tmp 41) (.tmp 44) rfl rfl w.heap.size (.slice va ch.length vc) ch rfl (HO.out.alloc _) (.slice (some ⟨w2.heap.size, 0, none⟩) 1 1) [S] rfl (one_hasP' _ _ _ rfl HS.out) HLM.out (Nat.le_trans (HG0.out.trans HG.out).size (Nat.le_of_lt (by simp))) ?_; intro v3 w3 hown hgrow; have HO3 := Lib.hid hown; have HG3 := Lib.hid (show Gr w w3 from grown_own ((HG0.out.trans HG.out).alloc _) (HO.out.alloc _) hgrow (Nat.le_refl _)); clear hown hgrow)
          obtain ⟨va3, vc3, hve, -, -⟩ := HO3.out.form
          subst hve
          go_meet
          exact ⟨_, va3, vc3, rfl, by rw [HE.out], by rw [HE.out]; exact HO3.out, HG3.out⟩
      case rest =>
        obtain ⟨n7, va, vc, rfl, hn7, hown, hg⟩ := hcut
        obtain ⟨M, hM⟩ : ∃ M, M = allM ch S := ⟨_, rfl⟩
        have HME := Lib.hid hM
        have h25 : n7 ≤ 25 := by
          have h5 := Oj.mods_len (S := S) (lv := ch.length) (sp := S != 0) (Nat.le_refl _)
          have h6 : (allM ch S).length = (Oj.mods ch S ch.length (S != 0)).length := rfl
          have h7 := HNC.out
          have h8 : (if (S != 0) = true then 1 else 0) ≤ 1 := by split <;> omega
          omega
        rw [← hM] at hn7 hown
        have HL7 := Lib.hid hn7
        have HP := Lib.hid hown.hasP
        have HG7 := Lib.hid hg
        clear hn7 hown hg hM
        obtain ⟨w7, hw7⟩ : ∃ W : World, W = wc := ⟨_, rfl⟩
        subst hw7
        go_wp2_with fail
        go_loopw [4, 5] (fun t _ wr => ∃ k : Nat, t = .int .i64 k ∧ k ≤ n7 ∧ (∀ j, j < k → MOK M j) ∧ Gr w7 wr) (fun t _ _ => n7 - (intOf t).toNat)
        case atStart => exact ⟨0, rfl, by omega, fun j hj => by omega, Gr.refl _⟩
        case round =>
          obtain ⟨k, rfl, hk, hok, hg⟩ := hrel
          have HOK := Lib.hid hok
          have HGL := Lib.hid hg
          have HGW := Lib.hid (HG7.out.trans hg)
          clear hok hg
          by_cases hlt : k < n7
          · have i1 : (k : Int) < (n7 : Int) := by omega
            have i0 : (0 : Int) ≤ (k : Int) := by omega
            obtain ⟨gx, ox, rfl, hcx⟩ := (HP.out.later HGL.out).at_ (i := k) (by rw [← HL7.out]; exact hlt)
            obtain ⟨x0, x1⟩ := HP.out.1.at_ k
            obtain ⟨x, hx⟩ : ∃ x, x = Op.cf M k := ⟨_, rfl⟩
            rw [← hx] at hcx x0 x1
            have HX := Lib.hid hx
            have HBAD := Lib.hid (show ¬ MOK M k → decide (VP N ch S) = false from fun h => decide_eq_false fun hv => h (by
              rw [HME.out]; exact hv.2.2.2 k (by rw [← HME.out, ← HL7.out]; exact hlt)))
            clear hx
            by_cases a1 : x < 3
            · have s1 : decide (x < 3) = true := by simpa using a1
              go_wp2_with fail
              go_ret
              exact ⟨by rw [HBAD.out (fun h => by have := h.1; have := HX.out; omega)]; rfl, HGW.out⟩
            have s1 : decide (x < 3) = false := by simpa using a1
            by_cases a2 : x > 2147483647
            · have s2 : decide (x > 2147483647) = true := by simpa using a2
              have s2' : decide (2147483647 < x) = true := by simpa using a2
              go_wp2_with fail
              go_ret
              exact ⟨by rw [HBAD.out (fun h => by have := h.2.1; have := HX.out; omega)]; rfl, HGW.out⟩
            have s2 : decide (x > 2147483647) = false := by simpa using a2
            have s2' : decide (2147483647 < x) = false := by simpa using a2
            by_cases a3 : x % 2 = 0
            · have s3 : (x % 2 == 0) = true := by simpa using a3
              go_wp2_with fail
              go_ret
              exact ⟨by rw [HBAD.out (fun h => by have := h.2.2.1; have := HX.out; subst this; omega)]; rfl, HGW.out⟩
            have s3 : (x % 2 == 0) = false := by simpa using a3
            obtain ⟨wo, rfl⟩ : ∃ wo : World, wo = wr := ⟨_, rfl⟩
            have HA1 := Lib.hid a1
            have HA2 := Lib.hid a2
            have HA3 := Lib.hid a3
            clear a1 a2 a3
            go_wp2_with fail
            clear s1 s2 s2' s3
            go_loopw [5] (fun t wi => ∃ j : Nat, t = .int .i64 j ∧ j ≤ k ∧ (∀ q, q < j → Op.cf M q ≠ x) ∧ Gr wo wi) (fun t _ => k - (intOf t).toNat)
            case atStart => exact ⟨0, rfl, by omega, fun q hq => by omega, Gr.refl _⟩
            case round =>
              obtain ⟨j, rfl, hj, hno, hg⟩ := hrel
              have HNO := Lib.hid hno
              have HGI := Lib.hid hg
              have hcx := hg.keeps hcx
              clear hno hg
              by_cases hjk : j < k
              · have i2 : (j : Int) < (k : Int) := by omega
                have i3 : (0 : Int) ≤ (j : Int) := by omega
                have i4 : (j : Int) < (n7 : Int) := by omega
                obtain ⟨gy, oy, hye, hcy⟩ := (HP.out.later (HGL.out.trans HGI.out)).at_ (i := j) (by rw [← HL7.out]; omega)
                obtain ⟨rfl, rfl⟩ : gx = gy ∧ ox = oy := by injection hye with hye; injection hye with e1 e2; exact ⟨e1, e2⟩
                obtain ⟨y, hy⟩ : ∃ y, y = Op.cf M j := ⟨_, rfl⟩
                rw [← hy] at hcy
                have HY := Lib.hid hy
                clear hye hy
                by_cases e : y = x
                · have s4 : (y == x) = true := by simpa using e
                  have HE := Lib.hid e
                  clear e
                  go_wp2_with fail
                  go_quiet (fail)
                  go_wp2_with fail
                  go_ret
                  exact ⟨by rw [HBAD.out (fun h => h.2.2.2 (by
                    rw [← HX.out, ← HE.out, HY.out]
                    have h5 : j < M.length := by rw [← HL7.out]; omega
                    have h6 : (M.take k)[j]? = some (Op.cf M j) := by rw [List.getElem?_take_of_lt hjk, ← Op.cf_at, List.getElem?_eq_getElem h5]; rfl
                    exact List.mem_of_getElem? h6))]; rfl, (HGW.out.trans HGI.out).drewN _⟩
                · have s4 : (y == x) = false := by simpa using e
                  have HE := Lib.hid e
                  clear e
                  go_wp2_with fail
                  go_quiet (fail)
                  go_wp2_with fail
                  go_roundw
                  case rel => exact ⟨j + 1, by go_num, by omega, fun q hq => by
                    by_cases h : q = j
                    · subst h; rw [← HY.out]; exact HE.out
                    · exact HNO.out q (by omega), HGI.out.drewN _⟩
                  case measure => simp [intOf]; omega
              · obtain rfl : j = k := by omega
                have i2 : ¬ (j : Int) < (j : Int) := by omega
                have HGOOD := Lib.hid (show MOK M j from ⟨by rw [← HX.out]; have := HA1.out; omega, by rw [← HX.out]; have := HA2.out; omega, by rw [← HX.out]; exact HA3.out, fun h => by
                  rw [← HX.out] at h
                  obtain ⟨q, hq, e⟩ := List.getElem_of_mem h
                  have hq2 : q < j := by rw [List.length_take] at hq; omega
                  rw [List.getElem_take] at e
                  have hqm : q < M.length := by rw [List.length_take] at hq; omega
                  exact HNO.out q hq2 (by rw [← e]; exact cf_get hqm)⟩)
                go_wp2_with fail
                go_roundw
                case rel => exact ⟨j + 1, by go_num, by omega, fun q hq => by
                  by_cases h : q = j
                  · subst h; exact HGOOD.out
                  · exact HOK.out q (by omega), HGL.out.trans HGI.out⟩
                case measure => simp [intOf]; omega
          · obtain rfl : k = n7 := by omega
            have i1 : ¬ (k : Int) < (k : Int) := by omega
            have HFIN := Lib.hid (show ∀ i, i < (allM ch S).length → MOK (allM ch S) i from fun i hi => by
              rw [← HME.out] at hi ⊢
              exact HOK.out i (by rw [HL7.out]; exact hi))
            go_wp2_with fail
            go_ret
            exact ⟨by rw [HD.out true ⟨fun _ => ⟨HN.out, by rw [← HNC.out]; exact h1, by rw [← HNC.out]; exact h2, HFIN.out⟩, fun _ => rfl⟩]; rfl, HGW.out⟩
    · have HN := Lib.hid hN
      rw [decide_eq_false hN]
      clear hN
      go_wp2_with fail
      go_ret
      exact ⟨by rw [HD.out false (by simp [VP]; intro h; exact absurd h HN.out)]; rfl, HG0.out⟩

set_option maxRecDepth 100000 in
set_option maxHeartbeats 4000000 in
theorem fCheck_any (N p1 p2 : Int) (xC : Option Addr) (nC cC : Nat) (S p5 p6 : Int) (lv : Int) (sp : Bool) (ch : List Int) (uA : Value) (rows : List (List Int)) (w : World) (h3 : ch.length ≤ 1000) (hC : HasP w (.slice xC nC cC) ch) (hS : 0 ≤ S ∧ S < 4294967296) (hA : HasR w uA rows) :
    Calls Tryz.prog 27 #[.agg #[.int .i64 N, .int .u32 p1, .int .i64 p2, .slice xC nC cC, .int .u32 S, .int .i64 p5, .int .u32 p6], .agg #[.int .i64 lv, .bool sp, uA]] w (fun e w' => e = .returned (.int .i64 (chkE N ch S lv sp rows)) ∧ Gr w w') := by
  obtain ⟨xA, cA, rfl⟩ := hA.form
  generalize hnA : rows.length = nA at *
  have HNC := Lib.hid hC.len.1
  have HC := Lib.hid hC
  have HA := Lib.hid hA
  have HS := Lib.hid hS
  have HNA := Lib.hid hnA
  obtain ⟨W2, hW2⟩ : ∃ W2, W2 = (w.alloc (.cells #[.int .i64 N, .int .u32 p1, .int .i64 p2, .slice xC nC cC, .int .u32 S, .int .i64 p5, .int .u32 p6] 25)).alloc (.cells #[.int .i64 lv, .bool sp, .slice xA nA cA] 28) := ⟨_, rfl⟩
  have HG := Lib.hid (show Gr w W2 by rw [hW2]; exact (Gr.new w _).alloc _)
  have HBP := Lib.hid (show Blk W2 w.heap.size 25 #[.int .i64 N, .int .u32 p1, .int .i64 p2, .slice xC nC cC, .int .u32 S, .int .i64 p5, .int .u32 p6] by rw [hW2]; exact (Blk.new w _ _).gr (Gr.new _ _))
  have HBE := Lib.hid (show Blk W2 (w.heap.size + 1) 28 #[.int .i64 lv, .bool sp, .slice xA nA cA] by rw [hW2]; exact Blk.newk _ _ (by simp))
  have HNO := Lib.hid (show ¬ (VP N ch S ∧ EV N ch S lv sp rows) → chkE N ch S lv sp rows = 2 from fun h => if_neg h)
  have HYES := Lib.hid (show (VP N ch S ∧ EV N ch S lv sp rows) → chkE N ch S lv sp rows = 0 from fun h => if_pos h)
  clear hC hA hS hnA
  obtain ⟨q0, q1, q2, q3, q4, q5, q6⟩ := HBP.out.p7
  obtain ⟨k0, k1, k2⟩ := HBE.out.p3
  go_enter Tryz.func27, Tryz.ntmps27
  go_upto_region 1 with (fail)
  rw [← hW2]
  clear hW2
  go_wp2_with fail
  refine (fValid_any N p1 p2 xC nC cC S p5 p6 ch _ (HC.out.later HG.out) HS.out).mono ?_
  rintro e w1 ⟨rfl, hg1⟩
  replace HG := Lib.hid (HG.out.trans hg1)
  replace HBP := Lib.hid (HBP.out.gr hg1)
  replace HBE := Lib.hid (HBE.out.gr hg1)
  clear hg1 q0 q1 q2 q3 q4 q5 q6 k0 k1 k2
  obtain ⟨q0, q1, q2, q3, q4, q5, q6⟩ := HBP.out.p7
  obtain ⟨k0, k1, k2⟩ := HBE.out.p3
  by_cases hv : VP N ch S
  · have HV := Lib.hid hv
    rw [decide_eq_true hv]
    clear hv
    go_wp2_with fail
    refine (fPlace_any N p1 p2 xC nC cC S p5 p6 lv sp ch HNC.out _).mono ?_
    rintro e w2 ⟨rfl, hg1⟩
    replace HG := Lib.hid (HG.out.trans hg1)
    replace HBP := Lib.hid (HBP.out.gr hg1)
    replace HBE := Lib.hid (HBE.out.gr hg1)
    clear hg1 q0 q1 q2 q3 q4 q5 q6 k0 k1 k2
    obtain ⟨q0, q1, q2, q3, q4, q5, q6⟩ := HBP.out.p7
    obtain ⟨k0, k1, k2⟩ := HBE.out.p3
    by_cases he : EX ch S lv sp
    · have HE := Lib.hid he
      rw [decide_eq_true he]
      obtain ⟨l, rfl⟩ := Int.eq_ofNat_of_zero_le (show 0 ≤ lv by have := he.1; omega)
      have HL2 := Lib.hid (show l ≤ ch.length by have := he.2.1; omega)
      clear he
      go_wp2_with fail
      refine (fModuli_any N p1 p2 xC nC cC S p5 p6 l sp ch _ HL2.out h3 (HC.out.later HG.out) HS.out).mono ?_
      rintro e w4 ⟨xm, nm, cm, rfl, hm, -, hg1⟩
      have HM := Lib.hid hm
      have HNM := Lib.hid hm.len.1
      replace HG := Lib.hid (HG.out.trans hg1)
      replace HBP := Lib.hid (HBP.out.gr hg1)
      replace HBE := Lib.hid (HBE.out.gr hg1)
      clear hm hg1 q0 q1 q2 q3 q4 q5 q6 k0 k1 k2
      obtain ⟨q0, q1, q2, q3, q4, q5, q6⟩ := HBP.out.p7
      obtain ⟨k0, k1, k2⟩ := HBE.out.p3
      have hnm : nm ≤ 1001 := by
        have h5 := Oj.mods_len (S := S) (sp := sp) HL2.out
        have := HNM.out
        have := HL2.out
        cases sp <;> simp at h5 <;> omega
      obtain ⟨nn, hnn, n4, n32⟩ := vp_dim HV.out
      subst hnn
      obtain ⟨M, hMe⟩ : ∃ M, M = Oj.mods ch S l sp := ⟨_, rfl⟩
      rw [← hMe] at HM HNM
      have HME := Lib.hid hMe
      have HBAD := Lib.hid (show ¬ EVr nn M rows → chkE nn ch S l sp rows = 2 from fun h => HNO.out fun k => h (by rw [hMe]; exact k.2.2))
      clear hMe
      by_cases hlen : nA = nm
      · subst hlen
        have t1 : ((nA : Int) != (nA : Int)) = false := by simp
        obtain ⟨w0, hw0⟩ : ∃ W : World, W = w4 := ⟨_, rfl⟩
        subst hw0
        go_wp2_with fail
        clear t1
        go_loopw [6, 7] (fun t _ wr => ∃ k : Nat, t = .int .i64 k ∧ k ≤ nA ∧ (∀ j, j < k → RowOK nn (Op.cf M j) (rw_ rows j)) ∧ Gr w0 wr) (fun t _ _ => nA - (intOf t).toNat)
        case atStart => exact ⟨0, rfl, by omega, fun j hj => by omega, Gr.refl _⟩
        case round =>
          obtain ⟨k, rfl, hk, hok, hg⟩ := hrel
          have HOK := Lib.hid hok
          have HGL := Lib.hid hg
          replace HBP := Lib.hid (HBP.out.gr hg)
          replace HBE := Lib.hid (HBE.out.gr hg)
          clear hok hg q0 q1 q2 q3 q4 q5 q6 k0 k1 k2
          obtain ⟨q0, q1, q2, q3, q4, q5, q6⟩ := HBP.out.p7
          obtain ⟨k0, k1, k2⟩ := HBE.out.p3
          by_cases hlt : k < nA
          · have i1 : (k : Int) < (nA : Int) := by omega
            have i0 : (0 : Int) ≤ (k : Int) := by omega
            obtain ⟨g, o, x, n, c, rfl, hc, hn, hp⟩ := HasB.at_ (HA.out.later (HG.out.trans HGL.out)) (i := k) (by rw [HNA.out]; exact hlt)
            have HN := Lib.hid hn
            have HP := Lib.hid hp
            clear hn hp
            by_cases hln : n = nn
            · subst hln
              have t1 : ((n : Int) != (n : Int)) = false := by simp
              obtain ⟨gm, om, rfl, hcm⟩ := (HM.out.later HGL.out).at_ (i := k) (by rw [← HNM.out]; exact hlt)
              obtain ⟨m, hm⟩ : ∃ m, m = Op.cf M k := ⟨_, rfl⟩
              rw [← hm] at hcm
              have HMM := Lib.hid hm
              clear hm
              obtain ⟨wo, hwo⟩ : ∃ W : World, W = wr := ⟨_, rfl⟩
              subst hwo
              go_wp2_with fail
              go_quiet (fail)
              go_wp2_with fail
              clear t1
              go_loopw [7] (fun t wi => ∃ j : Nat, t = .int .i64 j ∧ j ≤ n ∧ (∀ q, q < j → Op.cf (rw_ rows k) q < m) ∧ Gr wo wi) (fun t _ => n - (intOf t).toNat)
              case atStart => exact ⟨0, rfl, by omega, fun q hq => by omega, (Gr.refl _).drewN _⟩
              case round =>
                obtain ⟨j, rfl, hj, hlow, hg⟩ := hrel
                have HLOW := Lib.hid hlow
                have HGI := Lib.hid hg
                have hc := hg.keeps hc
                have hcm := hg.keeps hcm
                replace HBP := Lib.hid (HBP.out.gr hg)
                replace HBE := Lib.hid (HBE.out.gr hg)
                clear hlow hg q0 q1 q2 q3 q4 q5 q6 k0 k1 k2
                obtain ⟨q0, q1, q2, q3, q4, q5, q6⟩ := HBP.out.p7
                obtain ⟨k0, k1, k2⟩ := HBE.out.p3
                by_cases hjn : j < n
                · have i2 : (j : Int) < (n : Int) := by omega
                  have i3 : (0 : Int) ≤ (j : Int) := by omega
                  obtain ⟨gx, ox, rfl, hcx⟩ := (HP.out.later HGI.out).at_ (i := j) (by rw [← HN.out]; exact hjn)
                  obtain ⟨y, hy⟩ : ∃ y, y = Op.cf (rw_ rows k) j := ⟨_, rfl⟩
                  rw [← hy] at hcx
                  have HY := Lib.hid hy
                  clear hy
                  by_cases hge : m ≤ y
                  · have h2 : decide (m ≤ y) = true := by simpa using hge
                    have h2' : decide (y ≥ m) = true := h2
                    have HGE := Lib.hid hge
                    clear hge
                    go_wp2_with fail
                    go_quiet (fail)
                    go_wp2_with fail
                    go_ret
                    exact ⟨by rw [HBAD.out (fun h => by
                      have h5 := of_decide_eq_true (h.2 k (by rw [← HNM.out]; exact hlt)).2 j (by rw [← HN.out]; exact hjn)
                      have := HGE.out
                      have := HY.out
                      have := HMM.out
                      omega)]; rfl, ((HG.out.trans HGL.out).trans HGI.out).drewN _⟩
                  · have h2 : decide (m ≤ y) = false := by simpa using hge
                    have h2' : decide (y ≥ m) = false := h2
                    have HGE := Lib.hid hge
                    clear hge
                    go_wp2_with fail
                    go_quiet (fail)
                    go_wp2_with fail
                    go_roundw
                    case rel => exact ⟨j + 1, by go_num, by omega, fun q hq => by
                      by_cases h : q = j
                      · subst h; rw [← HY.out]; have := HGE.out; omega
                      · exact HLOW.out q (by omega), HGI.out.drewN _⟩
                    case measure => simp [intOf]; omega
                · obtain rfl : j = n := by omega
                  have i2 : ¬ (j : Int) < (j : Int) := by omega
                  have HROW := Lib.hid (show RowOK j (Op.cf M k) (rw_ rows k) from ⟨by rw [← HN.out], decide_eq_true fun q hq => by rw [← HMM.out]; exact HLOW.out q (by rw [HN.out]; exact hq)⟩)
                  go_wp2_with fail
                  go_roundw
                  case rel => exact ⟨k + 1, by go_num, by omega, fun q hq => by
                    by_cases h : q = k
                    · subst h; exact HROW.out
                    · exact HOK.out q (by omega), HGL.out.trans HGI.out⟩
                  case measure => simp [intOf]; omega
            · have t1 : ((n : Int) != (nn : Int)) = true := by simp; omega
              have HLN := Lib.hid hln
              clear hln
              go_wp2_with fail
              go_quiet (fail)
              go_wp2_with fail
              go_ret
              exact ⟨by rw [HBAD.out (fun h => by
                have h5 := (h.2 k (by rw [← HNM.out]; exact hlt)).1
                have := HLN.out
                have := HN.out
                omega)]; rfl, (HG.out.trans HGL.out).drewN _⟩
          · obtain rfl : k = nA := by omega
            have i1 : ¬ (k : Int) < (k : Int) := by omega
            have HFIN := Lib.hid (HYES.out ⟨HV.out, HE.out, by
              show EVr nn (Oj.mods ch S l sp) rows
              rw [← HME.out]
              exact ⟨by rw [HNA.out, ← HNM.out], fun i hi => HOK.out i (by rw [HNM.out]; exact hi)⟩⟩)
            go_wp2_with fail
            go_ret
            exact ⟨by rw [HFIN.out]; rfl, HG.out.trans HGL.out⟩
      · have t1 : ((nA : Int) != (nm : Int)) = true := by simp; omega
        have HB2 := Lib.hid (HBAD.out (fun h => hlen (by rw [← HNA.out, h.1, HNM.out])))
        clear hlen
        go_wp2_with fail
        go_ret
        exact ⟨by rw [HB2.out]; rfl, HG.out⟩
    · have HB2 := Lib.hid (HNO.out (fun h => he h.2.1))
      rw [decide_eq_false he]
      clear he
      go_wp2_with fail
      go_ret
      exact ⟨by rw [HB2.out]; rfl, HG.out⟩
  · have HB2 := Lib.hid (HNO.out (fun h => hv h.1))
    rw [decide_eq_false hv]
    clear hv
    go_wp2_with fail
    go_ret
    exact ⟨by rw [HB2.out]; rfl, HG.out⟩
end Go.Proofs.YtlfiakpmnkhcdaaGreat.Mo
