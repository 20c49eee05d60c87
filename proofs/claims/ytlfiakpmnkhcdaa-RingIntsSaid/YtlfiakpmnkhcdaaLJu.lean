import Derived.Test.YtlfiakpmnkhcdaaLJs
namespace Go.Proofs.Ytlfiakpmnkhcdaa.Mo
open Go.RowKit Go.Shelf
set_option linter.unusedVariables false
def csC (N p1 p2 : Int) (uC : Value) (S p5 p6 lvA : Int) (spA : Bool) (uA : Value) (lvB : Int) (spB : Bool) (uB : Value) (n k lv : Int) (sp : Bool) (uL : Value) : Array Value := #[.int .i64 N, .int .u32 p1, .int .i64 p2, uC, .int .u32 S, .int .i64 p5, .int .u32 p6, .int .i64 lvA, .bool spA, uA, .int .i64 lvB, .bool spB, uB, .int .i64 n, .int .i64 k, .int .i64 lv, .bool sp, uL]
theorem Blk.p18 {W : World} {b : Nat} {t : TypeId} {a0 a1 a2 a3 a4 a5 a6 a7 a8 a9 a10 a11 a12 a13 a14 a15 a16 a17 : Value} (h : Blk W b t #[a0, a1, a2, a3, a4, a5, a6, a7, a8, a9, a10, a11, a12, a13, a14, a15, a16, a17]) :
    (W.cell? ⟨b, 0, none⟩ = some a0 ∧ W.cell? ⟨b, 1, none⟩ = some a1 ∧ W.cell? ⟨b, 2, none⟩ = some a2 ∧ W.cell? ⟨b, 3, none⟩ = some a3 ∧ W.cell? ⟨b, 4, none⟩ = some a4 ∧ W.cell? ⟨b, 5, none⟩ = some a5 ∧ W.cell? ⟨b, 6, none⟩ = some a6) ∧
    (W.cell? ⟨b, 7, none⟩ = some a7 ∧ W.cell? ⟨b, 8, none⟩ = some a8 ∧ W.cell? ⟨b, 9, none⟩ = some a9 ∧ W.cell? ⟨b, 10, none⟩ = some a10 ∧ W.cell? ⟨b, 11, none⟩ = some a11 ∧ W.cell? ⟨b, 12, none⟩ = some a12) ∧
    (W.cell? ⟨b, 13, none⟩ = some a13 ∧ W.cell? ⟨b, 14, none⟩ = some a14 ∧ W.cell? ⟨b, 15, none⟩ = some a15 ∧ W.cell? ⟨b, 16, none⟩ = some a16 ∧ W.cell? ⟨b, 17, none⟩ = some a17) :=
  ⟨⟨h.cell 0, h.cell 1, h.cell 2, h.cell 3, h.cell 4, h.cell 5, h.cell 6⟩, ⟨h.cell 7, h.cell 8, h.cell 9, h.cell 10, h.cell 11, h.cell 12⟩, h.cell 13, h.cell 14, h.cell 15, h.cell 16, h.cell 17⟩
def LargeP (rA rB : List (List Int)) (nC nL : Nat) (w : World) (e : Ending) (w' : World) : Prop := ∃ b, e = .returned (.bool b) ∧ (b = false → (rA.length ≤ 60 ∧ Sm 100 rA) ∧ (rB.length ≤ 60 ∧ Sm 100 rB) ∧ nC ≤ 100 ∧ nL ≤ 100) ∧ Gr w w'
set_option maxRecDepth 100000 in
set_option maxHeartbeats 4000000 in
theorem large_any (N p1 p2 : Int) (xC : Option Addr) (nC cC : Nat) (S p5 p6 lvA : Int) (spA : Bool) (uA : Value) (rA : List (List Int)) (lvB : Int) (spB : Bool) (uB : Value) (rB : List (List Int)) (n k lv : Int) (sp : Bool) (xL : Option Addr) (nL cL : Nat) (w : World) (hA : HasR w uA rA) (hB : HasR w uB rB) :
    Calls Try.prog 4 #[.agg (csC N p1 p2 (.slice xC nC cC) S p5 p6 lvA spA uA lvB spB uB n k lv sp (.slice xL nL cL))] w (LargeP rA rB nC nL w) := by
  obtain ⟨xA, cA, rfl⟩ := hA.form
  obtain ⟨xB, cB, rfl⟩ := hB.form
  generalize hnA : rA.length = nA at *
  generalize hnB : rB.length = nB at *
  obtain ⟨W0, hW0⟩ : ∃ W0, W0 = w.alloc (.cells (csC N p1 p2 (.slice xC nC cC) S p5 p6 lvA spA (.slice xA nA cA) lvB spB (.slice xB nB cB) n k lv sp (.slice xL nL cL)) 31) := ⟨_, rfl⟩
  have HG0 := Lib.hid (show Gr w W0 by rw [hW0]; exact Gr.new w _)
  have HB0 := Lib.hid (show Blk W0 w.heap.size 31 (csC N p1 p2 (.slice xC nC cC) S p5 p6 lvA spA (.slice xA nA cA) lvB spB (.slice xB nB cB) n k lv sp (.slice xL nL cL)) by rw [hW0]; exact Blk.new w _ _)
  have HA := Lib.hid hA
  have HB := Lib.hid hB
  have HNA := Lib.hid hnA
  have HNB := Lib.hid hnB
  clear hA hB hnA hnB
  unfold csC at *
  go_enter Try.func4, Try.ntmps4
  go_wp2_with fail
  rw [← hW0]
  clear hW0
  refine (huge_any lvA spA rA _ _ (HA.out.later HG0.out)).mono ?_
  rintro e w1 ⟨b1, rfl, h1, hg1⟩
  have HG1 := Lib.hid (HG0.out.trans hg1)
  have HB1 := Lib.hid (HB0.out.gr hg1)
  have H1 := Lib.hid h1
  obtain ⟨⟨q0, q1, q2, q3, q4, q5, q6⟩, ⟨k0, k1, k2, k3, k4, k5⟩, j0, j1, j2, j3, j4⟩ := HB1.out.p18
  clear h1 hg1
  cases b1 with
  | true =>
    go_wp2_with fail
    go_ret
    exact ⟨true, rfl, (fun h => by cases h), HG1.out⟩
  | false =>
    go_wp2_with fail
    refine (huge_any lvB spB rB _ _ (HB.out.later HG1.out)).mono ?_
    rintro e w2 ⟨b2, rfl, h2, hg2⟩
    have HG2 := Lib.hid (HG1.out.trans hg2)
    have HB2 := Lib.hid (HB1.out.gr hg2)
    have H2 := Lib.hid h2
    clear q0 q1 q2 q3 q4 q5 q6 k0 k1 k2 k3 k4 k5 j0 j1 j2 j3 j4
    obtain ⟨⟨q0, q1, q2, q3, q4, q5, q6⟩, ⟨k0, k1, k2, k3, k4, k5⟩, j0, j1, j2, j3, j4⟩ := HB2.out.p18
    clear h2 hg2
    cases b2 with
    | true =>
      go_wp2_with fail
      go_ret
      exact ⟨true, rfl, (fun h => by cases h), HG2.out⟩
    | false =>
      by_cases c1 : 100 < nC
      · have t1 : decide ((nC : Int) > 100) = true := by simp; omega
        have t1' : decide (100 < (nC : Int)) = true := by simp; omega
        go_wp2_with fail
        go_ret
        exact ⟨true, rfl, (fun h => by cases h), HG2.out⟩
      · have t1 : decide ((nC : Int) > 100) = false := by simp; omega
        have t1' : decide (100 < (nC : Int)) = false := by simp; omega
        by_cases c2 : 100 < nL
        · have t2 : decide ((nL : Int) > 100) = true := by simp; omega
          have t2' : decide (100 < (nL : Int)) = true := by simp; omega
          go_wp2_with fail
          go_ret
          exact ⟨true, rfl, (fun h => by cases h), HG2.out⟩
        · have t2 : decide ((nL : Int) > 100) = false := by simp; omega
          have t2' : decide (100 < (nL : Int)) = false := by simp; omega
          go_wp2_with fail
          go_ret
          exact ⟨false, rfl, (fun _ => ⟨H1.out (by first | rfl | trivial), H2.out (by first | rfl | trivial), by omega, by omega⟩), HG2.out⟩
end Go.Proofs.Ytlfiakpmnkhcdaa.Mo
