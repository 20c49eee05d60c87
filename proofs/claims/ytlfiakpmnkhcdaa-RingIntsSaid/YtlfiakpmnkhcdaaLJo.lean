import Derived.Test.YtlfiakpmnkhcdaaLJn
namespace Go.Proofs.Ytlfiakpmnkhcdaa.Mo
open Go.RowKit Go.Shelf
set_option linter.unusedVariables false
set_option maxRecDepth 100000 in
set_option maxHeartbeats 4000000 in
theorem fromInts1_any (i m : Int) (b : Nat) (l : List Int) (u : Value) (w : World) (hm : okM' m) (hu : Lo.HasQ w u l) (hl : l.length ≤ 1000) (hn : w.cell? ⟨b, 0, none⟩ = some u) :
    Calls Try.prog 16 #[.int .i64 i, .int .u32 m, .pointer (some ⟨b, 0, none⟩)] w (NewP (resR l.length m l) w) := by
  have H := Lib.hid (mresidues_any m l u w hm hu hl)
  obtain ⟨-, xa, ca, rfl, a1, a2, -⟩ := id hu
  generalize hL : l.length = nl at *
  clear hm hu hl a1 a2 hL
  go_enter Try.func16, Try.ntmps16
  go_wp2_with fail
  refine H.out.mono ?_
  rintro e w1 ⟨x, n, c, rfl, h1, h2, h3⟩
  go_wp2_with fail
  go_ret
  exact ⟨x, n, c, rfl, h1, h2, h3⟩
def fiE (N : Int) (ch : List Int) (S : Int) (lv : Int) (sp : Bool) (n : Nat) : Int := if VP N ch S ∧ EX ch S lv sp ∧ (n : Int) = N then 0 else 2
set_option maxRecDepth 100000 in
set_option maxHeartbeats 4000000 in
theorem rFromInts_any (N p1 p2 : Int) (xC : Option Addr) (nC cC : Nat) (S p5 p6 : Int) (lv : Int) (sp : Bool) (ch : List Int) (uL : Value) (l : List Int) (w : World) (h3 : ch.length ≤ 1000) (hC : HasP w (.slice xC nC cC) ch) (hS : 0 ≤ S ∧ S < 4294967296) (hL : Lo.HasQ w uL l) :
    Calls Try.prog 6 #[.agg #[.int .i64 N, .int .u32 p1, .int .i64 p2, .slice xC nC cC, .int .u32 S, .int .i64 p5, .int .u32 p6], .int .i64 lv, .bool sp, uL] w (ResE (fiE N ch S lv sp l.length) lv sp (rwA (Oj.mods ch S lv.toNat sp) (fun _ m => resR l.length m l)) w) := by
  obtain ⟨-, xl, cl, rfl, a1, a2, -⟩ := id hL
  generalize hnl : l.length = nl at *
  obtain ⟨W0, hW0⟩ : ∃ W0, W0 = ((w.alloc (.cells #[.int .i64 N, .int .u32 p1, .int .i64 p2, .slice xC nC cC, .int .u32 S, .int .i64 p5, .int .u32 p6] 25)).alloc (.cells #[.slice xl nl cl] 29)).alloc (.cells #[.int .i64 0, .bool false, .slice none 0 0] 28) := ⟨_, rfl⟩
  have HG0 := Lib.hid (show Gr w W0 by rw [hW0]; exact ((Gr.new w _).alloc _).alloc _)
  have HBR := Lib.hid (show Blk W0 (w.heap.size + 2) 28 #[.int .i64 0, .bool false, .slice none 0 0] by rw [hW0]; exact Blk.newk _ _ (by simp))
  have HBP := Lib.hid (show Blk W0 w.heap.size 25 #[.int .i64 N, .int .u32 p1, .int .i64 p2, .slice xC nC cC, .int .u32 S, .int .i64 p5, .int .u32 p6] by rw [hW0]; exact ((Blk.new w _ _).gr (Gr.new _ _)).gr (Gr.new _ _))
  have HBN := Lib.hid (show Boxed W0 (w.heap.size + 1) 29 (.slice xl nl cl) by rw [hW0]; exact (Boxed.newk _ _ (by simp)).alloc _)
  have HC := Lib.hid hC
  have HL := Lib.hid hL
  have HS := Lib.hid hS
  have HNL := Lib.hid hnl
  have HNC := Lib.hid hC.len.1
  have HNO := Lib.hid (show ¬ (VP N ch S ∧ EX ch S lv sp ∧ (nl : Int) = N) → fiE N ch S lv sp nl = 2 from fun h => if_neg h)
  have HYES := Lib.hid (show (VP N ch S ∧ EX ch S lv sp ∧ (nl : Int) = N) → fiE N ch S lv sp nl = 0 from fun h => if_pos h)
  clear hC hL hS hnl a1 a2
  go_enter Try.func6, Try.ntmps6
  go_wp2_with fail
  rw [← hW0]
  refine (valid_any N p1 p2 xC nC cC S p5 p6 ch _ (HC.out.later HG0.out) HS.out).mono ?_
  rintro e w1 ⟨rfl, hg1⟩
  have HG1 := Lib.hid hg1
  have HBP1 := Lib.hid (HBP.out.gr hg1)
  have HBR1 := Lib.hid (HBR.out.gr hg1)
  have HBN1 := Lib.hid (boxed_gr HBN.out hg1)
  obtain ⟨q0, q1, q2, q3, q4, q5, q6⟩ := HBP1.out.p7
  obtain ⟨r0, r1, r2⟩ := HBR1.out.p3
  obtain ⟨f0, f1, f2⟩ := HBR1.out.f3
  have hn := HBN1.out.cell
  clear hg1 hW0
  by_cases hv : VP N ch S
  · have HV := Lib.hid hv
    rw [decide_eq_true hv]
    clear hv
    go_wp2_with fail
    refine (exists_any N p1 p2 xC nC cC S p5 p6 lv sp ch HNC.out _).mono ?_
    rintro e w2 ⟨rfl, hg2⟩
    have HG1 := Lib.hid (HG1.out.trans hg2)
    have HBP1 := Lib.hid (HBP1.out.gr hg2)
    have HBR1 := Lib.hid (HBR1.out.gr hg2)
    have HBN1 := Lib.hid (boxed_gr HBN1.out hg2)
    clear q0 q1 q2 q3 q4 q5 q6 r0 r1 r2 f0 f1 f2 hn
    obtain ⟨q0, q1, q2, q3, q4, q5, q6⟩ := HBP1.out.p7
    obtain ⟨r0, r1, r2⟩ := HBR1.out.p3
    obtain ⟨f0, f1, f2⟩ := HBR1.out.f3
    have hn := HBN1.out.cell
    clear hg2
    by_cases he : EX ch S lv sp
    · have HE := Lib.hid he
      rw [decide_eq_true he]
      clear he
      by_cases hN : (nl : Int) = N
      · have HE0 := Lib.hid (HYES.out ⟨HV.out, HE.out, hN⟩)
        obtain ⟨n, rfl⟩ := Int.eq_ofNat_of_zero_le (show 0 ≤ lv by have := HE.out.1; omega)
        have HN := Lib.hid hN
        have t1 : ((nl : Int) != N) = false := by simpa using hN
        clear hN
        go_wp2_with fail
        refine (element_any N p1 p2 xC nC cC S p5 p6 n sp ch 16 #[.pointer (some ⟨w.heap.size + 1, 0, none⟩)] (fun _ m => resR nl m l) w2 (by have := HE.out.1; omega) (by have := HE.out.2.1; omega) h3 (HC.out.later (HG0.out.trans HG1.out)) (enters_of Try.func16 (by kernel_rfl) rfl) (fun i j hi hj W hW => ?_)).mono ?_
        · have hM := mods_ok HV.out HE.out hj
          have hB := (boxed_gr HBN1.out hW).cell
          have h32 := HN.out
          have hd := HV.out.1
          unfold DimI at hd
          rw [← HNL.out]
          exact fromInts1_any i _ _ l _ W hM (HL.out.later ((HG0.out.trans HG1.out).trans hW)) (by rw [HNL.out]; omega) hB
        · clear t1
          rintro e w2 ⟨u, rfl, hb, hg2⟩
          obtain ⟨xu, cu, rfl⟩ := hb.form
          have HP3 := Lib.hid (put3 (hb.mono HG1.out.size (Nat.le_refl _)) HG0.out (HG1.out.trans hg2) (k := w.heap.size + 2) (by omega) HBR.out.lt)
          have HBR2 := Lib.hid (HBR1.out.gr hg2)
          clear r0 r1 r2 f0 f1 f2
          obtain ⟨r0, r1, r2⟩ := HBR2.out.p3
          obtain ⟨f0, f1, f2⟩ := HBR2.out.f3
          generalize hlu : List.length (rwA _ _) = nu at *
          clear hb hg2
          go_wp2_with fail
          have hr := ((HBR2.out.set 0 (.int .i64 n)).set 1 (.bool sp)).set 2 (.slice xu nu cu)
          obtain ⟨e0, e1, e2⟩ := (show Blk _ _ _ #[.int .i64 n, .bool sp, .slice xu nu cu] from hr).p3
          refine bodyPost_ret (v := .tuple #[.agg #[.int .i64 n, .bool sp, .slice xu nu cu], .int .i64 0]) (by simp only [Nat.add_assoc, Nat.reduceAdd]; simp [results, Try.results6, go_sem, e0, e1, e2]) rfl ?_
          exact ⟨n, sp, _, _, by rw [HE0.out], .inl ⟨HE0.out, rfl, rfl, rfl⟩, (HP3.out _ _ _).1, (HP3.out _ _ _).2⟩
      · have HE0 := Lib.hid (HNO.out (fun h => hN h.2.2))
        have t1 : ((nl : Int) != N) = true := by simpa using hN
        clear hN
        go_wp2_with fail
        have HP3 := Lib.hid (put3 (HasB.nil _ _ _) HG0.out HG1.out (k := w.heap.size + 2) (by omega) HBR.out.lt)
        have hr := ((HBR1.out.set 0 (.int .i64 0)).set 1 (.bool false)).set 2 (.slice none 0 0)
        obtain ⟨e0, e1, e2⟩ := (show Blk _ _ _ #[.int .i64 0, .bool false, .slice none 0 0] from hr).p3
        refine bodyPost_ret (v := .tuple #[.agg #[.int .i64 0, .bool false, .slice none 0 0], .int .i64 2]) (by simp only [Nat.add_assoc, Nat.reduceAdd]; simp [results, Try.results6, go_sem, e0, e1, e2]) rfl ?_
        exact ⟨0, false, [], _, by rw [HE0.out], .inr ⟨HE0.out, rfl, rfl, rfl⟩, (HP3.out _ _ _).1, (HP3.out _ _ _).2⟩
    · have HE0 := Lib.hid (HNO.out (fun h => he h.2.1))
      rw [decide_eq_false he]
      clear he
      go_wp2_with fail
      have HP3 := Lib.hid (put3 (HasB.nil _ _ _) HG0.out HG1.out (k := w.heap.size + 2) (by omega) HBR.out.lt)
      have hr := ((HBR1.out.set 0 (.int .i64 0)).set 1 (.bool false)).set 2 (.slice none 0 0)
      obtain ⟨e0, e1, e2⟩ := (show Blk _ _ _ #[.int .i64 0, .bool false, .slice none 0 0] from hr).p3
      refine bodyPost_ret (v := .tuple #[.agg #[.int .i64 0, .bool false, .slice none 0 0], .int .i64 2]) (by simp only [Nat.add_assoc, Nat.reduceAdd]; simp [results, Try.results6, go_sem, e0, e1, e2]) rfl ?_
      exact ⟨0, false, [], _, by rw [HE0.out], .inr ⟨HE0.out, rfl, rfl, rfl⟩, (HP3.out _ _ _).1, (HP3.out _ _ _).2⟩
  · have HE0 := Lib.hid (HNO.out (fun h => hv h.1))
    rw [decide_eq_false hv]
    clear hv
    go_wp2_with fail
    have HP3 := Lib.hid (put3 (HasB.nil _ _ _) HG0.out HG1.out (k := w.heap.size + 2) (by omega) HBR.out.lt)
    have hr := ((HBR1.out.set 0 (.int .i64 0)).set 1 (.bool false)).set 2 (.slice none 0 0)
    obtain ⟨e0, e1, e2⟩ := (show Blk _ _ _ #[.int .i64 0, .bool false, .slice none 0 0] from hr).p3
    refine bodyPost_ret (v := .tuple #[.agg #[.int .i64 0, .bool false, .slice none 0 0], .int .i64 2]) (by simp only [Nat.add_assoc, Nat.reduceAdd]; simp [results, Try.results6, go_sem, e0, e1, e2]) rfl ?_
    exact ⟨0, false, [], _, by rw [HE0.out], .inr ⟨HE0.out, rfl, rfl, rfl⟩, (HP3.out _ _ _).1, (HP3.out _ _ _).2⟩
end Go.Proofs.Ytlfiakpmnkhcdaa.Mo
