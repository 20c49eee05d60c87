import Derived.Test.YtlfiakpmnkhcdaaGreatLJn
/- Package ring: FromInts, Auto and Restrict. (made by mkjo.py) -/
namespace Go.Proofs.YtlfiakpmnkhcdaaGreat.Mo
open Go.RowKit Go.Shelf
set_option linter.unusedVariables false

set_option maxRecDepth 100000 in
set_option maxHeartbeats 4000000 in
theorem fromInts1_any (i m : Int) (b : Nat) (l : List Int) (u : Value) (w : World) (hm : okM' m) (hu : Lo.HasQ w u l) (hl : l.length ≤ 1000) (hn : w.cell? ⟨b, 0, none⟩ = some u) :
    Calls Tryz.prog 49 #[.int .i64 i, .int .u32 m, .pointer (some ⟨b, 0, none⟩)] w (NewP (resR l.length m l) w) := by
  have H := Lib.hid (mresidues_any m l u w hm hu hl)
  obtain ⟨-, xa, ca, rfl, a1, a2, -⟩ := id hu
  generalize hL : l.length = nl at *
  clear hm hu hl a1 a2 hL
  go_enter Tryz.func49, Tryz.ntmps49
  go_wp2_with fail
  refine H.out.mono ?_
  rintro e w1 ⟨x, n, c, rfl, h1, h2, h3⟩
  go_wp2_with fail
  go_ret
  exact ⟨x, n, c, rfl, h1, h2, h3⟩
/-- What FromInts answers. -/
def fiE (N : Int) (ch : List Int) (S : Int) (lv : Int) (sp : Bool) (n : Nat) : Int := if VP N ch S ∧ EX ch S lv sp ∧ (n : Int) = N then 0 else 2

set_option maxRecDepth 100000 in
set_option maxHeartbeats 4000000 in
theorem rFromInts_any (N p1 p2 : Int) (xC : Option Addr) (nC cC : Nat) (S p5 p6 : Int) (lv : Int) (sp : Bool) (ch : List Int) (uL : Value) (l : List Int) (w : World) (h3 : ch.length ≤ 1000) (hC : HasP w (.slice xC nC cC) ch) (hS : 0 ≤ S ∧ S < 4294967296) (hL : Lo.HasQ w uL l) :
    Calls Tryz.prog 15 #[.agg #[.int .i64 N, .int .u32 p1, .int .i64 p2, .slice xC nC cC, .int .u32 S, .int .i64 p5, .int .u32 p6], .int .i64 lv, .bool sp, uL] w (ResE (fiE N ch S lv sp l.length) lv sp (rwA (Oj.mods ch S lv.toNat sp) (fun _ m => resR l.length m l)) w) := by
  obtain ⟨-, xl, cl, rfl, a1, a2, -⟩ := id hL
  generalize hnl : l.length = nl at *
  obtain ⟨W0, hW0⟩ : ∃ W0, W0 = ((w.alloc (.cells #[.int .i64 N, .int .u32 p1, .int .i64 p2, .slice xC nC cC, .int .u32 S, .int .i64 p5, .int .u32 p6] 25)).alloc (.cells #[.slice xl nl cl] 29)).alloc (.cells #[.int .i64 0, .bool false, .slice none 0 0] 28) := ⟨_, rfl⟩
  have HG0 := Lib.hid (show Gr w W0 by rw [hW0]; exact ((Gr.new w _).alloc _).alloc _)
  have HBR := Lib.hid (show Blk W0 (w.heap.size + 2) 28 #[.int .i64 0, .bool false, .slice none 0 0] by rw [hW0]; exact Blk.newk _ _ (by simp))
  have HBP := Lib.hid (show Blk W0 w.heap.size 25 #[.int .i64 N, .int .u32 p1, .int .i64 p2, .slice xC nC cC, .int .u32 S, .int .i64 p5, .int .u32 p6] by rw [hW0]; exact ((Blk.new w _ _).gr (Gr.new _ _)).gr (Gr.new _ _))
  have HBN := Lib.hid (show Boxed W0 (w.heap.size + 1) 29 (.slice xl nl cl) by rw [hW0]; exact (Boxed.newk _ _ (by simp)).alloc _)
  have HC := Lib.hid hC
  have HL := Lib.hid hL
  have HS := Lib.hid hS
  have HNL := Lib.hid hnl
  have HNC := Lib.hid hC.len.1
  have HNO := Lib.hid (show ¬ (VP N ch S ∧ EX ch S lv sp ∧ (nl : Int) = N) → fiE N ch S lv sp nl = 2 from fun h => if_neg h)
  have HYES := Lib.hid (show (VP N ch S ∧ EX ch S lv sp ∧ (nl : Int) = N) → fiE N ch S lv sp nl = 0 from fun h => if_pos h)
  clear hC hL hS hnl a1 a2
  go_enter Tryz.func15, Tryz.ntmps15
  go_wp2_with fail
  rw [← hW0]
  refine (valid_any N p1 p2 xC nC cC S p5 p6 ch _ (HC.out.later HG0.out) HS.out).mono ?_
  rintro e w1 ⟨rfl, hg1⟩
  have HG1 := Lib.hid hg1
  have HBP1 := Lib.hid (HBP.out.gr hg1)
  have HBR1 := Lib.hid (HBR.out.gr hg1)
  have HBN1 := Lib.hid (boxed_gr HBN.out hg1)
  obtain ⟨q0, q1, q2, q3, q4, q5, q6⟩ := HBP1.out.p7
  obtain ⟨r0, r1, r2⟩ := HBR1.out.p3
  obtain ⟨f0, f1, f2⟩ := HBR1.out.f3
  have hn := HBN1.out.cell
  clear hg1 hW0
  by_cases hv : VP N ch S
  · have HV := Lib.hid hv
    rw [decide_eq_true hv]
    clear hv
    go_wp2_with fail
    refine (exists_any N p1 p2 xC nC cC S p5 p6 lv sp ch HNC.out _).mono ?_
    rintro e w2 ⟨rfl, hg2⟩
    have HG1 := Lib.hid (HG1.out.trans hg2)
    have HBP1 := Lib.hid (HBP1.out.gr hg2)
    have HBR1 := Lib.hid (HBR1.out.gr hg2)
    have HBN1 := Lib.hid (boxed_gr HBN1.out hg2)
    clear q0 q1 q2 q3 q4 q5 q6 r0 r1 r2 f0 f1 f2 hn
    obtain ⟨q0, q1, q2, q3, q4, q5, q6⟩ := HBP1.out.p7
    obtain ⟨r0, r1, r2⟩ := HBR1.out.p3
    obtain ⟨f0, f1, f2⟩ := HBR1.out.f3
    have hn := HBN1.out.cell
    clear hg2
    by_cases he : EX ch S lv sp
    · have HE := Lib.hid he
      rw [decide_eq_true he]
      clear he
      by_cases hN : (nl : Int) = N
      · have HE0 := Lib.hid (HYES.out ⟨HV.out, HE.out, hN⟩)
        obtain ⟨n, rfl⟩ := Int.eq_ofNat_of_zero_le (show 0 ≤ lv by have := HE.out.1; omega)
        have HN := Lib.hid hN
        have t1 : ((nl : Int) != N) = false := by simpa using hN
        clear hN
        go_wp2_with fail
        refine (element_any N p1 p2 xC nC cC S p5 p6 n sp ch 49 #[.pointer (some ⟨w.heap.size + 1, 0, none⟩)] (fun _ m => resR nl m l) w2 (by have := HE.out.1; omega) (by have := HE.out.2.1; omega) h3 (HC.out.later (HG0.out.trans HG1.out)) (enters_of Tryz.func49 (by kernel_rfl) rfl) (fun i j hi hj W hW => ?_)).mono ?_
        · have hM := mods_ok HV.out HE.out hj
          have hB := (boxed_gr HBN1.out hW).cell
          have h32 := HN.out
          have hd := HV.out.1
          unfold DimI at hd
          rw [← HNL.out]
          exact fromInts1_any i _ _ l _ W hM (HL.out.later ((HG0.out.trans HG1.out).trans hW)) (by rw [HNL.out]; omega) hB
        · clear t1
          rintro e w2 ⟨u, rfl, hb, hg2⟩
          obtain ⟨xu, cu, rfl⟩ := hb.form
          have HP3 := Lib.hid (put3 (hb.mono HG1.out.size (Nat.le_refl _)) HG0.out (HG1.out.trans hg2) (k := w.heap.size + 2) (by omega) HBR.out.lt)
          have HBR2 := Lib.hid (HBR1.out.gr hg2)
          clear r0 r1 r2 f0 f1 f2
          obtain ⟨r0, r1, r2⟩ := HBR2.out.p3
          obtain ⟨f0, f1, f2⟩ := HBR2.out.f3
          generalize hlu : List.length (rwA _ _) = nu at *
          clear hb hg2
          go_wp2_with fail
          have hr := ((HBR2.out.set 0 (.int .i64 n)).set 1 (.bool sp)).set 2 (.slice xu nu cu)
          obtain ⟨e0, e1, e2⟩ := (show Blk _ _ _ #[.int .i64 n, .bool sp, .slice xu nu cu] from hr).p3
          refine bodyPost_ret (v := .tuple #[.agg #[.int .i64 n, .bool sp, .slice xu nu cu], .int .i64 0]) (by simp only [Nat.add_assoc, Nat.reduceAdd]; simp [results, Tryz.results15, go_sem, e0, e1, e2]) rfl ?_
          exact ⟨n, sp, _, _, by rw [HE0.out], .inl ⟨HE0.out, rfl, rfl, rfl⟩, (HP3.out _ _ _).1, (HP3.out _ _ _).2⟩
      · have HE0 := Lib.hid (HNO.out (fun h => hN h.2.2))
        have t1 : ((nl : Int) != N) = true := by simpa using hN
        clear hN
        go_wp2_with fail
        have HP3 := Lib.hid (put3 (HasB.nil _ _ _) HG0.out HG1.out (k := w.heap.size + 2) (by omega) HBR.out.lt)
        have hr := ((HBR1.out.set 0 (.int .i64 0)).set 1 (.bool false)).set 2 (.slice none 0 0)
        obtain ⟨e0, e1, e2⟩ := (show Blk _ _ _ #[.int .i64 0, .bool false, .slice none 0 0] from hr).p3
        refine bodyPost_ret (v := .tuple #[.agg #[.int .i64 0, .bool false, .slice none 0 0], .int .i64 2]) (by simp only [Nat.add_assoc, Nat.reduceAdd]; simp [results, Tryz.results15, go_sem, e0, e1, e2]) rfl ?_
        exact ⟨0, false, [], _, by rw [HE0.out], .inr ⟨HE0.out, rfl, rfl, rfl⟩, (HP3.out _ _ _).1, (HP3.out _ _ _).2⟩
    · have HE0 := Lib.hid (HNO.out (fun h => he h.2.1))
      rw [decide_eq_false he]
      clear he
      go_wp2_with fail
      have HP3 := Lib.hid (put3 (HasB.nil _ _ _) HG0.out HG1.out (k := w.heap.size + 2) (by omega) HBR.out.lt)
      have hr := ((HBR1.out.set 0 (.int .i64 0)).set 1 (.bool false)).set 2 (.slice none 0 0)
      obtain ⟨e0, e1, e2⟩ := (show Blk _ _ _ #[.int .i64 0, .bool false, .slice none 0 0] from hr).p3
      refine bodyPost_ret (v := .tuple #[.agg #[.int .i64 0, .bool false, .slice none 0 0], .int .i64 2]) (by simp only [Nat.add_assoc, Nat.reduceAdd]; simp [results, Tryz.results15, go_sem, e0, e1, e2]) rfl ?_
      exact ⟨0, false, [], _, by rw [HE0.out], .inr ⟨HE0.out, rfl, rfl, rfl⟩, (HP3.out _ _ _).1, (HP3.out _ _ _).2⟩
  · have HE0 := Lib.hid (HNO.out (fun h => hv h.1))
    rw [decide_eq_false hv]
    clear hv
    go_wp2_with fail
    have HP3 := Lib.hid (put3 (HasB.nil _ _ _) HG0.out HG1.out (k := w.heap.size + 2) (by omega) HBR.out.lt)
    have hr := ((HBR1.out.set 0 (.int .i64 0)).set 1 (.bool false)).set 2 (.slice none 0 0)
    obtain ⟨e0, e1, e2⟩ := (show Blk _ _ _ #[.int .i64 0, .bool false, .slice none 0 0] from hr).p3
    refine bodyPost_ret (v := .tuple #[.agg #[.int .i64 0, .bool false, .slice none 0 0], .int .i64 2]) (by simp only [Nat.add_assoc, Nat.reduceAdd]; simp [results, Tryz.results15, go_sem, e0, e1, e2]) rfl ?_
    exact ⟨0, false, [], _, by rw [HE0.out], .inr ⟨HE0.out, rfl, rfl, rfl⟩, (HP3.out _ _ _).1, (HP3.out _ _ _).2⟩

/-- What Auto answers. -/
def auE (N : Int) (ch : List Int) (S : Int) (lv : Int) (sp : Bool) (rows : List (List Int)) (k : Int) : Int := if (1 ≤ k ∧ k < 2 * N ∧ k % 2 ≠ 0) ∧ VP N ch S ∧ EV N ch S lv sp rows then 0 else 2

set_option maxRecDepth 100000 in
set_option maxHeartbeats 4000000 in
theorem rAuto_any (N p1 p2 : Int) (xC : Option Addr) (nC cC : Nat) (S p5 p6 : Int) (lv : Int) (sp : Bool) (ch : List Int) (uA : Value) (rA : List (List Int)) (k : Int) (w : World) (hk : isW k) (h3 : ch.length ≤ 1000) (hC : HasP w (.slice xC nC cC) ch) (hS : 0 ≤ S ∧ S < 4294967296) (hA : HasR w uA rA) :
    Calls Tryz.prog 18 #[.agg #[.int .i64 N, .int .u32 p1, .int .i64 p2, .slice xC nC cC, .int .u32 S, .int .i64 p5, .int .u32 p6], .agg #[.int .i64 lv, .bool sp, uA], .int .i64 k] w (ResE (auE N ch S lv sp rA k) lv sp (rwA (Oj.mods ch S lv.toNat sp) (fun i m => (fun m x => Oj.autoR x.length m k.toNat x) m (rw_ rA i))) w) := by
  obtain ⟨xA, cA, rfl⟩ := hA.form
  generalize hnA : rA.length = nA at *
  obtain ⟨W0, hW0⟩ : ∃ W0, W0 = (((w.alloc (.cells #[.int .i64 N, .int .u32 p1, .int .i64 p2, .slice xC nC cC, .int .u32 S, .int .i64 p5, .int .u32 p6] 25)).alloc (.cells #[.int .i64 lv, .bool sp, .slice xA nA cA] 28)).alloc (.cells #[.int .i64 k] 3)).alloc (.cells #[.int .i64 0, .bool false, .slice none 0 0] 28) := ⟨_, rfl⟩
  have HG0 := Lib.hid (show Gr w W0 by rw [hW0]; exact (((Gr.new w _).alloc _).alloc _).alloc _)
  have HBR := Lib.hid (show Blk W0 (w.heap.size + 3) 28 #[.int .i64 0, .bool false, .slice none 0 0] by rw [hW0]; exact Blk.newk _ _ (by simp))
  have HBN := Lib.hid (show Boxed W0 (w.heap.size + 2) 3 (.int .i64 k) by rw [hW0]; exact (Boxed.newk _ _ (by simp)).alloc _)
  have HBP := Lib.hid (show Blk W0 w.heap.size 25 #[.int .i64 N, .int .u32 p1, .int .i64 p2, .slice xC nC cC, .int .u32 S, .int .i64 p5, .int .u32 p6] by rw [hW0]; exact (((Blk.new w _ _).gr (Gr.new _ _)).gr (Gr.new _ _)).gr (Gr.new _ _))
  have HNO := Lib.hid (show ¬ ((1 ≤ k ∧ k < 2 * N ∧ k % 2 ≠ 0) ∧ VP N ch S ∧ EV N ch S lv sp rA) → auE N ch S lv sp rA k = 2 from fun h => if_neg h)
  have HDIM := Lib.hid (show VP N ch S → 4 ≤ N ∧ N ≤ 32 from fun h => by have := h.1; unfold DimI at this; omega)
  by_cases hk1 : k < 1
  · have HE0 := Lib.hid (HNO.out (fun h => by omega))
    have t1 : decide (k < 1) = true := decide_eq_true hk1
    clear hA hC hnA hS h3 hk1
    go_enter Tryz.func18, Tryz.ntmps18
    go_wp2_with fail
    rw [← hW0]
    obtain ⟨e0, e1, e2⟩ := HBR.out.p3
    refine bodyPost_ret (v := .tuple #[.agg #[.int .i64 0, .bool false, .slice none 0 0], .int .i64 2]) (by simp only [Nat.add_assoc, Nat.reduceAdd]; simp [results, Tryz.results18, go_sem, e0, e1, e2]) rfl ?_
    exact ⟨0, false, [], _, by rw [HE0.out], .inr ⟨HE0.out, rfl, rfl, rfl⟩, HasB.nil _ _ _, HG0.out⟩
  · have t1 : decide (k < 1) = false := decide_eq_false hk1
    have HK1 := Lib.hid hk1
    have HW := Lib.hid (show VP N ch S → wrap64 (2 * N) = 2 * N from fun h => by have := HDIM.out h; unfold wrap64; omega)
    by_cases hP : wrap64 (2 * N) ≤ k
    · have HE0 := Lib.hid (HNO.out (fun h => by have := HW.out h.2.1; omega))
      have t2 : decide (wrap64 (2 * N) ≤ k) = true := decide_eq_true hP
      have t2' : decide (k ≥ wrap64 (2 * N)) = true := decide_eq_true hP
      clear hA hC hnA hS h3 hk1 hP
      go_enter Tryz.func18, Tryz.ntmps18
      go_wp2_with fail
      rw [← hW0]
      obtain ⟨e0, e1, e2⟩ := HBR.out.p3
      refine bodyPost_ret (v := .tuple #[.agg #[.int .i64 0, .bool false, .slice none 0 0], .int .i64 2]) (by simp only [Nat.add_assoc, Nat.reduceAdd]; simp [results, Tryz.results18, go_sem, e0, e1, e2]) rfl ?_
      exact ⟨0, false, [], _, by rw [HE0.out], .inr ⟨HE0.out, rfl, rfl, rfl⟩, HasB.nil _ _ _, HG0.out⟩
    · have t2 : decide (wrap64 (2 * N) ≤ k) = false := decide_eq_false hP
      have t2' : decide (k ≥ wrap64 (2 * N)) = false := decide_eq_false hP
      have HP := Lib.hid hP
      by_cases hk2 : k % 2 = 0
      · have HE0 := Lib.hid (HNO.out (fun h => h.1.2.2 hk2))
        have t3 : (k % 2 == 0) = true := by simpa using hk2
        clear hA hC hnA hS h3 hk2 hP
        go_enter Tryz.func18, Tryz.ntmps18
        go_wp2_with fail
        rw [← hW0]
        obtain ⟨e0, e1, e2⟩ := HBR.out.p3
        refine bodyPost_ret (v := .tuple #[.agg #[.int .i64 0, .bool false, .slice none 0 0], .int .i64 2]) (by simp only [Nat.add_assoc, Nat.reduceAdd]; simp [results, Tryz.results18, go_sem, e0, e1, e2]) rfl ?_
        exact ⟨0, false, [], _, by rw [HE0.out], .inr ⟨HE0.out, rfl, rfl, rfl⟩, HasB.nil _ _ _, HG0.out⟩
      · have HE0 := Lib.hid (show auE N ch S lv sp rA k = chkE N ch S lv sp rA by
          unfold auE chkE
          by_cases hv : VP N ch S
          · have := HW.out hv
            have hg : 1 ≤ k ∧ k < 2 * N ∧ k % 2 ≠ 0 := ⟨by omega, by omega, hk2⟩
            by_cases he : EV N ch S lv sp rA
            · rw [if_pos ⟨hg, hv, he⟩, if_pos ⟨hv, he⟩]
            · rw [if_neg (fun h => he h.2.2), if_neg (fun h => he h.2)]
          · simp only [hv, false_and, and_false])
        have t3 : (k % 2 == 0) = false := by simpa using hk2
        have HCALL := Lib.hid (unary_any N p1 p2 xC nC cC S p5 p6 lv sp ch _ rA 54 #[.pointer (some ⟨w.heap.size + 2, 0, none⟩)] (fun m x => Oj.autoR x.length m k.toNat x) W0 h3 (hC.later HG0.out) hS (hA.later HG0.out) (enters_of Tryz.func54 (by kernel_rfl) rfl)
          (fun hv m x u W hW hm hx hu => by
            have hN := HDIM.out hv
            have hw := HW.out hv
            obtain ⟨K, rfl⟩ := Int.eq_ofNat_of_zero_le (show 0 ≤ k by omega)
            exact auto1_any m K _ x u W hm (by omega) hu (by omega) (by omega) (boxed_gr HBN.out hW).cell))
        rw [HE0.out]
        clear hA hC hnA hS h3 hk2 hP
        go_enter Tryz.func18, Tryz.ntmps18
        go_wp2_with fail
        rw [← hW0]
        refine HCALL.out.mono ?_
        rintro e w1 ⟨lv', sp', ls', u, rfl, hc, hb, hg1⟩
        obtain ⟨xu, cu, rfl⟩ := hb.form
        have HP3 := Lib.hid (put3 hb HG0.out hg1 (k := w.heap.size + 3) (by omega) HBR.out.lt)
        have HC1 := Lib.hid hc
        have HBR1 := Lib.hid (HBR.out.gr hg1)
        obtain ⟨r0, r1, r2⟩ := HBR1.out.p3
        obtain ⟨f0, f1, f2⟩ := HBR1.out.f3
        generalize hlu : ls'.length = nu at *
        clear hb hg1 hc hW0
        go_wp2_with fail
        have hr := ((HBR1.out.set 0 (.int .i64 lv')).set 1 (.bool sp')).set 2 (.slice xu nu cu)
        obtain ⟨e0, e1, e2⟩ := (show Blk _ _ _ #[.int .i64 lv', .bool sp', .slice xu nu cu] from hr).p3
        refine bodyPost_ret (v := .tuple #[.agg #[.int .i64 lv', .bool sp', .slice xu nu cu], .int .i64 (chkE N ch S lv sp rA)]) (by simp only [Nat.add_assoc, Nat.reduceAdd]; simp [results, Tryz.results18, go_sem, e0, e1, e2]) rfl ?_
        subst hlu
        exact ⟨lv', sp', ls', _, rfl, HC1.out, (HP3.out _ _ _).1, (HP3.out _ _ _).2⟩

set_option maxRecDepth 100000 in
set_option maxHeartbeats 4000000 in
theorem restrict1_any (i lv lv2 : Nat) (m : Int) (bl ba : Nat) (rows : List (List Int)) (uA : Value) (w : World) (hi : (if i = lv2 then lv else i) < rows.length) (hn1 : 1 ≤ (rw_ rows (if i = lv2 then lv else i)).length) (hn2 : (rw_ rows (if i = lv2 then lv else i)).length ≤ 1000) (hA : HasR w uA rows) (hl : w.cell? ⟨bl, 0, none⟩ = some (.int .i64 lv2)) (ha0 : w.cell? ⟨ba, 0, none⟩ = some (.int .i64 lv)) (ha2 : w.cell? ⟨ba, 2, none⟩ = some uA) :
    Calls Tryz.prog 56 #[.int .i64 i, .int .u32 m, .pointer (some ⟨bl, 0, none⟩), .pointer (some ⟨ba, 0, none⟩)] w (NewP (rw_ rows (if i = lv2 then lv else i)) w) := by
  obtain ⟨xA, cA, rfl⟩ := hA.form
  generalize hnA : rows.length = nA at *
  by_cases hil : i = lv2
  · have t1 : ((i : Int) == (lv2 : Int)) = true := by simp; omega
    have e : (if i = lv2 then lv else i) = lv := if_pos hil
    rw [e] at hi hn1 hn2 ⊢
    obtain ⟨g, o, x, n, c, rfl, hc, hn, hp⟩ := HasB.at_ hA (i := lv) (by rw [hnA]; exact hi)
    have H := Lib.hid (clone_any (rw_ rows lv) _ w hp hn1 (by omega))
    have i0 : (0 : Int) ≤ (lv : Int) := by omega
    have i1 : (lv : Int) < (nA : Int) := by omega
    clear hA hnA hn hp hi hn1 hn2 hil e
    go_enter Tryz.func56, Tryz.ntmps56
    go_wp2_with fail
    refine H.out.mono ?_
    rintro e w1 ⟨x, n, c, rfl, h1, h2, h3⟩
    go_wp2_with fail
    go_ret
    exact ⟨x, n, c, rfl, h1, h2, h3⟩
  · have t1 : ((i : Int) == (lv2 : Int)) = false := by simp; omega
    have e : (if i = lv2 then lv else i) = i := if_neg hil
    rw [e] at hi hn1 hn2 ⊢
    obtain ⟨g, o, x, n, c, rfl, hc, hn, hp⟩ := HasB.at_ hA (i := i) (by rw [hnA]; exact hi)
    have H := Lib.hid (clone_any (rw_ rows i) _ w hp hn1 (by omega))
    have i0 : (0 : Int) ≤ (i : Int) := by omega
    have i1 : (i : Int) < (nA : Int) := by omega
    clear hA hnA hn hp hi hn1 hn2 hil e
    go_enter Tryz.func56, Tryz.ntmps56
    go_wp2_with fail
    refine H.out.mono ?_
    rintro e w1 ⟨x, n, c, rfl, h1, h2, h3⟩
    go_wp2_with fail
    go_ret
    exact ⟨x, n, c, rfl, h1, h2, h3⟩
/-- What Restrict answers. -/
def RsOK (N : Int) (ch : List Int) (S : Int) (lv : Int) (sp : Bool) (rows : List (List Int)) (lv2 : Int) (sp2 : Bool) : Prop := (VP N ch S ∧ EV N ch S lv sp rows) ∧ 1 ≤ lv2 ∧ lv2 ≤ lv ∧ (sp2 = true → sp = true)
instance (N : Int) (ch : List Int) (S : Int) (lv : Int) (sp : Bool) (rows : List (List Int)) (lv2 : Int) (sp2 : Bool) : Decidable (RsOK N ch S lv sp rows lv2 sp2) := by unfold RsOK; infer_instance
theorem rs_idx {N : Int} {ch : List Int} {S : Int} {n : Nat} {sp : Bool} {rA : List (List Int)} {n2 : Nat} {sp2 : Bool} (h : RsOK N ch S n sp rA n2 sp2) {i : Nat} (hi : i < (Oj.mods ch S n2 sp2).length) :
    (if i = n2 then n else i) < rA.length ∧ 1 ≤ (rw_ rA (if i = n2 then n else i)).length ∧ (rw_ rA (if i = n2 then n else i)).length ≤ 1000 := by
  obtain ⟨⟨hv, he, hr⟩, h1, h2, h3⟩ := h
  have hch : n ≤ ch.length := by have := he.2.1; omega
  have l1 := Oj.mods_len (S := S) (sp := sp) hch
  have l2 := Oj.mods_len (S := S) (sp := sp2) (show n2 ≤ ch.length by omega)
  have hN := hv.1
  unfold DimI at hN
  have hlt : (if i = n2 then n else i) < (Oj.mods ch S n sp).length := by
    split
    · cases sp2 with
      | false => simp at l2; omega
      | true => rw [h3 rfl] at l1; rw [h3 rfl]; simp at l1; omega
    · cases sp2 with
      | false => simp at l2; omega
      | true => simp at l2; omega
  have hR := (hr.2 _ hlt).1
  exact ⟨by rw [hr.1]; exact hlt, by omega, by omega⟩
def rsE (N : Int) (ch : List Int) (S : Int) (lv : Int) (sp : Bool) (rows : List (List Int)) (lv2 : Int) (sp2 : Bool) : Int := if RsOK N ch S lv sp rows lv2 sp2 then 0 else 2

set_option maxRecDepth 100000 in
set_option maxHeartbeats 4000000 in
theorem rRestrict_any (N p1 p2 : Int) (xC : Option Addr) (nC cC : Nat) (S p5 p6 : Int) (lv : Int) (sp : Bool) (ch : List Int) (uA : Value) (rA : List (List Int)) (lv2 : Int) (sp2 : Bool) (w : World) (h3 : ch.length ≤ 1000) (hC : HasP w (.slice xC nC cC) ch) (hS : 0 ≤ S ∧ S < 4294967296) (hA : HasR w uA rA) :
    Calls Tryz.prog 19 #[.agg #[.int .i64 N, .int .u32 p1, .int .i64 p2, .slice xC nC cC, .int .u32 S, .int .i64 p5, .int .u32 p6], .agg #[.int .i64 lv, .bool sp, uA], .int .i64 lv2, .bool sp2] w (ResE (rsE N ch S lv sp rA lv2 sp2) lv2 sp2 (rwA (Oj.mods ch S lv2.toNat sp2) (fun i _ => rw_ rA (if i = lv2.toNat then lv.toNat else i))) w) := by
  obtain ⟨xA, cA, rfl⟩ := hA.form
  generalize hnA : rA.length = nA at *
  obtain ⟨W0, hW0⟩ : ∃ W0, W0 = (((w.alloc (.cells #[.int .i64 N, .int .u32 p1, .int .i64 p2, .slice xC nC cC, .int .u32 S, .int .i64 p5, .int .u32 p6] 25)).alloc (.cells #[.int .i64 lv, .bool sp, .slice xA nA cA] 28)).alloc (.cells #[.int .i64 lv2] 3)).alloc (.cells #[.int .i64 0, .bool false, .slice none 0 0] 28) := ⟨_, rfl⟩
  have HG0 := Lib.hid (show Gr w W0 by rw [hW0]; exact (((Gr.new w _).alloc _).alloc _).alloc _)
  have HBR := Lib.hid (show Blk W0 (w.heap.size + 3) 28 #[.int .i64 0, .bool false, .slice none 0 0] by rw [hW0]; exact Blk.newk _ _ (by simp))
  have HBN := Lib.hid (show Boxed W0 (w.heap.size + 2) 3 (.int .i64 lv2) by rw [hW0]; exact (Boxed.newk _ _ (by simp)).alloc _)
  have HBP := Lib.hid (show Blk W0 w.heap.size 25 #[.int .i64 N, .int .u32 p1, .int .i64 p2, .slice xC nC cC, .int .u32 S, .int .i64 p5, .int .u32 p6] by rw [hW0]; exact (((Blk.new w _ _).gr (Gr.new _ _)).gr (Gr.new _ _)).gr (Gr.new _ _))
  have HBE := Lib.hid (show Blk W0 (w.heap.size + 1) 28 #[.int .i64 lv, .bool sp, .slice xA nA cA] by rw [hW0]; exact ((Blk.newk _ _ (by simp)).gr (Gr.new _ _)).gr (Gr.new _ _))
  have HNO := Lib.hid (show ¬ RsOK N ch S lv sp rA lv2 sp2 → rsE N ch S lv sp rA lv2 sp2 = 2 from fun h => if_neg h)
  have HYES := Lib.hid (show RsOK N ch S lv sp rA lv2 sp2 → rsE N ch S lv sp rA lv2 sp2 = 0 from fun h => if_pos h)
  have HC := Lib.hid hC
  have HA := Lib.hid hA
  have HS := Lib.hid hS
  have HNA := Lib.hid hnA
  clear hC hA hS hnA
  go_enter Tryz.func19, Tryz.ntmps19
  go_wp2_with fail
  rw [← hW0]
  refine (pCheck_any N p1 p2 xC nC cC S p5 p6 lv sp ch _ rA _ h3 (HC.out.later HG0.out) HS.out (HA.out.later HG0.out)).mono ?_
  rintro e w1 ⟨rfl, hg1⟩
  have HG1 := Lib.hid hg1
  have HBP1 := Lib.hid (HBP.out.gr hg1)
  have HBR1 := Lib.hid (HBR.out.gr hg1)
  have HBE1 := Lib.hid (HBE.out.gr hg1)
  have HBN1 := Lib.hid (boxed_gr HBN.out hg1)
  obtain ⟨q0, q1, q2, q3, q4, q5, q6⟩ := HBP1.out.p7
  obtain ⟨r0, r1, r2⟩ := HBR1.out.p3
  obtain ⟨f0, f1, f2⟩ := HBR1.out.f3
  obtain ⟨a0, a1, a2⟩ := HBE1.out.p3
  have hn := HBN1.out.cell
  clear hg1 hW0
  by_cases hok : VP N ch S ∧ EV N ch S lv sp rA
  · have HOK := Lib.hid hok
    have hE0 : chkE N ch S lv sp rA = 0 := if_pos hok
    rw [hE0]
    clear hok hE0
    by_cases hl1 : lv2 < 1
    · have HE0 := Lib.hid (HNO.out (fun h => by have := h.2.1; omega))
      have t1 : decide (lv2 < 1) = true := decide_eq_true hl1
      clear hl1
      go_wp2_with fail
      have HP3 := Lib.hid (put3 (HasB.nil _ _ _) HG0.out HG1.out (k := w.heap.size + 3) (by omega) HBR.out.lt)
      have hr := ((HBR1.out.set 0 (.int .i64 0)).set 1 (.bool false)).set 2 (.slice none 0 0)
      obtain ⟨e0, e1, e2⟩ := (show Blk _ _ _ #[.int .i64 0, .bool false, .slice none 0 0] from hr).p3
      refine bodyPost_ret (v := .tuple #[.agg #[.int .i64 0, .bool false, .slice none 0 0], .int .i64 2]) (by simp only [Nat.add_assoc, Nat.reduceAdd]; simp [results, Tryz.results19, go_sem, e0, e1, e2]) rfl ?_
      exact ⟨0, false, [], _, by rw [HE0.out], .inr ⟨HE0.out, rfl, rfl, rfl⟩, (HP3.out _ _ _).1, (HP3.out _ _ _).2⟩
    · have t1 : decide (lv2 < 1) = false := decide_eq_false hl1
      have HL1 := Lib.hid hl1
      clear hl1
      by_cases hl2 : lv < lv2
      · have HE0 := Lib.hid (HNO.out (fun h => by have := h.2.2.1; omega))
        have t2 : decide (lv < lv2) = true := decide_eq_true hl2
        have t2' : decide (lv2 > lv) = true := decide_eq_true hl2
        clear hl2
        go_wp2_with fail
        have HP3 := Lib.hid (put3 (HasB.nil _ _ _) HG0.out HG1.out (k := w.heap.size + 3) (by omega) HBR.out.lt)
        have hr := ((HBR1.out.set 0 (.int .i64 0)).set 1 (.bool false)).set 2 (.slice none 0 0)
        obtain ⟨e0, e1, e2⟩ := (show Blk _ _ _ #[.int .i64 0, .bool false, .slice none 0 0] from hr).p3
        refine bodyPost_ret (v := .tuple #[.agg #[.int .i64 0, .bool false, .slice none 0 0], .int .i64 2]) (by simp only [Nat.add_assoc, Nat.reduceAdd]; simp [results, Tryz.results19, go_sem, e0, e1, e2]) rfl ?_
        exact ⟨0, false, [], _, by rw [HE0.out], .inr ⟨HE0.out, rfl, rfl, rfl⟩, (HP3.out _ _ _).1, (HP3.out _ _ _).2⟩
      · have t2 : decide (lv < lv2) = false := decide_eq_false hl2
        have t2' : decide (lv2 > lv) = false := decide_eq_false hl2
        have HL2 := Lib.hid hl2
        clear hl2
        cases sp2 with
        | false =>
          have HRS := Lib.hid (show RsOK N ch S lv sp rA lv2 false from ⟨HOK.out, by have := HL1.out; omega, by have := HL2.out; omega, by simp⟩)
          have HE0 := Lib.hid (HYES.out HRS.out)
          go_wp2_with fail
          clear t2 t2' t1
          obtain ⟨n2, rfl⟩ := Int.eq_ofNat_of_zero_le (show 0 ≤ lv2 by have := HRS.out.2.1; omega)
          obtain ⟨n, rfl⟩ := Int.eq_ofNat_of_zero_le (show 0 ≤ lv by have := HRS.out.2.2.1; omega)
          refine (element_any N p1 p2 xC nC cC S p5 p6 n2 false ch 56 #[.pointer (some ⟨w.heap.size + 2, 0, none⟩), .pointer (some ⟨w.heap.size + 1, 0, none⟩)] (fun i _ => rw_ rA (if i = n2 then n else i)) w1 (by have := HRS.out.2.1; omega) (by have := HRS.out.2.2.1; have := HOK.out.2.1.2.1; omega) h3 (HC.out.later (HG0.out.trans HG1.out)) (enters_of Tryz.func56 (by kernel_rfl) rfl) (fun i j hi hj W hW => ?_)).mono ?_
          · obtain ⟨i1, i2, i3⟩ := rs_idx HRS.out hi
            exact restrict1_any i n n2 _ _ _ rA _ W i1 i2 i3 ((HA.out.later (HG0.out.trans HG1.out)).later hW) (boxed_gr HBN1.out hW).cell (HBE1.out.gr hW).p3.1 (HBE1.out.gr hW).p3.2.2
          · clear hn
            rintro e w2 ⟨u, rfl, hb, hg2⟩
            obtain ⟨xu, cu, rfl⟩ := hb.form
            have HP3 := Lib.hid (put3 (hb.mono HG1.out.size (Nat.le_refl _)) HG0.out (HG1.out.trans hg2) (k := w.heap.size + 3) (by omega) HBR.out.lt)
            have HBR2 := Lib.hid (HBR1.out.gr hg2)
            clear r0 r1 r2 f0 f1 f2
            obtain ⟨r0, r1, r2⟩ := HBR2.out.p3
            obtain ⟨f0, f1, f2⟩ := HBR2.out.f3
            generalize hlu : List.length (rwA _ _) = nu at *
            clear hb hg2
            go_wp2_with fail
            have hr := ((HBR2.out.set 0 (.int .i64 n2)).set 1 (.bool false)).set 2 (.slice xu nu cu)
            obtain ⟨e0, e1, e2⟩ := (show Blk _ _ _ #[.int .i64 n2, .bool false, .slice xu nu cu] from hr).p3
            refine bodyPost_ret (v := .tuple #[.agg #[.int .i64 n2, .bool false, .slice xu nu cu], .int .i64 0]) (by simp only [Nat.add_assoc, Nat.reduceAdd]; simp [results, Tryz.results19, go_sem, e0, e1, e2]) rfl ?_
            exact ⟨n2, false, _, _, by rw [HE0.out], .inl ⟨HE0.out, rfl, rfl, rfl⟩, (HP3.out _ _ _).1, (HP3.out _ _ _).2⟩
        | true =>
          cases sp with
          | true =>
            have HRS := Lib.hid (show RsOK N ch S lv true rA lv2 true from ⟨HOK.out, by have := HL1.out; omega, by have := HL2.out; omega, by simp⟩)
            have HE0 := Lib.hid (HYES.out HRS.out)
            go_wp2_with fail
            clear t2 t2' t1
            obtain ⟨n2, rfl⟩ := Int.eq_ofNat_of_zero_le (show 0 ≤ lv2 by have := HRS.out.2.1; omega)
            obtain ⟨n, rfl⟩ := Int.eq_ofNat_of_zero_le (show 0 ≤ lv by have := HRS.out.2.2.1; omega)
            refine (element_any N p1 p2 xC nC cC S p5 p6 n2 true ch 56 #[.pointer (some ⟨w.heap.size + 2, 0, none⟩), .pointer (some ⟨w.heap.size + 1, 0, none⟩)] (fun i _ => rw_ rA (if i = n2 then n else i)) w1 (by have := HRS.out.2.1; omega) (by have := HRS.out.2.2.1; have := HOK.out.2.1.2.1; omega) h3 (HC.out.later (HG0.out.trans HG1.out)) (enters_of Tryz.func56 (by kernel_rfl) rfl) (fun i j hi hj W hW => ?_)).mono ?_
            · obtain ⟨i1, i2, i3⟩ := rs_idx HRS.out hi
              exact restrict1_any i n n2 _ _ _ rA _ W i1 i2 i3 ((HA.out.later (HG0.out.trans HG1.out)).later hW) (boxed_gr HBN1.out hW).cell (HBE1.out.gr hW).p3.1 (HBE1.out.gr hW).p3.2.2
            · clear hn
              rintro e w2 ⟨u, rfl, hb, hg2⟩
              obtain ⟨xu, cu, rfl⟩ := hb.form
              have HP3 := Lib.hid (put3 (hb.mono HG1.out.size (Nat.le_refl _)) HG0.out (HG1.out.trans hg2) (k := w.heap.size + 3) (by omega) HBR.out.lt)
              have HBR2 := Lib.hid (HBR1.out.gr hg2)
              clear r0 r1 r2 f0 f1 f2
              obtain ⟨r0, r1, r2⟩ := HBR2.out.p3
              obtain ⟨f0, f1, f2⟩ := HBR2.out.f3
              generalize hlu : List.length (rwA _ _) = nu at *
              clear hb hg2
              go_wp2_with fail
              have hr := ((HBR2.out.set 0 (.int .i64 n2)).set 1 (.bool true)).set 2 (.slice xu nu cu)
              obtain ⟨e0, e1, e2⟩ := (show Blk _ _ _ #[.int .i64 n2, .bool true, .slice xu nu cu] from hr).p3
              refine bodyPost_ret (v := .tuple #[.agg #[.int .i64 n2, .bool true, .slice xu nu cu], .int .i64 0]) (by simp only [Nat.add_assoc, Nat.reduceAdd]; simp [results, Tryz.results19, go_sem, e0, e1, e2]) rfl ?_
              exact ⟨n2, true, _, _, by rw [HE0.out], .inl ⟨HE0.out, rfl, rfl, rfl⟩, (HP3.out _ _ _).1, (HP3.out _ _ _).2⟩
          | false =>
            have HE0 := Lib.hid (HNO.out (fun h => by have := h.2.2.2 rfl; cases this))
            go_wp2_with fail
            have HP3 := Lib.hid (put3 (HasB.nil _ _ _) HG0.out HG1.out (k := w.heap.size + 3) (by omega) HBR.out.lt)
            have hr := ((HBR1.out.set 0 (.int .i64 0)).set 1 (.bool false)).set 2 (.slice none 0 0)
            obtain ⟨e0, e1, e2⟩ := (show Blk _ _ _ #[.int .i64 0, .bool false, .slice none 0 0] from hr).p3
            refine bodyPost_ret (v := .tuple #[.agg #[.int .i64 0, .bool false, .slice none 0 0], .int .i64 2]) (by simp only [Nat.add_assoc, Nat.reduceAdd]; simp [results, Tryz.results19, go_sem, e0, e1, e2]) rfl ?_
            exact ⟨0, false, [], _, by rw [HE0.out], .inr ⟨HE0.out, rfl, rfl, rfl⟩, (HP3.out _ _ _).1, (HP3.out _ _ _).2⟩
  · have HE0 := Lib.hid (HNO.out (fun h => hok h.1))
    have hE0 : chkE N ch S lv sp rA = 2 := if_neg hok
    rw [hE0]
    clear hok hE0
    go_wp2_with fail
    have HP3 := Lib.hid (put3 (HasB.nil _ _ _) HG0.out HG1.out (k := w.heap.size + 3) (by omega) HBR.out.lt)
    have hr := ((HBR1.out.set 0 (.int .i64 0)).set 1 (.bool false)).set 2 (.slice none 0 0)
    obtain ⟨e0, e1, e2⟩ := (show Blk _ _ _ #[.int .i64 0, .bool false, .slice none 0 0] from hr).p3
    refine bodyPost_ret (v := .tuple #[.agg #[.int .i64 0, .bool false, .slice none 0 0], .int .i64 2]) (by simp only [Nat.add_assoc, Nat.reduceAdd]; simp [results, Tryz.results19, go_sem, e0, e1, e2]) rfl ?_
    exact ⟨0, false, [], _, by rw [HE0.out], .inr ⟨HE0.out, rfl, rfl, rfl⟩, (HP3.out _ _ _).1, (HP3.out _ _ _).2⟩

end Go.Proofs.YtlfiakpmnkhcdaaGreat.Mo
