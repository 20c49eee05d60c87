import Derived.Test.YtlfiakpmnkhcdaaGreatLJl
/- Package ring: operations on two elements. -/
namespace Go.Proofs.YtlfiakpmnkhcdaaGreat.Mo
open Go.RowKit Go.Shelf
set_option linter.unusedVariables false

/-- Two elements that may be added. -/
def TwoOK (N : Int) (ch : List Int) (S : Int) (lv : Int) (sp : Bool) (rA : List (List Int)) (lv2 : Int) (sp2 : Bool) (rB : List (List Int)) : Prop := VP N ch S ∧ EV N ch S lv sp rA ∧ EV N ch S lv2 sp2 rB ∧ lv = lv2 ∧ sp = sp2
instance (N : Int) (ch : List Int) (S : Int) (lv : Int) (sp : Bool) (rA : List (List Int)) (lv2 : Int) (sp2 : Bool) (rB : List (List Int)) : Decidable (TwoOK N ch S lv sp rA lv2 sp2 rB) := by unfold TwoOK; infer_instance
def twoE (N : Int) (ch : List Int) (S : Int) (lv : Int) (sp : Bool) (rA : List (List Int)) (lv2 : Int) (sp2 : Bool) (rB : List (List Int)) : Int := if TwoOK N ch S lv sp rA lv2 sp2 rB then 0 else 2
/-- The boxes of binary. -/
structure BB (s : Nat) (cP cA cB cO : Array Value) (W : World) : Prop where
  p : Blk W s 25 cP
  a : Blk W (s + 1) 28 cA
  b : Blk W (s + 2) 28 cB
  o : Blk W (s + 3) 79 cO
  r : Blk W (s + 4) 28 #[.int .i64 0, .bool false, .slice none 0 0]
theorem BB.gr {s : Nat} {cP cA cB cO : Array Value} {W W' : World} (h : BB s cP cA cB cO W) (hg : Gr W W') : BB s cP cA cB cO W' := ⟨h.p.gr hg, h.a.gr hg, h.b.gr hg, h.o.gr hg, h.r.gr hg⟩
theorem Blk.newk {W : World} {k : Nat} (t : TypeId) (cs : Array Value) (hk : k = W.heap.size) : Blk (W.alloc (.cells cs t)) k t cs := by subst hk; exact Blk.new W t cs

set_option maxRecDepth 100000 in
set_option maxHeartbeats 8000000 in
theorem binary_any (N p1 p2 : Int) (xC : Option Addr) (nC cC : Nat) (S p5 p6 : Int) (lv : Int) (sp : Bool) (lv2 : Int) (sp2 : Bool) (ch : List Int) (uA uB : Value) (rA rB : List (List Int)) (fo : Nat) (capo : Array Value) (G : Int → List Int → List Int → List Int) (w : World) (h3 : ch.length ≤ 1000) (hC : HasP w (.slice xC nC cC) ch) (hS : 0 ≤ S ∧ S < 4294967296) (hA : HasR w uA rA) (hB : HasR w uB rB)
    (hen : ∀ (args : Array Value) (w : World), (callFunc fo args).run Tryz.prog w = .ok (.enter fo args) w)
    (hop : VP N ch S → ∀ m l l2 u v W, Gr w W → okM' m → (l.length : Int) = N → (l2.length : Int) = N → HasP W u l → HasP W v l2 → Calls Tryz.prog fo (#[.int .u32 m, u, v] ++ capo) W (NewP (G m l l2) W)) :
    Calls Tryz.prog 64 #[.agg #[.int .i64 N, .int .u32 p1, .int .i64 p2, .slice xC nC cC, .int .u32 S, .int .i64 p5, .int .u32 p6], .agg #[.int .i64 lv, .bool sp, uA], .agg #[.int .i64 lv2, .bool sp2, uB], .func (.func fo) #[] capo] w (ResE (twoE N ch S lv sp rA lv2 sp2 rB) lv sp (rwA (Oj.mods ch S lv.toNat sp) (fun i m => G m (rw_ rA i) (rw_ rB i))) w) := by
  obtain ⟨xA, cA, rfl⟩ := hA.form
  obtain ⟨xB, cB, rfl⟩ := hB.form
  generalize hnA : rA.length = nA at *
  generalize hnB : rB.length = nB at *
  have HC := Lib.hid hC
  have HA := Lib.hid hA
  have HB := Lib.hid hB
  have HS := Lib.hid hS
  have HOP := Lib.hid hop
  clear hC hA hB hS hop hnA hnB
  obtain ⟨W5, hW5⟩ : ∃ W5, W5 = ((((w.alloc (.cells #[.int .i64 N, .int .u32 p1, .int .i64 p2, .slice xC nC cC, .int .u32 S, .int .i64 p5, .int .u32 p6] 25)).alloc (.cells #[.int .i64 lv, .bool sp, .slice xA nA cA] 28)).alloc (.cells #[.int .i64 lv2, .bool sp2, .slice xB nB cB] 28)).alloc (.cells #[.func (.func fo) #[] capo] 79)).alloc (.cells #[.int .i64 0, .bool false, .slice none 0 0] 28) := ⟨_, rfl⟩
  have HG5 := Lib.hid (show Gr w W5 by rw [hW5]; exact ((((Gr.new w _).alloc _).alloc _).alloc _).alloc _)
  have HBB := Lib.hid (show BB w.heap.size #[.int .i64 N, .int .u32 p1, .int .i64 p2, .slice xC nC cC, .int .u32 S, .int .i64 p5, .int .u32 p6] #[.int .i64 lv, .bool sp, .slice xA nA cA] #[.int .i64 lv2, .bool sp2, .slice xB nB cB] #[.func (.func fo) #[] capo] W5 by
    rw [hW5]
    exact ⟨((((Blk.new w _ _).gr (Gr.new _ _)).gr (Gr.new _ _)).gr (Gr.new _ _)).gr (Gr.new _ _),
      (((Blk.newk _ _ (by simp)).gr (Gr.new _ _)).gr (Gr.new _ _)).gr (Gr.new _ _),
      ((Blk.newk _ _ (by simp)).gr (Gr.new _ _)).gr (Gr.new _ _),
      (Blk.newk _ _ (by simp)).gr (Gr.new _ _), Blk.newk _ _ (by simp)⟩)
  have HNO := Lib.hid (show ¬ TwoOK N ch S lv sp rA lv2 sp2 rB → twoE N ch S lv sp rA lv2 sp2 rB = 2 from fun h => if_neg h)
  go_enter Tryz.func64, Tryz.ntmps64
  go_wp2_with fail
  rw [← hW5]
  refine (valid_any N p1 p2 xC nC cC S p5 p6 ch _ (HC.out.later HG5.out) HS.out).mono ?_
  rintro e w1 ⟨rfl, hg1⟩
  have HG1 := Lib.hid (HG5.out.trans hg1)
  have HB1 := Lib.hid (HBB.out.gr hg1)
  obtain ⟨q0, q1, q2, q3, q4, q5, q6⟩ := HB1.out.p.p7
  obtain ⟨a0, a1, a2⟩ := HB1.out.a.p3
  obtain ⟨r0, r1, r2⟩ := HB1.out.r.p3
  obtain ⟨f0, f1, f2⟩ := HB1.out.r.f3
  clear hg1 hW5
  by_cases hv : VP N ch S
  · have HV := Lib.hid hv
    rw [decide_eq_true hv]
    clear hv
    go_wp2_with fail
    refine (rholds_any N p1 p2 xC nC cC S p5 p6 lv sp ch _ rA _ h3 (HC.out.later HG1.out) (HA.out.later HG1.out)).mono ?_
    rintro e w2 ⟨rfl, hg2⟩
    have HG1 := Lib.hid (HG1.out.trans hg2)
    have HB1 := Lib.hid (HB1.out.gr hg2)
    clear q0 q1 q2 q3 q4 q5 q6 a0 a1 a2 r0 r1 r2 f0 f1 f2
    obtain ⟨q0, q1, q2, q3, q4, q5, q6⟩ := HB1.out.p.p7
    obtain ⟨a0, a1, a2⟩ := HB1.out.a.p3
    obtain ⟨b0, b1, b2⟩ := HB1.out.b.p3
    obtain ⟨r0, r1, r2⟩ := HB1.out.r.p3
    obtain ⟨f0, f1, f2⟩ := HB1.out.r.f3
    clear hg2
    by_cases he : EV N ch S lv sp rA
    · have HE := Lib.hid he
      rw [decide_eq_true he]
      clear he
      go_wp2_with fail
      refine (rholds_any N p1 p2 xC nC cC S p5 p6 lv2 sp2 ch _ rB _ h3 (HC.out.later HG1.out) (HB.out.later HG1.out)).mono ?_
      rintro e w3 ⟨rfl, hg2⟩
      have HG1 := Lib.hid (HG1.out.trans hg2)
      have HB1 := Lib.hid (HB1.out.gr hg2)
      clear q0 q1 q2 q3 q4 q5 q6 a0 a1 a2 b0 b1 b2 r0 r1 r2 f0 f1 f2
      obtain ⟨q0, q1, q2, q3, q4, q5, q6⟩ := HB1.out.p.p7
      obtain ⟨a0, a1, a2⟩ := HB1.out.a.p3
      obtain ⟨b0, b1, b2⟩ := HB1.out.b.p3
      obtain ⟨r0, r1, r2⟩ := HB1.out.r.p3
      obtain ⟨f0, f1, f2⟩ := HB1.out.r.f3
      clear hg2
      by_cases he2 : EV N ch S lv2 sp2 rB
      · have HE2 := Lib.hid he2
        rw [decide_eq_true he2]
        clear he2
        by_cases hl : lv = lv2
        · by_cases hsp : sp = sp2
          · subst hl hsp
            obtain ⟨n, rfl⟩ := Int.eq_ofNat_of_zero_le (show 0 ≤ lv by have := HE.out.1.1; omega)
            have HE0 := Lib.hid (show twoE N ch S n sp rA n sp rB = 0 from if_pos ⟨HV.out, HE.out, HE2.out, rfl, rfl⟩)
            have t1 : ((n : Int) != (n : Int)) = false := by simp
            have t2 : (sp != sp) = false := by simp
            go_wp2_with fail
            clear t1 t2
            refine (element_any N p1 p2 xC nC cC S p5 p6 n sp ch 98 #[.pointer (some ⟨w.heap.size + 3, 0, none⟩), .pointer (some ⟨w.heap.size + 1, 0, none⟩), .pointer (some ⟨w.heap.size + 2, 0, none⟩)] (fun i m => G m (rw_ rA i) (rw_ rB i)) w3 (by have := HE.out.1.1; omega) (by have := HE.out.1.2.1; omega) h3 (HC.out.later HG1.out) (enters_of Tryz.func98 (by kernel_rfl) rfl) (fun i j hi hj W hW => ?_)).mono ?_
            · have hM := mods_ok HV.out HE.out.1 hj
              have hE := HE.out.2
              have hE2 := HE2.out.2
              have hi' : i < rA.length := by rw [hE.1]; exact hi
              have hj' : i < rB.length := by rw [hE2.1]; exact hi
              have hbw := HB1.out.gr hW
              exact binary1_any fo capo G (w.heap.size + 3) (w.heap.size + 1) (w.heap.size + 2) i _ _ _ rA rB W hi' hj' ((HA.out.later HG1.out).later hW) ((HB.out.later HG1.out).later hW) (hbw.o.cell 0) hbw.a.p3.2.2 hbw.b.p3.2.2 hen
                (fun u v W' hW' hu hv => HOP.out HV.out _ _ _ u v W' ((HG1.out.trans hW).trans hW') hM (hE.2 i hi).1 (hE2.2 i hi).1 hu hv)
            · rintro e w4 ⟨u, rfl, hb, hg2⟩
              have HBU := Lib.hid hb
              have HG2 := Lib.hid (HG1.out.trans hg2)
              have HBR2 := Lib.hid (HB1.out.r.gr hg2)
              clear r0 r1 r2 f0 f1 f2
              obtain ⟨r0, r1, r2⟩ := HBR2.out.p3
              obtain ⟨f0, f1, f2⟩ := HBR2.out.f3
              have HSZ := Lib.hid HG1.out.size
              have HSZ1 := Lib.hid HB1.out.r.lt
              obtain ⟨xu, cu, rfl⟩ := hb.form
              generalize hlu : (rwA (Oj.mods ch S n sp) (fun i m => G m (rw_ rA i) (rw_ rB i))).length = nu at *
              have HLU := Lib.hid hlu
              clear hb hg2 q0 q1 q2 q3 q4 q5 q6 a0 a1 a2 b0 b1 b2 hlu
              go_wp2_with fail
              have hr := ((HBR2.out.set 0 (.int .i64 n)).set 1 (.bool sp)).set 2 (.slice xu nu cu)
              obtain ⟨e0, e1, e2⟩ := (show Blk _ _ _ #[.int .i64 n, .bool sp, .slice xu nu cu] from hr).p3
              refine bodyPost_ret (v := .tuple #[.agg #[.int .i64 n, .bool sp, .slice xu nu cu], .int .i64 0]) (by simp only [Nat.add_assoc, Nat.reduceAdd]; simp [results, Tryz.results64, go_sem, e0, e1, e2]) rfl ?_
              refine ⟨n, sp, _, _, by rw [HE0.out], .inl ⟨HE0.out, rfl, rfl, rfl⟩, ?_, ((HG2.out.setCell (p := ⟨w.heap.size + 4, 0, none⟩) (by simp) _).setCell (p := ⟨w.heap.size + 4, 1, none⟩) (by simp) _).setCell (p := ⟨w.heap.size + 4, 2, none⟩) (by simp) _⟩
              have hsz := HSZ.out
              have hsz1 := HSZ1.out
              have hb := HBU.out
              have h1 := ((hb.grown (grown_cell w4 (w.heap.size + 4) 0 (.int .i64 n)) (fun r e => by cases e; exact .inl (by omega))).grown (grown_cell _ (w.heap.size + 4) 1 (.bool sp)) (fun r e => by cases e; exact .inl (by omega))).grown (grown_cell _ (w.heap.size + 4) 2 (.slice xu nu cu)) (fun r e => by cases e; exact .inl (by omega))
              exact (h1.mono (by omega) (Nat.le_refl _)).cut
          · have HE0 := Lib.hid (HNO.out (fun h => hsp h.2.2.2.2))
            have t1 : (lv != lv2) = false := by simpa using hl
            clear hl
            cases sp with
            | false =>
              cases sp2 with
              | false => exact absurd rfl hsp
              | true =>
                clear hsp
                go_wp2_with fail
                have hr := ((HB1.out.r.set 0 (.int .i64 0)).set 1 (.bool false)).set 2 (.slice none 0 0)
                obtain ⟨e0, e1, e2⟩ := (show Blk _ _ _ #[.int .i64 0, .bool false, .slice none 0 0] from hr).p3
                refine bodyPost_ret (v := .tuple #[.agg #[.int .i64 0, .bool false, .slice none 0 0], .int .i64 2]) (by simp only [Nat.add_assoc, Nat.reduceAdd]; simp [results, Tryz.results64, go_sem, e0, e1, e2]) rfl ?_
                exact ⟨0, false, [], _, by rw [HE0.out], .inr ⟨HE0.out, rfl, rfl, rfl⟩, HasB.nil _ _ _, ((HG1.out.setCell (p := ⟨w.heap.size + 4, 0, none⟩) (by simp) _).setCell (p := ⟨w.heap.size + 4, 1, none⟩) (by simp) _).setCell (p := ⟨w.heap.size + 4, 2, none⟩) (by simp) _⟩
            | true =>
              cases sp2 with
              | true => exact absurd rfl hsp
              | false =>
                clear hsp
                go_wp2_with fail
                have hr := ((HB1.out.r.set 0 (.int .i64 0)).set 1 (.bool false)).set 2 (.slice none 0 0)
                obtain ⟨e0, e1, e2⟩ := (show Blk _ _ _ #[.int .i64 0, .bool false, .slice none 0 0] from hr).p3
                refine bodyPost_ret (v := .tuple #[.agg #[.int .i64 0, .bool false, .slice none 0 0], .int .i64 2]) (by simp only [Nat.add_assoc, Nat.reduceAdd]; simp [results, Tryz.results64, go_sem, e0, e1, e2]) rfl ?_
                exact ⟨0, false, [], _, by rw [HE0.out], .inr ⟨HE0.out, rfl, rfl, rfl⟩, HasB.nil _ _ _, ((HG1.out.setCell (p := ⟨w.heap.size + 4, 0, none⟩) (by simp) _).setCell (p := ⟨w.heap.size + 4, 1, none⟩) (by simp) _).setCell (p := ⟨w.heap.size + 4, 2, none⟩) (by simp) _⟩
        · have HE0 := Lib.hid (HNO.out (fun h => hl h.2.2.2.1))
          have t1 : (lv != lv2) = true := by simpa using hl
          clear hl
          go_wp2_with fail
          have hr := ((HB1.out.r.set 0 (.int .i64 0)).set 1 (.bool false)).set 2 (.slice none 0 0)
          obtain ⟨e0, e1, e2⟩ := (show Blk _ _ _ #[.int .i64 0, .bool false, .slice none 0 0] from hr).p3
          refine bodyPost_ret (v := .tuple #[.agg #[.int .i64 0, .bool false, .slice none 0 0], .int .i64 2]) (by simp only [Nat.add_assoc, Nat.reduceAdd]; simp [results, Tryz.results64, go_sem, e0, e1, e2]) rfl ?_
          exact ⟨0, false, [], _, by rw [HE0.out], .inr ⟨HE0.out, rfl, rfl, rfl⟩, HasB.nil _ _ _, ((HG1.out.setCell (p := ⟨w.heap.size + 4, 0, none⟩) (by simp) _).setCell (p := ⟨w.heap.size + 4, 1, none⟩) (by simp) _).setCell (p := ⟨w.heap.size + 4, 2, none⟩) (by simp) _⟩
      · have HE0 := Lib.hid (HNO.out (fun h => he2 h.2.2.1))
        rw [decide_eq_false he2]
        clear he2
        go_wp2_with fail
        have hr := ((HB1.out.r.set 0 (.int .i64 0)).set 1 (.bool false)).set 2 (.slice none 0 0)
        obtain ⟨e0, e1, e2⟩ := (show Blk _ _ _ #[.int .i64 0, .bool false, .slice none 0 0] from hr).p3
        refine bodyPost_ret (v := .tuple #[.agg #[.int .i64 0, .bool false, .slice none 0 0], .int .i64 2]) (by simp only [Nat.add_assoc, Nat.reduceAdd]; simp [results, Tryz.results64, go_sem, e0, e1, e2]) rfl ?_
        exact ⟨0, false, [], _, by rw [HE0.out], .inr ⟨HE0.out, rfl, rfl, rfl⟩, HasB.nil _ _ _, ((HG1.out.setCell (p := ⟨w.heap.size + 4, 0, none⟩) (by simp) _).setCell (p := ⟨w.heap.size + 4, 1, none⟩) (by simp) _).setCell (p := ⟨w.heap.size + 4, 2, none⟩) (by simp) _⟩
    · have HE0 := Lib.hid (HNO.out (fun h => he h.2.1))
      rw [decide_eq_false he]
      clear he
      go_wp2_with fail
      have hr := ((HB1.out.r.set 0 (.int .i64 0)).set 1 (.bool false)).set 2 (.slice none 0 0)
      obtain ⟨e0, e1, e2⟩ := (show Blk _ _ _ #[.int .i64 0, .bool false, .slice none 0 0] from hr).p3
      refine bodyPost_ret (v := .tuple #[.agg #[.int .i64 0, .bool false, .slice none 0 0], .int .i64 2]) (by simp only [Nat.add_assoc, Nat.reduceAdd]; simp [results, Tryz.results64, go_sem, e0, e1, e2]) rfl ?_
      exact ⟨0, false, [], _, by rw [HE0.out], .inr ⟨HE0.out, rfl, rfl, rfl⟩, HasB.nil _ _ _, ((HG1.out.setCell (p := ⟨w.heap.size + 4, 0, none⟩) (by simp) _).setCell (p := ⟨w.heap.size + 4, 1, none⟩) (by simp) _).setCell (p := ⟨w.heap.size + 4, 2, none⟩) (by simp) _⟩
  · have HE0 := Lib.hid (HNO.out (fun h => hv h.1))
    rw [decide_eq_false hv]
    clear hv
    go_wp2_with fail
    have hr := ((HB1.out.r.set 0 (.int .i64 0)).set 1 (.bool false)).set 2 (.slice none 0 0)
    obtain ⟨e0, e1, e2⟩ := (show Blk _ _ _ #[.int .i64 0, .bool false, .slice none 0 0] from hr).p3
    refine bodyPost_ret (v := .tuple #[.agg #[.int .i64 0, .bool false, .slice none 0 0], .int .i64 2]) (by simp only [Nat.add_assoc, Nat.reduceAdd]; simp [results, Tryz.results64, go_sem, e0, e1, e2]) rfl ?_
    exact ⟨0, false, [], _, by rw [HE0.out], .inr ⟨HE0.out, rfl, rfl, rfl⟩, HasB.nil _ _ _, ((HG1.out.setCell (p := ⟨w.heap.size + 4, 0, none⟩) (by simp) _).setCell (p := ⟨w.heap.size + 4, 1, none⟩) (by simp) _).setCell (p := ⟨w.heap.size + 4, 2, none⟩) (by simp) _⟩
end Go.Proofs.YtlfiakpmnkhcdaaGreat.Mo
