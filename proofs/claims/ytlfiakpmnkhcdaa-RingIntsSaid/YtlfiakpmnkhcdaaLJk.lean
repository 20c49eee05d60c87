import Derived.Test.YtlfiakpmnkhcdaaLJj
namespace Go.Proofs.Ytlfiakpmnkhcdaa.Mo
open Go.RowKit Go.Shelf
set_option linter.unusedVariables false
set_option maxRecDepth 100000 in
set_option maxHeartbeats 2000000 in
theorem rholds_any (N p1 p2 : Int) (xC : Option Addr) (nC cC : Nat) (S p5 p6 : Int) (lv : Int) (sp : Bool) (ch : List Int) (uA : Value) (rows : List (List Int)) (w : World) (h3 : ch.length ≤ 1000) (hC : HasP w (.slice xC nC cC) ch) (hA : HasR w uA rows) :
    Calls Try.prog 34 #[.agg #[.int .i64 N, .int .u32 p1, .int .i64 p2, .slice xC nC cC, .int .u32 S, .int .i64 p5, .int .u32 p6], .agg #[.int .i64 lv, .bool sp, uA]] w (fun e w' => e = .returned (.bool (decide (EV N ch S lv sp rows))) ∧ Gr w w') := by
  obtain ⟨xA, cA, rfl⟩ := hA.form
  generalize hnA : rows.length = nA at *
  have HNA := Lib.hid hnA
  clear hnA
  by_cases hE : EX ch S lv sp
  · obtain ⟨n, rfl⟩ := Int.eq_ofNat_of_zero_le (show 0 ≤ lv by have := hE.1; omega)
    refine (holds1_any N p1 p2 xC nC cC S p5 p6 n sp ch xA nA cA rows w h3 hC hA hE).mono ?_
    rintro e w' ⟨rfl, hg⟩
    refine ⟨ret_bool ?_, hg⟩
    rw [Bool.eq_iff_iff, decide_eq_true_iff, decide_eq_true_iff]
    exact ⟨fun h => ⟨hE, h⟩, fun h => h.2⟩
  · have HE := Lib.hid hE
    have HCL := Lib.hid hC.len.1
    have HEV := Lib.hid (show decide (EV N ch S lv sp rows) = false from decide_eq_false fun h => hE h.1)
    clear hE hC hA
    have HG0 := Lib.hid (show Gr w (((w.alloc (.cells #[.int .i64 N, .int .u32 p1, .int .i64 p2, .slice xC nC cC, .int .u32 S, .int .i64 p5, .int .u32 p6] 25)).alloc (.cells #[.int .i64 lv, .bool sp, .slice xA nA cA] 28)).alloc (.cells #[.bool false] 4)) from ((Gr.new w _).alloc _).alloc _)
    have HB := Lib.hid (show Boxed (((w.alloc (.cells #[.int .i64 N, .int .u32 p1, .int .i64 p2, .slice xC nC cC, .int .u32 S, .int .i64 p5, .int .u32 p6] 25)).alloc (.cells #[.int .i64 lv, .bool sp, .slice xA nA cA] 28)).alloc (.cells #[.bool false] 4)) (w.heap.size + 2) 4 (.bool false) by
      have b := Boxed.new ((w.alloc (.cells #[.int .i64 N, .int .u32 p1, .int .i64 p2, .slice xC nC cC, .int .u32 S, .int .i64 p5, .int .u32 p6] 25)).alloc (.cells #[.int .i64 lv, .bool sp, .slice xA nA cA] 28)) 4 (.bool false)
      rw [World.size_alloc, World.size_alloc] at b
      exact b)
    go_enter Try.func34, Try.ntmps34
    go_wp2_with fail
    refine (exists_any N p1 p2 xC nC cC S p5 p6 lv sp ch HCL.out _).mono ?_
    rintro e w1 ⟨rfl, hg1⟩
    rw [decide_eq_false HE.out]
    have HG1 := Lib.hid (HG0.out.trans hg1)
    have hb := boxed_gr HB.out hg1
    have c0 := hb.cell
    have f0 := hb.frozen
    have HB1 := Lib.hid hb
    clear hg1 hb
    go_wp2_with fail
    have e0 := (HB1.out.set (.bool false)).cell
    refine bodyPost_ret (v := .bool false) (by simp only [Nat.add_assoc, Nat.reduceAdd]; simp [results, Try.results34, go_sem, e0]) rfl ⟨by rw [HEV.out], ?_⟩
    exact HG1.out.setCell (p := ⟨w.heap.size + 2, 0, none⟩) (by simp) _
def allM (ch : List Int) (S : Int) : List Int := Oj.mods ch S ch.length (S != 0)
def MOK (l : List Int) (i : Nat) : Prop := 3 ≤ Op.cf l i ∧ Op.cf l i ≤ 2147483647 ∧ Op.cf l i % 2 ≠ 0 ∧ ¬ Op.cf l i ∈ l.take i
instance (l : List Int) (i : Nat) : Decidable (MOK l i) := by unfold MOK; infer_instance
def VP (N : Int) (ch : List Int) (S : Int) : Prop := DimI N ∧ 1 ≤ ch.length ∧ ch.length ≤ 24 ∧ ∀ i, i < (allM ch S).length → MOK (allM ch S) i
instance (N : Int) (ch : List Int) (S : Int) : Decidable (VP N ch S) := by unfold VP; infer_instance
set_option maxRecDepth 100000 in
set_option maxHeartbeats 4000000 in
theorem valid_any (N p1 p2 : Int) (xC : Option Addr) (nC cC : Nat) (S p5 p6 : Int) (ch : List Int) (w : World) (hC : HasP w (.slice xC nC cC) ch) (hS : 0 ≤ S ∧ S < 4294967296) :
    Calls Try.prog 13 #[.agg #[.int .i64 N, .int .u32 p1, .int .i64 p2, .slice xC nC cC, .int .u32 S, .int .i64 p5, .int .u32 p6]] w (fun e w' => e = .returned (.bool (decide (VP N ch S))) ∧ Gr w w') := by
  have HC := Lib.hid hC
  have HS := Lib.hid hS
  have HNC := Lib.hid hC.len.1
  have HCC := Lib.hid hC.len.2
  have HD := Lib.hid (show ∀ b : Bool, (b = true ↔ VP N ch S) → decide (VP N ch S) = b from fun b hb => by
    cases b with
    | false => exact decide_eq_false fun h => by have := hb.2 h; cases this
    | true => exact decide_eq_true (hb.1 rfl))
  have HG0 := Lib.hid (Gr.new w (.cells #[.int .i64 N, .int .u32 p1, .int .i64 p2, .slice xC nC cC, .int .u32 S, .int .i64 p5, .int .u32 p6] 25))
  have HB0 := Lib.hid (Blk.new w 25 #[.int .i64 N, .int .u32 p1, .int .i64 p2, .slice xC nC cC, .int .u32 S, .int .i64 p5, .int .u32 p6])
  clear hC hS
  by_cases hN : DimI N
  · have HN := Lib.hid hN
    clear hN
    by_cases hl1 : (nC : Int) < 1
    · have t1 : decide ((nC : Int) < 1) = true := by simpa using hl1
      go_enter Try.func13, Try.ntmps13
      go_wp2_with fail
      refine (dimension_any N _).mono ?_
      rintro e w1 ⟨rfl, rfl⟩
      rw [decide_eq_true HN.out]
      go_wp2_with fail
      go_ret
      exact ⟨by rw [HD.out false (by simp [VP]; intro _ h; have := HNC.out; omega)]; rfl, HG0.out⟩
    by_cases hl2 : (nC : Int) > 24
    · have t1 : decide ((nC : Int) < 1) = false := by simpa using hl1
      have t2 : decide ((nC : Int) > 24) = true := by simpa using hl2
      have t2' : decide (24 < (nC : Int)) = true := by simpa using hl2
      go_enter Try.func13, Try.ntmps13
      go_wp2_with fail
      refine (dimension_any N _).mono ?_
      rintro e w1 ⟨rfl, rfl⟩
      rw [decide_eq_true HN.out]
      go_wp2_with fail
      go_ret
      exact ⟨by rw [HD.out false (by simp [VP]; intro _ _ h; have := HNC.out; omega)]; rfl, HG0.out⟩
    · have t1 : decide ((nC : Int) < 1) = false := by simpa using hl1
      have t2 : decide ((nC : Int) > 24) = false := by simpa using hl2
      have t2' : decide (24 < (nC : Int)) = false := by simpa using hl2
      have h1 : 1 ≤ nC := by omega
      have h2 : nC ≤ 24 := by omega
      have hsz0 : (w.alloc (.cells #[.int .i64 N, .int .u32 p1, .int .i64 p2, .slice xC nC cC, .int .u32 S, .int .i64 p5, .int .u32 p6] 25)).heap.size = w.heap.size + 1 := by simp
      go_enter Try.func13, Try.ntmps13
      go_wp2_with fail
      refine (dimension_any N _).mono ?_
      rintro e w1 ⟨rfl, rfl⟩
      rw [decide_eq_true HN.out]
      go_wp2_with fail
      refine (moduli_any N p1 p2 xC nC cC S p5 p6 nC (S != 0) _).mono ?_
      rintro e w6 ⟨rfl, hw6⟩
      have HM := Lib.hid (show MI (w.heap.size + 1) xC nC cC S nC (S != 0) ch w6 by rw [← hw6, ← hsz0]; exact MI.new N p1 p2 xC nC cC S p5 p6 nC (S != 0) ch _ (HC.out.later HG0.out))
      have HG6 := Lib.hid (show Gr w w6 by rw [← hw6]; exact ((HG0.out.alloc _).alloc _).alloc _)
      rw [hsz0]
      clear hw6 hsz0 t1 t2 t2'
      go_wp2_with fail
      refine (collect_any (w.heap.size + 1) xC nC cC S nC (S != 0) ch w6 h1 (by rw [← HNC.out]; exact Nat.le_refl _) (by rw [← HNC.out]; omega) HS.out HM.out).mono ?_
      rintro e w7 ⟨a7, n7, c7, rfl, hp7, -, hg7⟩
      have HALL := Lib.hid (show Oj.mods ch S nC (S != 0) = allM ch S by unfold allM; rw [← HNC.out])
      rw [HALL.out] at hp7
      have HP := Lib.hid hp7
      have HG7 := Lib.hid (HG6.out.trans hg7)
      have HL7 := Lib.hid hp7.len.1
      have HU7 := Lib.hid hp7.1
      have hn7 : n7 ≤ 25 := by
        have h := hp7.len.1
        have h5 := Oj.mods_len (S := S) (lv := ch.length) (sp := S != 0) (Nat.le_refl _)
        have h6 : (allM ch S).length = (Oj.mods ch S ch.length (S != 0)).length := rfl
        have h7 := HNC.out
        have h8 : (if (S != 0) = true then 1 else 0) ≤ 1 := by split <;> omega
        omega
      have HCP := Lib.hid hp7.len.2
      have hcp : c7 ≤ 9223372036854775807 := by obtain ⟨_, a, c, e, _, h, _⟩ := hp7; cases e; exact h
      obtain ⟨M, hM⟩ : ∃ M, M = allM ch S := ⟨_, rfl⟩
      have HME := Lib.hid hM
      rw [← hM] at HP HL7 HU7
      have hcn : n7 ≤ c7 := HCP.out
      clear hp7 hg7 hM
      go_wp2_with fail
      go_loopw [4, 5, 33] (fun _ _ t wr => ∃ k : Nat, t = .int .i64 k ∧ k ≤ n7 ∧ (∀ j, j < k → MOK M j) ∧ Gr w7 wr) (fun _ _ t _ => n7 - (intOf t).toNat)
      case atStart => exact ⟨0, rfl, by omega, fun j hj => by omega, Gr.refl _⟩
      case round =>
        obtain ⟨k, rfl, hk, hok, hg⟩ := hrel
        have HOK := Lib.hid hok
        have HGL := Lib.hid hg
        have HGW := Lib.hid (HG7.out.trans hg)
        clear hok hg
        by_cases hlt : k < n7
        · have i1 : (k : Int) < (n7 : Int) := by omega
          have i0 : (0 : Int) ≤ (k : Int) := by omega
          have i2 : (k : Int) ≤ (c7 : Int) := by omega
          obtain ⟨gx, ox, rfl, hcx⟩ := (HP.out.later HGL.out).at_ (i := k) (by rw [← HL7.out]; exact hlt)
          obtain ⟨x0, x1⟩ := HU7.out.at_ k
          obtain ⟨x, hx⟩ : ∃ x, x = Op.cf M k := ⟨_, rfl⟩
          rw [← hx] at hcx x0 x1
          have HX := Lib.hid hx
          have HBAD := Lib.hid (show ¬ MOK M k → decide (VP N ch S) = false from fun h => decide_eq_false fun hv => h (by
            rw [HME.out]; exact hv.2.2.2 k (by rw [← HME.out, ← HL7.out]; exact hlt)))
          clear hx
          by_cases a1 : x < 3
          · have s1 : decide (x < 3) = true := by simpa using a1
            go_wp2_with fail
            go_ret
            exact ⟨by rw [HBAD.out (fun h => by have := h.1; have := HX.out; omega)]; rfl, HGW.out⟩
          have s1 : decide (x < 3) = false := by simpa using a1
          by_cases a2 : x > 2147483647
          · have s2 : decide (x > 2147483647) = true := by simpa using a2
            have s2' : decide (2147483647 < x) = true := by simpa using a2
            go_wp2_with fail
            go_ret
            exact ⟨by rw [HBAD.out (fun h => by have := h.2.1; have := HX.out; omega)]; rfl, HGW.out⟩
          have s2 : decide (x > 2147483647) = false := by simpa using a2
          have s2' : decide (2147483647 < x) = false := by simpa using a2
          by_cases a3 : x % 2 = 0
          · have s3 : (x % 2 == 0) = true := by simpa using a3
            go_wp2_with fail
            go_ret
            exact ⟨by rw [HBAD.out (fun h => by have := h.2.2.1; have := HX.out; subst this; omega)]; rfl, HGW.out⟩
          have s3 : (x % 2 == 0) = false := by simpa using a3
          have HTK := Lib.hid (show HasP wr (.slice (some ⟨gx, ox, none⟩) k c7) (M.take k) from (HP.out.later HGL.out).take (by rw [← HL7.out]; omega))
          have HTL := Lib.hid (show (M.take k).length ≤ 1000000 by rw [List.length_take]; omega)
          go_wp2_with fail
          refine (contains_any (M.take k) x _ _ HTK.out HTL.out).mono ?_
          rintro e w8 ⟨b, rfl, hb, hg8⟩
          have HGL8 := Lib.hid (HGL.out.trans hg8)
          have HGW8 := Lib.hid (HGW.out.trans hg8)
          have HB8 := Lib.hid hb
          clear hb hg8
          cases b with
          | true =>
            go_wp2_with fail
            go_ret
            exact ⟨by rw [HBAD.out (fun h => h.2.2.2 (by rw [← HX.out]; exact HB8.out.1 (by first | rfl | trivial)))]; rfl, HGW8.out⟩
          | false =>
            have HGOOD := Lib.hid (show MOK M k from ⟨by rw [← HX.out]; omega, by rw [← HX.out]; omega, by rw [← HX.out]; exact a3, fun h => by rw [← HX.out] at h; have := HB8.out.2 h; cases this⟩)
            go_wp2_with fail
            go_roundw
            case rel => exact ⟨k + 1, by go_num, by omega, fun j hj => by
              by_cases hjk : j = k
              · subst hjk; exact HGOOD.out
              · exact HOK.out j (by omega), HGL8.out⟩
            case measure => simp [intOf]; omega
        · obtain rfl : k = n7 := by omega
          have i1 : ¬ (k : Int) < (k : Int) := by omega
          go_wp2_with fail
          go_ret
          have HFIN := Lib.hid (show ∀ i, i < (allM ch S).length → MOK (allM ch S) i from fun i hi => by
            rw [← HME.out] at hi ⊢
            exact HOK.out i (by rw [HL7.out]; exact hi))
          exact ⟨by rw [HD.out true ⟨fun _ => ⟨HN.out, by rw [← HNC.out]; exact h1, by rw [← HNC.out]; exact h2, HFIN.out⟩, fun _ => rfl⟩]; rfl, HGW.out⟩
  · have HN := Lib.hid hN
    clear hN
    go_enter Try.func13, Try.ntmps13
    go_wp2_with fail
    refine (dimension_any N _).mono ?_
    rintro e w1 ⟨rfl, rfl⟩
    rw [decide_eq_false HN.out]
    go_wp2_with fail
    go_ret
    exact ⟨by rw [HD.out false (by simp [VP]; intro h; exact absurd h HN.out)]; rfl, HG0.out⟩
def chkE (N : Int) (ch : List Int) (S : Int) (lv : Int) (sp : Bool) (rows : List (List Int)) : Int := if VP N ch S ∧ EV N ch S lv sp rows then 0 else 2
set_option maxRecDepth 100000 in
set_option maxHeartbeats 1000000 in
theorem pCheck_any (N p1 p2 : Int) (xC : Option Addr) (nC cC : Nat) (S p5 p6 : Int) (lv : Int) (sp : Bool) (ch : List Int) (uA : Value) (rows : List (List Int)) (w : World) (h3 : ch.length ≤ 1000) (hC : HasP w (.slice xC nC cC) ch) (hS : 0 ≤ S ∧ S < 4294967296) (hA : HasR w uA rows) :
    Calls Try.prog 18 #[.agg #[.int .i64 N, .int .u32 p1, .int .i64 p2, .slice xC nC cC, .int .u32 S, .int .i64 p5, .int .u32 p6], .agg #[.int .i64 lv, .bool sp, uA]] w (fun e w' => e = .returned (.int .i64 (chkE N ch S lv sp rows)) ∧ Gr w w') := by
  obtain ⟨xA, cA, rfl⟩ := hA.form
  have HC := Lib.hid hC
  have HA := Lib.hid hA
  have HS := Lib.hid hS
  clear hC hA hS
  obtain ⟨W2, hW2⟩ : ∃ W2, W2 = (w.alloc (.cells #[.int .i64 N, .int .u32 p1, .int .i64 p2, .slice xC nC cC, .int .u32 S, .int .i64 p5, .int .u32 p6] 25)).alloc (.cells #[.int .i64 lv, .bool sp, .slice xA rows.length cA] 28) := ⟨_, rfl⟩
  have HG2 := Lib.hid (show Gr w W2 by rw [hW2]; exact (Gr.new w _).alloc _)
  have HBP := Lib.hid (show Blk W2 w.heap.size 25 #[.int .i64 N, .int .u32 p1, .int .i64 p2, .slice xC nC cC, .int .u32 S, .int .i64 p5, .int .u32 p6] by rw [hW2]; exact (Blk.new w _ _).gr (Gr.new _ _))
  have HBE := Lib.hid (show Blk W2 (w.heap.size + 1) 28 #[.int .i64 lv, .bool sp, .slice xA rows.length cA] by
    rw [hW2]
    have b := Blk.new (w.alloc (.cells #[.int .i64 N, .int .u32 p1, .int .i64 p2, .slice xC nC cC, .int .u32 S, .int .i64 p5, .int .u32 p6] 25)) 28 #[.int .i64 lv, .bool sp, .slice xA rows.length cA]
    rw [World.size_alloc] at b
    exact b)
  generalize hnA : rows.length = nA at *
  go_enter Try.func18, Try.ntmps18
  clear hnA
  go_wp2_with fail
  rw [← hW2]
  refine (valid_any N p1 p2 xC nC cC S p5 p6 ch _ (HC.out.later HG2.out) HS.out).mono ?_
  rintro e w1 ⟨rfl, hg1⟩
  have HG1 := Lib.hid (HG2.out.trans hg1)
  obtain ⟨q0, q1, q2, q3, q4, q5, q6⟩ := (HBP.out.gr hg1).p7
  obtain ⟨k0, k1, k2⟩ := (HBE.out.gr hg1).p3
  clear hg1 hW2
  by_cases hv : VP N ch S
  · have HV := Lib.hid hv
    rw [decide_eq_true hv]
    clear hv
    go_wp2_with fail
    refine (rholds_any N p1 p2 xC nC cC S p5 p6 lv sp ch _ rows _ h3 (HC.out.later HG1.out) (HA.out.later HG1.out)).mono ?_
    rintro e w2 ⟨rfl, hg2⟩
    have HG3 := Lib.hid (HG1.out.trans hg2)
    clear hg2 q0 q1 q2 q3 q4 q5 q6 k0 k1 k2
    by_cases he : EV N ch S lv sp rows
    · have HE := Lib.hid (show chkE N ch S lv sp rows = 0 from if_pos ⟨HV.out, he⟩)
      rw [decide_eq_true he]
      clear he
      go_wp2_with fail
      go_ret
      exact ⟨by rw [HE.out]; rfl, HG3.out⟩
    · have HE := Lib.hid (show chkE N ch S lv sp rows = 2 from if_neg fun h => he h.2)
      rw [decide_eq_false he]
      clear he
      go_wp2_with fail
      go_ret
      exact ⟨by rw [HE.out]; rfl, HG3.out⟩
  · have HE := Lib.hid (show chkE N ch S lv sp rows = 2 from if_neg fun h => hv h.1)
    rw [decide_eq_false hv]
    clear hv
    go_wp2_with fail
    go_ret
    exact ⟨by rw [HE.out]; rfl, HG1.out⟩
end Go.Proofs.Ytlfiakpmnkhcdaa.Mo
