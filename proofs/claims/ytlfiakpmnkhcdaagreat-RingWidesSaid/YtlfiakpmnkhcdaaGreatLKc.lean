import Derived.Test.YtlfiakpmnkhcdaaGreatLJs
import Derived.Test.YtlfiakpmnkhcdaaGreatLJu
namespace Go.Proofs.YtlfiakpmnkhcdaaGreat.Mo
open Go.RowKit Go.Shelf
set_option linter.unusedVariables false
set_option maxRecDepth 100000 in
set_option maxHeartbeats 1000000 in
theorem fPlace_any (N p1 p2 : Int) (xC : Option Addr) (nC cC : Nat) (S p5 p6 : Int) (lv : Int) (sp : Bool) (ch : List Int) (hl : nC = ch.length) (w : World) :
  Calls Tryz.prog 60 #[.agg #[.int .i64 N, .int .u32 p1, .int .i64 p2, .slice xC nC cC, .int .u32 S, .int .i64 p5, .int .u32 p6], .int .i64 lv, .bool sp] w (fun e w' => e = .returned (.bool (decide (EX ch S lv sp))) ∧ Gr w w') := by
 have HD := Lib.hid (show ∀ b : Bool, (b = true ↔ EX ch S lv sp) → decide (EX ch S lv sp) = b from fun b hb => by
  cases b with
  | false => exact decide_eq_false fun h => by have := hb.2 h; cases this
  | true => exact decide_eq_true (hb.1 rfl))
 have HE := Lib.hid (show EX ch S lv sp ↔ 1 ≤ lv ∧ lv ≤ nC ∧ (sp = true → S ≠ 0) by rw [hl]; exact Iff.rfl)
 have HG := Lib.hid (Gr.new w (.cells #[.int .i64 N, .int .u32 p1, .int .i64 p2, .slice xC nC cC, .int .u32 S, .int .i64 p5, .int .u32 p6] 25))
 clear hl
 by_cases h1 : lv ≥ 1
 ·have t1 : decide (lv ≥ 1) = true := by simpa using h1
  have t1' : decide (1 ≤ lv) = true := by simpa using h1
  by_cases h2 : lv ≤ (nC : Int)
  ·have t2 : decide (lv ≤ (nC : Int)) = true := by simpa using h2
   cases sp with
   | false =>
    go_enter Tryz.func60, Tryz.ntmps60
    go_wp2_with fail
    go_ret
    exact ⟨by rw [HD.out true (by rw [HE.out]; simp; omega)]; rfl, HG.out⟩
   | true =>
    by_cases h3 : S = 0
    ·subst h3
     go_enter Tryz.func60, Tryz.ntmps60
     go_wp2_with fail
     go_ret
     exact ⟨by rw [HD.out false (by rw [HE.out]; simp)]; rfl, HG.out⟩
    ·have t3 : (S != 0) = true := by simpa using h3
     go_enter Tryz.func60, Tryz.ntmps60
     go_wp2_with fail
     go_ret
     exact ⟨by rw [HD.out true (by rw [HE.out]; simp; omega)]; rfl, HG.out⟩
  ·have t2 : decide (lv ≤ (nC : Int)) = false := by simpa using h2
   go_enter Tryz.func60, Tryz.ntmps60
   go_wp2_with fail
   go_ret
   exact ⟨by rw [HD.out false (by rw [HE.out]; simp; omega)]; rfl, HG.out⟩
 ·have t1 : decide (lv ≥ 1) = false := by simpa using h1
  have t1' : decide (1 ≤ lv) = false := by simpa using h1
  go_enter Tryz.func60, Tryz.ntmps60
  go_wp2_with fail
  go_ret
  exact ⟨by rw [HD.out false (by rw [HE.out]; simp; omega)]; rfl, HG.out⟩
set_option maxRecDepth 100000 in
set_option maxHeartbeats 1000000 in
theorem fModuli_any (N p1 p2 : Int) (xC : Option Addr) (nC cC : Nat) (S p5 p6 : Int) (lv : Nat) (sp : Bool) (ch : List Int) (w : World) (hl : lv ≤ ch.length) (h3 : ch.length ≤ 1000) (hC : HasP w (.slice xC nC cC) ch) (hS : 0 ≤ S ∧ S < 4294967296) :
  Calls Tryz.prog 61 #[.agg #[.int .i64 N, .int .u32 p1, .int .i64 p2, .slice xC nC cC, .int .u32 S, .int .i64 p5, .int .u32 p6], .int .i64 lv, .bool sp] w (NewP (Oj.mods ch S lv sp) w) := by
 obtain ⟨W0, hW0⟩ : ∃ W0, W0 = w.alloc (.cells #[.int .i64 N, .int .u32 p1, .int .i64 p2, .slice xC nC cC, .int .u32 S, .int .i64 p5, .int .u32 p6] 25) := ⟨_, rfl⟩
 have HG0 := Lib.hid (show Gr w W0 by rw [hW0]; exact Gr.new w _)
 have HBP := Lib.hid (show Blk W0 w.heap.size 25 #[.int .i64 N, .int .u32 p1, .int .i64 p2, .slice xC nC cC, .int .u32 S, .int .i64 p5, .int .u32 p6] by rw [hW0]; exact Blk.new w _ _)
 have HSZ := Lib.hid (show w.heap.size ≤ W0.heap.size by rw [hW0]; simp)
 have HT := Lib.hid ((hC.later HG0.out).take hl)
 have HTL := Lib.hid (show (ch.take lv).length = lv by rw [List.length_take]; omega)
 have HLN := Lib.hid (show ([] : List Int).length + (ch.take lv).length ≤ 1000000 by rw [HTL.out]; simp; omega)
 have HLM := Lib.hid (show (ch.take lv).length + ([S] : List Int).length ≤ 1000000 by rw [HTL.out]; simp; omega)
 have HS := Lib.hid hS
 have hcc : (lv : Int) ≤ (cC : Int) := by have := hC.len; omega
 have hc0 : (0 : Int) ≤ (lv : Int) := by omega
 obtain ⟨q0, q1, q2, q3, q4, q5, q6⟩ := HBP.out.p7
 clear hC hS hl h3
 cases sp with
 | false =>
  go_enter Tryz.func61, Tryz.ntmps61
  go_upto_region 1 with (fail)
  rw [← hW0]
  clear hW0
  go_wp2_with (at_builtin; refine wpList_app rfl (.tmp 8) (.tmp 12) rfl rfl w.heap.size (.slice none 0 0) [] rfl (Own1.nil _ _) (.slice xC lv cC) (ch.take lv) rfl HT.out HLN.out HSZ.out ?_; intro v' w2 hown hgrow; rw [List.nil_append] at hown; have HO := Lib.hid hown; have HG := Lib.hid (show Gr W0 w2 from grown_own (Gr.refl _) (Own1.nil _ W0.heap.size) hgrow (Nat.le_refl _)); clear hown hgrow)
  go_ret
  obtain ⟨a, c, rfl, -, -⟩ := HO.out.form
  refine ⟨_, _, _, rfl, ?_, HO.out.fresh rfl, HG0.out.trans HG.out⟩
  have := HO.out.hasP
  rw [show Oj.mods ch S lv false = ch.take lv by simp [Oj.mods]]
  exact this
 | true =>
  go_enter Tryz.func61, Tryz.ntmps61
  go_upto_region 1 with (fail)
  rw [← hW0]
  clear hW0
  go_wp2_with (first
   | (at_builtin; refine wpList_app rfl (.tmp 8) (.tmp 12) rfl rfl w.heap.size (.slice none 0 0) [] rfl (Own1.nil _ _) (.slice xC lv cC) (ch.take lv) rfl HT.out HLN.out HSZ.out ?_; intro v' w2 hown hgrow; rw [List.nil_append] at hown; have HO := Lib.hid hown; have HG := Lib.hid (show Gr W0 w2 from grown_own (Gr.refl _) (Own1.nil _ W0.heap.size) hgrow (Nat.le_refl _)); have q4 := HG.out.keeps q4; clear hown hgrow)
   | (at_builtin; refine wpList_app rfl (.tmp 15) (.tmp 18) rfl rfl w.heap.size v' (ch.take lv) rfl (HO.out.alloc _) (.slice (some ⟨w2.heap.size, 0, none⟩) 1 1) [S] rfl (one_hasP' _ _ _ rfl HS.out) HLM.out (Nat.le_trans (HG0.out.trans HG.out).size (Nat.le_of_lt (by simp))) ?_; intro v3 w3 hown hgrow; have HO3 := Lib.hid hown; have HG3 := Lib.hid (show Gr w w3 from grown_own ((HG0.out.trans HG.out).alloc _) (HO.out.alloc _) hgrow (Nat.le_refl _)); clear hown hgrow))
  go_ret
  obtain ⟨a, c, rfl, -, -⟩ := HO3.out.form
  exact ⟨_, _, _, rfl, HO3.out.hasP, HO3.out.fresh rfl, HG3.out⟩
set_option maxRecDepth 100000 in
set_option maxHeartbeats 4000000 in
theorem fValid_any (N p1 p2 : Int) (xC : Option Addr) (nC cC : Nat) (S p5 p6 : Int) (ch : List Int) (w : World) (hC : HasP w (.slice xC nC cC) ch) (hS : 0 ≤ S ∧ S < 4294967296) :
  Calls Tryz.prog 59 #[.agg #[.int .i64 N, .int .u32 p1, .int .i64 p2, .slice xC nC cC, .int .u32 S, .int .i64 p5, .int .u32 p6]] w (fun e w' => e = .returned (.bool (decide (VP N ch S))) ∧ Gr w w') := by
 have HC := Lib.hid hC
 have HS := Lib.hid hS
 have HNC := Lib.hid hC.len.1
 have HCC := Lib.hid hC.len.2
 have HD := Lib.hid (show ∀ b : Bool, (b = true ↔ VP N ch S) → decide (VP N ch S) = b from fun b hb => by
  cases b with
  | false => exact decide_eq_false fun h => by have := hb.2 h; cases this
  | true => exact decide_eq_true (hb.1 rfl))
 obtain ⟨W0, hW0⟩ : ∃ W0, W0 = w.alloc (.cells #[.int .i64 N, .int .u32 p1, .int .i64 p2, .slice xC nC cC, .int .u32 S, .int .i64 p5, .int .u32 p6] 25) := ⟨_, rfl⟩
 have HG0 := Lib.hid (show Gr w W0 by rw [hW0]; exact Gr.new w _)
 have HBP := Lib.hid (show Blk W0 w.heap.size 25 #[.int .i64 N, .int .u32 p1, .int .i64 p2, .slice xC nC cC, .int .u32 S, .int .i64 p5, .int .u32 p6] by rw [hW0]; exact Blk.new w _ _)
 have HSZ := Lib.hid (show w.heap.size ≤ W0.heap.size by rw [hW0]; simp)
 obtain ⟨q0, q1, q2, q3, q4, q5, q6⟩ := HBP.out.p7
 clear hC hS
 go_enter Tryz.func59, Tryz.ntmps59
 go_upto_region 1 with (fail)
 rw [← hW0]
 clear hW0
 go_cut [23] (fun t wx => t = .bool (!decide (DimI N)) ∧ wx = W0)
 case first =>
  by_cases h4 : N = 4
  ·subst h4; go_wp2_with fail; go_meet; exact ⟨rfl, rfl⟩
  by_cases h8 : N = 8
  ·subst h8; go_wp2_with fail; go_meet; exact ⟨rfl, rfl⟩
  by_cases h16 : N = 16
  ·subst h16; go_wp2_with fail; go_meet; exact ⟨rfl, rfl⟩
  by_cases h32 : N = 32
  ·subst h32; go_wp2_with fail; go_meet; exact ⟨rfl, rfl⟩
  have HX := Lib.hid (show decide (DimI N) = false from decide_eq_false (by unfold DimI; omega))
  have a1 : (N != 4) = true := by simpa using h4
  have a2 : (N != 8) = true := by simpa using h8
  have a3 : (N != 16) = true := by simpa using h16
  have a4 : (N != 32) = true := by simpa using h32
  clear h4 h8 h16 h32
  go_wp2_with fail
  go_meet
  exact ⟨by rw [HX.out]; rfl, rfl⟩
 case rest =>
  obtain ⟨rfl, rfl⟩ := hcut
  by_cases hN : DimI N
  ·have HN := Lib.hid hN
   rw [decide_eq_true hN]
   clear hN
   by_cases hl1 : (nC : Int) < 1
   ·have t1 : decide ((nC : Int) < 1) = true := by simpa using hl1
    go_wp2_with fail
    go_ret
    exact ⟨by rw [HD.out false (by simp [VP]; intro _ h; have := HNC.out; omega)]; rfl, HG0.out⟩
   by_cases hl2 : (nC : Int) > 24
   ·have t1 : decide ((nC : Int) < 1) = false := by simpa using hl1
    have t2 : decide ((nC : Int) > 24) = true := by simpa using hl2
    have t2' : decide (24 < (nC : Int)) = true := by simpa using hl2
    go_wp2_with fail
    go_ret
    exact ⟨by rw [HD.out false (by simp [VP]; intro _ _ h; have := HNC.out; omega)]; rfl, HG0.out⟩
   have t1 : decide ((nC : Int) < 1) = false := by simpa using hl1
   have t2 : decide ((nC : Int) > 24) = false := by simpa using hl2
   have t2' : decide (24 < (nC : Int)) = false := by simpa using hl2
   have h1 : 1 ≤ nC := by omega
   have h2 : nC ≤ 24 := by omega
   have HLN := Lib.hid (show ([] : List Int).length + ch.length ≤ 1000000 by have := HNC.out; simp; omega)
   have HLM := Lib.hid (show ch.length + ([S] : List Int).length ≤ 1000000 by have := HNC.out; simp; omega)
   have HALL := Lib.hid (show allM ch S = if S = 0 then ch else ch ++ [S] by
    unfold allM Oj.mods
    rw [List.take_length]
    by_cases h : S = 0
    ·subst h; simp
    ·rw [if_neg h, if_pos (by simpa using h)])
   clear hl1 hl2
   go_upto_region 6 with (fail)
   clear t1 t2 t2'
   go_upto_if 40 with (at_builtin; refine wpList_app rfl (.tmp 34) (.tmp 36) rfl rfl w.heap.size (.slice none 0 0) [] rfl (Own1.nil _ _) (.slice xC nC cC) ch rfl (HC.out.later HG0.out) HLN.out HSZ.out ?_; intro v' w2 hown hgrow; rw [List.nil_append] at hown; have HO := Lib.hid hown; have HG := Lib.hid (show Gr _ w2 from grown_own (Gr.refl _) (Own1.nil _ _) hgrow (Nat.le_refl _)); have q4 := HG.out.keeps q4; clear hown hgrow)
   go_cut [3] (fun t wx => ∃ n7 va vc, t = .slice va n7 vc ∧ n7 = (allM ch S).length ∧ Own1 wx w.heap.size (.slice va n7 vc) (allM ch S) ∧ Gr w wx)
   case first =>
    obtain ⟨va, vc, hve, -, -⟩ := HO.out.form
    subst hve
    by_cases hS0 : S = 0
    ·have hz : (S != 0) = false := by simpa using hS0
     have HE := Lib.hid (show allM ch S = ch by rw [HALL.out, if_pos hS0])
     clear hS0
     go_wp2_with fail
     go_meet
     exact ⟨_, va, vc, rfl, by rw [HE.out], by rw [HE.out]; exact HO.out, HG0.out.trans HG.out⟩
    ·have hz : (S != 0) = true := by simpa using hS0
     have HE := Lib.hid (show allM ch S = ch ++ [S] by rw [HALL.out, if_neg hS0])
     clear hS0
     go_wp2_with (at_builtin; refine wpList_app rfl (.tmp 41) (.tmp 44) rfl rfl w.heap.size (.slice va ch.length vc) ch rfl (HO.out.alloc _) (.slice (some ⟨w2.heap.size, 0, none⟩) 1 1) [S] rfl (one_hasP' _ _ _ rfl HS.out) HLM.out (Nat.le_trans (HG0.out.trans HG.out).size (Nat.le_of_lt (by simp))) ?_; intro v3 w3 hown hgrow; have HO3 := Lib.hid hown; have HG3 := Lib.hid (show Gr w w3 from grown_own ((HG0.out.trans HG.out).alloc _) (HO.out.alloc _) hgrow (Nat.le_refl _)); clear hown hgrow)
     obtain ⟨va3, vc3, hve, -, -⟩ := HO3.out.form
     subst hve
     go_meet
     exact ⟨_, va3, vc3, rfl, by rw [HE.out], by rw [HE.out]; exact HO3.out, HG3.out⟩
   case rest =>
    obtain ⟨n7, va, vc, rfl, hn7, hown, hg⟩ := hcut
    obtain ⟨M, hM⟩ : ∃ M, M = allM ch S := ⟨_, rfl⟩
    have HME := Lib.hid hM
    have h25 : n7 ≤ 25 := by
     have h5 := Oj.mods_len (S := S) (lv := ch.length) (sp := S != 0) (Nat.le_refl _)
     have h6 : (allM ch S).length = (Oj.mods ch S ch.length (S != 0)).length := rfl
     have h7 := HNC.out
     have h8 : (if (S != 0) = true then 1 else 0) ≤ 1 := by split <;> omega
     omega
    rw [← hM] at hn7 hown
    have HL7 := Lib.hid hn7
    have HP := Lib.hid hown.hasP
    have HG7 := Lib.hid hg
    clear hn7 hown hg hM
    obtain ⟨w7, hw7⟩ : ∃ W : World, W = wc := ⟨_, rfl⟩
    subst hw7
    go_wp2_with fail
    go_loopw [4, 5] (fun t _ wr => ∃ k : Nat, t = .int .i64 k ∧ k ≤ n7 ∧ (∀ j, j < k → MOK M j) ∧ Gr w7 wr) (fun t _ _ => n7 - (intOf t).toNat)
    case atStart => exact ⟨0, rfl, by omega, fun j hj => by omega, Gr.refl _⟩
    case round =>
     obtain ⟨k, rfl, hk, hok, hg⟩ := hrel
     have HOK := Lib.hid hok
     have HGL := Lib.hid hg
     have HGW := Lib.hid (HG7.out.trans hg)
     clear hok hg
     by_cases hlt : k < n7
     ·have i1 : (k : Int) < (n7 : Int) := by omega
      have i0 : (0 : Int) ≤ (k : Int) := by omega
      obtain ⟨gx, ox, rfl, hcx⟩ := (HP.out.later HGL.out).at_ (i := k) (by rw [← HL7.out]; exact hlt)
      obtain ⟨x0, x1⟩ := HP.out.1.at_ k
      obtain ⟨x, hx⟩ : ∃ x, x = Op.cf M k := ⟨_, rfl⟩
      rw [← hx] at hcx x0 x1
      have HX := Lib.hid hx
      have HBAD := Lib.hid (show ¬ MOK M k → decide (VP N ch S) = false from fun h => decide_eq_false fun hv => h (by
       rw [HME.out]; exact hv.2.2.2 k (by rw [← HME.out, ← HL7.out]; exact hlt)))
      clear hx
      by_cases a1 : x < 3
      ·have s1 : decide (x < 3) = true := by simpa using a1
       go_wp2_with fail
       go_ret
       exact ⟨by rw [HBAD.out (fun h => by have := h.1; have := HX.out; omega)]; rfl, HGW.out⟩
      have s1 : decide (x < 3) = false := by simpa using a1
      by_cases a2 : x > 2147483647
      ·have s2 : decide (x > 2147483647) = true := by simpa using a2
       have s2' : decide (2147483647 < x) = true := by simpa using a2
       go_wp2_with fail
       go_ret
       exact ⟨by rw [HBAD.out (fun h => by have := h.2.1; have := HX.out; omega)]; rfl, HGW.out⟩
      have s2 : decide (x > 2147483647) = false := by simpa using a2
      have s2' : decide (2147483647 < x) = false := by simpa using a2
      by_cases a3 : x % 2 = 0
      ·have s3 : (x % 2 == 0) = true := by simpa using a3
       go_wp2_with fail
       go_ret
       exact ⟨by rw [HBAD.out (fun h => by have := h.2.2.1; have := HX.out; subst this; omega)]; rfl, HGW.out⟩
      have s3 : (x % 2 == 0) = false := by simpa using a3
      obtain ⟨wo, rfl⟩ : ∃ wo : World, wo = wr := ⟨_, rfl⟩
      have HA1 := Lib.hid a1
      have HA2 := Lib.hid a2
      have HA3 := Lib.hid a3
      clear a1 a2 a3
      go_wp2_with fail
      clear s1 s2 s2' s3
      go_loopw [5] (fun t wi => ∃ j : Nat, t = .int .i64 j ∧ j ≤ k ∧ (∀ q, q < j → Op.cf M q ≠ x) ∧ Gr wo wi) (fun t _ => k - (intOf t).toNat)
      case atStart => exact ⟨0, rfl, by omega, fun q hq => by omega, Gr.refl _⟩
      case round =>
       obtain ⟨j, rfl, hj, hno, hg⟩ := hrel
       have HNO := Lib.hid hno
       have HGI := Lib.hid hg
       have hcx := hg.keeps hcx
       clear hno hg
       by_cases hjk : j < k
       ·have i2 : (j : Int) < (k : Int) := by omega
        have i3 : (0 : Int) ≤ (j : Int) := by omega
        have i4 : (j : Int) < (n7 : Int) := by omega
        obtain ⟨gy, oy, hye, hcy⟩ := (HP.out.later (HGL.out.trans HGI.out)).at_ (i := j) (by rw [← HL7.out]; omega)
        obtain ⟨rfl, rfl⟩ : gx = gy ∧ ox = oy := by injection hye with hye; injection hye with e1 e2; exact ⟨e1, e2⟩
        obtain ⟨y, hy⟩ : ∃ y, y = Op.cf M j := ⟨_, rfl⟩
        rw [← hy] at hcy
        have HY := Lib.hid hy
        clear hye hy
        by_cases e : y = x
        ·have s4 : (y == x) = true := by simpa using e
         have HE := Lib.hid e
         clear e
         go_wp2_with fail
         go_quiet (fail)
         go_wp2_with fail
         go_ret
         exact ⟨by rw [HBAD.out (fun h => h.2.2.2 (by
          rw [← HX.out, ← HE.out, HY.out]
          have h5 : j < M.length := by rw [← HL7.out]; omega
          have h6 : (M.take k)[j]? = some (Op.cf M j) := by rw [List.getElem?_take_of_lt hjk, ← Op.cf_at, List.getElem?_eq_getElem h5]; rfl
          exact List.mem_of_getElem? h6))]; rfl, (HGW.out.trans HGI.out).drewN _⟩
        ·have s4 : (y == x) = false := by simpa using e
         have HE := Lib.hid e
         clear e
         go_wp2_with fail
         go_quiet (fail)
         go_wp2_with fail
         go_roundw
         case rel => exact ⟨j + 1, by go_num, by omega, fun q hq => by
          by_cases h : q = j
          ·subst h; rw [← HY.out]; exact HE.out
          ·exact HNO.out q (by omega), HGI.out.drewN _⟩
         case measure => simp [intOf]; omega
       ·obtain rfl : j = k := by omega
        have i2 : ¬ (j : Int) < (j : Int) := by omega
        have HGOOD := Lib.hid (show MOK M j from ⟨by rw [← HX.out]; have := HA1.out; omega, by rw [← HX.out]; have := HA2.out; omega, by rw [← HX.out]; exact HA3.out, fun h => by
         rw [← HX.out] at h
         obtain ⟨q, hq, e⟩ := List.getElem_of_mem h
         have hq2 : q < j := by rw [List.length_take] at hq; omega
         rw [List.getElem_take] at e
         have hqm : q < M.length := by rw [List.length_take] at hq; omega
         exact HNO.out q hq2 (by rw [← e]; exact cf_get hqm)⟩)
        go_wp2_with fail
        go_roundw
        case rel => exact ⟨j + 1, by go_num, by omega, fun q hq => by
         by_cases h : q = j
         ·subst h; exact HGOOD.out
         ·exact HOK.out q (by omega), HGL.out.trans HGI.out⟩
        case measure => simp [intOf]; omega
     ·obtain rfl : k = n7 := by omega
      have i1 : ¬ (k : Int) < (k : Int) := by omega
      have HFIN := Lib.hid (show ∀ i, i < (allM ch S).length → MOK (allM ch S) i from fun i hi => by
       rw [← HME.out] at hi ⊢
       exact HOK.out i (by rw [HL7.out]; exact hi))
      go_wp2_with fail
      go_ret
      exact ⟨by rw [HD.out true ⟨fun _ => ⟨HN.out, by rw [← HNC.out]; exact h1, by rw [← HNC.out]; exact h2, HFIN.out⟩, fun _ => rfl⟩]; rfl, HGW.out⟩
  ·have HN := Lib.hid hN
   rw [decide_eq_false hN]
   clear hN
   go_wp2_with fail
   go_ret
   exact ⟨by rw [HD.out false (by simp [VP]; intro h; exact absurd h HN.out)]; rfl, HG0.out⟩
set_option maxRecDepth 100000 in
set_option maxHeartbeats 4000000 in
theorem fCheck_any (N p1 p2 : Int) (xC : Option Addr) (nC cC : Nat) (S p5 p6 : Int) (lv : Int) (sp : Bool) (ch : List Int) (uA : Value) (rows : List (List Int)) (w : World) (h3 : ch.length ≤ 1000) (hC : HasP w (.slice xC nC cC) ch) (hS : 0 ≤ S ∧ S < 4294967296) (hA : HasR w uA rows) :
  Calls Tryz.prog 27 #[.agg #[.int .i64 N, .int .u32 p1, .int .i64 p2, .slice xC nC cC, .int .u32 S, .int .i64 p5, .int .u32 p6], .agg #[.int .i64 lv, .bool sp, uA]] w (fun e w' => e = .returned (.int .i64 (chkE N ch S lv sp rows)) ∧ Gr w w') := by
 obtain ⟨xA, cA, rfl⟩ := hA.form
 generalize hnA : rows.length = nA at *
 have HNC := Lib.hid hC.len.1
 have HC := Lib.hid hC
 have HA := Lib.hid hA
 have HS := Lib.hid hS
 have HNA := Lib.hid hnA
 obtain ⟨W2, hW2⟩ : ∃ W2, W2 = (w.alloc (.cells #[.int .i64 N, .int .u32 p1, .int .i64 p2, .slice xC nC cC, .int .u32 S, .int .i64 p5, .int .u32 p6] 25)).alloc (.cells #[.int .i64 lv, .bool sp, .slice xA nA cA] 28) := ⟨_, rfl⟩
 have HG := Lib.hid (show Gr w W2 by rw [hW2]; exact (Gr.new w _).alloc _)
 have HBP := Lib.hid (show Blk W2 w.heap.size 25 #[.int .i64 N, .int .u32 p1, .int .i64 p2, .slice xC nC cC, .int .u32 S, .int .i64 p5, .int .u32 p6] by rw [hW2]; exact (Blk.new w _ _).gr (Gr.new _ _))
 have HBE := Lib.hid (show Blk W2 (w.heap.size + 1) 28 #[.int .i64 lv, .bool sp, .slice xA nA cA] by rw [hW2]; exact Blk.newk _ _ (by simp))
 have HNO := Lib.hid (show ¬ (VP N ch S ∧ EV N ch S lv sp rows) → chkE N ch S lv sp rows = 2 from fun h => if_neg h)
 have HYES := Lib.hid (show (VP N ch S ∧ EV N ch S lv sp rows) → chkE N ch S lv sp rows = 0 from fun h => if_pos h)
 clear hC hA hS hnA
 obtain ⟨q0, q1, q2, q3, q4, q5, q6⟩ := HBP.out.p7
 obtain ⟨k0, k1, k2⟩ := HBE.out.p3
 go_enter Tryz.func27, Tryz.ntmps27
 go_upto_region 1 with (fail)
 rw [← hW2]
 clear hW2
 go_wp2_with fail
 refine (fValid_any N p1 p2 xC nC cC S p5 p6 ch _ (HC.out.later HG.out) HS.out).mono ?_
 rintro e w1 ⟨rfl, hg1⟩
 replace HG := Lib.hid (HG.out.trans hg1)
 replace HBP := Lib.hid (HBP.out.gr hg1)
 replace HBE := Lib.hid (HBE.out.gr hg1)
 clear hg1 q0 q1 q2 q3 q4 q5 q6 k0 k1 k2
 obtain ⟨q0, q1, q2, q3, q4, q5, q6⟩ := HBP.out.p7
 obtain ⟨k0, k1, k2⟩ := HBE.out.p3
 by_cases hv : VP N ch S
 ·have HV := Lib.hid hv
  rw [decide_eq_true hv]
  clear hv
  go_wp2_with fail
  refine (fPlace_any N p1 p2 xC nC cC S p5 p6 lv sp ch HNC.out _).mono ?_
  rintro e w2 ⟨rfl, hg1⟩
  replace HG := Lib.hid (HG.out.trans hg1)
  replace HBP := Lib.hid (HBP.out.gr hg1)
  replace HBE := Lib.hid (HBE.out.gr hg1)
  clear hg1 q0 q1 q2 q3 q4 q5 q6 k0 k1 k2
  obtain ⟨q0, q1, q2, q3, q4, q5, q6⟩ := HBP.out.p7
  obtain ⟨k0, k1, k2⟩ := HBE.out.p3
  by_cases he : EX ch S lv sp
  ·have HE := Lib.hid he
   rw [decide_eq_true he]
   obtain ⟨l, rfl⟩ := Int.eq_ofNat_of_zero_le (show 0 ≤ lv by have := he.1; omega)
   have HL2 := Lib.hid (show l ≤ ch.length by have := he.2.1; omega)
   clear he
   go_wp2_with fail
   refine (fModuli_any N p1 p2 xC nC cC S p5 p6 l sp ch _ HL2.out h3 (HC.out.later HG.out) HS.out).mono ?_
   rintro e w4 ⟨xm, nm, cm, rfl, hm, -, hg1⟩
   have HM := Lib.hid hm
   have HNM := Lib.hid hm.len.1
   replace HG := Lib.hid (HG.out.trans hg1)
   replace HBP := Lib.hid (HBP.out.gr hg1)
   replace HBE := Lib.hid (HBE.out.gr hg1)
   clear hm hg1 q0 q1 q2 q3 q4 q5 q6 k0 k1 k2
   obtain ⟨q0, q1, q2, q3, q4, q5, q6⟩ := HBP.out.p7
   obtain ⟨k0, k1, k2⟩ := HBE.out.p3
   have hnm : nm ≤ 1001 := by
    have h5 := Oj.mods_len (S := S) (sp := sp) HL2.out
    have := HNM.out
    have := HL2.out
    cases sp <;> simp at h5 <;> omega
   obtain ⟨nn, hnn, n4, n32⟩ := vp_dim HV.out
   subst hnn
   obtain ⟨M, hMe⟩ : ∃ M, M = Oj.mods ch S l sp := ⟨_, rfl⟩
   rw [← hMe] at HM HNM
   have HME := Lib.hid hMe
   have HBAD := Lib.hid (show ¬ EVr nn M rows → chkE nn ch S l sp rows = 2 from fun h => HNO.out fun k => h (by rw [hMe]; exact k.2.2))
   clear hMe
   by_cases hlen : nA = nm
   ·subst hlen
    have t1 : ((nA : Int) != (nA : Int)) = false := by simp
    obtain ⟨w0, hw0⟩ : ∃ W : World, W = w4 := ⟨_, rfl⟩
    subst hw0
    go_wp2_with fail
    clear t1
    go_loopw [6, 7] (fun t _ wr => ∃ k : Nat, t = .int .i64 k ∧ k ≤ nA ∧ (∀ j, j < k → RowOK nn (Op.cf M j) (rw_ rows j)) ∧ Gr w0 wr) (fun t _ _ => nA - (intOf t).toNat)
    case atStart => exact ⟨0, rfl, by omega, fun j hj => by omega, Gr.refl _⟩
    case round =>
     obtain ⟨k, rfl, hk, hok, hg⟩ := hrel
     have HOK := Lib.hid hok
     have HGL := Lib.hid hg
     replace HBP := Lib.hid (HBP.out.gr hg)
     replace HBE := Lib.hid (HBE.out.gr hg)
     clear hok hg q0 q1 q2 q3 q4 q5 q6 k0 k1 k2
     obtain ⟨q0, q1, q2, q3, q4, q5, q6⟩ := HBP.out.p7
     obtain ⟨k0, k1, k2⟩ := HBE.out.p3
     by_cases hlt : k < nA
     ·have i1 : (k : Int) < (nA : Int) := by omega
      have i0 : (0 : Int) ≤ (k : Int) := by omega
      obtain ⟨g, o, x, n, c, rfl, hc, hn, hp⟩ := HasB.at_ (HA.out.later (HG.out.trans HGL.out)) (i := k) (by rw [HNA.out]; exact hlt)
      have HN := Lib.hid hn
      have HP := Lib.hid hp
      clear hn hp
      by_cases hln : n = nn
      ·subst hln
       have t1 : ((n : Int) != (n : Int)) = false := by simp
       obtain ⟨gm, om, rfl, hcm⟩ := (HM.out.later HGL.out).at_ (i := k) (by rw [← HNM.out]; exact hlt)
       obtain ⟨m, hm⟩ : ∃ m, m = Op.cf M k := ⟨_, rfl⟩
       rw [← hm] at hcm
       have HMM := Lib.hid hm
       clear hm
       obtain ⟨wo, hwo⟩ : ∃ W : World, W = wr := ⟨_, rfl⟩
       subst hwo
       go_wp2_with fail
       go_quiet (fail)
       go_wp2_with fail
       clear t1
       go_loopw [7] (fun t wi => ∃ j : Nat, t = .int .i64 j ∧ j ≤ n ∧ (∀ q, q < j → Op.cf (rw_ rows k) q < m) ∧ Gr wo wi) (fun t _ => n - (intOf t).toNat)
       case atStart => exact ⟨0, rfl, by omega, fun q hq => by omega, (Gr.refl _).drewN _⟩
       case round =>
        obtain ⟨j, rfl, hj, hlow, hg⟩ := hrel
        have HLOW := Lib.hid hlow
        have HGI := Lib.hid hg
        have hc := hg.keeps hc
        have hcm := hg.keeps hcm
        replace HBP := Lib.hid (HBP.out.gr hg)
        replace HBE := Lib.hid (HBE.out.gr hg)
        clear hlow hg q0 q1 q2 q3 q4 q5 q6 k0 k1 k2
        obtain ⟨q0, q1, q2, q3, q4, q5, q6⟩ := HBP.out.p7
        obtain ⟨k0, k1, k2⟩ := HBE.out.p3
        by_cases hjn : j < n
        ·have i2 : (j : Int) < (n : Int) := by omega
         have i3 : (0 : Int) ≤ (j : Int) := by omega
         obtain ⟨gx, ox, rfl, hcx⟩ := (HP.out.later HGI.out).at_ (i := j) (by rw [← HN.out]; exact hjn)
         obtain ⟨y, hy⟩ : ∃ y, y = Op.cf (rw_ rows k) j := ⟨_, rfl⟩
         rw [← hy] at hcx
         have HY := Lib.hid hy
         clear hy
         by_cases hge : m ≤ y
         ·have h2 : decide (m ≤ y) = true := by simpa using hge
          have h2' : decide (y ≥ m) = true := h2
          have HGE := Lib.hid hge
          clear hge
          go_wp2_with fail
          go_quiet (fail)
          go_wp2_with fail
          go_ret
          exact ⟨by rw [HBAD.out (fun h => by
           have h5 := of_decide_eq_true (h.2 k (by rw [← HNM.out]; exact hlt)).2 j (by rw [← HN.out]; exact hjn)
           have := HGE.out
           have := HY.out
           have := HMM.out
           omega)]; rfl, ((HG.out.trans HGL.out).trans HGI.out).drewN _⟩
         ·have h2 : decide (m ≤ y) = false := by simpa using hge
          have h2' : decide (y ≥ m) = false := h2
          have HGE := Lib.hid hge
          clear hge
          go_wp2_with fail
          go_quiet (fail)
          go_wp2_with fail
          go_roundw
          case rel => exact ⟨j + 1, by go_num, by omega, fun q hq => by
           by_cases h : q = j
           ·subst h; rw [← HY.out]; have := HGE.out; omega
           ·exact HLOW.out q (by omega), HGI.out.drewN _⟩
          case measure => simp [intOf]; omega
        ·obtain rfl : j = n := by omega
         have i2 : ¬ (j : Int) < (j : Int) := by omega
         have HROW := Lib.hid (show RowOK j (Op.cf M k) (rw_ rows k) from ⟨by rw [← HN.out], decide_eq_true fun q hq => by rw [← HMM.out]; exact HLOW.out q (by rw [HN.out]; exact hq)⟩)
         go_wp2_with fail
         go_roundw
         case rel => exact ⟨k + 1, by go_num, by omega, fun q hq => by
          by_cases h : q = k
          ·subst h; exact HROW.out
          ·exact HOK.out q (by omega), HGL.out.trans HGI.out⟩
         case measure => simp [intOf]; omega
      ·have t1 : ((n : Int) != (nn : Int)) = true := by simp; omega
       have HLN := Lib.hid hln
       clear hln
       go_wp2_with fail
       go_quiet (fail)
       go_wp2_with fail
       go_ret
       exact ⟨by rw [HBAD.out (fun h => by
        have h5 := (h.2 k (by rw [← HNM.out]; exact hlt)).1
        have := HLN.out
        have := HN.out
        omega)]; rfl, (HG.out.trans HGL.out).drewN _⟩
     ·obtain rfl : k = nA := by omega
      have i1 : ¬ (k : Int) < (k : Int) := by omega
      have HFIN := Lib.hid (HYES.out ⟨HV.out, HE.out, by
       show EVr nn (Oj.mods ch S l sp) rows
       rw [← HME.out]
       exact ⟨by rw [HNA.out, ← HNM.out], fun i hi => HOK.out i (by rw [HNM.out]; exact hi)⟩⟩)
      go_wp2_with fail
      go_ret
      exact ⟨by rw [HFIN.out]; rfl, HG.out.trans HGL.out⟩
   ·have t1 : ((nA : Int) != (nm : Int)) = true := by simp; omega
    have HB2 := Lib.hid (HBAD.out (fun h => hlen (by rw [← HNA.out, h.1, HNM.out])))
    clear hlen
    go_wp2_with fail
    go_ret
    exact ⟨by rw [HB2.out]; rfl, HG.out⟩
  ·have HB2 := Lib.hid (HNO.out (fun h => he h.2.1))
   rw [decide_eq_false he]
   clear he
   go_wp2_with fail
   go_ret
   exact ⟨by rw [HB2.out]; rfl, HG.out⟩
 ·have HB2 := Lib.hid (HNO.out (fun h => hv h.1))
  rw [decide_eq_false hv]
  clear hv
  go_wp2_with fail
  go_ret
  exact ⟨by rw [HB2.out]; rfl, HG.out⟩
end Go.Proofs.YtlfiakpmnkhcdaaGreat.Mo
namespace Go.Proofs.YtlfiakpmnkhcdaaGreat.Mo
open Go.RowKit Go.Shelf
set_option linter.unusedVariables false
def Fx (b G : Nat) (W W' : World) : Prop := b ≤ W'.heap.size ∧ ∀ k, k < b → k ≠ G → W'.heap[k]? = W.heap[k]?
theorem Fx.refl {b : Nat} (G : Nat) {W : World} (h : b ≤ W.heap.size) : Fx b G W W := ⟨h, fun _ _ _ => rfl⟩
theorem Fx.gr {b G : Nat} {W W1 W2 : World} (h : Fx b G W W1) (hg : Gr W1 W2) : Fx b G W W2 := ⟨Nat.le_trans h.1 hg.size, fun k hk hG => (hg.block k (Nat.lt_of_lt_of_le hk h.1)).trans (h.2 k hk hG)⟩
theorem Fx.row {b G : Nat} {W W1 W2 : World} {row : Option Nat} (h : Fx b G W W1) (hg : W1.grownBy W2 row) (hr : ∀ r, row = some r → b ≤ r) : Fx b G W W2 :=
 ⟨Nat.le_trans h.1 hg.size, fun k hk hG => (hg.block k (Nat.lt_of_lt_of_le hk h.1) (fun e => by have := hr k e.symm; omega)).trans (h.2 k hk hG)⟩
theorem Fx.set {b G : Nat} {W W1 : World} (h : Fx b G W W1) (o : Nat) (x : Value) : Fx b G W (W1.setCell ⟨G, o, none⟩ x) :=
 ⟨Nat.le_trans h.1 (grown_cell W1 G o x).size, fun k hk hG => ((grown_cell W1 G o x).block k (Nat.lt_of_lt_of_le hk h.1) (fun e => by cases e; exact hG rfl)).trans (h.2 k hk hG)⟩
theorem Fx.blk {b G : Nat} {W W' : World} (h : Fx b G W W') {k : Nat} {t : TypeId} {cs : Array Value} (hb : Blk W k t cs) (hk : k < b) (hG : k ≠ G) : Blk W' k t cs := (h.2 k hk hG).trans hb
structure LP (b G : Nat) (w W4 : World) (lv : Int) (sp : Bool) (F : Nat → Int → List Int) (M : List Int) (i : Nat) (va : Value) (ls : List (List Int)) (W : World) : Prop where
 fx : Fx b G W4 W
 out : Blk W G 28 #[.int .i64 lv, .bool sp, va]
 own : OwnR W b va ls
 gr : Gr w W
 len : ls.length = i
 at_ : ∀ j, j < i → rw_ ls j = F j (Op.cf M j)
section
variable {b G : Nat} {w W4 : World} {lv : Int} {sp : Bool} {F : Nat → Int → List Int} {M : List Int} {i : Nat} {va : Value} {ls : List (List Int)} {W : World}
theorem LP.start (hb : W4.heap.size = b) (ho : Blk W4 G 28 #[.int .i64 lv, .bool sp, .slice none 0 0]) (hg : Gr w W4) : LP b G w W4 lv sp F M 0 (.slice none 0 0) [] W4 :=
 ⟨Fx.refl G (by omega), ho, OwnR.nil _ _, hg, rfl, fun j hj => by omega⟩
theorem LP.later (h : LP b G w W4 lv sp F M i va ls W) {W' : World} (hg : Gr W W') : LP b G w W4 lv sp F M i va ls W' :=
 ⟨h.fx.gr hg, h.out.gr hg, h.own.gr hg, h.gr.trans hg, h.len, h.at_⟩
theorem LP.mid (h : LP b G w W4 lv sp F M i va ls W) (hGb : G < b) {wn : World} (hgrow : W.grownBy wn va.ownBlock) : Blk wn G 28 #[.int .i64 lv, .bool sp, va] :=
 h.out.row hgrow (fun e => by have := (h.own.lt G e.symm).1; omega)
theorem LP.app (h : LP b G w W4 lv sp F M i va ls W) (hG : w.heap.size ≤ G) (hGb : G < b) {wn : World} {v' : Value} {l : List Int} (hown : OwnR wn b v' (ls ++ [l])) (hgrow : W.grownBy wn va.ownBlock) (hl : l = F i (Op.cf M i)) : LP b G w W4 lv sp F M (i + 1) v' (ls ++ [l]) (wn.setCell ⟨G, 2, none⟩ v') := by
 refine ⟨(h.fx.row hgrow (fun r e => (h.own.lt r e).1)).set 2 v', (h.mid hGb hgrow).set 2 v', hown.set hGb v', (OwnR.grown h.own h.gr hgrow (by omega)).setCell hG _, by rw [List.length_append, h.len]; rfl, fun j hj => ?_⟩
 rw [getD_snoc, h.len]
 by_cases e : j < i
 ·rw [if_pos e]; exact h.at_ j e
 ·obtain rfl : j = i := by omega
  rw [if_neg e, if_pos rfl, hl]
theorem LP.done (h : LP b G w W4 lv sp F M i va ls W) (hi : i = M.length) : ls = rwA M F := rows_eq (by rw [rwA_len, h.len, hi]) fun j hj => by
 rw [h.len] at hj
 rw [rwA_at _ _ (by omega)]
 exact h.at_ j hj
end
theorem put3b {w w1 : World} {k b : Nat} {u : Value} {ls : List (List Int)} (hb : HasB w1 b w1.heap.size u ls) (hg1 : Gr w w1) (h1 : w.heap.size ≤ k) (h2 : k < b) (x y z : Value) :
  HasB (((w1.setCell ⟨k, 0, none⟩ x).setCell ⟨k, 1, none⟩ y).setCell ⟨k, 2, none⟩ z) w.heap.size (((w1.setCell ⟨k, 0, none⟩ x).setCell ⟨k, 1, none⟩ y).setCell ⟨k, 2, none⟩ z).heap.size u ls ∧ Gr w (((w1.setCell ⟨k, 0, none⟩ x).setCell ⟨k, 1, none⟩ y).setCell ⟨k, 2, none⟩ z) := by
 have h := ((hb.grown (grown_cell w1 k 0 x) (fun r e => by cases e; exact .inl (by omega))).grown (grown_cell _ k 1 y) (fun r e => by cases e; exact .inl (by omega))).grown (grown_cell _ k 2 z) (fun r e => by cases e; exact .inl (by omega))
 exact ⟨(h.mono (by omega) (Nat.le_refl _)).cut, ((hg1.setCell (p := ⟨k, 0, none⟩) h1 _).setCell (p := ⟨k, 1, none⟩) h1 _).setCell (p := ⟨k, 2, none⟩) h1 _⟩
theorem ap_of_fresh {W0 : World} {b : Nat} {va : Value} {ls : List (List Int)} (h : OwnR W0 b va ls) (hb : b ≤ W0.heap.size) {x : Option Addr} {n c : Nat} {l : List Int} (hf : ∀ p, x = some p → W0.heap.size ≤ p.block) : Ap b va (.slice x n c) l :=
 Ap.of (W0 := W0) (fun k hk => (h.lt k hk).2) hb (fun _ p hp => by obtain ⟨q, rfl, rfl⟩ := own_some hp; exact hf q rfl)
structure RP (wo : World) (f : Nat → Int) (t : Nat) (r : Value) (l : List Int) (W : World) : Prop where
 own : Own1 W wo.heap.size r l
 len : l.length = t
 at_ : ∀ q, q < t → Op.cf l q = f q
 gr : Gr wo W
theorem RP.start (wo : World) (f : Nat → Int) : RP wo f 0 (.slice none 0 0) [] wo := ⟨Own1.nil _ _, rfl, fun q hq => by omega, Gr.refl _⟩
theorem RP.snoc {wo : World} {f : Nat → Int} {t : Nat} {l : List Int} {W : World} {v' : Value} {z : Int} (hown : Own1 W wo.heap.size v' (l ++ [z])) (hl : l.length = t) (ha : ∀ q, q < t → Op.cf l q = f q) (hz : z = f t) (hg : Gr wo W) : RP wo f (t + 1) v' (l ++ [z]) W := by
 refine ⟨hown, by rw [List.length_append, hl]; rfl, fun q hq => ?_, hg⟩
 rw [Op.cf_append, hl]
 by_cases e : q < t
 ·rw [if_pos e]; exact ha q e
 ·obtain rfl : q = t := by omega
  rw [if_neg e, Nat.sub_self, hz]; rfl
theorem RP.done {wo : World} {f : Nat → Int} {t : Nat} {r : Value} {l : List Int} {W : World} (h : RP wo f t r l W) : l = Oj.rowL t f := row_done h.len h.at_
end Go.Proofs.YtlfiakpmnkhcdaaGreat.Mo
