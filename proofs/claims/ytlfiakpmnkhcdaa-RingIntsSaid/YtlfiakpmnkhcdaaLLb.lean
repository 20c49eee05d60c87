import Derived.Test.YtlfiakpmnkhcdaaLLa
import Derived.Test.YtlfiakpmnkhcdaaLDp
namespace Go.Proofs.Ytlfiakpmnkhcdaa.Mo
open Go.RowKit Go.Shelf
set_option linter.unusedVariables false
theorem f5Prime_any (q : Nat) (w : World) (hq : q ≤ 4294967295) : Calls Try.prog 23 #[.int .u32 q] w (BoolPost (Prm q) w) := by
  have HC := Lib.hid (rprime_any q w hq)
  go_enter Try.func23, Try.ntmps23
  go_wp2_with fail
  refine HC.out.mono ?_
  rintro e w1 ⟨b, rfl, hb, hg⟩
  have HB := Lib.hid (hb.trans (prm_iff q).symm)
  have HG := Lib.hid hg
  clear hb hg
  go_wp2_with fail
  go_ret
  exact ⟨b, rfl, HB.out, HG.out⟩
theorem boolPost_false {P : Prop} {w w' : World} (h : ¬ P) (hg : Gr w w') : BoolPost P w (.returned (.bool false)) w' := ⟨false, rfl, by simp [h], hg⟩
theorem boolPost_true {P : Prop} {w w' : World} (h : P) (hg : Gr w w') : BoolPost P w (.returned (.bool true)) w' := ⟨true, rfl, by simp [h], hg⟩
set_option maxRecDepth 100000 in
set_option maxHeartbeats 4000000 in
theorem allPrime_any (N p1 p2 : Int) (xC : Option Addr) (nC cC : Nat) (S p5 p6 : Int) (ch : List Int) (w : World) (hC : HasP w (.slice xC nC cC) ch) (hS : 0 ≤ S ∧ S < 4294967296) :
    Calls Try.prog 8 #[.agg #[.int .i64 N, .int .u32 p1, .int .i64 p2, .slice xC nC cC, .int .u32 S, .int .i64 p5, .int .u32 p6]] w (BoolPost (AllPr ch S) w) := by
  obtain ⟨W0, hW0⟩ : ∃ W0, W0 = w.alloc (.cells #[.int .i64 N, .int .u32 p1, .int .i64 p2, .slice xC nC cC, .int .u32 S, .int .i64 p5, .int .u32 p6] 25) := ⟨_, rfl⟩
  have HG0 := Lib.hid (show Gr w W0 by rw [hW0]; exact Gr.new w _)
  have HBP := Lib.hid (show Blk W0 w.heap.size 25 #[.int .i64 N, .int .u32 p1, .int .i64 p2, .slice xC nC cC, .int .u32 S, .int .i64 p5, .int .u32 p6] by rw [hW0]; exact Blk.new w _ _)
  have HC := Lib.hid (hC.later HG0.out)
  have HNC := Lib.hid hC.len.1
  obtain ⟨s, hs⟩ := Int.eq_ofNat_of_zero_le hS.1
  subst hs
  have hs2 : s ≤ 4294967295 := by omega
  have hn63 : nC ≤ 9223372036854775807 := by obtain ⟨-, xa, ca, e, h1, h2, -⟩ := id hC; cases e; omega
  clear hC hS
  go_enter Try.func8, Try.ntmps8
  go_wp2_with fail
  rw [← hW0]
  clear hW0
  go_loopw [3] (fun t wr => ∃ k : Nat, t = .int .i64 k ∧ k ≤ nC ∧ (∀ i, i < k → Prm (Op.cf ch i).toNat) ∧ Gr W0 wr) (fun t _ => nC - (intOf t).toNat)
  case atStart => exact ⟨0, rfl, by omega, fun i hi => by omega, Gr.refl _⟩
  case round =>
    obtain ⟨k, rfl, hk, hpr, hg⟩ := hrel
    have HPR := Lib.hid hpr
    have HGK := Lib.hid hg
    obtain ⟨-, -, -, q3, q4, -, -⟩ := (HBP.out.gr hg).p7
    clear hpr hg
    by_cases hlt : k < nC
    · have i1 : (k : Int) < (nC : Int) := by omega
      have i0 : (0 : Int) ≤ (k : Int) := by omega
      have HKM := Lib.hid (show k < ch.length by rw [← HNC.out]; exact hlt)
      obtain ⟨gM, oM, rfl, hcM⟩ := (HC.out.later HGK.out).at_ (i := k) HKM.out
      have hMk := HC.out.1.at_ k
      obtain ⟨q, hq⟩ : ∃ q : Nat, (q : Int) = Op.cf ch k := ⟨(Op.cf ch k).toNat, Int.toNat_of_nonneg hMk.1⟩
      rw [← hq] at hcM hMk
      have HQ := Lib.hid (show (Op.cf ch k).toNat = q by omega)
      have hq2 : q ≤ 4294967295 := by omega
      clear hq hMk
      go_wp2_with fail
      refine (f5Prime_any q _ hq2).mono ?_
      rintro e w5 ⟨b, rfl, hb, hg5⟩
      have HB := Lib.hid hb
      have HG5 := Lib.hid (HGK.out.trans hg5)
      clear hb hg5 hcM q3 q4
      cases b with
      | false =>
        have HNO := Lib.hid (show ¬ AllPr ch s from fun h => by
          have h2 := h.1 k HKM.out
          rw [HQ.out] at h2
          have h4 := HB.out.2 h2
          exact absurd h4 (by decide))
        go_wp2_with fail
        go_ret
        exact boolPost_false HNO.out (HG0.out.trans HG5.out)
      | true =>
        have HP := Lib.hid (HB.out.1 rfl)
        go_wp2_with fail
        go_roundw
        case rel => exact ⟨k + 1, by go_num, by omega, fun i hi => (by
          by_cases e : i < k
          · exact HPR.out i e
          · obtain rfl : i = k := by omega
            rw [HQ.out]; exact HP.out), HG5.out⟩
        case measure => simp [intOf]; omega
    · obtain rfl : k = nC := by omega
      have i1 : ¬ (k : Int) < (k : Int) := by omega
      by_cases hs0 : s = 0
      · have HYES := Lib.hid (show AllPr ch s from ⟨fun i hi => HPR.out i (by rw [HNC.out]; exact hi), .inl (by omega)⟩)
        subst hs0
        go_wp2_with fail
        go_ret
        exact boolPost_true HYES.out (HG0.out.trans HGK.out)
      · have e0 : ((s : Int) == 0) = false := by simp; omega
        have e1 : ¬ (s : Int) = 0 := by omega
        have HS0 := Lib.hid e1
        go_wp2_with fail
        refine (f5Prime_any s _ hs2).mono ?_
        rintro e w5 ⟨b, rfl, hb, hg5⟩
        have HB := Lib.hid hb
        have HG5 := Lib.hid (HGK.out.trans hg5)
        have HYES := Lib.hid (show b = true ↔ AllPr ch s from ⟨fun h => ⟨fun i hi => HPR.out i (by rw [HNC.out]; exact hi), .inr (by rw [Int.toNat_natCast]; exact hb.1 h)⟩, fun h => hb.2 (by
          have h2 := h.2.resolve_left HS0.out
          rwa [Int.toNat_natCast] at h2)⟩)
        clear hb hg5
        go_wp2_with fail
        go_ret
        exact ⟨b, rfl, HYES.out, HG0.out.trans HG5.out⟩
end Go.Proofs.Ytlfiakpmnkhcdaa.Mo
