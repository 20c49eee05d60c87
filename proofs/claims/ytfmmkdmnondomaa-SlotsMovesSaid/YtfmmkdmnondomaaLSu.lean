import Derived.Test.YtfmmkdmnondomaaLSF
/- The law SlotsMoves. -/
namespace Go.Proofs.Ytfmmkdmnondomaa
open Go.RowKit
set_option linter.unusedVariables false

set_option maxRecDepth 100000 in
set_option maxHeartbeats 4000000 in
theorem moves8_all (N : Int) (P : Nat) (R E : Int) (uA uB : Value) (t k : Int) (w : World) (hN : -9223372036854775808 ≤ N ∧ N ≤ 9223372036854775807) (hP : P ≤ 4294967295) (hR : -9223372036854775808 ≤ R ∧ R ≤ 9223372036854775807) (ht : -9223372036854775808 ≤ t ∧ t ≤ 9223372036854775807) (hk : -9223372036854775808 ≤ k ∧ k ≤ 9223372036854775807) :
    Calls Try.prog 4 #[.agg #[.int .i64 N, .int .u32 P, .int .i64 R, .int .i64 E, uA, uB], .int .i64 t, .int .i64 k] w (Truth w) := by
  have HR := Lib.hid hR
  have HN0 := Lib.hid hN
  have HT0 := Lib.hid ht
  have HK0 := Lib.hid hk
  clear hR hN ht hk
  go_enter Try.func4, Try.ntmps4
  go_wp2_with fail
  refine (made8_any N P R E uA uB _ HN0.out hP HR.out).mono ?_
  rintro e w1 ⟨hg, ⟨n, r, q, x, s, T, U, rfl, rfl, hN, rfl, hT, hU⟩ | rfl⟩
  · have HG := Lib.hid ((Gr.new w _).trans hg)
    have HN := Lib.hid hN
    have HT := Lib.hid hT
    have HU := Lib.hid hU
    have HD := Lib.hid hN.rt.dim
    clear hg hN hT hU
    go_wp2_with fail
    refine (sPower_any n P r q x s T t false _ HN.out HT.out HT0.out).mono ?_
    rintro e w2 ⟨rfl, hg⟩
    have HG := Lib.hid (HG.out.trans hg)
    have HT := Lib.hid (HT.out.later hg)
    have HU := Lib.hid (HU.out.later hg)
    obtain ⟨A1, hA1⟩ : ∃ A1, A1 = Os.pk n (trn n t) false := ⟨_, rfl⟩
    obtain ⟨A2, hA2⟩ : ∃ A2, A2 = Os.pk n (trn n t) true := ⟨_, rfl⟩
    have HA1 := Lib.hid hA1
    have HA2 := Lib.hid hA2
    rw [← hA1]
    clear hg hA1 hA2
    go_wp2_with fail
    refine (sPower_any n P r q x s T t true _ HN.out HT.out HT0.out).mono ?_
    rintro e w3 ⟨rfl, hg⟩
    rw [← HA2.out]
    have HG := Lib.hid (HG.out.trans hg)
    have HT := Lib.hid (HT.out.later hg)
    have HU := Lib.hid (HU.out.later hg)
    clear hg
    go_wp2_with fail
    refine (sMoves_any n P r q x s T k _ HN.out HT.out HK0.out).mono ?_
    rintro e w4 ⟨g4, m4, c4, l4, rfl, hq, hm, -, hg⟩
    have HG := Lib.hid (HG.out.trans hg)
    have HU := Lib.hid (HU.out.later hg)
    have HQ := Lib.hid hq
    have HM := Lib.hid hm
    obtain ⟨c, hc⟩ : ∃ c, kE n k = c := ⟨_, rfl⟩
    have HC := Lib.hid hc
    rw [hc]
    clear hg hq hm hc
    go_wp2_with fail
    refine (rPower8_any U n P r x t false _ HD.out HU.out HT0.out).mono ?_
    rintro e w5 ⟨rfl, hg⟩
    rw [← HA1.out]
    have HG := Lib.hid (HG.out.trans hg)
    have HU := Lib.hid (HU.out.later hg)
    have HQ := Lib.hid (HQ.out.later hg)
    clear hg
    go_wp2_with fail
    refine (rPower8_any U n P r x t true _ HD.out HU.out HT0.out).mono ?_
    rintro e w6 ⟨rfl, hg⟩
    rw [← HA2.out]
    have HG := Lib.hid (HG.out.trans hg)
    have HU := Lib.hid (HU.out.later hg)
    have HQ := Lib.hid (HQ.out.later hg)
    clear hg
    go_wp2_with fail
    refine (rMoves8_any U n P r x k _ HD.out HU.out).mono ?_
    rintro e w7 ⟨g7, m7, c7, l7, rfl, hq, hm, -, hg⟩
    rw [HC.out]
    obtain rfl := HM.out.unique HD.out hm
    have HG := Lib.hid (HG.out.trans hg)
    have HQ := Lib.hid (HQ.out.later hg)
    have HQ7 := Lib.hid hq
    have HL := Lib.hid (show l4.length ≤ 1000000 from by
      have := HD.out.le
      rcases HM.out with ⟨_, h⟩ | ⟨_, h⟩
      · rw [h.1]; omega
      · rw [h]; simp)
    have b1 : (c == c) = true := by simp
    have b2 : ((A1 : Int) == (A1 : Int)) = true := by simp
    have b3 : ((A2 : Int) == (A2 : Int)) = true := by simp
    clear hg hq hm
    go_wp2_with fail
    refine (sameInts_true l4 _ _ _ HQ.out HQ7.out HL.out).mono ?_
    rintro e w8 ⟨rfl, hg⟩
    have HG := Lib.hid (HG.out.trans hg)
    clear hg
    go_wp2_with fail
    refine (awake8_any _).mono ?_
    rintro e w9 ⟨rfl, hg⟩
    have HG := Lib.hid (HG.out.trans hg)
    clear hg
    go_wp2_with fail
    go_ret
    exact ⟨rfl, HG.out⟩
  · have HG := Lib.hid ((Gr.new w _).trans hg)
    clear hg
    go_wp2_with fail
    refine (awake8_any _).mono ?_
    rintro e w8 ⟨rfl, hg8⟩
    have HG8 := Lib.hid (HG.out.trans hg8)
    clear hg8
    go_wp2_with fail
    go_ret
    exact ⟨rfl, HG8.out⟩
end Go.Proofs.Ytfmmkdmnondomaa
