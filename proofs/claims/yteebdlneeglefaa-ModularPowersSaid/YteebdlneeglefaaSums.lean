/- The laws ModularSums and ModularPowers return true, whatever their arguments. -/
import Derived.Test.YteebdlneeglefaaPairs
import Derived.Deep.QuietTactic
import Derived.BigQuiet
import Derived.WalkSmall
namespace Go.Proofs.Yteebdlneeglefaa
open Go.RowKit
set_option linter.unusedVariables false





set_option maxRecDepth 100000 in
set_option maxHeartbeats 2000000 in
theorem powers_all (a k n : Nat) (w : World) (hk : k ≤ 18446744073709551615) :
    Calls Try.prog 4 #[.int .u32 a, .int .u64 k, .int .u32 n] w (Truth w) := by
  obtain ⟨x, e, hp, hq⟩ := pow_pair a k n hk
  obtain ⟨y, f, hi, hj⟩ := inverse_pair a n
  have HP := Lib.hid hp
  have HQ := Lib.hid hq
  have HI := Lib.hid hi
  have HJ := Lib.hid hj
  clear hp hq hi hj
  go_enter Try.func4, Try.ntmps4
  go_wp2_with fail
  refine (HP.out _).mono ?_
  rintro _ w1 ⟨rfl, g1⟩
  go_wp2_with fail
  refine (HQ.out _).mono ?_
  rintro _ w2 ⟨rfl, g2⟩
  go_wp2_with fail
  refine (HI.out _).mono ?_
  rintro _ w3 ⟨rfl, g3⟩
  go_wp2_with fail
  refine (HJ.out _).mono ?_
  rintro _ w4 ⟨rfl, g4⟩
  go_wp2_with fail
  refine (shown_any _).mono ?_
  rintro _ w5 ⟨rfl, g5⟩
  go_wp2_with fail
  go_ret
  exact ⟨rfl, (((g1.trans g2).trans g3).trans g4).trans g5⟩

set_option maxRecDepth 100000 in
set_option maxHeartbeats 2000000 in
theorem sums_all (a b n : Nat) (v : Int) (w : World) (hv : -9223372036854775808 ≤ v) (hv' : v ≤ 9223372036854775807) :
    Calls Try.prog 3 #[.agg #[.int .u32 a, .int .u32 b, .int .u32 n, .int .i64 v]] w (Truth w) := by
  obtain ⟨x1, e1, ha, ha'⟩ := add_pair a b n
  obtain ⟨x2, e2, hs, hs'⟩ := sub_pair a b n
  obtain ⟨x3, e3, hm, hm'⟩ := mul_pair a b n
  obtain ⟨x4, e4, ho, ho'⟩ := of_pair v n hv hv'
  obtain ⟨x5, e5, hb, hb'⟩ := balanced_pair a n
  have HA := Lib.hid ha
  have HA' := Lib.hid ha'
  have HS := Lib.hid hs
  have HS' := Lib.hid hs'
  have HM := Lib.hid hm
  have HM' := Lib.hid hm'
  have HO := Lib.hid ho
  have HO' := Lib.hid ho'
  have HB := Lib.hid hb
  have HB' := Lib.hid hb'
  clear ha ha' hs hs' hm hm' ho ho' hb hb'
  go_enter Try.func3, Try.ntmps3
  go_wp2_with fail
  go_quiet (fail)
  go_wp2_with fail
  refine (HA.out _).mono ?_
  rintro _ w1 ⟨rfl, g1⟩
  go_wp2_with fail
  refine (HA'.out _).mono ?_
  rintro _ w2 ⟨rfl, g2⟩
  go_wp2_with fail
  refine (HS.out _).mono ?_
  rintro _ w3 ⟨rfl, g3⟩
  go_wp2_with fail
  refine (HS'.out _).mono ?_
  rintro _ w4 ⟨rfl, g4⟩
  go_wp2_with fail
  refine (HM.out _).mono ?_
  rintro _ w5 ⟨rfl, g5⟩
  go_wp2_with fail
  refine (HM'.out _).mono ?_
  rintro _ w6 ⟨rfl, g6⟩
  go_wp2_with fail
  refine (HO.out _).mono ?_
  rintro _ w7 ⟨rfl, g7⟩
  go_wp2_with fail
  refine (HO'.out _).mono ?_
  rintro _ w8 ⟨rfl, g8⟩
  go_wp2_with fail
  refine (HB.out _).mono ?_
  rintro _ w9 ⟨rfl, g9⟩
  go_wp2_with fail
  refine (HB'.out _).mono ?_
  rintro _ w10 ⟨rfl, g10⟩
  go_wp2_with fail
  refine (shown_any _).mono ?_
  rintro _ w11 ⟨rfl, g11⟩
  go_wp2_with fail
  go_ret
  exact ⟨rfl, ((((((((((((Gr.new _ _).drewN _).trans g1).trans g2).trans g3).trans g4).trans g5).trans g6).trans g7).trans g8).trans g9).trans g10).trans g11⟩
end Go.Proofs.Yteebdlneeglefaa
