/- The laws PrimesFind, PrimesChains and PrimesPlains return true. -/
import Derived.Test.YtdkpgocbdphneaaPl
import Derived.Test.YtdkpgocbdphneaaPb
namespace Go.Proofs.Ytdkpgocbdphneaa
open Go.RowKit
set_option linter.unusedVariables false

set_option maxRecDepth 100000 in
set_option maxHeartbeats 1000000 in
theorem find_all (a s : Nat) (w : World) (ha : a ≤ 4294967295) (hs : s ≤ 4294967295) : Calls Try.prog 3 #[.int .u32 a, .int .u32 s] w (Truth w) := by
  go_enter Try.func3, Try.ntmps3
  go_wp2_with fail
  refine (below_any a s _ ha hs).mono ?_
  rintro e w1 ⟨v, c, rfl, h, g1⟩
  go_wp2_with fail
  refine (rbelow_any a s _ ha hs).mono ?_
  rintro e w2 ⟨v', c', rfl, h', g2⟩
  obtain ⟨rfl, rfl⟩ := h.unique h'
  clear h h'
  go_wp2_with fail
  refine (next_any a s _ ha hs).mono ?_
  rintro e w3 ⟨v3, c3, rfl, h, g3⟩
  go_wp2_with fail
  refine (rnext_any a s _ ha hs).mono ?_
  rintro e w4 ⟨v', c', rfl, h', g4⟩
  obtain ⟨rfl, rfl⟩ := h.unique h'
  clear h h'
  go_wp2_with fail
  refine (shown_any _).mono ?_
  rintro e w5 ⟨rfl, g5⟩
  go_wp2_with fail
  go_ret
  exact ⟨rfl, (((g1.trans g2).trans g3).trans g4).trans g5⟩

set_option maxRecDepth 100000 in
set_option maxHeartbeats 1000000 in
theorem chains_all (n : Int) (t : Nat) (c : Int) (w : World) (ht : t ≤ 4294967295) : Calls Try.prog 4 #[.int .i64 n, .int .u32 t, .int .i64 c] w (Truth w) := by
  go_enter Try.func4, Try.ntmps4
  go_wp2_with fail
  refine (chain_any n t c _ ht).mono ?_
  rintro e w1 ⟨v, L, z, rfl, hv, h, g1⟩
  go_wp2_with fail
  refine (rchain_any n t c _ ht).mono ?_
  rintro e w2 ⟨v', L', z', rfl, hv', h', g2⟩
  obtain ⟨rfl, rfl⟩ := h.unique h'
  clear h h'
  have HV := Lib.hid (hv.later g2)
  have HV' := Lib.hid hv'
  clear hv hv'
  go_wp2_with fail
  refine (same_any v v' L _ HV.out HV'.out).mono ?_
  rintro e w3 ⟨rfl, g3⟩
  go_wp2_with fail
  refine (shown_any _).mono ?_
  rintro e w5 ⟨rfl, g5⟩
  go_wp2_with fail
  go_ret
  exact ⟨rfl, ((g1.trans g2).trans g3).trans g5⟩

set_option maxRecDepth 100000 in
set_option maxHeartbeats 1000000 in
theorem plains_all (n : Int) (p : Nat) (r : Int) (w : World) (hp : p ≤ 4294967295) (hr : r ≤ 9223372036854775807) : Calls Try.prog 5 #[.int .i64 n, .int .u32 p, .int .i64 r] w (Truth w) := by
  have HR := Lib.hid hr
  clear hr
  go_enter Try.func5, Try.ntmps5
  go_wp2_with fail
  refine (gen_any p _ hp).mono ?_
  rintro e w1 ⟨v, c, rfl, h, g1⟩
  go_wp2_with fail
  refine (rgen_any p _ hp).mono ?_
  rintro e w2 ⟨v', c', rfl, h', g2⟩
  obtain ⟨rfl, rfl⟩ := h.unique h'
  clear h h'
  go_wp2_with fail
  refine (plain_any n p r _ hp HR.out).mono ?_
  rintro e w3 ⟨v3, c3, rfl, h, g3⟩
  go_wp2_with fail
  refine (rplain_any n p r _ hp HR.out).mono ?_
  rintro e w4 ⟨v', c', rfl, h', g4⟩
  obtain ⟨rfl, rfl⟩ := h.unique h'
  clear h h'
  go_wp2_with fail
  refine (shown_any _).mono ?_
  rintro e w5 ⟨rfl, g5⟩
  go_wp2_with fail
  go_ret
  exact ⟨rfl, (((g1.trans g2).trans g3).trans g4).trans g5⟩
end Go.Proofs.Ytdkpgocbdphneaa
