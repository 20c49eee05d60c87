/- bits.Add32: the sum of two digits and a carry. -/
import Derived.Test.YtgalgldnhdiggaaDoorCompare
namespace Go.Proofs.YtgalgldnhdiggaaDoor
open Go.RowKit
set_option linter.unusedVariables false

set_option maxRecDepth 100000 in
set_option maxHeartbeats 1000000 in
theorem add32_any (x y c : Nat) (w : World) (hx : x < 4294967296) (hy : y < 4294967296) (hc : c ≤ 1) :
    Calls Tryd.prog 103 #[.int .u32 x, .int .u32 y, .int .u32 c] w fun e w' => e = .returned (.tuple #[.int .u32 (((x + y + c) % 4294967296 : Nat) : Int), .int .u32 (((x + y + c) / 4294967296 : Nat) : Int)]) ∧ w = w' := by
  have q0 : (0 : Int) ≤ ((x : Int) + y + c) / 4294967296 := by omega
  have q1 : ((x : Int) + y + c) / 4294967296 ≤ 1 := by omega
  go_enter Tryd.func103, Tryd.ntmps103
  go_wp2_with fail
  go_ret2
  rw [show (((x + y + c) % 4294967296 : Nat) : Int) = ((x : Int) + y + c) % 4294967296 by omega, show (((x + y + c) / 4294967296 : Nat) : Int) = ((x : Int) + y + c) / 4294967296 by omega]
  exact ⟨rfl, rfl⟩
end Go.Proofs.YtgalgldnhdiggaaDoor
