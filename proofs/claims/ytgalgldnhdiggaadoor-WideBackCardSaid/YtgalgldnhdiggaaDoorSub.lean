/- bits.Sub32: the difference of two digits, and whether one is to be borrowed. -/
import Derived.Test.YtgalgldnhdiggaaDoorPlus
import Derived.Laws.BitsLemmas
namespace Ow
set_option linter.unusedVariables false
/-- Whether one is to be borrowed. -/
def brw (x y : Nat) : Nat := if x < y then 1 else 0
theorem brw_le (x y : Nat) : brw x y ≤ 1 := by unfold brw; split <;> omega
theorem top_bit (n : Nat) : n.testBit 31 = decide (n / 2147483648 % 2 = 1) := Nat.testBit_eq_decide_div_mod_eq
theorem top_val (n : Nat) (h : n < 4294967296) : n / 2147483648 = if n.testBit 31 then 1 else 0 := by
  rw [top_bit]
  by_cases h1 : n / 2147483648 % 2 = 1
  · rw [if_pos (by simpa using h1)]; omega
  · rw [if_neg (by simpa using h1)]; omega
theorem borrow_bit (x y d : Nat) (hx : x < 4294967296) (hy : y < 4294967296) (hd : d = (x + 4294967296 - y) % 4294967296) :
    (((4294967295 ^^^ x) &&& y) ||| ((4294967295 ^^^ (x ^^^ y)) &&& d)) / 2147483648 = brw x y := by
  have hd1 : d < 4294967296 := by omega
  have h1 : ((4294967295 ^^^ x) &&& y) ||| ((4294967295 ^^^ (x ^^^ y)) &&& d) < 2 ^ 32 :=
    Nat.or_lt_two_pow (Nat.and_lt_two_pow _ (by omega)) (Nat.and_lt_two_pow _ (by omega))
  rw [top_val _ (by omega), Nat.testBit_or, Nat.testBit_and, Nat.testBit_and, Nat.testBit_xor, Nat.testBit_xor, Nat.testBit_xor, top_bit x, top_bit y, top_bit d, top_bit 4294967295]
  unfold brw
  have e0 : decide (4294967295 / 2147483648 % 2 = 1) = true := by decide
  rw [e0]
  have vx : x / 2147483648 % 2 = 0 ∨ x / 2147483648 % 2 = 1 := by omega
  have vy : y / 2147483648 % 2 = 0 ∨ y / 2147483648 % 2 = 1 := by omega
  have vd : d / 2147483648 % 2 = 0 ∨ d / 2147483648 % 2 = 1 := by omega
  rcases vx with vx | vx <;> rcases vy with vy | vy <;> rcases vd with vd | vd <;> rw [vx, vy, vd] <;> simp <;> omega
end Ow
namespace Go.Proofs.YtgalgldnhdiggaaDoor
open Go.RowKit
set_option linter.unusedVariables false

theorem wraps_u32 (n : Int) (h0 : 0 ≤ n) (h1 : n < 2 ^ 32) : IntKind.u32.wrap n = n := by
  simp only [IntKind.wrap, IntKind.bits, IntKind.signed]
  simp
  omega
theorem bits32 (a b : Nat) (ha : a < 4294967296) (hb : b < 4294967296) : bits .and .u32 a b = ((a &&& b : Nat) : Int) ∧ bits .or .u32 a b = ((a ||| b : Nat) : Int) :=
  bits_nat .u32 32 (by decide) wraps_u32 a b (by omega) (by omega)
theorem xor32 (a b : Nat) (ha : a < 4294967296) (hb : b < 4294967296) : bits .xor .u32 a b = ((a ^^^ b : Nat) : Int) := by
  have h1 : (BitVec.ofInt 32 (a : Int)).toNat = a := by
    rw [BitVec.ofInt_natCast, BitVec.toNat_ofNat]; exact Nat.mod_eq_of_lt (by omega)
  have h2 : (BitVec.ofInt 32 (b : Int)).toNat = b := by
    rw [BitVec.ofInt_natCast, BitVec.toNat_ofNat]; exact Nat.mod_eq_of_lt (by omega)
  have h3 : a ^^^ b < 2 ^ 32 := Nat.xor_lt_two_pow (by omega) (by omega)
  show IntKind.u32.wrap ((BitVec.ofInt 32 (a : Int) ^^^ BitVec.ofInt 32 (b : Int)).toNat : Int) = _
  rw [BitVec.toNat_xor, h1, h2]
  exact wraps_u32 _ (by omega) (by omega)

theorem borrow_int (x y d : Nat) (hx : x < 4294967296) (hy : y < 4294967296) (hd : d = (x + 4294967296 - y) % 4294967296) :
    bits .or .u32 (bits .and .u32 (bits .xor .u32 4294967295 (x : Int)) (y : Int)) (bits .and .u32 (bits .xor .u32 4294967295 (bits .xor .u32 (x : Int) (y : Int))) (d : Int)) / 2147483648 = ((Ow.brw x y : Nat) : Int) := by
  have hd1 : d < 4294967296 := by omega
  have a1 : x ^^^ y < 2 ^ 32 := Nat.xor_lt_two_pow (by omega) (by omega)
  have a2 : 4294967295 ^^^ x < 2 ^ 32 := Nat.xor_lt_two_pow (by omega) (by omega)
  have a3 : 4294967295 ^^^ (x ^^^ y) < 2 ^ 32 := Nat.xor_lt_two_pow (by omega) a1
  have a4 : (4294967295 ^^^ x) &&& y < 2 ^ 32 := Nat.and_lt_two_pow _ (by omega)
  have a5 : (4294967295 ^^^ (x ^^^ y)) &&& d < 2 ^ 32 := Nat.and_lt_two_pow _ (by omega)
  rw [xor32 x y hx hy, show (4294967295 : Int) = ((4294967295 : Nat) : Int) from rfl, xor32 4294967295 x (by omega) hx, xor32 4294967295 (x ^^^ y) (by omega) (by omega), (bits32 _ _ (by omega) hy).1, (bits32 _ _ (by omega) hd1).1, (bits32 _ _ (by omega) (by omega)).2,
    show (2147483648 : Int) = ((2147483648 : Nat) : Int) from rfl, ← Int.natCast_ediv, Ow.borrow_bit x y d hx hy hd]

def SubPost (x y : Nat) (w : World) (e : Ending) (w' : World) : Prop := e = .returned (.tuple #[.int .u32 (((x + 4294967296 - y) % 4294967296 : Nat) : Int), .int .u32 ((Ow.brw x y : Nat) : Int)]) ∧ w = w'
set_option maxRecDepth 100000 in
set_option maxHeartbeats 1000000 in
theorem sub32_any (x y : Nat) (w : World) (hx : x < 4294967296) (hy : y < 4294967296) :
    Calls Tryd.prog 106 #[.int .u32 x, .int .u32 y, .int .u32 0] w (SubPost x y w) := by
  have hs : IntKind.u32.signed = false := rfl
  have hm : IntKind.u32.max = 4294967295 := rfl
  have hd : ((x : Int) - (y : Int)) % 4294967296 = (((x + 4294967296 - y) % 4294967296 : Nat) : Int) := by omega
  have HB := Lib.hid (borrow_int x y _ hx hy rfl)
  have HD := Lib.hid hd
  clear hd
  go_enter Tryd.func106, Tryd.ntmps106
  go_wp2_with fail
  go_ret2
  refine ⟨?_, rfl⟩
  have hb := HB.out
  rw [← HD.out] at hb ⊢
  rw [← hb]
  rfl
end Go.Proofs.YtgalgldnhdiggaaDoor
