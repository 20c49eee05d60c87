/- Words in memory and in the operations; rot, of the reference. -/
import Derived.Test.YtblaimkcdhcclaaDoorWa
import Derived.Test.YtblaimkcdhcclaaDoorBase
import Derived.Laws.BitsAllLaws
import Derived.Deep.RegionHeld3
namespace Go.Proofs.YtblaimkcdhcclaaDoor
open Go.RowKit Oz
set_option linter.unusedVariables false

/-- The number of a word. -/
def nv (x : BitVec 64) : Int := (x.toNat : Int)
theorem nv_lt (x : BitVec 64) : 0 ≤ nv x ∧ nv x < 18446744073709551616 := by
  have := x.isLt
  unfold nv
  omega
theorem nv_inj {x y : BitVec 64} (h : nv x = nv y) : x = y := BitVec.eq_of_toNat_eq (by unfold nv at h; omega)
theorem nv_of (n : Nat) (h : n < 18446744073709551616) : nv (BitVec.ofNat 64 n) = (n : Int) := by
  unfold nv
  rw [BitVec.toNat_ofNat, Nat.mod_eq_of_lt (by omega)]
theorem nv_xor (x y : BitVec 64) : bits .xor .u64 (nv x) (nv y) = nv (x ^^^ y) := by
  unfold nv
  rw [u64_xor_nat _ _ x.isLt y.isLt, BitVec.toNat_xor]
theorem nv_and (x y : BitVec 64) : bits .and .u64 (nv x) (nv y) = nv (x &&& y) := by
  unfold nv
  rw [u64_and_nat _ _ x.isLt y.isLt, BitVec.toNat_and]
theorem nv_or (x y : BitVec 64) : bits .or .u64 (nv x) (nv y) = nv (x ||| y) := by
  unfold nv
  rw [u64_or_nat _ _ x.isLt y.isLt, BitVec.toNat_or]
theorem nv_not (x : BitVec 64) : bits .xor .u64 (if IntKind.u64.signed = true then -1 else IntKind.u64.max) (nv x) = nv (~~~x) := by
  have h : (if IntKind.u64.signed = true then (-1 : Int) else IntKind.u64.max) = nv (BitVec.allOnes 64) := by decide
  rw [h, nv_xor, BitVec.allOnes_xor]
theorem nv_shr (x : BitVec 64) (k : Nat) : nv x / 2 ^ k = nv (x >>> k) := by
  unfold nv
  rw [BitVec.toNat_ushiftRight, Nat.shiftRight_eq_div_pow]
  simp
theorem nv_shl (x : BitVec 64) (k : Nat) : IntKind.u64.wrap (nv x * 2 ^ k) = nv (x <<< k) := by
  unfold nv
  rw [BitVec.toNat_shiftLeft, Nat.shiftLeft_eq, IntKind.wrap_u64]
  simp
theorem nv_wrap (x : BitVec 64) : IntKind.u64.wrap (nv x) = nv x := by
  have := nv_lt x
  rw [IntKind.wrap_u64]
  omega
theorem rrot_any (x : BitVec 64) (k : Nat) (hk0 : 0 < k) (hk : k < 64) (w : World) : Calls Tryd.prog 36 #[.int .u64 (nv x), .int .i64 (k : Nat)] w (fun e w' => e = .returned (.int .u64 (nv (rotr x k))) ∧ w' = w.drew) := by
  obtain ⟨l, hl⟩ : ∃ l, l = 64 - k := ⟨_, rfl⟩
  have HR := Lib.hid (show x >>> k ||| x <<< l = rotr x k from by rw [hl]; rfl)
  have hli : (64 : Int) - (k : Int) = (l : Int) := by omega
  have hl64 : (l : Int) ≤ 64 := by omega
  have hk64 : (k : Int) ≤ 64 := by omega
  clear hl
  have e1 : nv x / 2 ^ k = nv (x >>> k) := nv_shr x k
  have e2 : IntKind.u64.wrap (nv x * 2 ^ l) = nv (x <<< l) := nv_shl x l
  have e3 : ∀ x y, bits .or .u64 (nv x) (nv y) = nv (x ||| y) := nv_or
  go_enter Tryd.func36, Tryd.ntmps36
  go_wp2_with fail
  go_region
  go_wp2_with fail
  rw [HR.out]
  go_ret
  exact ⟨rfl, rfl⟩
end Go.Proofs.YtblaimkcdhcclaaDoor
