/- length: the number of binary digits. -/
import Derived.Test.YtgalgldnhdiggaaDoorSplitd
import Derived.Test.YtgalgldnhdiggaaDoorShelf
import Derived.Lib.ItoaNum
namespace Ow
set_option linter.unusedVariables false
/-- n binary digits are enough for v, and no fewer. -/
def BitLen (v n : Nat) : Prop := v < 2 ^ n ∧ (0 < v → 1 ≤ n ∧ 2 ^ (n - 1) ≤ v) ∧ (v = 0 → n = 0)
theorem BitLen.unique {v n m : Nat} (h : BitLen v n) (h' : BitLen v m) : n = m := by
  rcases Nat.eq_zero_or_pos v with rfl | hv
  · rw [h.2.2 rfl, h'.2.2 rfl]
  · obtain ⟨a, b, _⟩ := h
    obtain ⟨a', b', _⟩ := h'
    have b := b hv
    have b' := b' hv
    have c : n - 1 < m := (Nat.pow_lt_pow_iff_right (by omega : 1 < 2)).1 (Nat.lt_of_le_of_lt b.2 a')
    have d : m - 1 < n := (Nat.pow_lt_pow_iff_right (by omega : 1 < 2)).1 (Nat.lt_of_le_of_lt b'.2 a)
    omega
theorem bitLen_bl (x : Nat) (h : x < 18446744073709551616) : BitLen x (Go.Lib.bitLen x) := by
  rcases Nat.eq_zero_or_pos x with rfl | hx
  · have e : Go.Lib.bitLen 0 = 0 := Go.Lib.bitLenAux_zero 64
    rw [e]; exact ⟨by simp, fun h => by omega, fun _ => rfl⟩
  · obtain ⟨a, b, c⟩ := Go.Lib.bitLenAux_bounds 64 x (by omega) (by omega)
    exact ⟨c, fun _ => ⟨a, b⟩, fun h => by omega⟩
theorem pow32 (k : Nat) : 4294967296 ^ k = 2 ^ (32 * k) := by rw [Nat.pow_mul]
/-- The digits below the top one and the top one. -/
theorem bl_digits {l : List Nat} {x k : Nat} (hl : Dg l) (hx : 1 ≤ x) (h : BitLen x k) : BitLen (val (l ++ [x])) (32 * l.length + k) := by
  have a := val_lt l hl
  rw [pow32] at a
  rw [val_snoc, pow32]
  obtain ⟨b, c, _⟩ := h
  have c := c hx
  refine ⟨?_, fun _ => ⟨by omega, ?_⟩, fun h => ?_⟩
  · have : 2 ^ (32 * l.length) * (x + 1) ≤ 2 ^ (32 * l.length) * 2 ^ k := Nat.mul_le_mul_left _ b
    rw [Nat.mul_add, Nat.mul_one] at this
    rw [Nat.pow_add]; omega
  · have : 2 ^ (32 * l.length) * 2 ^ (k - 1) ≤ 2 ^ (32 * l.length) * x := Nat.mul_le_mul_left _ c.2
    rw [← Nat.pow_add] at this
    rw [show 32 * l.length + k - 1 = 32 * l.length + (k - 1) by omega]; omega
  · have : 2 ^ (32 * l.length) * 1 ≤ 2 ^ (32 * l.length) * x := Nat.mul_le_mul_left _ hx
    have := Nat.two_pow_pos (32 * l.length)
    omega
theorem nm_last {l : List Nat} {x : Nat} (h : Nm (l ++ [x])) : 1 ≤ x := by
  rcases Nat.eq_zero_or_pos x with rfl | hx
  · have h2 := h.2
    rw [tr_zero] at h2
    have := tr_len l
    rw [h2] at this
    simp at this
    omega
  · exact hx
theorem snoc_of {l : List Nat} (h : 0 < l.length) : l = l.take (l.length - 1) ++ [l[l.length - 1]?.getD 0] := by
  have e : l.length - 1 + 1 = l.length := by omega
  have := List.take_succ_eq_append_getElem (l := l) (i := l.length - 1) (by omega)
  rw [e, List.take_length] at this
  conv => lhs; rw [this]
  rw [List.getElem?_eq_getElem (by omega)]; rfl
end Ow
namespace Go.Proofs.YtgalgldnhdiggaaDoor
open Go.RowKit
set_option linter.unusedVariables false

def LenPost (v : Nat) (w : World) (e : Ending) (w' : World) : Prop := ∃ n : Nat, e = .returned (.int .i64 (n : Nat)) ∧ Ow.BitLen v n ∧ w = w'

set_option maxRecDepth 100000 in
set_option maxHeartbeats 1000000 in
theorem length_any (l : List Nat) (v : Value) (w : World) (hv : HasD w v l) (hn : Ow.Nm l) (hl : l.length ≤ 100000) :
    Calls Tryd.prog 61 #[v] w (LenPost (Ow.val l) w) := by
  obtain ⟨dv, a, cap, rfl, v1, v2, cv⟩ := hv
  obtain ⟨len, hlen⟩ : ∃ len, len = l.length := ⟨_, rfl⟩
  rw [← hlen] at v1 hl ⊢
  have HL := Lib.hid hlen
  have HN := Lib.hid hn
  rcases Nat.eq_zero_or_pos len with h0 | h0
  · subst h0
    have hz : l = [] := List.length_eq_zero_iff.1 hlen.symm
    have HZ := Lib.hid hz
    clear hlen hn dv cv hz
    go_enter Tryd.func61, Tryd.ntmps61
    go_wp2_with fail
    go_ret
    exact ⟨0, rfl, by rw [HZ.out]; exact ⟨by simp [Ow.val], fun h => by simp [Ow.val] at h, fun _ => rfl⟩, rfl⟩
  · obtain ⟨g, o, rfl, c1⟩ := cv (len - 1) (by omega)
    have hs := Ow.snoc_of (l := l) (by omega)
    rw [← hlen] at hs
    obtain ⟨x, hxe⟩ : ∃ x, x = l[len - 1]?.getD 0 := ⟨_, rfl⟩
    have hx := Ow.dg_at hn.1 (len - 1)
    rw [← hxe] at c1 hx hs
    have hx1 : 1 ≤ x := Ow.nm_last (by rw [← hs]; exact hn)
    have hdt : Ow.Dg (l.take (len - 1)) := Ow.dg_take hn.1 _
    have hbl := Ow.bl_digits hdt hx1 (Ow.bitLen_bl x (by omega))
    rw [← hs, List.length_take, Nat.min_eq_left (by omega)] at hbl
    have hb32 := Any.bitLen_le32 (x : Int) (by omega) (by omega)
    rw [Int.toNat_natCast] at hb32
    have HBL := Lib.hid hbl
    have i1 : ((len : Int) - 1).toNat = len - 1 := by omega
    have i2 : (0 : Int) ≤ (len : Int) - 1 := by omega
    have t0 : ((len : Int) == 0) = false := by simp; omega
    clear hlen hn dv cv hs hxe hdt hbl
    go_enter Tryd.func61, Tryd.ntmps61
    go_wp2_with fail
    refine (Tryd.bits_Len32 (x : Int) _ (by omega) (by omega)).mono ?_
    rintro e w1 ⟨rfl, rfl⟩
    rw [Int.toNat_natCast]
    generalize Lib.bitLen x = n at *
    go_wp2_with fail
    go_ret
    exact ⟨32 * (len - 1) + n, ret_int (by omega), HBL.out, rfl⟩
end Go.Proofs.YtgalgldnhdiggaaDoor
