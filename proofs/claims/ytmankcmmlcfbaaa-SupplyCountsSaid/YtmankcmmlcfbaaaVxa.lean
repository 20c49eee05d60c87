/- For the law SupplyCounts: the numbers that one byte yields. -/
import Derived.Test.YtmankcmmlcfbaaaVt
namespace Ov
set_option linter.unusedVariables false
def one (x k : Nat) : ByteArray := ⟨#[UInt8.ofNat (x * 2 ^ (8 - k))]⟩
theorem num_byte : ∀ k : Fin 9, ∀ x : Fin (2 ^ k.val), num (one x.val k.val) 0 k.val = x.val := by decide +kernel
theorem one_bits (x k : Nat) : nbits (one x k) = 8 := rfl
theorem go_far {s : ByteArray} {n k : Nat} : ∀ {f p v q : Nat}, Ov.go s n k f p = some (v, q) → p + k ≤ q
  | 0, p, v, q, h => by cases h
  | f + 1, p, v, q, h => by
    unfold Ov.go at h
    split at h
    · split at h
      · cases h; omega
      · have := go_far h; omega
    · cases h
theorem wid_is {m k : Nat} (h1 : 1 ≤ m) (hm : m ≤ 200) (hk : m ≤ 2 ^ k) (hj : ∀ j, j < k → 2 ^ j < m) : wid m = k := by
  have a := wid_lt m (by omega)
  rcases Nat.lt_trichotomy (wid m) k with h | h | h
  · have := hj _ h; omega
  · exact h
  · by_cases h0 : m - 1 = 0
    · have e : m = 1 := by omega
      subst e
      have : wid 1 = 0 := by decide
      omega
    · have b := (Go.Lib.bitLenAux_bounds 64 (m - 1) (by omega) h0).2.1
      have e : wid m = Go.Lib.bitLenAux 64 (m - 1) := rfl
      rw [← e] at b
      have := Nat.pow_le_pow_right (show 0 < 2 by omega) (show k ≤ wid m - 1 by omega)
      omega
theorem bel_hit {m k x : Nat} (hk : k ≤ 8) (hw : wid m = k) (hx : x < 2 ^ k) (hm : x < m) : bel (one x k) m 0 = some (x, k) := by
  unfold bel
  rw [hw, Ov.go, one_bits, if_pos (by omega), num_byte ⟨k, by omega⟩ ⟨x, hx⟩, if_pos hm, Nat.zero_add]
theorem bel_miss {m k x v q : Nat} (h1 : 1 ≤ m) (hm2 : m ≤ 200) (hk : k ≤ 8) (hw : wid m = k) (hx : x < 2 ^ k) (hm : ¬ x < m) (h : bel (one x k) m 0 = some (v, q)) : q ≠ k := by
  unfold bel at h
  rw [hw, Ov.go, one_bits, if_pos (by omega), num_byte ⟨k, by omega⟩ ⟨x, hx⟩, if_neg hm] at h
  have := go_far h
  have hk0 : k ≠ 0 := fun e => by
    subst e
    have := wid_zero h1 (by omega) hw
    simp at hx; omega
  omega
end Ov
namespace Go.Proofs.Ytmankcmmlcfbaaa
open Go.RowKit Ov
set_option linter.unusedVariables false
theorem pick_any (n m : Int) (w : World) (hm : 1 ≤ m ∧ m ≤ 1000) (hn : -9223372036854775808 ≤ n ∧ n ≤ 9223372036854775807) : Calls Try.prog 17 #[.int .i64 n, .int .i64 m] w (fun e w' => (∃ r : Nat, e = .returned (.int .i64 (r : Nat)) ∧ (r : Int) < m) ∧ w' = w) := by
  obtain ⟨hm1, hm2⟩ := hm
  obtain ⟨t, ht⟩ : ∃ t, t = n.tmod m := ⟨_, rfl⟩
  have hlo : -m < t := by rw [ht]; exact Int.neg_lt_of_neg_lt (by have := Int.tmod_lt_of_pos (-n) (show 0 < m by omega); rw [Int.neg_tmod] at this; omega)
  have hhi : t < m := by rw [ht]; exact Int.tmod_lt_of_pos n (by omega)
  have hm0 : ¬ m = 0 := by omega
  have ht' : n.tmod m = t := ht.symm
  have HT := Lib.hid (And.intro hlo hhi)
  clear ht hn
  by_cases hz : t < 0
  · go_enter Try.func17, Try.ntmps17
    go_wp2_with fail
    go_ret
    refine ⟨⟨(t + m).toNat, ?_, by omega⟩, rfl⟩
    rw [show (((t + m).toNat : Nat) : Int) = t + m from by omega]; rfl
  · go_enter Try.func17, Try.ntmps17
    go_wp2_with fail
    go_ret
    refine ⟨⟨t.toNat, ?_, by omega⟩, rfl⟩
    rw [show ((t.toNat : Nat) : Int) = t from by omega]; rfl
end Go.Proofs.Ytmankcmmlcfbaaa
