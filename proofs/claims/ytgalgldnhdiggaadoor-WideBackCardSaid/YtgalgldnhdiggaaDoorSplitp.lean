/- Long division: the divisor moved up; what the loop starts from. -/
import Derived.Test.YtgalgldnhdiggaaDoorSplitm
namespace Ow
set_option linter.unusedVariables false
/-- The divisor moved up until its highest bit is set has as many digits as before. -/
theorem up_len {m : List Nat} (hm : Nm m) (h0 : 0 < m.length) {s : Nat} (hs : s ≤ 32 - Go.Lib.bitLen (m[m.length - 1]?.getD 0)) (hk : Go.Lib.bitLen (m[m.length - 1]?.getD 0) ≤ 32) : val m * 2 ^ s < 4294967296 ^ m.length := by
  have hsn := snoc_of h0
  have hx := dg_at hm.1 (m.length - 1)
  have hx1 : 1 ≤ m[m.length - 1]?.getD 0 := nm_last (by rw [← hsn]; exact hm)
  have hb := bl_digits (dg_take hm.1 (m.length - 1)) hx1 (bitLen_bl _ (by omega))
  rw [← hsn, List.length_take, Nat.min_eq_left (by omega)] at hb
  have h1 := hb.1
  generalize Go.Lib.bitLen (m[m.length - 1]?.getD 0) = k at *
  rw [pow32]
  have h2 : val m * 2 ^ s < 2 ^ (32 * (m.length - 1) + k) * 2 ^ s := Nat.mul_lt_mul_of_pos_right h1 (Nat.two_pow_pos s)
  rw [← Nat.pow_add] at h2
  exact Nat.lt_of_lt_of_le h2 (Nat.pow_le_pow_right (by omega) (by omega))
theorem start_lt {P1 P2 P3 S X Y VL VM : Nat} (h4 : P1 * P2 = P3) (h1 : VL * S = Y + P1 * X) (h2 : VL < P3) (h3 : P2 ≤ VM) (hS : 0 < S) : X < VM * S := by
  have h5 : VL * S < P3 * S := Nat.mul_lt_mul_of_pos_right h2 hS
  have h6 : P2 * S ≤ VM * S := Nat.mul_le_mul_right _ h3
  have h7 : P1 * X < P1 * (P2 * S) := by
    rw [← Nat.mul_assoc, h4]; omega
  exact Nat.lt_of_lt_of_le (Nat.lt_of_mul_lt_mul_left h7) h6
theorem DivI.start {n a S : Nat} {L m l : List Nat} (hL : Dg L) (hlen : L.length = a + 1) (hl : Dg l) (hla : l.length = a) (hm : Nm m) (hn : m.length = n) (hn0 : 0 < n) (hle : n ≤ a) (hv : val L = val l * S) (hS : 0 < S) : DivI (val l * S) (val m * S) n L (a - n + 1) [] := by
  obtain ⟨i, hi⟩ : ∃ i, i = a - n + 1 := ⟨_, rfl⟩
  obtain ⟨j, hj⟩ : ∃ j, j = n - 1 := ⟨_, rfl⟩
  have hij : i + j = a := by omega
  rw [← hi]
  have h1 := val_split i L (by omega)
  have h2 := val_lt l hl
  have h3 := val_ge m hm.2 (fun e => by rw [e] at hn; exact absurd hn (by simp; omega))
  rw [hla] at h2
  rw [hn, ← hj] at h3
  rw [hv] at h1
  refine ⟨hL, dg_nil, by simp; omega, ?_, start_lt (by rw [← Nat.pow_add, hij]) h1 h2 h3 hS⟩
  show val L + val m * S * (4294967296 ^ i * 0) = _
  rw [Nat.mul_zero, Nat.mul_zero, Nat.add_zero, hv]
end Ow
