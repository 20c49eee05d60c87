import Derived.Test.YtfmmkdmnondomaaLSE
/- The law SlotsLower. -/
namespace Go.Proofs.Ytfmmkdmnondomaa
open Go.RowKit
set_option linter.unusedVariables false

theorem SN.seven {n p r q x s : Nat} (h : SN n p r q x s) : r ≤ 7 := by
  have hf := h.fits
  obtain ⟨_, _, h1⟩ := hf
  rw [Int.toNat_natCast] at h1
  have hd := h.rt.dim
  have hp := h.rt.pr
  have h2 := h.rt.two
  have h8 : p % 8 = 1 := by
    have h3 : 8 ∣ 2 * n := by rcases hd with rfl | rfl | rfl | rfl <;> decide
    rw [← Nat.mod_mod_of_dvd p h3, h1]
  have h17 : 17 ≤ p := by
    have h9 : p ≠ 9 := fun e => by
      subst e
      exact hp.2 3 (by omega) (by omega) ⟨3, rfl⟩
    omega
  apply Classical.byContradiction
  intro hn
  have h4 : 17 ^ 8 ≤ p ^ r := Nat.le_trans (Nat.pow_le_pow_left h17 8) (Nat.pow_le_pow_right (by omega) (by omega))
  have h5 := h.le
  rw [h.hq] at h5
  have h6 : (17 : Nat) ^ 8 = 6975757441 := by decide
  omega
/-- A prefix, balanced. -/
def pre (A : List Int) (m k : Nat) : List Int := (A.take k).map (fun x => rb x m)
theorem rb_i64 {x : Int} {m : Nat} (h3 : 3 ≤ m) (ho : m % 2 = 1) (hm : m ≤ 2147483647) : -2147483648 ≤ rb x m ∧ rb x m ≤ 2147483647 := by
  have h := (rb_bl (x := x) h3 ho).2
  omega

end Go.Proofs.Ytfmmkdmnondomaa
