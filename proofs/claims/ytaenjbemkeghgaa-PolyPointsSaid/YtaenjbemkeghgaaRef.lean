/- What the reference's functions for residues return. -/
import Derived.Test.YtaenjbemkeghgaaFunb
namespace Go.Proofs.Ytaenjbemkeghgaa
open Go.RowKit
set_option linter.unusedVariables false
theorem rtimes_any (a b n : Int) (w : World) (ha : 0 ≤ a) (ha' : a ≤ 4294967295) (hb : 0 ≤ b) (hb' : b ≤ 4294967295) (hn : 1 ≤ n) (hn' : n ≤ 4294967295) :
    Calls Try.prog 81 #[.int .u32 a, .int .u32 b, .int .u32 n] w fun e w' => e = .returned (.int .u32 (a * b % n)) ∧ w = w' := by
  have h1 := mul_lo ha hb
  have h2 := mul_hi ha hb ha' hb'
  have h3 := emod_lo (a * b) n hn
  have h4 : a * b % n ≤ 4294967295 := by have := emod_hi (a * b) n hn; omega
  go_enter Try.func81, Try.ntmps81
  go_wp2
  go_ret
  exact ⟨rfl, rfl⟩

set_option maxHeartbeats 400000 in
theorem rpower_any (a0 k0 n : Int) (w : World) (ha : 0 ≤ a0) (ha' : a0 ≤ 4294967295) (hk : 0 ≤ k0) (hk' : k0 ≤ 18446744073709551615) (hn : 2 ≤ n) (hn' : n ≤ 4294967295) :
    Calls Try.prog 80 #[.int .u32 a0, .int .u64 k0, .int .u32 n] w fun e w' => e = .returned (.int .u32 (a0 ^ k0.toNat % n)) ∧ w = w' := by
  go_enter Try.func80, Try.ntmps80
  go_wp2_with fail
  go_loop [0, 1, 7] (fun x y z => ∃ a r : Int, ∃ e : Nat, x = .int .u32 a ∧ y = .int .u64 e ∧ z = .int .u32 r ∧ 0 ≤ a ∧ a ≤ 4294967295 ∧ (e : Int) ≤ 18446744073709551615 ∧ 0 ≤ r ∧ r < n ∧ PowInv a0 k0.toNat n r a e) (fun _ y _ => (intOf y).toNat)
  case atStart => exact ⟨a0, 1, k0.toNat, rfl, by rw [Int.toNat_of_nonneg hk], rfl, ha, ha', by omega, by omega, by omega, by simp [PowInv]⟩
  case round =>
    obtain ⟨a, r, e, rfl, rfl, rfl, h1, h2, h3, h4, h5, hinv⟩ := hrel
    by_cases he : 0 < e
    · by_cases ho : e % 2 = 1
      · have HO := Lib.hid ho
        have hand : ((e : Int) % 2 == 1) = true := by simp; omega
        clear ho
        go_wp2_with (go_at_call 81; refine (rtimes_any _ _ n _ (by omega) (by omega) (by omega) (by omega) (by omega) (by omega)).mono ?_; rintro e w' ⟨rfl, rfl⟩)
        refine ⟨⟨_, _, e / 2, rfl, rfl, rfl, emod_lo _ _ (by omega), ?_, by omega, emod_lo _ _ (by omega), emod_hi _ _ (by omega), pow_odd hinv HO.out⟩, by simp [intOf]; omega⟩
        have := emod_hi (a * a) n (by omega); omega
      · have HO := Lib.hid ho
        have hand : ((e : Int) % 2 == 1) = false := by simp; omega
        clear ho
        go_wp2_with (go_at_call 81; refine (rtimes_any _ _ n _ (by omega) (by omega) (by omega) (by omega) (by omega) (by omega)).mono ?_; rintro e w' ⟨rfl, rfl⟩)
        refine ⟨⟨_, _, e / 2, rfl, rfl, rfl, emod_lo _ _ (by omega), ?_, by omega, h4, h5, pow_even hinv (by have := HO.out; omega)⟩, by simp [intOf]; omega⟩
        have := emod_hi (a * a) n (by omega); omega
    · obtain rfl : e = 0 := by omega
      have HE := Lib.hid (pow_end hinv h4 h5)
      go_wp2_with fail
      go_ret
      exact ⟨ret_int HE.out, rfl⟩

end Go.Proofs.Ytaenjbemkeghgaa
