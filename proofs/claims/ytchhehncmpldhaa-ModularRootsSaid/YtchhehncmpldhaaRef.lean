/- What the reference's functions for residues return. -/
import Derived.Test.YtchhehncmpldhaaFunb
namespace Go.Proofs.Ytchhehncmpldhaa
open Go.RowKit
set_option linter.unusedVariables false

theorem rmodulus_ok (n : Int) (w : World) (h : 2 ≤ n) (h' : n ≤ 2147483647) :
    Calls Try.prog 39 #[.int .u32 n] w fun e w' => e = .returned (.bool true) ∧ w = w' := by
  go_enter Try.func39, Try.ntmps39
  go_wp2
  go_ret
  exact ⟨rfl, rfl⟩

theorem rmodulus_bad (n : Int) (w : World) (h : n < 2 ∨ 2147483647 < n) :
    Calls Try.prog 39 #[.int .u32 n] w fun e w' => e = .returned (.bool false) ∧ w = w' := by
  rcases h with h | h
  · go_enter Try.func39, Try.ntmps39
    go_wp2
    go_ret
    exact ⟨rfl, rfl⟩
  · have h2 : ¬ n < 2 := by omega
    go_enter Try.func39, Try.ntmps39
    go_wp2
    go_ret
    exact ⟨ret_bool (by simp; omega), rfl⟩

theorem rtimes_any (a b n : Int) (w : World) (ha : 0 ≤ a) (ha' : a ≤ 4294967295) (hb : 0 ≤ b) (hb' : b ≤ 4294967295) (hn : 1 ≤ n) (hn' : n ≤ 4294967295) :
    Calls Try.prog 41 #[.int .u32 a, .int .u32 b, .int .u32 n] w fun e w' => e = .returned (.int .u32 (a * b % n)) ∧ w = w' := by
  have h1 := mul_lo ha hb
  have h2 := mul_hi ha hb ha' hb'
  have h3 := emod_lo (a * b) n hn
  have h4 : a * b % n ≤ 4294967295 := by have := emod_hi (a * b) n hn; omega
  go_enter Try.func41, Try.ntmps41
  go_wp2
  go_ret
  exact ⟨rfl, rfl⟩

set_option maxHeartbeats 400000 in
theorem rpower_any (a0 k0 n : Int) (w : World) (ha : 0 ≤ a0) (ha' : a0 ≤ 4294967295) (hk : 0 ≤ k0) (hk' : k0 ≤ 18446744073709551615) (hn : 2 ≤ n) (hn' : n ≤ 4294967295) :
    Calls Try.prog 45 #[.int .u32 a0, .int .u64 k0, .int .u32 n] w fun e w' => e = .returned (.int .u32 (a0 ^ k0.toNat % n)) ∧ w = w' := by
  go_enter Try.func45, Try.ntmps45
  go_wp2_with fail
  go_loop [0, 1, 7] (fun x y z => ∃ a r : Int, ∃ e : Nat, x = .int .u32 a ∧ y = .int .u64 e ∧ z = .int .u32 r ∧ 0 ≤ a ∧ a ≤ 4294967295 ∧ (e : Int) ≤ 18446744073709551615 ∧ 0 ≤ r ∧ r < n ∧ PowInv a0 k0.toNat n r a e) (fun _ y _ => (intOf y).toNat)
  case atStart => exact ⟨a0, 1, k0.toNat, rfl, by rw [Int.toNat_of_nonneg hk], rfl, ha, ha', by omega, by omega, by omega, by simp [PowInv]⟩
  case round =>
    obtain ⟨a, r, e, rfl, rfl, rfl, h1, h2, h3, h4, h5, hinv⟩ := hrel
    by_cases he : 0 < e
    · by_cases ho : e % 2 = 1
      · have HO := Lib.hid ho
        have hand : ((e : Int) % 2 == 1) = true := by simp; omega
        clear ho
        go_wp2_with (go_at_call 41; refine (rtimes_any _ _ n _ (by omega) (by omega) (by omega) (by omega) (by omega) (by omega)).mono ?_; rintro e w' ⟨rfl, rfl⟩)
        refine ⟨⟨_, _, e / 2, rfl, rfl, rfl, emod_lo _ _ (by omega), ?_, by omega, emod_lo _ _ (by omega), emod_hi _ _ (by omega), pow_odd hinv HO.out⟩, by simp [intOf]; omega⟩
        have := emod_hi (a * a) n (by omega); omega
      · have HO := Lib.hid ho
        have hand : ((e : Int) % 2 == 1) = false := by simp; omega
        clear ho
        go_wp2_with (go_at_call 41; refine (rtimes_any _ _ n _ (by omega) (by omega) (by omega) (by omega) (by omega) (by omega)).mono ?_; rintro e w' ⟨rfl, rfl⟩)
        refine ⟨⟨_, _, e / 2, rfl, rfl, rfl, emod_lo _ _ (by omega), ?_, by omega, h4, h5, pow_even hinv (by have := HO.out; omega)⟩, by simp [intOf]; omega⟩
        have := emod_hi (a * a) n (by omega); omega
    · obtain rfl : e = 0 := by omega
      have HE := Lib.hid (pow_end hinv h4 h5)
      go_wp2_with fail
      go_ret
      exact ⟨ret_int HE.out, rfl⟩

theorem rof_ok (v n : Int) (w : World) (h : 2 ≤ n) (h' : n ≤ 2147483647) (hv : -9223372036854775808 ≤ v) (hv' : v ≤ 9223372036854775807) :
    Calls Try.prog 18 #[.int .i64 v, .int .u32 n] w (Two (v % n) 0 w) := by
  have h1 : v.tmod n < n := Int.tmod_lt_of_pos _ (by omega)
  have h2 : - n < v.tmod n := by have := Int.lt_tmod_of_pos v (b := n) (by omega); omega
  by_cases h0 : v.tmod n < 0
  · have HE := Lib.hid (emod_neg_case v n h0 h2)
    go_enter Try.func18, Try.ntmps18
    go_wp2_with (go_at_call 39; refine (rmodulus_ok n _ h h').mono ?_; rintro e w' ⟨rfl, rfl⟩)
    go_ret2
    exact ⟨by rw [HE.out]; rfl, Gr.refl _⟩
  · have HE := Lib.hid (emod_pos_case v n h0 h1)
    go_enter Try.func18, Try.ntmps18
    go_wp2_with (go_at_call 39; refine (rmodulus_ok n _ h h').mono ?_; rintro e w' ⟨rfl, rfl⟩)
    go_ret2
    exact ⟨by rw [HE.out]; rfl, Gr.refl _⟩

theorem rof_bad (v n : Int) (w : World) (h : n < 2 ∨ 2147483647 < n) :
    Calls Try.prog 18 #[.int .i64 v, .int .u32 n] w (Two 0 2 w) := by
  have H := Lib.hid h
  clear h
  go_enter Try.func18, Try.ntmps18
  go_wp2_with (go_at_call 39; refine (rmodulus_bad n _ H.out).mono ?_; rintro e w' ⟨rfl, rfl⟩)
  go_ret2
  exact ⟨rfl, Gr.refl _⟩

theorem radd_ok (a b n : Int) (w : World) (h : 2 ≤ n) (h' : n ≤ 2147483647) (ha0 : 0 ≤ a) (hb0 : 0 ≤ b) (ha : a < n) (hb : b < n) :
    Calls Try.prog 12 #[.int .u32 a, .int .u32 b, .int .u32 n] w (Two ((a + b) % n) 0 w) := by
  have h3 := emod_lo (a + b) n (by omega)
  have h4 : (a + b) % n ≤ 4294967295 := by have := emod_hi (a + b) n (by omega); omega
  go_enter Try.func12, Try.ntmps12
  go_wp2_with (go_at_call 39; refine (rmodulus_ok n _ h h').mono ?_; rintro e w' ⟨rfl, rfl⟩)
  go_ret2
  exact ⟨rfl, Gr.refl _⟩

theorem rsub_ok (a b n : Int) (w : World) (h : 2 ≤ n) (h' : n ≤ 2147483647) (ha0 : 0 ≤ a) (hb0 : 0 ≤ b) (ha : a < n) (hb : b < n) :
    Calls Try.prog 14 #[.int .u32 a, .int .u32 b, .int .u32 n] w (Two ((a + n - b) % n) 0 w) := by
  have h3 := emod_lo (a + n - b) n (by omega)
  have h4 : (a + n - b) % n ≤ 4294967295 := by have := emod_hi (a + n - b) n (by omega); omega
  go_enter Try.func14, Try.ntmps14
  go_wp2_with (go_at_call 39; refine (rmodulus_ok n _ h h').mono ?_; rintro e w' ⟨rfl, rfl⟩)
  go_ret2
  exact ⟨rfl, Gr.refl _⟩

theorem rmul_ok (a b n : Int) (w : World) (h : 2 ≤ n) (h' : n ≤ 2147483647) (ha0 : 0 ≤ a) (hb0 : 0 ≤ b) (ha : a < n) (hb : b < n) :
    Calls Try.prog 16 #[.int .u32 a, .int .u32 b, .int .u32 n] w (Two (a * b % n) 0 w) := by
  go_enter Try.func16, Try.ntmps16
  go_wp2_with (first | (go_at_call 39; refine (rmodulus_ok n _ h h').mono ?_; rintro e w' ⟨rfl, rfl⟩) | (go_at_call 41; refine (rtimes_any a b n _ ha0 (by omega) hb0 (by omega) (by omega) (by omega)).mono ?_; rintro e w' ⟨rfl, rfl⟩))
  go_ret2
  exact ⟨rfl, Gr.refl _⟩

theorem rpow_ok (a k n : Int) (w : World) (h : 2 ≤ n) (h' : n ≤ 2147483647) (ha0 : 0 ≤ a) (ha : a < n) (hk : 0 ≤ k) (hk' : k ≤ 18446744073709551615) :
    Calls Try.prog 23 #[.int .u32 a, .int .u64 k, .int .u32 n] w (Two (a ^ k.toNat % n) 0 w) := by
  go_enter Try.func23, Try.ntmps23
  go_wp2_with (first | (go_at_call 39; refine (rmodulus_ok n _ h h').mono ?_; rintro e w' ⟨rfl, rfl⟩) | (go_at_call 45; refine (rpower_any a k n _ ha0 (by omega) hk hk' (by omega) (by omega)).mono ?_; rintro e w' ⟨rfl, rfl⟩))
  go_ret2
  exact ⟨rfl, Gr.refl _⟩

theorem rbalanced_ok (a n : Int) (w : World) (h : 2 ≤ n) (h' : n ≤ 2147483647) (ha0 : 0 ≤ a) (ha : a < n) :
    Calls Try.prog 20 #[.int .u32 a, .int .u32 n] w (TwoI (bal a n) 0 w) := by
  by_cases hc : n < 2 * a
  · have HB := Lib.hid (bal_hi hc)
    go_enter Try.func20, Try.ntmps20
    go_wp2_with (go_at_call 39; refine (rmodulus_ok n _ h h').mono ?_; rintro e w' ⟨rfl, rfl⟩)
    go_ret2
    exact ⟨by rw [HB.out]; rfl, Gr.refl _⟩
  · have HB := Lib.hid (bal_lo hc)
    go_enter Try.func20, Try.ntmps20
    go_wp2_with (go_at_call 39; refine (rmodulus_ok n _ h h').mono ?_; rintro e w' ⟨rfl, rfl⟩)
    go_ret2
    exact ⟨by rw [HB.out]; rfl, Gr.refl _⟩

theorem rcommon_any (a0 b0 : Nat) (w : World) (ha : a0 ≤ 4294967295) (hb : b0 ≤ 4294967295) :
    Calls Try.prog 36 #[.int .u32 a0, .int .u32 b0] w fun e w' => e = .returned (.int .u32 (Nat.gcd a0 b0 : Nat)) ∧ w = w' := by
  go_enter Try.func36, Try.ntmps36
  go_wp2
  go_loop [0, 1] (fun x y => ∃ a b : Nat, x = .int .u32 a ∧ y = .int .u32 b ∧ a ≤ 4294967295 ∧ b ≤ 4294967295 ∧ Nat.gcd a b = Nat.gcd a0 b0) (fun _ y => (intOf y).toNat)
  case atStart => exact ⟨a0, b0, rfl, rfl, ha, hb, rfl⟩
  case round =>
    obtain ⟨a, b, rfl, rfl, h1, h2, hg⟩ := hrel
    have HG := Lib.hid hg
    clear hg
    by_cases h0 : 1 ≤ b
    · have hlt : a % b < b := Nat.mod_lt _ (by omega)
      go_wp2
      refine ⟨⟨b, a % b, rfl, rfl, h2, by omega, ?_⟩, ?_⟩
      · rw [← HG.out, Nat.gcd_comm b, ← Nat.gcd_rec, Nat.gcd_comm]
      · have e : (a : Int) % (b : Int) = ((a % b : Nat) : Int) := rfl
        simp only [intOf, e]; omega
    · obtain rfl : b = 0 := by omega
      go_wp2
      go_ret
      exact ⟨ret_int (by rw [← HG.out, Nat.gcd_zero_right]), rfl⟩
end Go.Proofs.Ytchhehncmpldhaa
