/- The law ModularInverts returns true, whatever its arguments. -/
import Derived.Test.YtchhehncmpldhaaShown
namespace Go.Proofs.Ytchhehncmpldhaa
open Go.RowKit
set_option linter.unusedVariables false

theorem value_any (a e : Int) (w : World) (ha : 0 ≤ a) (ha' : a ≤ 4294967295) : Calls Try.prog 35 #[.int .u32 a, .int .i64 e] w fun r w' => r = .returned (.tuple #[.int .u64 a, .bool (e == 0)]) ∧ w = w' := by
  go_enter Try.func35, Try.ntmps35
  go_wp2_with fail
  go_ret2
  exact ⟨rfl, rfl⟩

theorem bal_mod (a n : Int) (h : 2 ≤ n) (ha0 : 0 ≤ a) (ha : a < n) : bal a n % n = a := by
  unfold bal
  split
  · rw [show a - n = a + n * (-1) by omega, Int.add_mul_emod_self_left, Int.emod_eq_of_lt ha0 ha]
  · exact Int.emod_eq_of_lt ha0 ha
theorem bal_bounds (a n : Int) (h : 2 ≤ n) (ha0 : 0 ≤ a) (ha : a < n) : 2 * bal a n ≤ n ∧ -n < 2 * bal a n := by
  unfold bal
  split <;> omega



set_option maxRecDepth 100000 in
set_option maxHeartbeats 2000000 in
theorem inverts_bad (a n : Nat) (w : World) (ha' : a ≤ 4294967295) (hn' : n ≤ 4294967295) (h : (n < 2 ∨ 2147483647 < n) ∨ n ≤ a) :
    Calls Try.prog 8 #[.int .u32 a, .int .u32 n] w (Truth w) := by
  have hi : ((n : Int) < 2 ∨ 2147483647 < (n : Int)) ∨ (n : Int) ≤ a := by omega
  have HI := Lib.hid hi
  clear hi
  by_cases h1 : n < 2
  · clear h
    go_enter Try.func8, Try.ntmps8
    go_wp2_with fail
    refine (inverse_bad a n _ HI.out).mono ?_
    rintro e w1 ⟨rfl, g1⟩
    go_wp2_with fail
    refine (shown_any _).mono ?_
    rintro e w2 ⟨rfl, g2⟩
    go_wp2_with fail
    go_ret
    exact ⟨rfl, g1.trans g2⟩
  by_cases h2 : 2147483647 < n
  · clear h
    go_enter Try.func8, Try.ntmps8
    go_wp2_with fail
    refine (inverse_bad a n _ HI.out).mono ?_
    rintro e w1 ⟨rfl, g1⟩
    go_wp2_with fail
    refine (shown_any _).mono ?_
    rintro e w2 ⟨rfl, g2⟩
    go_wp2_with fail
    go_ret
    exact ⟨rfl, g1.trans g2⟩
  have h3 : n ≤ a := by omega
  clear h
  go_enter Try.func8, Try.ntmps8
  go_wp2_with fail
  refine (inverse_bad a n _ HI.out).mono ?_
  rintro e w1 ⟨rfl, g1⟩
  go_wp2_with fail
  refine (shown_any _).mono ?_
  rintro e w2 ⟨rfl, g2⟩
  go_wp2_with fail
  go_ret
  exact ⟨rfl, g1.trans g2⟩

set_option maxRecDepth 100000 in
set_option maxHeartbeats 2000000 in
theorem inverts_ok (a n : Nat) (w : World) (h : 2 ≤ n) (h' : n ≤ 2147483647) (ha : a < n) :
    Calls Try.prog 8 #[.int .u32 a, .int .u32 n] w (Truth w) := by
  have hbb := bal_bounds a n (by omega) (by omega) (by omega)
  have HBM := Lib.hid (bal_mod a n (by omega) (by omega) (by omega))
  obtain ⟨v, hv⟩ : ∃ v, v = bal a n := ⟨_, rfl⟩
  rw [← hv] at hbb
  obtain ⟨hv1, hv2⟩ := hbb
  have HV := Lib.hid hv
  clear hv
  by_cases hg : Nat.gcd a n = 1
  · go_enter Try.func8, Try.ntmps8
    go_wp2_with fail
    refine (inverse_ok a n _ h h' ha hg).mono ?_
    rintro e w1 ⟨b, ⟨rfl, g1⟩, hb0, hb1, hb2⟩
    rw [Int.mul_comm] at hb2
    have hm0 := mul_lo hb0 (show (0 : Int) ≤ a by omega)
    have hm1 := mul_hi hb0 (show (0 : Int) ≤ a by omega) (by omega) (by omega)
    have HG := Lib.hid hg
    clear hg
    go_wp2_with fail
    go_loop [7, 8, 9] (fun p q _ => ∃ x y : Nat, p = .int .u64 x ∧ q = .int .u64 y ∧ x ≤ 4294967295 ∧ y ≤ 4294967295 ∧ Nat.gcd y x = Nat.gcd a n) (fun p _ _ => (intOf p).toNat)
    case atStart => exact ⟨a, n, rfl, rfl, by omega, by omega, Nat.gcd_comm _ _⟩
    case round =>
      obtain ⟨x, y, rfl, rfl, hx, hy, hxy⟩ := hrel
      have HXY := Lib.hid hxy
      clear hxy
      by_cases h0 : 1 ≤ x
      · have hlt : y % x < x := Nat.mod_lt _ (by omega)
        go_wp2_with fail
        refine ⟨⟨y % x, x, rfl, rfl, by omega, hx, ?_⟩, ?_⟩
        · rw [← HXY.out, Nat.gcd_comm x, ← Nat.gcd_rec, Nat.gcd_comm]
        · have e : (y : Int) % (x : Int) = ((y % x : Nat) : Int) := rfl
          simp only [intOf, e]; omega
      · obtain rfl : x = 0 := by omega
        have hy1 : ((y : Int) == 1) = true := by have h1 := HXY.out; rw [Nat.gcd_zero_right] at h1; rw [HG.out] at h1; simp; omega
        go_wp2_with fail
        refine (balanced_ok a n _ (by omega) (by omega) (by omega) (by omega)).mono ?_
        rintro e w2 ⟨rfl, g2⟩
        rw [← HV.out]
        go_wp2_with fail
        refine (of_ok v n _ (by omega) (by omega) (by omega) (by omega)).mono ?_
        rintro e w3 ⟨rfl, g3⟩
        rw [show v % (n : Int) = a from by rw [HV.out, HBM.out]]
        go_wp2_with fail
        refine (value_any a 0 _ (by omega) (by omega)).mono ?_
        rintro e w' ⟨rfl, rfl⟩
        rw [show ((0 : Int) == 0) = true from rfl]
        go_wp2_with fail
        refine (shown_any _).mono ?_
        rintro e w4 ⟨rfl, g4⟩
        go_wp2_with fail
        go_ret
        exact ⟨rfl, ((g1.trans g2).trans g3).trans g4⟩
  · go_enter Try.func8, Try.ntmps8
    go_wp2_with fail
    refine (inverse_none a n _ h h' ha hg).mono ?_
    rintro e w1 ⟨rfl, g1⟩
    have HG := Lib.hid hg
    clear hg
    go_wp2_with fail
    go_loop [7, 8, 9] (fun p q _ => ∃ x y : Nat, p = .int .u64 x ∧ q = .int .u64 y ∧ x ≤ 4294967295 ∧ y ≤ 4294967295 ∧ Nat.gcd y x = Nat.gcd a n) (fun p _ _ => (intOf p).toNat)
    case atStart => exact ⟨a, n, rfl, rfl, by omega, by omega, Nat.gcd_comm _ _⟩
    case round =>
      obtain ⟨x, y, rfl, rfl, hx, hy, hxy⟩ := hrel
      have HXY := Lib.hid hxy
      clear hxy
      by_cases h0 : 1 ≤ x
      · have hlt : y % x < x := Nat.mod_lt _ (by omega)
        go_wp2_with fail
        refine ⟨⟨y % x, x, rfl, rfl, by omega, hx, ?_⟩, ?_⟩
        · rw [← HXY.out, Nat.gcd_comm x, ← Nat.gcd_rec, Nat.gcd_comm]
        · have e : (y : Int) % (x : Int) = ((y % x : Nat) : Int) := rfl
          simp only [intOf, e]; omega
      · obtain rfl : x = 0 := by omega
        have hy1 : ((y : Int) == 1) = false := by have h1 := HXY.out; rw [Nat.gcd_zero_right] at h1; have := HG.out; rw [← h1] at this; simp; omega
        go_wp2_with fail
        refine (balanced_ok a n _ (by omega) (by omega) (by omega) (by omega)).mono ?_
        rintro e w2 ⟨rfl, g2⟩
        rw [← HV.out]
        go_wp2_with fail
        refine (of_ok v n _ (by omega) (by omega) (by omega) (by omega)).mono ?_
        rintro e w3 ⟨rfl, g3⟩
        rw [show v % (n : Int) = a from by rw [HV.out, HBM.out]]
        go_wp2_with fail
        refine (value_any a 0 _ (by omega) (by omega)).mono ?_
        rintro e w' ⟨rfl, rfl⟩
        rw [show ((0 : Int) == 0) = true from rfl]
        go_wp2_with fail
        refine (shown_any _).mono ?_
        rintro e w4 ⟨rfl, g4⟩
        go_wp2_with fail
        go_ret
        exact ⟨rfl, ((g1.trans g2).trans g3).trans g4⟩

theorem inverts_all (a n : Nat) (w : World) (ha' : a ≤ 4294967295) (hn' : n ≤ 4294967295) :
    Calls Try.prog 8 #[.int .u32 a, .int .u32 n] w (Truth w) := by
  by_cases h : (n < 2 ∨ 2147483647 < n) ∨ n ≤ a
  · exact inverts_bad a n w ha' hn' h
  · exact inverts_ok a n w (by omega) (by omega) (by omega)
end Go.Proofs.Ytchhehncmpldhaa
