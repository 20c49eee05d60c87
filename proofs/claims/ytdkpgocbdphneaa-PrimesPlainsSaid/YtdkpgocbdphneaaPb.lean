/- The reference's Next. -/
import Derived.Test.YtdkpgocbdphneaaPa
namespace Ob
set_option linter.unusedVariables false
theorem ceil_ge {a s : Nat} (hs : 1 ≤ s) (ha : 2 < a) : a ≤ (a - 1 + s - 1) / s * s + 1 := by
  have h1 := Nat.div_add_mod (a - 1 + s - 1) s
  have h2 := Nat.mod_lt (a - 1 + s - 1) (show 0 < s by omega)
  rw [Nat.mul_comm] at h1
  omega
theorem ceil_le {a s : Nat} (hs : 1 ≤ s) : (a - 1 + s - 1) / s * s ≤ a - 1 + s - 1 := Nat.div_mul_le_self _ _
theorem ceil_lt {a s j : Nat} (hs : 1 ≤ s) (ha : 2 < a) (h : j < (a - 1 + s - 1) / s) : j * s + 1 < a := by
  have h1 : (j + 1) * s ≤ a - 1 + s - 1 := (Nat.le_div_iff_mul_le hs).1 h
  rw [Nat.add_mul] at h1
  omega
end Ob
namespace Go.Proofs.Ytdkpgocbdphneaa
open Go.RowKit
set_option linter.unusedVariables false

set_option maxHeartbeats 1000000 in
theorem rnext_any (a s : Nat) (w : World) (ha : a ≤ 4294967295) (hs' : s ≤ 4294967295) :
    Calls Try.prog 11 #[.int .u32 a, .int .u32 s] w (NumPost (NextR a s) w) := by
  by_cases hs : s = 0
  · subst hs
    go_enter Try.func11, Try.ntmps11
    go_wp2_with fail
    go_ret2
    exact ⟨0, 2, rfl, .inl ⟨rfl, rfl, rfl⟩, Gr.refl _⟩
  have hs1 : 1 ≤ s := by omega
  have t1 : ((s : Int) == 0) = false := by simp; omega
  clear hs
  have key : ∀ W : World, ∃ k0 : Nat, (2 < a → ((a : Int) - 1 + s - 1) / s = (k0 : Int)) ∧ (¬ 2 < a → k0 = 1) ∧ 1 ≤ k0 ∧ k0 * s ≤ 8589934592 ∧ a ≤ k0 * s + 1 ∧ ∀ j, 1 ≤ j → j < k0 → a ≤ j * s + 1 → ¬ Ob.Pr (j * s + 1) := by
    intro W
    by_cases h : 2 < a
    · refine ⟨(a - 1 + s - 1) / s, fun _ => ?_, fun h' => absurd h h', ?_, ?_, Ob.ceil_ge hs1 h, fun j h1 h2 h3 => ?_⟩
      · rw [Int.natCast_ediv]; congr 1; omega
      · exact Nat.div_pos (by omega) (by omega)
      · have := Ob.ceil_le (a := a) hs1; omega
      · have := Ob.ceil_lt hs1 h h2; omega
    · exact ⟨1, fun h' => absurd h' h, fun _ => rfl, by omega, by omega, by omega, fun j h1 h2 => by omega⟩
  obtain ⟨k0, e1, e2, b1, b2, b3, b4⟩ := key w
  clear key
  have E1 := Lib.hid e1
  have E2 := Lib.hid e2
  have B4 := Lib.hid b4
  clear e1 e2 b4
  obtain ⟨q, hq, d0, d1⟩ : ∃ q : Int, q = ((a : Int) - 1 + s - 1) / (s : Int) ∧ (2 < a → 0 ≤ ((a : Int) - 1 + s - 1) / (s : Int)) ∧ (2 < a → ((a : Int) - 1 + s - 1) / (s : Int) ≤ 18446744073709551615) := by
    refine ⟨_, rfl, fun h => Int.ediv_nonneg (by omega) (by omega), fun h => ?_⟩
    rw [E1.out h]; have : k0 * 1 ≤ k0 * s := Nat.mul_le_mul_left k0 hs1; omega
  clear hq
  by_cases h2 : 2 < a
  · have d0 := d0 h2
    have d1 := d1 h2
    have t2 : decide ((2 : Int) < (a : Int)) = true := by simp; omega
    go_enter Try.func11, Try.ntmps11
    go_wp2_with fail
    clear t1 t2 d0 d1
    go_loopw [6] (fun t wr => ∃ k : Nat, t = .int .u64 k ∧ 1 ≤ k ∧ k * s ≤ 8589934592 ∧ a ≤ k * s + 1 ∧ (∀ j, 1 ≤ j → j < k → a ≤ j * s + 1 → ¬ Ob.Pr (j * s + 1)) ∧ Gr w wr) (fun t _ => 4294967296 - (intOf t).toNat)
    case atStart =>
      refine ⟨k0, ?_, b1, b2, b3, B4.out, Gr.refl _⟩
      rw [E1.out h2]
    case round =>
      obtain ⟨k, rfl, hk1, hks, hka, hall, hg⟩ := hrel
      have HA := Lib.hid hall
      clear hall
      have p0 : (0 : Int) ≤ (k : Int) * s := by rw [← Int.natCast_mul]; omega
      have p1 : (k : Int) * s ≤ 8589934592 := by rw [← Int.natCast_mul]; omega
      by_cases h0 : k * s + 1 ≤ 2147483647
      · obtain ⟨v, hv⟩ : ∃ v, v = k * s + 1 := ⟨_, rfl⟩
        have hvi : (k : Int) * s + 1 = (v : Int) := by rw [hv, ← Int.natCast_mul]; omega
        have hkk : k * 1 ≤ k * s := Nat.mul_le_mul_left k hs1
        have hk3 : (k + 1) * s ≤ 8589934592 := by rw [Nat.add_mul]; omega
        have hk4 : a ≤ (k + 1) * s + 1 := by rw [Nat.add_mul]; omega
        have hk5 : k ≤ 2147483646 := by omega
        have q1 : (k : Int) * s + 1 ≤ 2147483647 := by rw [hvi]; omega
        have hv2 : v ≤ 2147483647 := by omega
        have hv3 : a ≤ v := by omega
        have HV := Lib.hid hvi
        have HVN := Lib.hid hv
        have HK3 := Lib.hid hk3
        have HK4 := Lib.hid hk4
        clear hv hvi hks hkk hk3 hk4 h0 hka
        go_wp2_with fail
        rw [HV.out]
        refine (rprime_pr v _ (by omega)).mono ?_
        rintro e w1 ⟨r, rfl, hr, g1⟩
        have HR := Lib.hid hr
        clear hr
        cases r with
        | true =>
          go_wp2_with fail
          go_ret2
          exact ⟨v, 0, by rw [HV.out]; rfl, .inr ⟨hs1, .inl ⟨k, hk1, HVN.out, hv3, hv2, HR.out.1 (by simp), rfl, HA.out⟩⟩, hg.trans g1⟩
        | false =>
          go_wp2_with fail
          go_roundw
          case rel =>
            refine ⟨k + 1, by go_num, by omega, HK3.out, HK4.out, fun j h3 h4 h5 => ?_, hg.trans g1⟩
            by_cases e : j = k
            · rw [e, ← HVN.out]; exact fun h => absurd (HR.out.2 h) (by simp)
            · exact HA.out j h3 (by omega) h5
          case measure => simp [intOf]; omega
      · have q1 : ¬ (k : Int) * s + 1 ≤ 2147483647 := by rw [← Int.natCast_mul]; omega
        clear h0
        have HKS := Lib.hid hks
        have hfin : ∀ j, 1 ≤ j → a ≤ j * s + 1 → j * s + 1 ≤ 2147483647 → ¬ Ob.Pr (j * s + 1) := fun j h1 h2 h3 => by
          refine HA.out j h1 (Nat.lt_of_not_le fun h => ?_) h2
          have h4 : k * s ≤ j * s := Nat.mul_le_mul_right s h
          rw [← Int.natCast_mul] at q1
          omega
        have HF := Lib.hid hfin
        clear hfin hks
        go_wp2_with fail
        go_ret2
        exact ⟨0, 4, rfl, .inr ⟨hs1, .inr ⟨rfl, rfl, HF.out⟩⟩, hg⟩
  · clear d0 d1
    have t2 : decide ((2 : Int) < (a : Int)) = false := by simp; omega
    have t3 : decide (2 < a) = false := by simp; omega
    go_enter Try.func11, Try.ntmps11
    go_wp2_with fail
    clear t1 t2 t3
    go_loopw [6] (fun t wr => ∃ k : Nat, t = .int .u64 k ∧ 1 ≤ k ∧ k * s ≤ 8589934592 ∧ a ≤ k * s + 1 ∧ (∀ j, 1 ≤ j → j < k → a ≤ j * s + 1 → ¬ Ob.Pr (j * s + 1)) ∧ Gr w wr) (fun t _ => 4294967296 - (intOf t).toNat)
    case atStart =>
      refine ⟨k0, ?_, b1, b2, b3, B4.out, Gr.refl _⟩
      rw [E2.out h2]; rfl
    case round =>
      obtain ⟨k, rfl, hk1, hks, hka, hall, hg⟩ := hrel
      have HA := Lib.hid hall
      clear hall
      have p0 : (0 : Int) ≤ (k : Int) * s := by rw [← Int.natCast_mul]; omega
      have p1 : (k : Int) * s ≤ 8589934592 := by rw [← Int.natCast_mul]; omega
      by_cases h0 : k * s + 1 ≤ 2147483647
      · obtain ⟨v, hv⟩ : ∃ v, v = k * s + 1 := ⟨_, rfl⟩
        have hvi : (k : Int) * s + 1 = (v : Int) := by rw [hv, ← Int.natCast_mul]; omega
        have hkk : k * 1 ≤ k * s := Nat.mul_le_mul_left k hs1
        have hk3 : (k + 1) * s ≤ 8589934592 := by rw [Nat.add_mul]; omega
        have hk4 : a ≤ (k + 1) * s + 1 := by rw [Nat.add_mul]; omega
        have hk5 : k ≤ 2147483646 := by omega
        have q1 : (k : Int) * s + 1 ≤ 2147483647 := by rw [hvi]; omega
        have hv2 : v ≤ 2147483647 := by omega
        have hv3 : a ≤ v := by omega
        have HV := Lib.hid hvi
        have HVN := Lib.hid hv
        have HK3 := Lib.hid hk3
        have HK4 := Lib.hid hk4
        clear hv hvi hks hkk hk3 hk4 h0 hka
        go_wp2_with fail
        rw [HV.out]
        refine (rprime_pr v _ (by omega)).mono ?_
        rintro e w1 ⟨r, rfl, hr, g1⟩
        have HR := Lib.hid hr
        clear hr
        cases r with
        | true =>
          go_wp2_with fail
          go_ret2
          exact ⟨v, 0, by rw [HV.out]; rfl, .inr ⟨hs1, .inl ⟨k, hk1, HVN.out, hv3, hv2, HR.out.1 (by simp), rfl, HA.out⟩⟩, hg.trans g1⟩
        | false =>
          go_wp2_with fail
          go_roundw
          case rel =>
            refine ⟨k + 1, by go_num, by omega, HK3.out, HK4.out, fun j h3 h4 h5 => ?_, hg.trans g1⟩
            by_cases e : j = k
            · rw [e, ← HVN.out]; exact fun h => absurd (HR.out.2 h) (by simp)
            · exact HA.out j h3 (by omega) h5
          case measure => simp [intOf]; omega
      · have q1 : ¬ (k : Int) * s + 1 ≤ 2147483647 := by rw [← Int.natCast_mul]; omega
        clear h0
        have HKS := Lib.hid hks
        have hfin : ∀ j, 1 ≤ j → a ≤ j * s + 1 → j * s + 1 ≤ 2147483647 → ¬ Ob.Pr (j * s + 1) := fun j h1 h2 h3 => by
          refine HA.out j h1 (Nat.lt_of_not_le fun h => ?_) h2
          have h4 : k * s ≤ j * s := Nat.mul_le_mul_right s h
          rw [← Int.natCast_mul] at q1
          omega
        have HF := Lib.hid hfin
        clear hfin hks
        go_wp2_with fail
        go_ret2
        exact ⟨0, 4, rfl, .inr ⟨hs1, .inr ⟨rfl, rfl, HF.out⟩⟩, hg⟩
end Go.Proofs.Ytdkpgocbdphneaa
