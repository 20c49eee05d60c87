/- The reference's trial division returns whether a number is a prime. -/
import Derived.Test.YtchhehncmpldhaaPrimes
import Derived.Test.YtchhehncmpldhaaAddm
namespace Ob
/-- No number from 2 to d - 1 divides n. -/
def NoDiv (n d : Nat) : Prop := ∀ k, 2 ≤ k → k < d → ¬ k ∣ n

theorem NoDiv.two (n : Nat) : NoDiv n 2 := fun k h1 h2 => by omega
theorem NoDiv.next {n d : Nat} (h : NoDiv n d) (hd : n % d ≠ 0) : NoDiv n (d + 1) := fun k h1 h2 hk => by
  by_cases e : k = d
  · exact hd (Nat.mod_eq_zero_of_dvd (e ▸ hk))
  · exact h k h1 (by omega) hk
theorem NoDiv.pr {n d : Nat} (h : NoDiv n d) (hn : 2 ≤ n) (hd : n < d * d) : Pr n := by
  refine ⟨hn, fun k h1 h2 hk => ?_⟩
  by_cases e : k < d
  · exact h k h1 e hk
  · obtain ⟨j, hj⟩ := hk
    have hj2 : 2 ≤ j := by
      rcases j with _ | _ | j
      · omega
      · omega
      · omega
    by_cases f : j < d
    · exact h j hj2 f ⟨k, by rw [hj, Nat.mul_comm]⟩
    · have := Nat.mul_le_mul (show d ≤ k by omega) (show d ≤ j by omega)
      omega
theorem not_pr {n d : Nat} (h2 : 2 ≤ d) (hd : d * d ≤ n) (h : n % d = 0) : ¬ Pr n := fun hp => by
  have : d * 2 ≤ d * d := Nat.mul_le_mul_left d h2
  exact hp.2 d h2 (by omega) (Nat.dvd_of_mod_eq_zero h)
theorem sq_small {d : Nat} (h : d * d ≤ 4294967295) : d ≤ 65535 := by
  apply Classical.byContradiction
  intro hn
  have := Nat.mul_le_mul (show 65536 ≤ d by omega) (show 65536 ≤ d by omega)
  omega
end Ob
namespace Go.Proofs.Ytchhehncmpldhaa
open Go.RowKit
set_option linter.unusedVariables false

set_option maxRecDepth 100000 in
set_option maxHeartbeats 1000000 in
theorem trial_any (n : Nat) (w : World) (hn : n ≤ 4294967295) :
    Calls Try.prog 30 #[.int .u32 n] w (BoolPost (Ob.Pr n) w) := by
  go_enter Try.func30, Try.ntmps30
  go_wp2_with fail
  go_loop [3] (fun t => ∃ d : Nat, t = .int .u64 d ∧ 2 ≤ d ∧ d ≤ 65536 ∧ Ob.NoDiv n d) (fun t => 65537 - (intOf t).toNat)
  case atStart => exact ⟨2, rfl, by omega, by omega, Ob.NoDiv.two n⟩
  case round =>
    obtain ⟨d, rfl, h2, h3, hnd⟩ := hrel
    have HND := Lib.hid hnd
    clear hnd
    have q0 : (0 : Int) ≤ (d : Int) * d := mul_lo (by omega) (by omega)
    have q1 : (d : Int) * d ≤ 18446744065119617025 := mul_hi (by omega) (by omega) (by omega) (by omega)
    by_cases hle : d * d ≤ n
    · have h4 := Ob.sq_small (show d * d ≤ 4294967295 by omega)
      have hle' : (d : Int) * d ≤ n := by exact_mod_cast hle
      by_cases hdv : n % d = 0
      · have hz : (((n : Int) % (d : Int)) == 0) = true := by
          have : (n : Int) % (d : Int) = 0 := by exact_mod_cast hdv
          simp [this]
        have HDV := Lib.hid hdv
        clear hdv
        go_wp2_with fail
        go_ret
        exact ⟨false, rfl, by have := Ob.not_pr h2 hle HDV.out; simp [this], Gr.refl _⟩
      · have hz : (((n : Int) % (d : Int)) == 0) = false := by
          have : ¬ (n : Int) % (d : Int) = 0 := fun h => hdv (by exact_mod_cast h)
          simp [this]
        have HDV := Lib.hid hdv
        clear hdv
        go_wp2_with fail
        go_round
        case rel => exact ⟨d + 1, by go_num, by omega, by omega, HND.out.next HDV.out⟩
        case measure => simp [intOf]; omega
    · have hle' : ¬ (d : Int) * d ≤ n := fun h => hle (by exact_mod_cast h)
      go_wp2_with fail
      go_ret
      refine ⟨_, rfl, ?_, Gr.refl _⟩
      simp only [decide_eq_true_eq]
      constructor
      · intro h; exact HND.out.pr (by omega) (by omega)
      · intro h; have := h.1; omega
end Go.Proofs.Ytchhehncmpldhaa
