/- The law PrimesGenerate returns true. -/
import Derived.Test.YtdkpgocbdphneaaPl
namespace Ob
set_option linter.unusedVariables false
theorem gen_steps {p a k : Nat} {L : List (Nat × Nat)} (hp : Pr p) (hL : Fz (p - 1) L) (ha : 1 ≤ a) (ha' : a < p) (hk : 1 ≤ k) (hkp : k ≤ p - 1) (h1 : a ^ k % p = 1) (hmin : ∀ j, 1 ≤ j → j < k → a ^ j % p ≠ 1) : k = p - 1 ↔ GenOk p L L.length a := by
  have hp2 := hp.1
  constructor
  · rintro rfl i hi
    obtain ⟨hq, hd, _, _⟩ := hL.at i hi
    have hle := Nat.le_of_dvd (by omega) hd
    exact hmin _ (Nat.div_pos hle (by have := hq.1; omega)) (Nat.div_lt_self (by omega) hq.1)
  · intro hg
    have ho := gen_ord hp hL ha ha' hg (Nat.dvd_refl _) (by omega)
    rw [Nat.div_self (by omega), Nat.pow_one, Nat.mod_eq_of_lt ha'] at ho
    have := Nat.le_of_dvd hk (ho.2 k h1)
    omega
theorem GenL.steps {p g a k : Nat} (hp : Pr p) (hg : GenL p g) (ha : 1 ≤ a) (ha' : a ≤ g) (hk : 1 ≤ k) (hkp : k ≤ p - 1) (h1 : a ^ k % p = 1) (hmin : ∀ j, 1 ≤ j → j < k → a ^ j % p ≠ 1) : k = p - 1 ↔ a = g := by
  obtain ⟨L, hL, h2, h3, h4, h5⟩ := hg
  rw [gen_steps hp hL ha (by omega) hk hkp h1 hmin]
  constructor
  · intro h
    rcases Nat.lt_or_ge a g with h6 | h6
    · exact absurd h (h5 a ha h6)
    · omega
  · rintro rfl; exact h4
end Ob
namespace Go.Proofs.Ytdkpgocbdphneaa
open Go.RowKit
set_option linter.unusedVariables false

set_option maxRecDepth 100000 in
set_option maxHeartbeats 2000000 in
theorem generate_all (p : Nat) (w : World) (hp : p ≤ 4294967295) : Calls Try.prog 7 #[.int .u32 p] w (Truth w) := by
  by_cases hbig : 3000 ≤ p
  · go_enter Try.func7, Try.ntmps7
    go_wp2_with fail
    refine (shown_any _).mono ?_
    rintro e w5 ⟨rfl, g5⟩
    go_wp2_with fail
    go_ret
    exact ⟨rfl, g5⟩
  go_enter Try.func7, Try.ntmps7
  go_wp2_with fail
  refine (gen_any p _ hp).mono ?_
  rintro e w1 ⟨g, c, rfl, h, g1⟩
  rcases h with ⟨h, rfl, rfl⟩ | ⟨⟨h1, hpr⟩, hgl, rfl⟩
  · clear h
    go_wp2_with fail
    refine (shown_any _).mono ?_
    rintro e w5 ⟨rfl, g5⟩
    go_wp2_with fail
    go_ret
    exact ⟨rfl, g1.trans g5⟩
  have hp2 := hpr.1
  have HPR := Lib.hid hpr
  have HGL := Lib.hid hgl
  obtain ⟨q1, q2⟩ : 1 ≤ g ∧ g < p := by obtain ⟨L, _, h2, h3, _⟩ := hgl; exact ⟨h2, h3⟩
  clear hpr hgl h1
  have t1 : decide ((p : Int) < 2) = false := by simp; omega
  have t2 : decide ((g : Int) < 1) = false := by simp; omega
  have t3 : decide ((p : Int) ≤ (g : Int)) = false := by simp; omega
  have t4 : decide (p ≤ g) = false := by simp; omega
  have t5 : decide ((3000 : Int) ≤ (p : Int)) = false := by simp; omega
  go_wp2_with fail
  clear t1 t2 t3 t4 t5
  go_loop [5, 6, 7] (fun t _ _ => ∃ a : Nat, t = .int .u32 a ∧ 1 ≤ a ∧ a ≤ g + 1) (fun t _ _ => g + 1 - (intOf t).toNat)
  case atStart => exact ⟨1, rfl, by omega, by omega⟩
  case round =>
    obtain ⟨a, rfl, a1, a2⟩ := hrel
    by_cases hlt : a ≤ g
    · have hap : a < p := by omega
      have hnd : ¬ p ∣ a := fun h => by have := Nat.le_of_dvd (by omega) h; omega
      have HND := Lib.hid hnd
      clear hnd
      go_wp2_with fail
      go_loop [6, 7] (fun s t => ∃ k x : Nat, s = .int .u32 k ∧ t = .int .u32 x ∧ 1 ≤ k ∧ k ≤ p - 1 ∧ x < p ∧ x = a ^ k % p ∧ ∀ j, 1 ≤ j → j < k → a ^ j % p ≠ 1) (fun s _ => p - (intOf s).toNat)
      case atStart => exact ⟨1, a, rfl, rfl, by omega, by omega, hap, by rw [Nat.pow_one, Nat.mod_eq_of_lt hap], fun j h1 h2 => by omega⟩
      case round =>
        obtain ⟨k, x, rfl, rfl, k1, k2, x1, hx, hmin⟩ := hrel
        have HX := Lib.hid hx
        have HM := Lib.hid hmin
        clear hx hmin
        have t2 : decide (k < p) = true := by simp; omega
        by_cases hx1 : x = 1
        · have t1 : ((x : Int) != 1) = false := by simp; omega
          have hst := HGL.out.steps HPR.out a1 hlt k1 k2 (by rw [← HX.out]; exact hx1) HM.out
          by_cases hag : a = g
          · have t3 : ((a : Int) == (g : Int)) = true := by simp; omega
            have t4 : ((k : Int) == (p : Int) - 1) = true := by have := hst.2 hag; simp; omega
            have HAG := Lib.hid hag
            clear hst hag hx1
            go_wp2_with fail
            go_round
            case rel => exact ⟨a + 1, by go_num, by omega, by omega⟩
            case measure => simp [intOf]; omega
          · have t3 : ((a : Int) == (g : Int)) = false := by simp; omega
            have t4 : ((k : Int) == (p : Int) - 1) = false := by
              have : k ≠ p - 1 := fun h => hag (hst.1 h)
              simp; omega
            clear hst hag hx1
            go_wp2_with fail
            go_round
            case rel => exact ⟨a + 1, by go_num, by omega, by omega⟩
            case measure => simp [intOf]; omega
        · have t1 : ((x : Int) != 1) = true := by simp; omega
          have hkl : k < p - 1 := by
            rcases Nat.lt_or_ge k (p - 1) with h | h
            · exact h
            · have hf := Ob.fermat HPR.out HND.out
              rw [show p - 1 = k by omega, ← HX.out] at hf
              exact absurd hf hx1
          have p0 : (0 : Int) ≤ (x : Int) * a := mul_lo (by omega) (by omega)
          have p1 : (x : Int) * a ≤ 9000000 := by
            rw [← Int.natCast_mul]
            have : x * a ≤ 3000 * 3000 := Nat.mul_le_mul (by omega) (by omega)
            omega
          have hv : (x : Int) * a % p = ((x * a % p : Nat) : Int) := by rw [Int.natCast_emod, Int.natCast_mul]
          have hyn : x * a % p < p := Nat.mod_lt _ (by omega)
          have HV := Lib.hid hv
          have HNX := Lib.hid (show x * a % p = a ^ (k + 1) % p from by rw [HX.out, Nat.mod_mul_mod, ← Nat.pow_succ])
          have m0 := emod_lo ((x : Int) * a) p (by omega)
          have m1 := emod_hi ((x : Int) * a) p (by omega)
          have HX1 := Lib.hid hx1
          clear hv hx1
          go_wp2_with fail
          go_round
          case rel =>
            refine ⟨k + 1, x * a % p, by go_num, by rw [HV.out], by omega, by omega, hyn, HNX.out, fun j h1 h2 => ?_⟩
            by_cases e : j = k
            · rw [e, ← HX.out]; exact HX1.out
            · exact HM.out j h1 (by omega)
          case measure => simp [intOf]; omega
    · go_wp2_with fail
      refine (shown_any _).mono ?_
      rintro e w5 ⟨rfl, g5⟩
      go_wp2_with fail
      go_ret
      exact ⟨rfl, g1.trans g5⟩
end Go.Proofs.Ytdkpgocbdphneaa
