/- The law ModularRoots returns true, whatever its arguments. -/
import Derived.Test.YtchhehncmpldhaaAnyr
namespace Ob
set_option linter.unusedVariables false
theorem Ord.one_iff {n m order k : Nat} (h : Ord n m order) (h1 : 1 ≤ k) (h2 : k ≤ order) : m ^ k % n = 1 ↔ k = order := by
  constructor
  · intro e; have := Nat.le_of_dvd h1 (h.2 k e); omega
  · rintro rfl; exact h.1
theorem LeastOrd.le_pow {n order m k : Nat} (hn : 2 ≤ n) (h : LeastOrd n order m) (hg : Nat.gcd k order = 1) : m ≤ m ^ k % n :=
  h.2.2 _ (Nat.mod_lt _ (by omega)) (h.1.pow_coprime hn hg)
theorem LeastOrd.pos {n order m : Nat} (hn : 2 ≤ n) (ho : 1 ≤ order) (h : LeastOrd n order m) : 1 ≤ m := by
  rcases Nat.eq_zero_or_pos m with rfl | h1
  · have := h.1.1
    rw [Nat.zero_pow ho] at this
    simp at this
  · exact h1
end Ob
namespace Go.Proofs.Ytchhehncmpldhaa
open Go.RowKit
set_option linter.unusedVariables false

set_option maxRecDepth 100000 in
set_option maxHeartbeats 1000000 in
theorem roots_none (order n : Nat) (w : World) (ho : order ≤ 4294967295) (hn : n ≤ 4294967295) (h : ¬ RootOk n order) : Calls Try.prog 10 #[.int .u32 order, .int .u32 n] w (Truth w) := by
  have HH := Lib.hid h
  clear h
  go_enter Try.func10, Try.ntmps10
  go_wp2_with fail
  refine (root_any order n _ ho hn).mono ?_
  rintro e w1 ⟨m, c, rfl, h1, g1⟩
  rcases h1 with ⟨h1, rfl, rfl⟩ | ⟨⟨h1, h2⟩, rfl, rfl⟩ | ⟨h1, rfl, rfl⟩ | ⟨h1, rfl, h5⟩
  · clear h1
    go_wp2_with fail
    refine (shown_any _).mono ?_
    rintro e w5 ⟨rfl, g5⟩
    go_wp2_with fail
    go_ret
    exact ⟨rfl, g1.trans g5⟩
  · clear h1
    go_wp2_with fail
    refine (shown_any _).mono ?_
    rintro e w5 ⟨rfl, g5⟩
    go_wp2_with fail
    go_ret
    exact ⟨rfl, g1.trans g5⟩
  · clear h1
    go_wp2_with fail
    refine (shown_any _).mono ?_
    rintro e w5 ⟨rfl, g5⟩
    go_wp2_with fail
    go_ret
    exact ⟨rfl, g1.trans g5⟩
  · exact absurd h1 HH.out

set_option maxRecDepth 100000 in
set_option maxHeartbeats 2000000 in
theorem roots_some (order n : Nat) (w : World) (hn' : n ≤ 2147483647) (hp : Ob.Pr n) (ho : 1 ≤ order) (ho' : order ≤ 65536) (hd : (n - 1) % order = 0) : Calls Try.prog 10 #[.int .u32 order, .int .u32 n] w (Truth w) := by
  have hn := hp.1
  have HP := Lib.hid hp
  have HD := Lib.hid hd
  clear hp hd
  go_enter Try.func10, Try.ntmps10
  go_wp2_with fail
  refine (root_any order n _ (by omega) (by omega)).mono ?_
  rintro e w1 ⟨m, c, rfl, h1, g1⟩
  obtain ⟨rfl, h5⟩ : c = 0 ∧ Ob.LeastOrd n order m := by
    rcases h1 with ⟨h1 | h1, _⟩ | ⟨⟨_, h1⟩, _⟩ | ⟨⟨_, _, _, h1⟩, _⟩ | ⟨_, h1, h2⟩
    · exact absurd ⟨hn', HP.out⟩ h1
    · omega
    · omega
    · exact absurd HD.out h1
    · exact ⟨h1, h2⟩
  clear h1
  have hm1 := h5.pos hn ho
  have hm2 := h5.2.1
  have HL := Lib.hid h5
  clear h5
  have e1 : decide ((order : Int) < 1) = false := by simp; omega
  have e2 : decide (65536 < (order : Int)) = false := by simp; omega
  have e3 : decide ((n : Int) < 2) = false := by simp; omega
  have e4 : decide ((m : Int) < 1) = false := by simp; omega
  have e5 : decide ((n : Int) ≤ (m : Int)) = false := by simp; omega
  have e6 : decide (n ≤ m) = false := by simp; omega
  go_wp2_with fail
  clear e1 e2 e3 e4 e5 e6
  go_loop [7, 8] (fun t i => ∃ c k : Nat, t = .int .u64 c ∧ i = .int .u32 k ∧ 1 ≤ k ∧ k ≤ order + 1 ∧ c < n ∧ c = m ^ (k - 1) % n) (fun _ i => order + 1 - (intOf i).toNat)
  case atStart => exact ⟨1, 1, rfl, rfl, by omega, by omega, by omega, by rw [Nat.sub_self, Nat.pow_zero, Nat.mod_eq_of_lt (by omega)]⟩
  case round =>
    obtain ⟨c, k, rfl, rfl, hk1, hk2, hc, hce⟩ := hrel
    have HCE := Lib.hid hce
    clear hce
    by_cases hle : k ≤ order
    · have hyn : c * m % n < n := Nat.mod_lt _ (by omega)
      have hyc : (c : Int) * (m : Int) % (n : Int) = ((c * m % n : Nat) : Int) := by simp
      have hye : c * m % n = m ^ k % n := by
        rw [HCE.out, Nat.mod_mul_mod, ← Nat.pow_succ]
        congr 2; omega
      have q0 : (0 : Int) ≤ (c : Int) * m := mul_lo (by omega) (by omega)
      have q1 : (c : Int) * m ≤ 18446744065119617025 := mul_hi (by omega) (by omega) (by omega) (by omega)
      have HYE := Lib.hid hye
      clear hye
      obtain ⟨y, hy⟩ : ∃ y : Nat, c * m % n = y := ⟨_, rfl⟩
      rw [hy] at hyc hyn
      have HY := Lib.hid hy
      clear hy
      have h1 := HL.out.1.one_iff hk1 hle
      rw [← HYE.out, HY.out] at h1
      have HCO := Lib.hid (show Nat.gcd k order = 1 → m ≤ y from fun hg => by
        have := HL.out.le_pow hn hg
        rwa [← HYE.out, HY.out] at this)
      have HYC := Lib.hid hyc
      have HNX := Lib.hid (show y = m ^ (k + 1 - 1) % n from by rw [← HY.out, HYE.out]; rfl)
      by_cases hko : k = order
      · have t1 : (((c : Int) * (m : Int) % (n : Int)) == 1) = true := by
          have := h1.2 hko
          rw [hyc]; simp; omega
        have t2 : ((k : Int) == (order : Int)) = true := by simp; omega
        have HKO := Lib.hid hko
        clear hko h1
        by_cases hlt : y < m
        · have t3 : decide ((c : Int) * (m : Int) % (n : Int) < (m : Int)) = true := by rw [hyc]; simp; omega
          clear hyc
          go_wp2_with fail
          refine (rcommon_any k order _ (by omega) (by omega)).mono ?_
          rintro e w' ⟨rfl, rfl⟩
          obtain ⟨gd, hgd⟩ : ∃ gd, gd = Nat.gcd k order := ⟨_, rfl⟩
          rw [← hgd]
          have hg1 : ((gd : Int) == 1) = false := by
            have : gd ≠ 1 := fun h => by have := HCO.out (by rw [← hgd]; exact h); omega
            simp; omega
          clear hgd
          go_wp2_with fail
          go_round
          case rel => exact ⟨y, k + 1, by rw [HYC.out], by go_num, by omega, by omega, hyn, HNX.out⟩
          case measure => simp [intOf]; omega
        · have t3 : decide ((c : Int) * (m : Int) % (n : Int) < (m : Int)) = false := by rw [hyc]; simp; omega
          clear hyc
          go_wp2_with fail
          go_round
          case rel => exact ⟨y, k + 1, by rw [HYC.out], by go_num, by omega, by omega, hyn, HNX.out⟩
          case measure => simp [intOf]; omega
      · have t1 : (((c : Int) * (m : Int) % (n : Int)) == 1) = false := by
          have h2 : y ≠ 1 := fun h => hko (h1.1 h)
          rw [hyc]; simp; omega
        have t2 : ((k : Int) == (order : Int)) = false := by simp; omega
        have HKO := Lib.hid hko
        clear hko h1
        by_cases hlt : y < m
        · have t3 : decide ((c : Int) * (m : Int) % (n : Int) < (m : Int)) = true := by rw [hyc]; simp; omega
          clear hyc
          go_wp2_with fail
          refine (rcommon_any k order _ (by omega) (by omega)).mono ?_
          rintro e w' ⟨rfl, rfl⟩
          obtain ⟨gd, hgd⟩ : ∃ gd, gd = Nat.gcd k order := ⟨_, rfl⟩
          rw [← hgd]
          have hg1 : ((gd : Int) == 1) = false := by
            have : gd ≠ 1 := fun h => by have := HCO.out (by rw [← hgd]; exact h); omega
            simp; omega
          clear hgd
          go_wp2_with fail
          go_round
          case rel => exact ⟨y, k + 1, by rw [HYC.out], by go_num, by omega, by omega, hyn, HNX.out⟩
          case measure => simp [intOf]; omega
        · have t3 : decide ((c : Int) * (m : Int) % (n : Int) < (m : Int)) = false := by rw [hyc]; simp; omega
          clear hyc
          go_wp2_with fail
          go_round
          case rel => exact ⟨y, k + 1, by rw [HYC.out], by go_num, by omega, by omega, hyn, HNX.out⟩
          case measure => simp [intOf]; omega
    · clear HCE
      go_wp2_with fail
      go_loopw [9, 10, 11] (fun t _ _ wr => ∃ a : Nat, t = .int .u32 a ∧ 1 ≤ a ∧ a ≤ m ∧ Gr w1 wr) (fun t _ _ _ => m - (intOf t).toNat)
      case atStart => exact ⟨1, rfl, by omega, by omega, Gr.refl _⟩
      case round =>
        obtain ⟨a, rfl, ha1, ha2, g2⟩ := hrel
        by_cases hs : n < 2000 ∧ a < m
        · obtain ⟨hs1, hs2⟩ := hs
          have t1 : decide ((n : Int) < 2000) = true := by simp; omega
          go_wp2_with fail
          refine (order_any a n _ (by omega) (by omega)).mono ?_
          rintro e w3 ⟨o, c', rfl, h3, g3⟩
          obtain ⟨rfl, hne⟩ : c' = 0 ∧ o ≠ order := by
            rcases h3 with ⟨_, rfl, h4⟩ | ⟨h4, _⟩
            · refine ⟨rfl, fun e => ?_⟩
              have := HL.out.2.2 a (by omega) (e ▸ h4)
              omega
            · exact absurd ⟨hn', pr_prm HP.out, ha1, by omega⟩ h4
          clear h3
          have t2 : ((o : Int) == (order : Int)) = false := by simp; omega
          clear hne
          go_wp2_with fail
          go_roundw
          case rel => exact ⟨a + 1, by go_num, by omega, by omega, g2.trans g3⟩
          case measure => simp [intOf]; omega
        · by_cases hs1 : n < 2000
          · have hs2 : ¬ a < m := fun h => hs ⟨hs1, h⟩
            clear hs
            have t1 : decide ((n : Int) < 2000) = true := by simp; omega
            go_wp2_with fail
            refine (shown_any _).mono ?_
            rintro e w5 ⟨rfl, g5⟩
            go_wp2_with fail
            go_ret
            exact ⟨rfl, (g1.trans g2).trans g5⟩
          · clear hs
            have t1 : decide ((n : Int) < 2000) = false := by simp; omega
            go_wp2_with fail
            refine (shown_any _).mono ?_
            rintro e w5 ⟨rfl, g5⟩
            go_wp2_with fail
            go_ret
            exact ⟨rfl, (g1.trans g2).trans g5⟩

theorem roots_all (order n : Nat) (w : World) (ho : order ≤ 4294967295) (hn : n ≤ 4294967295) : Calls Try.prog 10 #[.int .u32 order, .int .u32 n] w (Truth w) := by
  by_cases h : RootOk n order
  · exact roots_some order n w h.1.1 h.1.2 h.2.1 h.2.2.1 h.2.2.2
  · exact roots_none order n w ho hn h
end Go.Proofs.Ytchhehncmpldhaa
