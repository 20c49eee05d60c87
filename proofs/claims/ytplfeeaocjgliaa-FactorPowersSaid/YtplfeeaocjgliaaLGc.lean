import Derived.Test.YtplfeeaocjgliaaLGd
import Derived.Test.YtplfeeaocjgliaaLLu
/- The law Powers. -/
namespace Oh7
open Op
set_option linter.unusedVariables false
/-- The odd powers of x modulo p. -/
def odds (x p i : Nat) : List Int := (List.range i).map fun j => ((x ^ (2 * j + 1) % p : Nat) : Int)
theorem odds_len (x p i : Nat) : (odds x p i).length = i := by simp [odds]
theorem odds_succ (x p i : Nat) : odds x p (i + 1) = odds x p i ++ [((x ^ (2 * i + 1) % p : Nat) : Int)] := by
  unfold odds; rw [List.range_succ, List.map_append]; rfl
theorem odds_cf {x p i k : Nat} (hk : k < i) : cf (odds x p i) k = ((x ^ (2 * k + 1) % p : Nat) : Int) := by
  have h := Op.cf_at (odds x p i) k
  have e : (odds x p i)[k]? = some ((x ^ (2 * k + 1) % p : Nat) : Int) := by simp [odds, hk]
  rw [← h, e]; rfl
theorem odds_ne {n x p i k : Nat} (hn : n ∈ Oq.dims) (hp : Ob.Pr p) (h2 : 2 < p) (hx : IsR n p x) (hk : k < i) (hi : i < n) : x ^ (2 * k + 1) % p ≠ x ^ (2 * i + 1) % p := fun h => by
  have := (hx.ord hn h2).inj hp (by omega) (2 * k + 1) (2 * i + 1) (by omega) (by omega) h
  omega
theorem odd_next {x p M Z i : Nat} (hd : p ∣ M) (h : Z % p = x ^ (2 * i + 1) % p) : Z * x % M * x % M % p = x ^ (2 * (i + 1) + 1) % p := by
  rw [odd_step, Nat.mod_mod_of_dvd _ hd, Nat.mul_mod, h, ← Nat.mul_mod]
  congr 1
  rw [show 2 * (i + 1) + 1 = 2 * i + 1 + 2 by omega, Nat.pow_add x (2 * i + 1) 2, Nat.pow_two]
theorem IsR.down {n p M x : Nat} (hd : p ∣ M) (h : IsR n M x) : IsR n p x := by
  obtain ⟨q, hq⟩ := hd
  exact Int.dvd_trans ⟨(q : Int), by rw [hq, Int.natCast_mul]⟩ h
theorem pow_step (Z M k : Nat) : Z ^ k % M * Z % M = Z ^ (k + 1) % M := by
  rw [Nat.mul_mod, Nat.mod_mod, ← Nat.mul_mod, Nat.pow_succ]
end Oh7
namespace Go.Proofs.Ytplfeeaocjgliaa
open Go.RowKit
set_option linter.unusedVariables false

/-- A root modulo a power of p, modulo the power before it. -/
theorem root_down {n p x x' y y' : Nat} {s : Nat} (hn : n ∈ Oq.dims) (hmd : MdOk p ((s : Int) + 2)) (hy : Oh7.LRoot n p y) (h : LiftR (Op.xn n) p ((s : Int) + 2) y x 0)
    (hy' : Oh7.LRoot n p y') (h' : LiftR (Op.xn n) p ((s : Int) + 1) y' x' 0) : x % p ^ (s + 1) = x' := by
  obtain rfl := hy.unique hy'
  have e1 : ((s : Int) + 2).toNat = s + 2 := by omega
  have e2 : ((s : Int) + 1).toNat = s + 1 := by omega
  have hp2 : 2 < p := hmd.1.1
  have hmd' : MdOk p ((s : Int) + 1) := ⟨hmd.1, by omega, by
    have := hmd.2.2
    rw [e1] at this
    rw [e2]
    exact Nat.le_trans (Nat.pow_le_pow_right (by omega) (by omega)) this⟩
  rcases h with ⟨_, _, h⟩ | ⟨_, _, _, h⟩ | ⟨_, _, _, _, h⟩ | ⟨h1, h2, h3, _, h4, h5, h6⟩
  · cases h
  · cases h
  · cases h
  rw [e1] at h4 h6
  have hpos : 0 < p ^ (s + 1) := Nat.pow_pos (by omega)
  have hdp : (p : Int) ∣ ((p ^ (s + 1) : Nat) : Int) := ⟨((p ^ s : Nat) : Int), by rw [← Int.natCast_mul, Nat.pow_succ, Nat.mul_comm]⟩
  have hm : ((p ^ (s + 1) : Nat) : Int) ∣ ((x % p ^ (s + 1) : Nat) : Int) - (x : Int) := ⟨-((x / p ^ (s + 1) : Nat) : Int), by
    have := Nat.div_add_mod x (p ^ (s + 1))
    have e : (x : Int) = ((p ^ (s + 1) : Nat) : Int) * ((x / p ^ (s + 1) : Nat) : Int) + ((x % p ^ (s + 1) : Nat) : Int) := by rw [← Int.natCast_mul, ← Int.natCast_add, this]
    rw [Int.mul_neg]; omega⟩
  have hl : LiftR (Op.xn n) p ((s : Int) + 1) y (x % p ^ (s + 1)) 0 := by
    refine .inr (.inr (.inr ⟨⟨hmd', h1.2⟩, h2, h3, rfl, ?_, ?_, ?_⟩))
    · rw [e2]; exact Nat.mod_lt _ hpos
    · have := Int.dvd_add (Int.dvd_trans hdp hm) h5
      have e : ((x % p ^ (s + 1) : Nat) : Int) - x + ((x : Int) - y) = ((x % p ^ (s + 1) : Nat) : Int) - y := by omega
      rwa [e] at this
    · rw [e2, ← Int.natCast_pow]
      have k1 := Oh7.ev_dvd hm (Op.xn n)
      have k2 : ((p ^ (s + 1) : Nat) : Int) ∣ Op.ev (Op.xn n) x := Int.dvd_trans (by rw [Int.natCast_pow]; exact pow_dvd_pow' (p : Int) (by omega)) h6
      have := Int.dvd_add k1 k2
      have e : Op.ev (Op.xn n) ((x % p ^ (s + 1) : Nat) : Int) - Op.ev (Op.xn n) x + Op.ev (Op.xn n) x = Op.ev (Op.xn n) ((x % p ^ (s + 1) : Nat) : Int) := by omega
      rwa [e] at this
  exact (hl.unique h').1

set_option maxRecDepth 100000 in
set_option maxHeartbeats 4000000 in
theorem powers7_all (n : Int) (p : Nat) (r : Int) (w : World) (hn : -9223372036854775808 ≤ n ∧ n ≤ 9223372036854775807) (hp : p ≤ 4294967295) (hr : -9223372036854775808 ≤ r ∧ r ≤ 9223372036854775807) : Calls Try.prog 7 #[.int .i64 n, .int .u32 p, .int .i64 r] w (Truth w) := by
  have HN := Lib.hid hn
  have HR := Lib.hid hr
  clear hn hr
  go_enter Try.func7, Try.ntmps7
  go_wp2_with fail
  refine (froot_any n p r _ HN.out hp HR.out).mono ?_
  rintro e w1 ⟨x, E, rfl, hrt, hg⟩
  rcases hrt with ⟨-, rfl, rfl⟩ | ⟨-, -, rfl, rfl⟩ | ⟨⟨hdim, hmd⟩, hone, rfl, y, hy, hlr⟩
  · have HG := Lib.hid hg
    clear hg
    go_wp2_with fail
    refine (awake7_any _).mono ?_
    rintro e w2 ⟨rfl, hg⟩
    have HG2 := Lib.hid hg
    clear hg
    go_wp2_with fail
    go_ret
    exact ⟨rfl, HG.out.trans HG2.out⟩
  · have HG := Lib.hid hg
    clear hg
    go_wp2_with fail
    refine (awake7_any _).mono ?_
    rintro e w2 ⟨rfl, hg⟩
    have HG2 := Lib.hid hg
    clear hg
    go_wp2_with fail
    go_ret
    exact ⟨rfl, HG.out.trans HG2.out⟩
  · obtain ⟨hmem, hnn, hn2, hn32⟩ := hdim.mem
    obtain ⟨m, hm⟩ : ∃ m, m = n.toNat := ⟨_, rfl⟩
    rw [← hm] at hmem hnn hn2 hn32 hone hy hlr
    subst hnn
    have hpl := hmd.1
    obtain ⟨M, hM⟩ : ∃ M, M = p ^ r.toNat := ⟨_, rfl⟩
    have hM2 : M ≤ 2147483647 := by rw [hM]; exact hmd.2.2
    obtain ⟨rn, rfl⟩ := Int.eq_ofNat_of_zero_le (show 0 ≤ r by have := hmd.2.1; omega)
    have hr1 : 1 ≤ rn := by have := hmd.2.1; omega
    rw [Int.toNat_natCast] at hM
    have p2 : 2 < p := hpl.1
    have hdM : p ∣ M := by
      rw [hM]; exact ⟨p ^ (rn - 1), by rw [← Nat.pow_succ', show (rn - 1).succ = rn by omega]⟩
    have hpM : p ≤ M := Nat.le_of_dvd (by rw [hM]; exact Nat.pow_pos (by omega)) hdM
    obtain ⟨hxM, hxr⟩ : x < M ∧ Oh7.IsR m M x := by
      rcases hlr with ⟨_, _, h⟩ | ⟨_, _, _, h⟩ | ⟨_, _, _, _, h⟩ | ⟨_, _, _, _, h1, _, h2⟩
      · cases h
      · cases h
      · cases h
      · rw [Int.toNat_natCast] at h1 h2
        rw [← Int.natCast_pow, ← hM] at h2
        rw [← hM] at h1
        exact ⟨h1, h2⟩
    have HD := Lib.hid hdim
    have HPL := Lib.hid hpl
    have HM := Lib.hid hm
    have HMM := Lib.hid hM
    have HMEM := Lib.hid hmem
    have HXR := Lib.hid hxr
    have HONE := Lib.hid hone
    have HMD := Lib.hid hmd
    have HLR := Lib.hid (And.intro hy hlr)
    have HDM := Lib.hid hdM
    have HG1 := Lib.hid hg
    have p3 : p ≤ 65535 := by have := hpl.2.1; omega
    clear hmd hdim hm hM hmem hxr hone hy hlr hg hpl hdM
    go_wp2_with fail
    refine (rmodulus7_any p (rn : Int) _ hp HR.out).mono ?_
    rintro e w2 ⟨M', ok, rfl, hmr, hg⟩
    obtain rfl : ok = true := hmr.ok.1.2 HMD.out
    obtain rfl : M' = M := by
      have := hmr.ok.2 rfl
      rw [this, HMM.out, Int.toNat_natCast]
    have HG2 := Lib.hid hg
    clear hmr hg
    have g1 : ¬ (x : Int) ≥ (M' : Int) := by omega
    have g2 : (x : Int) < (M' : Int) := by omega
    have g3 : (0 : Int) ≤ (x : Int) := by omega
    have g4 : (M' : Int) ≤ 2147483647 := by omega
    go_wp2_with fail
    refine (rdim7_any (m : Int) _).mono ?_
    rintro e w3 ⟨rfl, rfl⟩
    rw [decide_eq_true HD.out]
    go_wp2_with fail
    have M1 : ¬ M' = 0 := by omega
    have M2 : ¬ (M' : Int) = 0 := by omega
    have M3 : ¬ p = 0 := by omega
    have M4 : ¬ (p : Int) = 0 := by omega
    have M5 : 2 < (M' : Int) := by omega
    have M6 : (p : Int) ≤ 65535 := by omega
    have M7 : 2 < (p : Int) := by omega
    have HG3 := Lib.hid ((HG1.out.trans HG2.out))
    go_loopw [11, 12, 13, 14, 15, 16] (fun sv z t _ _ _ wr => ∃ (i Z : Nat) (va : Option Addr) (vc : Nat), sv = .slice va i vc ∧ z = .int .u64 Z ∧ t = .int .i64 i ∧ i ≤ m ∧ Z < M' ∧ Oh7.IsR m M' Z ∧ Z % p = x ^ (2 * i + 1) % p ∧ Lu.Own1 wr w2.heap.size (.slice va i vc) (Oh7.odds x p i) ∧ Gr w2 wr) (fun _ _ t _ _ _ _ => m - (intOf t).toNat)
    case atStart => exact ⟨0, x, none, 0, rfl, rfl, rfl, by omega, hxM, HXR.out, by rw [Nat.mul_zero, Nat.zero_add, Nat.pow_one], Lu.Own1.nil _ _, Gr.refl _⟩
    case round =>
      obtain ⟨i, Z, va, vc, rfl, rfl, rfl, hi, hZ, hZr, hZp, hown, hgw⟩ := hrel
      have HZ := Lib.hid (And.intro hZr (And.intro hZp (And.intro hown hgw)))
      clear hZr hZp hown hgw
      have z1 : (Z : Int) < (M' : Int) := by omega
      have z2 : (0 : Int) ≤ (Z : Int) := by omega
      by_cases hlt : i < m
      · have i5 : (i : Int) < (m : Int) := by omega
        go_wp2_with fail
        go_loopw [14, 15] (fun pw t ws => ∃ (k P : Nat), pw = .int .u64 P ∧ t = .int .i64 k ∧ k ≤ m ∧ P < M' ∧ P = Z ^ k % M' ∧ ws = wr) (fun _ t _ => m - (intOf t).toNat)
        case atStart => exact ⟨0, 1, rfl, rfl, by omega, by omega, by rw [Nat.pow_zero, Nat.mod_eq_of_lt (by omega)], rfl⟩
        case round =>
          obtain ⟨k, P, rfl, rfl, hk, hP, hPe, rfl⟩ := hrel
          have HP := Lib.hid hPe
          clear hPe
          by_cases hkl : k < m
          · have k5 : (k : Int) < (m : Int) := by omega
            have p0 : (0 : Int) ≤ (P : Int) * (Z : Int) := mul_lo (by omega) (by omega)
            have p1 : (P : Int) * (Z : Int) ≤ 2147483647 * 2147483647 := Int.mul_le_mul (by omega) (by omega) (by omega) (by omega)
            have r0 := emod_lo ((P : Int) * (Z : Int)) (M' : Int) (by omega)
            have r1 := emod_hi ((P : Int) * (Z : Int)) (M' : Int) (by omega)
            have HPN := Lib.hid (show (P : Int) * (Z : Int) % (M' : Int) = ((P * Z % M' : Nat) : Int) from by simp only [Int.natCast_mul, Int.natCast_emod])
            go_wp2_with fail
            go_roundw
            case rel => exact ⟨k + 1, P * Z % M', by rw [← HPN.out], by simp, by omega, Nat.mod_lt _ (by omega), by rw [HP.out, Oh7.pow_step], by first | rfl | trivial⟩
            case measure => simp [intOf]; omega
          · obtain rfl : k = m := by omega
            have k5 : ¬ (k : Int) < (k : Int) := by omega
            obtain rfl : P = M' - 1 := by
              rw [HP.out]; exact (Oh7.IsR.nat (by omega)).1 HZ.out.1
            have hpe : ((M' - 1 : Nat) : Int) = (M' : Int) - 1 := by omega
            have hpb : (0 : Int) ≤ (M' : Int) - 1 := by omega
            rw [hpe]
            go_wp2_with fail
            clear hpe hpb
            obtain ⟨T, hT⟩ : ∃ T : Nat, Z % p = T := ⟨_, rfl⟩
            have HT := Lib.hid (show x ^ (2 * i + 1) % p = T by rw [← hT]; exact HZ.out.2.1.symm)
            have hTp : T < p := by rw [← hT]; exact Nat.mod_lt _ (by omega)
            have hZT : (Z : Int) % (p : Int) = (T : Int) := by rw [← Int.natCast_emod, hT]
            have t0 : (0 : Int) ≤ (T : Int) := by omega
            have t1 : (T : Int) < (p : Int) := by omega
            clear hT
            go_loopw [16] (fun t ws => ∃ k q : Nat, t = .int .i64 k ∧ k ≤ i ∧ ws = wr.drewN q) (fun t _ => i - (intOf t).toNat)
            case atStart => exact ⟨0, 0, rfl, by omega, rfl⟩
            case round =>
              obtain ⟨k, q, rfl, hk, rfl⟩ := hrel
              by_cases hki : k < i
              · have k6 : (k : Int) < (i : Int) := by omega
                obtain ⟨-, ya, yc, ey, -, -, hy⟩ := HZ.out.2.2.1.hasV
                obtain ⟨gy, oy, rfl, cy⟩ := hy k (by rw [Oh7.odds_len]; exact hki)
                simp only [Value.slice.injEq] at ey
                obtain ⟨rfl, -, rfl⟩ := ey
                obtain ⟨X, hX⟩ : ∃ X, Op.cf (Oh7.odds x p i) k = X := ⟨_, rfl⟩
                rw [hX] at cy
                have hne : ¬ X = (T : Int) := by
                  rw [← hX, Oh7.odds_cf hki, ← HT.out]
                  intro h
                  exact Oh7.odds_ne HMEM.out HPL.out.2.2 p2 (HXR.out.down HDM.out) hki hlt (by omega)
                have ey : ∀ n, (wr.drewN n).cell? ⟨gy, oy + k, none⟩ = some (.int .u64 X) := fun n => cy
                clear hX hy cy
                go_wp2_with fail
                go_quiet (fail)
                go_wp2_with fail
                go_roundw
                case rel => exact ⟨k + 1, _, by simp, by omega, rfl⟩
                case measure => simp [intOf]; omega
              · obtain rfl : k = i := by omega
                have k6 : ¬ (k : Int) < (k : Int) := by omega
                have p0 : (0 : Int) ≤ (Z : Int) * (x : Int) := mul_lo (by omega) (by omega)
                have p1 : (Z : Int) * (x : Int) ≤ 2147483647 * 2147483647 := Int.mul_le_mul (by omega) (by omega) (by omega) (by omega)
                have r0 := emod_lo ((Z : Int) * (x : Int)) (M' : Int) (by omega)
                have r1 := emod_hi ((Z : Int) * (x : Int)) (M' : Int) (by omega)
                obtain ⟨U, hU⟩ : ∃ U, (Z : Int) * (x : Int) % (M' : Int) = U := ⟨_, rfl⟩
                rw [hU] at r0 r1
                have p4 : (0 : Int) ≤ U * (x : Int) := mul_lo (by omega) (by omega)
                have p5 : U * (x : Int) ≤ 2147483647 * 2147483647 := Int.mul_le_mul (by omega) (by omega) (by omega) (by omega)
                have r2 := emod_lo (U * (x : Int)) (M' : Int) (by omega)
                have r3 := emod_hi (U * (x : Int)) (M' : Int) (by omega)
                have HZN := Lib.hid (show U * (x : Int) % (M' : Int) = ((Z * x % M' * x % M' : Nat) : Int) from by
                  rw [← hU]; simp only [Int.natCast_mul, Int.natCast_emod])
                have HST := Lib.hid (HXR.out.step (by omega) HZ.out.1)
                have HZL := Lib.hid (show Z * x % M' * x % M' < M' from Nat.mod_lt _ (by omega))
                have HZQ := Lib.hid (Oh7.odd_next (Z := Z) (x := x) HDM.out HZ.out.2.1)
                obtain ⟨W5, hW5⟩ : ∃ W5, W5 = wr.drewN q := ⟨_, rfl⟩
                have HOW := Lib.hid (show Lu.Own1 W5 w2.heap.size (.slice va k vc) (Oh7.odds x p k) from by rw [hW5]; exact HZ.out.2.2.1)
                have HG5 := Lib.hid (show Gr w2 W5 from by rw [hW5]; exact HZ.out.2.2.2.drewN q)
                have HOA := Lib.hid (HOW.out.alloc (.cells #[.int .u64 (T : Int)] 43))
                have HONE := Lib.hid (Lu.one_hasV W5 (T : Int) (by omega))
                have HLEN := Lib.hid (show (Oh7.odds x p k).length + ([(T : Int)] : List Int).length ≤ 1000000 from by rw [Oh7.odds_len]; simp; omega)
                have HBS := Lib.hid (show w2.heap.size ≤ (W5.alloc (.cells #[.int .u64 (T : Int)] 43)).heap.size from by have := HG5.out.size; simp; omega)
                rw [← hW5]
                clear hW5
                go_wp2_with (at_builtin; refine Lu.wpList_app rfl (.tmp 84) (.tmp 89) rfl rfl w2.heap.size (.slice va k vc) (Oh7.odds x p k) rfl HOA.out (.slice (some ⟨W5.heap.size, 0, none⟩) 1 1) [(T : Int)] rfl HONE.out HLEN.out HBS.out ?_; intro v' wn hown hgrow; obtain ⟨va', vc', hv, hv1, hv2⟩ := hown.form; rw [List.length_append, Oh7.odds_len] at hv; subst hv; have HN5 := Lib.hid (And.intro hown hgrow); clear hown hgrow hv1 hv2)
                go_roundw
                case rel =>
                  refine ⟨_, _, _, _, ⟨k + 1, Z * x % M' * x % M', va', vc', rfl, rfl, rfl, by omega, HZL.out, HST.out, HZQ.out, ?_, Lu.grown_own (HG5.out.alloc _) HOA.out HN5.out.2 (Nat.le_refl _)⟩, rfl, rfl, by rw [← HZN.out], by simp⟩
                  rw [Oh7.odds_succ, HT.out]
                  exact HN5.out.1
                case measure => simp [intOf]; omega
      · obtain rfl : i = m := by omega
        have i5 : ¬ (i : Int) < (i : Int) := by omega
        by_cases hr : rn = 1
        · subst hr
          go_wp2_with fail
          refine (awake7_any _).mono ?_
          rintro e w7 ⟨rfl, hg7⟩
          have HG7 := Lib.hid hg7
          clear hg7
          go_wp2_with fail
          go_ret
          exact ⟨rfl, (HG3.out.trans HZ.out.2.2.2).trans HG7.out⟩
        · obtain ⟨s, hs⟩ : ∃ s, rn = s + 2 := ⟨rn - 2, by omega⟩
          have HS := Lib.hid hs
          have k1 : ¬ (rn : Int) = 1 := by omega
          have k3 : (rn : Int) ≤ 9223372036854775807 := HR.out.2
          have k4 : (1 : Int) ≤ (rn : Int) := by omega
          obtain ⟨R1, hR1⟩ : ∃ R1, (rn : Int) - 1 = R1 := ⟨_, rfl⟩
          have HR1 := Lib.hid (show R1 = (s : Int) + 1 by omega)
          have HRB := Lib.hid (show -9223372036854775808 ≤ R1 ∧ R1 ≤ 9223372036854775807 by omega)
          clear hs
          go_wp2_with fail
          refine (froot_any (i : Int) p R1 _ HN.out hp HRB.out).mono ?_
          rintro e w8 ⟨x', E', rfl, hrt, hg⟩
          have hmd' : MdOk p R1 := ⟨HMD.out.1, by have := HR1.out; omega, by
            have h1 := HMD.out.2.2
            rw [Int.toNat_natCast, HS.out] at h1
            rw [HR1.out, show ((s : Int) + 1).toNat = s + 1 by omega]
            exact Nat.le_trans (Nat.pow_le_pow_right (by omega) (by omega)) h1⟩
          obtain ⟨rfl, hq⟩ : E' = 0 ∧ x % p ^ (s + 1) = x' := by
            rcases hrt with ⟨h, _⟩ | ⟨_, h, _⟩ | ⟨_, _, hE, y', hy', hl'⟩
            · exact absurd ⟨HD.out, hmd'⟩ h
            · rw [← HM.out] at h; exact absurd HONE.out h
            · refine ⟨hE, ?_⟩
              rw [← HM.out] at hy' hl'
              rw [HR1.out] at hl'
              have e : (rn : Int) = (s : Int) + 2 := by have := HS.out; omega
              have h1 := HLR.out
              have h2 := HMD.out
              rw [e] at h1 h2
              exact root_down HMEM.out h2 h1.1 h1.2 hy' hl'
          obtain ⟨N1, hN1⟩ : ∃ N1, N1 = p ^ (s + 1) := ⟨_, rfl⟩
          rw [← hN1] at hq
          have hMN : M' = N1 * p := by rw [HMM.out, HS.out, hN1, ← Nat.pow_succ]
          have n0 : ¬ N1 = 0 := fun h => by rw [h] at hMN; omega
          have n1 : ¬ (N1 : Int) = 0 := by omega
          have n2 : (N1 : Int) ≤ (M' : Int) := by
            have : N1 * 1 ≤ N1 * p := Nat.mul_le_mul_left N1 (by omega)
            omega
          have n3 : (M' : Int) / (p : Int) = (N1 : Int) := by rw [hMN, Int.natCast_mul, Int.mul_ediv_cancel _ (by omega)]
          have n4 : (M' : Int).tdiv (p : Int) = (N1 : Int) := by rw [hMN, Int.natCast_mul, Int.mul_tdiv_cancel _ (by omega)]
          have n5 : (x : Int) % (N1 : Int) = (x' : Int) := by rw [← Int.natCast_emod, hq]
          have n6 : (x : Int).tmod (N1 : Int) = (x' : Int) := by rw [Int.tmod_eq_emod_of_nonneg (by omega)]; exact n5
          have n7 : (x' : Int) < (N1 : Int) := by
            have := Nat.mod_lt x (show 0 < N1 by omega)
            omega
          have H8 := Lib.hid hg
          clear hrt hg hmd' hq hN1 hMN
          go_wp2_with fail
          refine (awake7_any _).mono ?_
          rintro e w9 ⟨rfl, hg⟩
          have H9 := Lib.hid hg
          clear hg
          go_wp2_with fail
          go_ret
          exact ⟨rfl, ((HG3.out.trans HZ.out.2.2.2).trans H8.out).trans H9.out⟩
end Go.Proofs.Ytplfeeaocjgliaa
