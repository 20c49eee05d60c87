/- The reference: Wrap, Value, Eval. -/
import Derived.Test.YtaenjbemkeghgaaPla
namespace Op
set_option linter.unusedVariables false
theorem wc_add {n : Nat} {a : List Int} {j K : Nat} (hn : 1 ≤ n) (h : a.length ≤ j + K * n) : ∀ d, wc n (K + d) a j = wc n K a j
  | 0 => rfl
  | d + 1 => by
    have ih := wc_add hn h d
    have e : wc n (K + (d + 1)) a j = wc n (K + d) a j + sg (K + d) * cf a (j + (K + d) * n) := rfl
    rw [e, ih, cf_out (l := a) (i := j + (K + d) * n) (by rw [Nat.add_mul]; omega)]; omega
theorem ev_S (x : Int) : ∀ l : List Int, ev l x = S l.length (fun i => cf l i * x ^ i)
  | [] => rfl
  | c :: l => by
    rw [List.length_cons, S_left]
    show c + x * ev l x = _
    rw [ev_S x l, ← S_mul]
    simp only [cf_zero, cf_succ]
    have e : S l.length (fun k => x * (cf l k * x ^ k)) = S l.length (fun k => cf l k * x ^ (k + 1)) := S_cong (fun k _ => by
      rw [Int.pow_succ, Int.mul_left_comm, Int.mul_comm x])
    rw [e, Int.pow_zero, Int.mul_one]
end Op
namespace Go.Proofs.Ytaenjbemkeghgaa
open Go.RowKit
set_option linter.unusedVariables false

theorem sg_par (k : Nat) : (((k : Int) % 2 == 0) = true ∧ Op.sg k = 1) ∨ (((k : Int) % 2 == 0) = false ∧ Op.sg k = -1) := by
  by_cases h : k % 2 = 0
  · exact .inl ⟨by simp; omega, by unfold Op.sg; rw [if_pos h]⟩
  · exact .inr ⟨by simp; omega, by unfold Op.sg; rw [if_neg h]⟩

set_option maxRecDepth 100000 in
set_option maxHeartbeats 4000000 in
theorem rWrap_any (m n : Int) (a : List Int) (u : Value) (w : World) (hn : -9223372036854775808 ≤ n ∧ n ≤ 9223372036854775807) (hu : HasP w u a) (hla : a.length ≤ 1000) :
    Calls Try.prog 37 #[.int .u32 m, u, .int .i64 n] w (NewE (WrapR m a n) w) := by
  obtain ⟨-, xa, ca, rfl, -, -, -⟩ := id hu
  obtain ⟨na, hna⟩ : ∃ na, na = a.length := ⟨_, rfl⟩
  rw [← hna] at hu ⊢
  have HU := Lib.hid hu
  have HNA := Lib.hid hna
  have HLA := Lib.hid hla
  have HIFF := Lib.hid (checkE_one (m := m) hu.1)
  obtain ⟨E, hE⟩ : ∃ E, E = checkE m [a] := ⟨_, rfl⟩
  have HE := Lib.hid hE
  obtain ⟨hn1, hn2⟩ := hn
  have hnab : na ≤ 1000 := by omega
  clear hu hna hE hla
  by_cases h0 : E = 0
  · subst h0
    have HOK := Lib.hid (HIFF.out.1 HE.out.symm)
    obtain ⟨hm1, hm2⟩ : 2 ≤ m ∧ m ≤ 2147483647 := HOK.out.1
    by_cases h1 : n < 1
    · go_enter Try.func37, Try.ntmps37
      go_wp2_with fail
      refine (check5_any m a _ _ HU.out (by have := HLA.out; omega)).mono ?_
      rintro e w1 ⟨rfl, rfl⟩
      rw [← HE.out]
      go_wp2_with fail
      go_ret2
      exact ⟨_, _, _, [], 2, rfl, HasP.nil _, .inr (.inl ⟨HE.out.symm, (by omega), rfl, rfl⟩), (fun p hp => by cases hp), Gr.refl w⟩
    · by_cases h2 : 256 < n
      · go_enter Try.func37, Try.ntmps37
        go_wp2_with fail
        refine (check5_any m a _ _ HU.out (by have := HLA.out; omega)).mono ?_
        rintro e w1 ⟨rfl, rfl⟩
        rw [← HE.out]
        go_wp2_with fail
        go_ret2
        exact ⟨_, _, _, [], 2, rfl, HasP.nil _, .inr (.inl ⟨HE.out.symm, (by omega), rfl, rfl⟩), (fun p hp => by cases hp), Gr.refl w⟩
      · obtain ⟨k, rfl⟩ := Int.eq_ofNat_of_zero_le (show 0 ≤ n from by omega)
        have hk1 : 1 ≤ k := by omega
        have hk2 : k ≤ 256 := by omega
        have HRS := Lib.hid HOK.out.2.2.1
        go_enter Try.func37, Try.ntmps37
        go_wp2_with fail
        refine (check5_any m a _ _ HU.out (by have := HLA.out; omega)).mono ?_
        rintro e w1 ⟨rfl, rfl⟩
        rw [← HE.out]
        go_wp2_with fail
        go_loopw [9, 10] (fun s t wr => ∃ (j : Nat) (pre : List Int), t = .int .i64 j ∧ j ≤ k ∧ pre.length = j ∧ Op.Rs m pre ∧ (∀ i, i < j → m ∣ Op.cf pre i - Op.wc k na a i) ∧ Own1 wr w.heap.size s pre ∧ Gr w wr) (fun _ t _ => k - (intOf t).toNat)
        case atStart => exact ⟨0, [], rfl, by omega, rfl, (fun x hx => by cases hx), (fun i hi => by omega), Own1.nil _ _, Gr.refl w⟩
        case round =>
          obtain ⟨j, pre, rfl, hj, hp, hprs, hpc, hown, hg⟩ := hrel
          have HP := Lib.hid hp
          have HPC := Lib.hid hpc
          have HPRS := Lib.hid hprs
          have HO := Lib.hid hown
          have HG := Lib.hid hg
          have hsz := hg.size
          obtain ⟨vx, vc, rfl, -, -⟩ := hown.form
          clear hp hpc hprs hown hg
          by_cases hlt : j < k
          · have HUW := Lib.hid (HU.out.later HG.out)
            have i2 : (j : Int) < (k : Int) := by omega
            go_wp2_with fail
            go_loop [11, 12] (fun s t => ∃ (i : Nat) (z : Int), s = .int .u64 z ∧ t = .int .i64 i ∧ i ≤ na ∧ 0 ≤ z ∧ z ≤ i * 2147483647 ∧ m ∣ z - Op.wc k i a j) (fun _ t => na + 1 - (intOf t).toNat)
            case atStart => exact ⟨0, 0, rfl, rfl, by omega, by omega, by omega, ⟨0, by simp [Op.wc, Op.S]⟩⟩
            case round =>
              obtain ⟨i, z, rfl, rfl, hi, hz0, hz1, hzd⟩ := hrel
              have HZD := Lib.hid hzd
              clear hzd
              have p0 : (0 : Int) ≤ (i : Int) * (k : Int) := by rw [← Int.natCast_mul]; omega
              have p1 : (i : Int) * (k : Int) ≤ 256000 := by
                have h1 : i * k ≤ 1000 * 256 := Nat.mul_le_mul (by omega) hk2
                rw [← Int.natCast_mul]; omega
              have i4 : (j : Int) + (i : Int) * (k : Int) = ((j + i * k : Nat) : Int) := by rw [Int.natCast_add, Int.natCast_mul]
              by_cases hin : j + i * k < na
              · have hin' : (j : Int) + (i : Int) * (k : Int) < (na : Int) := by rw [i4]; omega
                have hii : i < na := by
                  have : i * 1 ≤ i * k := Nat.mul_le_mul_left i hk1
                  omega
                have hy := Op.rs_cf (show 0 < m by omega) HRS.out (j + i * k)
                obtain ⟨y, hye⟩ : ∃ y, y = Op.cf a (j + i * k) := ⟨_, rfl⟩
                rw [← hye] at hy
                have HY := Lib.hid hye
                obtain ⟨hy0, hy1⟩ := hy
                have HI4 := Lib.hid i4
                have hidx : j + i * k ≤ 1000000 := by omega
                have HLA6 := Lib.hid (show a.length ≤ 1000000 from by have := HLA.out; omega)
                rcases sg_par i with ⟨hpar, hsg⟩ | ⟨hpar, hsg⟩
                · have HZ2 := Lib.hid (show m ∣ (z + y) - Op.wc k (i + 1) a j from by
                    have e : (z + y) - Op.wc k (i + 1) a j = z - Op.wc k i a j := by
                      show (z + y) - (Op.wc k i a j + Op.sg i * Op.cf a (j + i * k)) = _
                      rw [hsg, hye]; omega
                    rw [e]; exact HZD.out)
                  clear hye hsg i4
                  go_wp2_with (go_at_call 48; rw [HI4.out]; ((with_reducible refine (at_any a (j + i * k) _ _ HUW.out HLA6.out hidx).mono ?_); rintro e w' ⟨rfl, rfl⟩; rw [← HY.out]))
                  go_round
                  case rel => exact ⟨i + 1, z + y, rfl, by go_num, by omega, by omega, by omega, HZ2.out⟩
                  case measure => simp [intOf]; omega
                · have HZ2 := Lib.hid (show m ∣ (z + m - y) - Op.wc k (i + 1) a j from by
                    have e : (z + m - y) - Op.wc k (i + 1) a j = (z - Op.wc k i a j) + m := by
                      show (z + m - y) - (Op.wc k i a j + Op.sg i * Op.cf a (j + i * k)) = _
                      rw [hsg, hye]; omega
                    rw [e]; exact Int.dvd_add HZD.out (Int.dvd_refl m))
                  clear hye hsg i4
                  go_wp2_with (go_at_call 48; rw [HI4.out]; ((with_reducible refine (at_any a (j + i * k) _ _ HUW.out HLA6.out hidx).mono ?_); rintro e w' ⟨rfl, rfl⟩; rw [← HY.out]))
                  go_round
                  case rel => exact ⟨i + 1, z + m - y, rfl, by go_num, by omega, by omega, by omega, HZ2.out⟩
                  case measure => simp [intOf]; omega
              · have hin' : ¬ (j : Int) + (i : Int) * (k : Int) < (na : Int) := by rw [i4]; omega
                have HPL := Lib.hid (show pre.length + [z % m].length ≤ 1000000 from by rw [HP.out]; simp; omega)
                have r0 := emod_lo z m (by omega)
                have r1 := emod_hi z m (by omega)
                have HRB := Lib.hid (show 0 ≤ z % m ∧ z % m < 4294967296 from by omega)
                have HZE := Lib.hid (show m ∣ z % m - Op.wc k na a j from by
                  have h1 := Op.wc_add (a := a) (j := j) (K := i) hk1 (by rw [← HNA.out]; omega) (na - i)
                  rw [show i + (na - i) = na from by omega] at h1
                  rw [h1]
                  have h2 := Op.dvd_mod m z
                  have e : z % m - Op.wc k i a j = (z % m - z) + (z - Op.wc k i a j) := by omega
                  rw [e]; exact Int.dvd_add h2 HZD.out)
                clear i4
                go_wp2_with (at_builtin; refine wpList_app rfl (.tmp 64) (.tmp 70) rfl rfl w.heap.size (.slice vx pre.length vc) pre rfl (HO.out.alloc _) (.slice (some ⟨wr.heap.size, 0, none⟩) 1 1) [z % m] rfl (one_hasP' _ _ _ rfl HRB.out) HPL.out (Nat.le_trans hsz (Nat.le_of_lt (by simp))) ?_; intro v' w2 hown hgrow; have HO2 := Lib.hid hown; have HG2 := Lib.hid (show Gr w w2 from grown_own (HG.out.alloc _) (HO.out.alloc _) hgrow (Nat.le_refl _)); clear hown hgrow)
                go_roundw
                case rel => exact ⟨j + 1, pre ++ [z % m], by go_num, by omega, by rw [List.length_append, HP.out]; rfl, (fun x hx => by
                    rcases List.mem_append.1 hx with h | h
                    · exact HPRS.out x h
                    · simp at h; subst h; omega), (fun l hl => by
                    rw [Op.cf_append]
                    by_cases h : l < pre.length
                    · rw [if_pos h]; exact HPC.out l (by have := HP.out; omega)
                    · rw [if_neg h]
                      obtain rfl : l = j := by have := HP.out; omega
                      rw [HP.out, Nat.sub_self]; exact HZE.out), HO2.out, HG2.out⟩
                case measure => simp [intOf]; omega
          · obtain rfl : j = k := by omega
            have HW := Lib.hid (show Op.Wr m j a pre from Op.wc_wr m j hk1 na a pre (by rw [← HNA.out]; exact Nat.le_mul_of_pos_right na hk1) HP.out (fun i hi => HPC.out i hi))
            go_wp2_with fail
            go_ret2
            exact ⟨_, _, _, pre, 0, rfl, HO.out.hasP, .inr (.inr ⟨HE.out.symm, (by omega), rfl, HP.out, HPRS.out, HW.out⟩), HO.out.fresh rfl, HG.out⟩
  · have hf : (E != 0) = true := by simp [h0]
    have H0 := Lib.hid h0
    go_enter Try.func37, Try.ntmps37
    go_wp2_with fail
    refine (check5_any m a _ _ HU.out (by have := HLA.out; omega)).mono ?_
    rintro e w1 ⟨rfl, rfl⟩
    rw [← HE.out]
    go_wp2_with fail
    go_ret2
    exact ⟨_, _, _, [], E, rfl, HasP.nil _, .inl ⟨HE.out, H0.out, rfl⟩, (fun p hp => by cases hp), Gr.refl w⟩

set_option maxRecDepth 100000 in
set_option maxHeartbeats 2000000 in
theorem rValue_any (m x : Int) (a : List Int) (v : Value) (w : World) (hm : 2 ≤ m ∧ m ≤ 2147483647) (hx : 0 ≤ x ∧ x < 4294967296) (hu : HasP w v a) (hla : a.length ≤ 1000) :
    Calls Try.prog 61 #[.int .u32 m, v, .int .u32 x] w (fun e w' => e = .returned (.int .u32 (Op.ev a x % m)) ∧ Gr w w') := by
  obtain ⟨-, xa, ca, rfl, -, -, -⟩ := id hu
  obtain ⟨na, hna⟩ : ∃ na, na = a.length := ⟨_, rfl⟩
  rw [← hna] at hu ⊢
  have HU := Lib.hid hu
  have HNA := Lib.hid hna
  have HDA := Lib.hid hu.1
  have hnab : na ≤ 1000 := by omega
  obtain ⟨hm1, hm2⟩ := hm
  obtain ⟨hx0, hx1⟩ := hx
  have h1m : (1 : Int) % m = 1 := Int.emod_eq_of_lt (by omega) (by omega)
  have h1t : (1 : Int).tmod m = 1 := Int.tmod_eq_of_lt (by omega) (by omega)
  have HLA6 := Lib.hid (show a.length ≤ 1000000 from by omega)
  have hm0 : ((m : Int) == 0) = false := by simp; omega
  have hmz : ¬ m = 0 := by omega
  clear hu hna hla
  go_enter Try.func61, Try.ntmps61
  go_wp2_with fail
  go_region
  have HUD := Lib.hid (show HasP w.drew (.slice xa na ca) a from HU.out.later ((Gr.refl w).drewN 1))
  go_wp2_with fail
  go_loop [7, 8, 9] (fun s q t => ∃ (k : Nat) (z r : Int), s = .int .u64 z ∧ q = .int .u64 r ∧ t = .int .i64 k ∧ k ≤ na ∧ (0 ≤ z ∧ z < m) ∧ (0 ≤ r ∧ r < m) ∧ m ∣ z - Op.S k (fun i => Op.cf a i * x ^ i) ∧ m ∣ r - x ^ k) (fun _ _ t => na - (intOf t).toNat)
  case atStart => exact ⟨0, 0, 1, rfl, rfl, rfl, by omega, by omega, by omega, ⟨0, by simp [Op.S]⟩, ⟨0, by simp⟩⟩
  case round =>
    obtain ⟨k, z, r, rfl, rfl, rfl, hk, ⟨hz0, hz1⟩, ⟨hr0, hr1⟩, hzd, hrd⟩ := hrel
    have HZD := Lib.hid hzd
    have HRD := Lib.hid hrd
    clear hzd hrd
    by_cases hlt : k < na
    · have hc := HDA.out.at_ k
      obtain ⟨c, hce⟩ : ∃ c, c = Op.cf a k := ⟨_, rfl⟩
      rw [← hce] at hc
      have HC := Lib.hid hce
      obtain ⟨hc0, hc1⟩ := hc
      have p0 := mul_lo hc0 hr0
      have p1 := mul_hi hc0 hr0 (by omega) (by omega)
      have q0 := mul_lo hr0 hx0
      have q1 := mul_hi hr0 hx0 (by omega) (by omega)
      have r0 := emod_lo (z + c * r) m (by omega)
      have r1 := emod_hi (z + c * r) m (by omega)
      have s0 := emod_lo (r * x) m (by omega)
      have s1 := emod_hi (r * x) m (by omega)
      have HZ2 := Lib.hid (show m ∣ (z + c * r) % m - Op.S (k + 1) (fun i => Op.cf a i * x ^ i) from by
        have h1 := Op.dvd_mod m (z + c * r)
        have e : (z + c * r) % m - Op.S (k + 1) (fun i => Op.cf a i * x ^ i) = ((z + c * r) % m - (z + c * r)) + (z - Op.S k (fun i => Op.cf a i * x ^ i)) + c * (r - x ^ k) := by
          rw [Op.S, ← hce, Int.mul_sub]; omega
        rw [e]; exact Int.dvd_add (Int.dvd_add h1 HZD.out) (Int.dvd_mul_of_dvd_right HRD.out))
      have HR2 := Lib.hid (show m ∣ r * x % m - x ^ (k + 1) from by
        have h1 := Op.dvd_mod m (r * x)
        have e : r * x % m - x ^ (k + 1) = (r * x % m - r * x) + (r - x ^ k) * x := by
          rw [Int.pow_succ, Int.sub_mul]; omega
        rw [e]; exact Int.dvd_add h1 (Int.dvd_mul_of_dvd_left HRD.out))
      have hk6 : k ≤ 1000000 := by omega
      have hlt' : (k : Int) < (na : Int) := by omega
      clear hce
      go_wp2_with (go_at_call 48; ((with_reducible refine (at_any a k _ _ HUD.out HLA6.out hk6).mono ?_); rintro e w' ⟨rfl, rfl⟩; rw [← HC.out]))
      go_round
      case rel => exact ⟨k + 1, (z + c * r) % m, r * x % m, rfl, rfl, by go_num, by omega, ⟨r0, r1⟩, ⟨s0, s1⟩, HZ2.out, HR2.out⟩
      case measure => simp [intOf]; omega
    · obtain rfl : k = na := by omega
      have HZE := Lib.hid (show z = Op.ev a x % m from by
        have h := HZD.out
        rw [HNA.out, ← Op.ev_S] at h
        exact Op.dvd_small (by
          have h1 := Op.dvd_mod m (Op.ev a x)
          have e : z - Op.ev a x % m = (z - Op.ev a x) - (Op.ev a x % m - Op.ev a x) := by omega
          rw [e]; exact Int.dvd_sub h h1) ⟨hz0, hz1⟩ ⟨Int.emod_nonneg _ (by omega), Int.emod_lt_of_pos _ (by omega)⟩)
      go_wp2_with fail
      go_ret
      exact ⟨by rw [← HZE.out]; rfl, (Gr.refl w).drewN 1⟩

set_option maxRecDepth 100000 in
set_option maxHeartbeats 1000000 in
theorem rEval_any (m x : Int) (a : List Int) (u : Value) (w : World) (hx : 0 ≤ x ∧ x < 4294967296) (hu : HasP w u a) (hla : a.length ≤ 1000) :
    Calls Try.prog 38 #[.int .u32 m, u, .int .u32 x] w (fun e w' => e = .returned (.tuple #[.int .u32 (evV m a x), .int .i64 (evE m a x)]) ∧ Gr w w') := by
  obtain ⟨-, xa, ca, rfl, -, -, -⟩ := id hu
  obtain ⟨na, hna⟩ : ∃ na, na = a.length := ⟨_, rfl⟩
  rw [← hna] at hu ⊢
  have HU := Lib.hid hu
  have HXB := Lib.hid hx
  have HLA := Lib.hid hla
  have HIFF := Lib.hid (checkE_one (m := m) hu.1)
  obtain ⟨E, hE⟩ : ∃ E, E = checkE m [a] := ⟨_, rfl⟩
  have HE := Lib.hid hE
  clear hu hna hE hx hla
  by_cases h0 : E = 0
  · subst h0
    have HOK := Lib.hid (HIFF.out.1 HE.out.symm)
    have HMB := Lib.hid (show 2 ≤ m ∧ m ≤ 2147483647 from HOK.out.1)
    by_cases h1 : m ≤ x
    · have e1 : evE m a x = 2 := by unfold evE; rw [← HE.out, if_pos rfl, if_pos h1]
      have e2 : evV m a x = 0 := by unfold evV; rw [e1]; rfl
      rw [e1, e2]
      clear e1 e2
      go_enter Try.func38, Try.ntmps38
      go_wp2_with fail
      refine (check5_any m a _ _ HU.out (by have := HLA.out; omega)).mono ?_
      rintro e w1 ⟨rfl, rfl⟩
      rw [← HE.out]
      go_wp2_with fail
      go_ret2
      exact ⟨rfl, Gr.refl w⟩
    · have e1 : evE m a x = 0 := by unfold evE; rw [← HE.out, if_pos rfl, if_neg h1]
      have e2 : evV m a x = Op.ev a x % m := by unfold evV; rw [e1]; rfl
      rw [e1, e2]
      clear e1 e2
      go_enter Try.func38, Try.ntmps38
      go_wp2_with fail
      refine (check5_any m a _ _ HU.out (by have := HLA.out; omega)).mono ?_
      rintro e w1 ⟨rfl, rfl⟩
      rw [← HE.out]
      go_wp2_with fail
      refine (rValue_any m x a _ _ HMB.out HXB.out HU.out HLA.out).mono ?_
      rintro e w2 ⟨rfl, hg⟩
      have HG := Lib.hid hg
      clear hg
      go_wp2_with fail
      go_ret2
      exact ⟨rfl, HG.out⟩
  · have hf : (E != 0) = true := by simp [h0]
    have e1 : evE m a x = E := by unfold evE; rw [← HE.out, if_neg h0]
    have e2 : evV m a x = 0 := by unfold evV; rw [e1, if_neg h0]
    rw [e1, e2]
    clear e1 e2
    go_enter Try.func38, Try.ntmps38
    go_wp2_with fail
    refine (check5_any m a _ _ HU.out (by have := HLA.out; omega)).mono ?_
    rintro e w1 ⟨rfl, rfl⟩
    rw [← HE.out]
    go_wp2_with fail
    go_ret2
    exact ⟨rfl, Gr.refl w⟩
end Go.Proofs.Ytaenjbemkeghgaa
