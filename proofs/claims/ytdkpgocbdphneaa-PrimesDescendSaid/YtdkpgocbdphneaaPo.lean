/- The law PrimesDescend returns true. -/
import Derived.Test.YtdkpgocbdphneaaPl
import Derived.Deep.DeepCutAuto
namespace Go.Proofs.Ytdkpgocbdphneaa
open Go.RowKit
set_option linter.unusedVariables false

theorem chain_prev {n : Int} {t : Nat} {C : Nat} (h : ChainOk n t (C : Int)) (hl : (chainOf n t (C : Int)).length = C) (hC : 2 ≤ C) : ChainR n t ((C : Int) - 1) ((chainOf n t (C : Int)).take (C - 1)) 0 := by
  have e : chainOf n t ((C : Int) - 1) = (chainOf n t (C : Int)).take (C - 1) := by
    unfold chainOf
    rw [show ((C : Int) - 1).toNat = C - 1 by omega, Int.toNat_natCast]
    exact Ob.pick_take _ _ _ _ (by omega)
  refine .inr (.inr ⟨⟨h.1, h.2.1, h.2.2.1, h.2.2.2.1, by omega, by have := h.2.2.2.2.2; omega⟩, ?_, e.symm, rfl⟩)
  rw [e, List.length_take, hl]; omega

theorem HasW.cut {W : World} {a : Option Addr} {cap : Nat} {l : List Nat} (h : HasW W (.slice a l.length cap) l) (k : Nat) (hk : k ≤ l.length) : HasW W (.slice a k cap) (l.take k) := by
  obtain ⟨a', cap', e, h1, h2, h3⟩ := h
  injection e with e1 e2 e3
  subst e1 e3
  have hl : (l.take k).length = k := by rw [List.length_take]; omega
  refine ⟨a, cap, by rw [hl], by omega, h2, fun i hi => ?_⟩
  obtain ⟨g, o, ea, hc⟩ := h3 i (by omega)
  refine ⟨g, o, ea, ?_⟩
  rw [hc, List.getElem?_take_of_lt (by omega)]

theorem mod_one {k s d : Nat} (hd : 2 ≤ d) (h : d ∣ s) : (k * s + 1) % d = 1 := by
  obtain ⟨c, rfl⟩ := h
  rw [show k * (d * c) + 1 = 1 + d * (k * c) by rw [Nat.mul_left_comm, Nat.add_comm], Nat.add_mul_mod_self_left, Nat.mod_eq_of_lt (by omega)]

theorem desc_lt {s : Nat} : ∀ {h : Nat} {l : List Nat}, Ob.Desc s h l → ∀ i, i < l.length → l[i]?.getD 0 < h
  | h, [], _, i, hi => by simp at hi
  | h, p :: l, hd, 0, _ => by obtain ⟨⟨k, _, _, h1, _⟩, _⟩ := hd; simpa using h1
  | h, p :: l, hd, i + 1, hi => by
    have h2 := desc_lt hd.2 i (by simpa using hi)
    obtain ⟨⟨k, _, _, h1, _⟩, _⟩ := hd
    have : (p :: l)[i + 1]?.getD 0 = l[i]?.getD 0 := by simp
    omega

set_option maxRecDepth 100000 in
set_option maxHeartbeats 2000000 in
theorem descend_none (n : Int) (t : Nat) (c : Int) (w : World) (ht : t ≤ 4294967295) (h : ¬ (ChainOk n t c ∧ (chainOf n t c).length = c.toNat)) : Calls Try.prog 6 #[.int .i64 n, .int .u32 t, .int .i64 c] w (Truth w) := by
  have H := Lib.hid h
  clear h
  go_enter Try.func6, Try.ntmps6
  go_wp2_with fail
  refine (chain_any n t c _ ht).mono ?_
  rintro e w1 ⟨v, L, z, rfl, hv, h, g1⟩
  rcases h with ⟨h1, rfl, rfl⟩ | ⟨h1, h2, rfl, rfl⟩ | ⟨h1, h2, h3, h4⟩
  · obtain ⟨a, cap, rfl, -⟩ := hv
    clear h1
    go_wp2_with fail
    refine (shown_any _).mono ?_
    rintro e w5 ⟨rfl, g5⟩
    go_wp2_with fail
    go_ret
    exact ⟨rfl, g1.trans g5⟩
  · obtain ⟨a, cap, rfl, -⟩ := hv
    clear h1 h2
    go_wp2_with fail
    refine (shown_any _).mono ?_
    rintro e w5 ⟨rfl, g5⟩
    go_wp2_with fail
    go_ret
    exact ⟨rfl, g1.trans g5⟩
  · exact absurd ⟨h1, h2⟩ H.out

set_option maxRecDepth 100000 in
set_option maxHeartbeats 4000000 in
theorem descend_some (n : Int) (t : Nat) (c : Int) (w : World) (hok : ChainOk n t c) (hlen : (chainOf n t c).length = c.toNat) : Calls Try.prog 6 #[.int .i64 n, .int .u32 t, .int .i64 c] w (Truth w) := by
  have HOK := Lib.hid hok
  obtain ⟨hd, h3, hm, ho, hc1, hc2⟩ := hok
  obtain ⟨m, rfl⟩ : ∃ m : Nat, n = (m : Int) := ⟨n.toNat, by unfold Dim at hd; omega⟩
  obtain ⟨C, rfl⟩ : ∃ C : Nat, c = (C : Int) := ⟨c.toNat, by omega⟩
  have hm1 : 4 ≤ m := by unfold Dim at hd; omega
  have hm2 : m ≤ 32 := by unfold Dim at hd; omega
  rw [Int.toNat_natCast] at hlen
  obtain ⟨s, hs⟩ : ∃ s, s = 2 * m * t := ⟨_, rfl⟩
  have HS := Lib.hid hs
  have hsi : 2 * (m : Int) * (t : Int) = (s : Int) := by rw [hs, Int.natCast_mul, Int.natCast_mul]; rfl
  have hs1 : 1 ≤ s := by rw [hs]; exact Nat.mul_pos (by omega) (by omega)
  have hs2 : s ≤ 137438953408 := by rw [hs]; exact Nat.mul_le_mul (show 2 * m ≤ 64 by omega) hm
  have hdm : m ∣ s := ⟨2 * t, by rw [hs, Nat.mul_comm 2 m, Nat.mul_assoc]⟩
  have hdt : t ∣ s := ⟨2 * m, by rw [hs, Nat.mul_comm]⟩
  have HDM := Lib.hid hdm
  have HDT := Lib.hid hdt
  obtain ⟨P, hP⟩ : ∃ P, P = chainOf (m : Int) t (C : Int) := ⟨_, rfl⟩
  have hdesc : Ob.Desc s 2147483648 P := by
    rw [hP]; unfold chainOf chainStep
    rw [Int.toNat_natCast, ← hs]
    refine Ob.desc_pick s hs1 _ _ _ ?_ (fun j h1 h2 => ?_)
    · have := Nat.div_mul_le_self (2147483648 - 2) s; omega
    · have : (2147483648 - 2) / s + 1 ≤ j := h1
      have h4 := Nat.mul_le_mul_right s this
      have h5 := Nat.div_add_mod (2147483648 - 2) s
      have h6 := Nat.mod_lt (2147483648 - 2) (show 0 < s by omega)
      rw [Nat.add_mul, Nat.one_mul, Nat.mul_comm] at h4
      omega
  have HP := Lib.hid hP
  have HDE := Lib.hid hdesc
  rw [← hP] at hlen
  have HLEN := Lib.hid hlen
  clear hs hd hdm hdt hP hdesc hlen ho
  go_enter Try.func6, Try.ntmps6
  go_wp2_with fail
  refine (chain_any (m : Int) t (C : Int) _ (by omega)).mono ?_
  rintro e w1 ⟨v, L, z, rfl, hv, h, g1⟩
  obtain ⟨rfl, rfl⟩ : L = P ∧ z = 0 := by
    rcases h with ⟨h1, _, _⟩ | ⟨h1, h2, _, _⟩ | ⟨h1, h2, h3, h4⟩
    · exact absurd HOK.out h1
    · rw [← HP.out, HLEN.out, Int.toNat_natCast] at h2; omega
    · exact ⟨h3.trans HP.out.symm, h4⟩
  clear h
  obtain ⟨va, cap, rfl, v1, v2, v3⟩ := hv
  have HV0 := Lib.hid v3
  clear v3
  rw [HLEN.out] at v1 ⊢
  have e1 : decide ((m : Int) < 4) = false := by simp; omega
  have e2 : decide ((32 : Int) < (m : Int)) = false := by simp; omega
  have e3 : decide ((t : Int) < 3) = false := by simp; omega
  have e4 : decide ((C : Int) < 1) = false := by simp; omega
  have e5 : decide ((25 : Int) < (C : Int)) = false := by simp; omega
  go_wp2_with fail
  clear hsi e1 e2 e3 e4 e5
  go_loopw [10] (fun i wr => ∃ k : Nat, i = .int .i64 k ∧ k ≤ C ∧ Gr w1 wr) (fun i _ => C - (intOf i).toNat)
  case atStart => exact ⟨0, rfl, by omega, Gr.refl _⟩
  case round =>
    obtain ⟨k, rfl, hk, g2⟩ := hrel
    obtain ⟨wr0, rfl⟩ : ∃ wr0 : World, wr0 = wr := ⟨_, rfl⟩
    by_cases hlt : k < C
    · obtain ⟨κ, hκ1, hκ2, hκ3, hκ4, hκ5, hκ6⟩ := HDE.out.at k (by rw [HLEN.out]; exact hlt)
      obtain ⟨ga, oa, rfl, c1⟩ := HV0.out k (by rw [HLEN.out]; exact hlt)
      have c1 := g2.keeps c1
      obtain ⟨h, hh⟩ : ∃ h, h = (if k = 0 then 2147483648 else L[k - 1]?.getD 0) := ⟨_, rfl⟩
      rw [← hh] at hκ3 hκ6
      have hhb : h ≤ 2147483648 := by
        rw [hh]; split
        · omega
        · exact Nat.le_of_lt (desc_lt HDE.out (k - 1) (by rw [HLEN.out]; omega))
      have HH := Lib.hid hh
      have HPR := Lib.hid hκ5
      have HNO := Lib.hid hκ6
      clear hκ5 hκ6 hh
      obtain ⟨x, hx⟩ : ∃ x, x = L[k]?.getD 0 := ⟨_, rfl⟩
      rw [← hx] at hκ2 hκ3 hκ4 c1 HPR
      clear hx
      have hx31 : x < 2147483648 := by omega
      have HC1 := Lib.hid c1
      have HK2 := Lib.hid hκ2
      have HK4 := Lib.hid hκ4
      clear hκ2 hκ4 hκ1 c1
      have klt : decide ((k : Int) < (C : Int)) = true := by simp; omega
      have klt2 : decide (k < C) = true := by simp; omega
      go_upto_if 68 with (fail)
      go_cut [11, 69, 70, 71, 72, 73, 74] (fun t _ _ _ _ _ _ wx => t = .int .u64 (h : Nat) ∧ wx = wr0)
      case first =>
        by_cases hk0 : k = 0
        · subst hk0
          have hh := HH.out
          rw [if_pos rfl] at hh
          subst hh
          have k2 : decide ((0 : Int) < ((0 : Nat) : Int)) = false := by simp
          go_wp2_with fail
          go_meet
          exact ⟨rfl, rfl⟩
        · have hh := HH.out
          rw [if_neg hk0] at hh
          obtain ⟨gb, ob, eb, c2⟩ := HV0.out (k - 1) (by rw [HLEN.out]; omega)
          obtain ⟨rfl, rfl⟩ : ga = gb ∧ oa = ob := by injection eb with eb; injection eb with e1 e2; exact ⟨e1, e2⟩
          have c2 := g2.keeps c2
          rw [← hh] at c2
          clear hh eb
          have k1 : (0 : Int) < (k : Int) := by omega
          have k2 : decide (0 < k) = true := by simp; omega
          have k3 : ((k : Int) - 1).toNat = k - 1 := by omega
          go_wp2_with fail
          go_meet
          exact ⟨rfl, rfl⟩
      case rest =>
        obtain ⟨rfl, rfl⟩ := hcut
        have c1 := HC1.out
        have hm4 := mod_one (k := κ) (s := s) (d := m) (by omega) HDM.out
        have ht4 := mod_one (k := κ) (s := s) (d := t) (by omega) HDT.out
        rw [← HK2.out] at hm4 ht4
        have t1 : decide ((h : Int) ≤ (x : Int)) = false := by simp; omega
        have t1' : decide (h ≤ x) = false := by simp; omega
        have t2 : decide ((x : Int) ≤ 1073741824) = false := by have := HK4.out; simp; omega
        have t3 : (((x : Int) % (m : Int)) != 1) = false := by rw [← Int.natCast_emod, hm4]; rfl
        have t4 : (((x : Int) % (t : Int)) != 1) = false := by rw [← Int.natCast_emod, ht4]; rfl
        have t5 : ((((x : Int) - 1) % (s : Int)) != 0) = false := by
          have e : (x : Int) - 1 = (κ : Int) * s := by rw [HK2.out, ← Int.natCast_mul]; omega
          rw [e, Int.mul_emod_left]; rfl
        clear hm4 ht4
        have hx1 : 1 ≤ x := by have := HK4.out; omega
        go_wp2_with fail
        refine (rprime_pr x _ (by omega)).mono ?_
        rintro e w2 ⟨r, rfl, hr, g3⟩
        obtain rfl : r = true := hr.2 HPR.out
        clear hr t1 t1' t2 t3 t4 t5 klt klt2 c1
        go_wp2_with fail
        go_loopw [13] (fun q wr' => ∃ d c : Nat, q = .int .u64 c ∧ 1 ≤ d ∧ c = (κ + d) * s + 1 ∧ c ≤ 1099511627776 ∧ Gr w1 wr') (fun q _ => 1099511627777 - (intOf q).toNat)
        case atStart => exact ⟨1, x + s, by go_num, by omega, by rw [Nat.add_mul, Nat.one_mul, HK2.out]; omega, by omega, g2.trans g3⟩
        case round =>
          obtain ⟨d, c, rfl, hd1, hc, hcb, g4⟩ := hrel
          have HCE := Lib.hid hc
          clear hc
          by_cases hch : c < h
          · have hnp : ¬ Ob.Pr c := by rw [HCE.out]; exact HNO.out _ (by omega) (by rw [← HCE.out]; exact hch)
            have HNP := Lib.hid hnp
            clear hnp
            go_wp2_with fail
            refine (rprime_pr c _ (by omega)).mono ?_
            rintro e w3 ⟨r, rfl, hr, g5⟩
            obtain rfl : r = false := by cases r; rfl; exact absurd (hr.1 rfl) HNP.out
            clear hr
            go_wp2_with fail
            go_roundw
            case rel => exact ⟨d + 1, c + s, by go_num, by omega, by rw [HCE.out, ← Nat.add_assoc, Nat.add_mul (κ + d)]; omega, by omega, g4.trans g5⟩
            case measure => simp [intOf]; omega
          · go_wp2_with fail
            go_roundw
            case rel => exact ⟨k + 1, by go_num, by omega, g4⟩
            case measure => simp [intOf]; omega
    · obtain rfl : k = C := by omega
      by_cases hc1' : 1 < k
      · have hcm : (k : Int) - 1 = ((k - 1 : Nat) : Int) := by omega
        have HCM := Lib.hid hcm
        have hprev := chain_prev HOK.out (by rw [← HP.out]; exact HLEN.out) hc1'
        rw [← HP.out] at hprev
        have HPREV := Lib.hid hprev
        clear hcm hprev
        go_wp2_with fail
        refine (chain_any (m : Int) t ((k : Int) - 1) _ (by omega)).mono ?_
        rintro e w2 ⟨v, L', z', rfl, hv, h', g3⟩
        obtain ⟨rfl, rfl⟩ := h'.unique HPREV.out
        clear h'
        have hcut : HasW w2 (.slice va (k - 1) cap) (L.take (k - 1)) := HasW.cut (W := w2) (by
          rw [HLEN.out]
          exact ⟨va, cap, by rw [HLEN.out], by rw [HLEN.out]; exact v1, v2, fun i hi => by obtain ⟨g, o, e, hc⟩ := HV0.out i hi; exact ⟨g, o, e, (g2.trans g3).keeps hc⟩⟩) (k - 1) (by rw [HLEN.out]; omega)
        have HV1 := Lib.hid hv
        have HV2 := Lib.hid hcut
        clear hv hcut
        go_wp2_with fail
        refine (same_any v _ (L.take (k - 1)) _ HV1.out HV2.out).mono ?_
        rintro e w4 ⟨rfl, g4⟩
        go_wp2_with fail
        refine (shown_any _).mono ?_
        rintro e w5 ⟨rfl, g5⟩
        go_wp2_with fail
        go_ret
        exact ⟨rfl, (((g1.trans g2).trans g3).trans g4).trans g5⟩
      · have k2 : decide ((1 : Int) < (k : Int)) = false := by simp; omega
        go_wp2_with fail
        refine (shown_any _).mono ?_
        rintro e w5 ⟨rfl, g5⟩
        go_wp2_with fail
        go_ret
        exact ⟨rfl, (g1.trans g2).trans g5⟩

theorem descend_all (n : Int) (t : Nat) (c : Int) (w : World) (ht : t ≤ 4294967295) (h1 : -9223372036854775808 ≤ n) (h2 : n ≤ 9223372036854775807) : Calls Try.prog 6 #[.int .i64 n, .int .u32 t, .int .i64 c] w (Truth w) := by
  by_cases h : ChainOk n t c ∧ (chainOf n t c).length = c.toNat
  · exact descend_some n t c w h.1 h.2
  · exact descend_none n t c w ht h
end Go.Proofs.Ytdkpgocbdphneaa
