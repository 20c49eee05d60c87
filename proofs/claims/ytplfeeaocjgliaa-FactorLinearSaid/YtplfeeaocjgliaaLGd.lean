import Derived.Test.YtplfeeaocjgliaaLFG
import Derived.Deep.RegionHeld3
/- The law Linear. -/
namespace Oh7
open Op
set_option linter.unusedVariables false
theorem sq_one {m a : Nat} (hm : 2 < m) (h : a % m = m - 1) : a * a % m = 1 := by
  rw [Nat.mul_mod, h]
  have e2 : (m - 1) * (m - 1) = 1 + m * (m - 2) := by
    have key : ∀ k : Nat, (k + 1) * (k + 1) = 1 + (k + 2) * k := fun k => by simp only [Nat.add_mul, Nat.mul_add]; omega
    have := key (m - 2)
    rwa [show m - 2 + 1 = m - 1 by omega, show m - 2 + 2 = m by omega] at this
  rw [e2, Nat.add_mul_mod_self_left, Nat.mod_eq_of_lt (by omega)]
theorem odd_step (z x m : Nat) : z * x % m * x % m = z * (x * x) % m := by
  rw [Nat.mul_mod, Nat.mod_mod, ← Nat.mul_mod, Nat.mul_assoc]
theorem IsR.step {n m x z : Nat} (hm : 2 < m) (hx : IsR n m x) (hz : IsR n m z) : IsR n m (z * x % m * x % m) := by
  have h1 := (IsR.nat (by omega)).1 hx
  have h2 := (IsR.nat (by omega)).1 hz
  refine (IsR.nat (by omega)).2 ?_
  rw [odd_step, ← Nat.pow_mod, Nat.mul_pow, Nat.mul_pow, Nat.mul_mod, sq_one hm h1, h2, Nat.mul_one, Nat.mod_eq_of_lt (by omega)]
theorem IsR.pos {n m z : Nat} (hn : 1 ≤ n) (hm : 2 < m) (h : IsR n m z) : 0 < z := by
  rcases Nat.eq_zero_or_pos z with rfl | h0
  · have h1 := (IsR.nat (by omega)).1 h
    rw [Nat.zero_pow (by omega), Nat.zero_mod] at h1
    omega
  · exact h0
theorem prd_root {p : Nat} (hp : Ob.Pr p) (z : Int) : ∀ {ts : List (List Int)}, (p : Int) ∣ ev (Oq.prd ts) z → ∃ l ∈ ts, (p : Int) ∣ ev l z
  | [], h => by
    have h1 : (p : Int) ∣ 1 := by
      have e : ev (Oq.prd []) z = 1 := by show ev [1] z = 1; simp [ev]
      rwa [e] at h
    have h2 := Int.le_of_dvd (by omega) h1
    have := hp.1
    omega
  | l :: ts, h => by
    have e : ev (Oq.prd (l :: ts)) z = ev l z * ev (Oq.prd ts) z := ev_mul z l (Oq.prd ts)
    rw [e] at h
    rcases hp.int_mul h with h1 | h1
    · exact ⟨l, by simp, h1⟩
    · obtain ⟨k, hk, hd⟩ := prd_root hp z h1
      exact ⟨k, by simp [hk], hd⟩
theorem leaf_root {p n z : Nat} {ts : List (List Int)} (hp : Ob.Pr p) (h2 : 2 < p) (hn : 1 ≤ n) (h : Oq.Lv p 1 (xn n) ts) (hz : z < p) (hr : IsR n p z) : [(p : Int) - z, 1] ∈ ts := by
  have h0 := hr.pos hn h2
  have h1 := ev_cg (z : Int) h.2
  have h3 : (p : Int) ∣ ev (Oq.prd ts) z := by
    have := Int.dvd_sub hr h1
    have e : ev (xn n) z - (ev (xn n) z - ev (Oq.prd ts) z) = ev (Oq.prd ts) z := by omega
    rwa [e] at this
  obtain ⟨l, hl, hd⟩ := prd_root hp z h3
  obtain ⟨a, rfl, ha⟩ := Oq.leaf2 (h.1 l hl)
  have e : ev [a, 1] z = a + z := by simp [ev]
  rw [e] at hd
  have h4 : (p : Int) ∣ a - ((p : Int) - z) := by
    have := Int.dvd_sub hd (Int.dvd_refl (p : Int))
    have e : a + (z : Int) - p = a - ((p : Int) - z) := by omega
    rwa [e] at this
  have := Op.dvd_small h4 (by omega) (by omega)
  rw [this] at hl
  exact hl
end Oh7
namespace Go.Proofs.Ytplfeeaocjgliaa
open Go.RowKit
set_option linter.unusedVariables false

set_option maxRecDepth 100000 in
set_option maxHeartbeats 4000000 in
theorem linear7_all (n : Int) (p : Nat) (w : World) (hn : -9223372036854775808 ≤ n ∧ n ≤ 9223372036854775807) (hp : p ≤ 4294967295) : Calls Try.prog 8 #[.int .i64 n, .int .u32 p] w (Truth w) := by
  have HN := Lib.hid hn
  clear hn
  go_enter Try.func8, Try.ntmps8
  go_wp2_with fail
  refine (froot_any n p 1 _ HN.out hp (by omega)).mono ?_
  rintro e w1 ⟨x, E, rfl, hrt, hg⟩
  rcases hrt with ⟨-, rfl, rfl⟩ | ⟨-, -, rfl, rfl⟩ | ⟨⟨hdim, hmd⟩, hone, rfl, y, hy, hlr⟩
  · have HG := Lib.hid hg
    clear hg
    go_wp2_with fail
    refine (awake7_any _).mono ?_
    rintro e w2 ⟨rfl, hg⟩
    have HG2 := Lib.hid hg
    clear hg
    go_wp2_with fail
    go_ret
    exact ⟨rfl, HG.out.trans HG2.out⟩
  · have HG := Lib.hid hg
    clear hg
    go_wp2_with fail
    refine (awake7_any _).mono ?_
    rintro e w2 ⟨rfl, hg⟩
    have HG2 := Lib.hid hg
    clear hg
    go_wp2_with fail
    go_ret
    exact ⟨rfl, HG.out.trans HG2.out⟩
  · obtain ⟨hmem, hnn, hn2, hn32⟩ := hdim.mem
    obtain ⟨m, hm⟩ : ∃ m, m = n.toNat := ⟨_, rfl⟩
    rw [← hm] at hmem hnn hn2 hn32 hone hy hlr
    subst hnn
    have hpl := hmd.1
    obtain ⟨hxp, hxr⟩ : x < p ∧ Oh7.IsR m p x := by
      rcases hlr with ⟨_, _, h⟩ | ⟨_, _, _, h⟩ | ⟨_, _, _, _, h⟩ | ⟨_, _, _, _, h1, _, h2⟩
      · cases h
      · cases h
      · cases h
      · have e : ((1 : Int)).toNat = 1 := rfl
        rw [e] at h1 h2
        rw [Nat.pow_one] at h1
        rw [Int.pow_succ, Int.pow_zero, Int.one_mul] at h2
        exact ⟨h1, h2⟩
    have HD := Lib.hid hdim
    have HPL := Lib.hid hpl
    have HM := Lib.hid hm
    have HMEM := Lib.hid hmem
    have HXR := Lib.hid hxr
    have HONE := Lib.hid hone
    have HG1 := Lib.hid hg
    have p2 : 2 < p := hpl.1
    have p3 : p ≤ 65535 := by have := hpl.2.1; omega
    clear hmd hdim hm hmem hxr hone hy hlr hg hpl
    go_wp2_with fail
    refine (ffactors_any (m : Int) p _ HN.out hp).mono ?_
    rintro e w2 (⟨hno, _⟩ | ⟨-, -, d, g, c, vs, ts, rfl, hc1, hc2, hll, hpd, hlv, -, hg⟩)
    · exact absurd ⟨HD.out, HPL.out⟩ hno
    rw [← HM.out] at hpd hlv
    obtain rfl := Oq.pd_one hpd HONE.out
    have hcount := hlv.count (by omega) (Oq.dz_whole HPL.out.2.2 HPL.out.1 HMEM.out).nor
    rw [Oq.xn_len] at hcount
    have hlen : ts.length = m := by omega
    have HTL := Lib.hid hlen
    rw [hlen] at hll hc1 ⊢
    have HLV := Lib.hid hlv
    have HLL := Lib.hid hll
    have HG2 := Lib.hid hg
    clear hpd hlv hcount hlen hll hg
    go_wp2_with fail
    refine (rdim7_any (m : Int) _).mono ?_
    rintro e w3 ⟨rfl, rfl⟩
    rw [decide_eq_true HD.out]
    go_wp2_with fail
    refine (rplain_any p _ hp).mono ?_
    rintro e w4 ⟨ok, rfl, hok, hg⟩
    obtain rfl : ok = true := hok.2 HPL.out
    have HG4 := Lib.hid hg
    have HLL4 := Lib.hid (fun i (hi : i < ts.length) => by
      obtain ⟨x, k, c, h1, h2⟩ := HLL.out.2.2 i hi
      exact (⟨x, k, c, hg.keeps h1, h2.later hg⟩ : ∃ x k c, w4.cell? ⟨g, i, none⟩ = some (.slice x k c) ∧ HasP w4 (.slice x k c) ts[i]))
    clear hok hg
    go_wp2_with fail
    go_loopw [9, 10, 11, 12] (fun z t _ _ wr => ∃ (i Z : Nat), z = .int .u64 Z ∧ t = .int .i64 i ∧ i ≤ m ∧ Z < p ∧ Oh7.IsR m p Z ∧ Gr w4 wr) (fun _ t _ _ _ => m - (intOf t).toNat)
    case atStart => exact ⟨0, x, rfl, rfl, by omega, hxp, HXR.out, Gr.refl _⟩
    case round =>
      obtain ⟨i, Z, rfl, rfl, hi, hZ, hZr, hgw⟩ := hrel
      have HZ := Lib.hid (And.intro hZr hgw)
      have hZ0 := hZr.pos (by omega) p2
      clear hZr hgw
      by_cases hlt : i < m
      · have i5 : (i : Int) < (m : Int) := by omega
        have z1 : (0 : Int) < (Z : Int) := by omega
        have z2 : (Z : Int) < (p : Int) := by omega
        have z3 : (p : Int) ≤ 65535 := by omega
        have z4 : (0 : Int) ≤ (x : Int) := by omega
        have z5 : (x : Int) < (p : Int) := by omega
        have z6 : ¬ (p : Int) = 0 := by omega
        have z10 : ¬ p = 0 := by omega
        have z7 : ((p : Int) == 0) = false := by simp; omega
        have HMEMB := Lib.hid (Oh7.leaf_root HPL.out.2.2 p2 (by omega) HLV.out hZ HZ.out.1)
        obtain ⟨V, hV⟩ : ∃ V, (p : Int) - (Z : Int) = V := ⟨_, rfl⟩
        rw [hV] at HMEMB
        have v0 : (0 : Int) ≤ V := by omega
        have v1 : V < (p : Int) := by omega
        have w1 : IntKind.u64.wrap V = V := IntWalk.u64_in _ (by omega)
        have w2 : IntKind.u64.wrap (p : Int) = (p : Int) := IntWalk.u64_in _ (by omega)
        have w4 : IntKind.u32.wrap V = V := IntWalk.u32_in _ (by omega)
        have q2 : V % 18446744073709551616 = V := Int.emod_eq_of_lt (by omega) (by omega)
        have q3 : (p : Int) % 18446744073709551616 = (p : Int) := Int.emod_eq_of_lt (by omega) (by omega)
        have q4 : V % 4294967296 = V := Int.emod_eq_of_lt (by omega) (by omega)
        have e1 : V % (p : Int) = V := Int.emod_eq_of_lt (by omega) (by omega)
        have e2 : V.tmod (p : Int) = V := Int.tmod_eq_of_lt (by omega) (by omega)
        obtain ⟨L, hL⟩ : ∃ L, L = [V, 1] := ⟨_, rfl⟩
        rw [← hL] at HMEMB
        have HL := Lib.hid hL
        clear hL
        go_wp2_with fail
        go_loopw [11, 12] (fun f t ws => ∃ (b : Bool) (k : Nat), f = .bool b ∧ t = .int .i64 k ∧ k ≤ m ∧ (b = true ↔ L ∈ ts.take k) ∧ Gr wr ws) (fun _ t _ => m - (intOf t).toNat)
        case atStart => exact ⟨false, 0, rfl, rfl, by omega, by simp, Gr.refl _⟩
        case round =>
          obtain ⟨b, k, rfl, rfl, hk, hb, hgs⟩ := hrel
          have HB := Lib.hid (And.intro hb hgs)
          clear hb hgs
          by_cases hkl : k < m
          · have k5 : (k : Int) < (m : Int) := by omega
            have htk : k < ts.length := by rw [HTL.out]; exact hkl
            have hsucc : ts.take (k + 1) = ts.take k ++ [ts[k]] := List.take_succ_eq_append_getElem htk
            have HSU := Lib.hid hsucc
            clear hsucc
            rcases Bool.eq_false_or_eq_true b with rfl | rfl
            · go_wp2_with fail
              go_quiet (fail)
              go_wp2_with fail
              go_roundw
              case rel => exact ⟨true, k + 1, rfl, by simp, by omega, ⟨fun _ => by rw [HSU.out]; exact List.mem_append_left _ (HB.out.1.1 trivial), fun _ => rfl⟩, HB.out.2.drewN _⟩
              case measure => simp [intOf]; omega
            · obtain ⟨xk, nk, ck, h1, h2⟩ := HLL4.out k htk
              have hgk := HZ.out.2.trans HB.out.2
              have c1 := hgk.keeps h1
              have HTK := Lib.hid (h2.later hgk)
              have HLEN := Lib.hid ((HLV.out.1 ts[k] (List.getElem_mem htk)).2.2)
              clear h1 h2 hgk
              go_wp2_with fail
              go_region_held3 (fun wz => wz.cell? ⟨g, k, none⟩ = some (.slice xk nk ck)) (go_keep)
                (first
                  | (go_at_call 16; refine (lsame_any ts[k] L _ _ _ ((HTK.out.later ((Gr.refl _).drew)).later (Gr.new _ _)) (by rw [HL.out]; exact two_hasP' _ _ _ _ rfl (by omega) (by omega)) (by rw [HLEN.out]; decide) (by rw [HL.out]; simp)).mono ?_; rintro e w6 ⟨rfl, hg⟩; have H6 := Lib.hid (show Gr wr w6 from (show Gr wr wr.drew from (Gr.refl wr).drew).trans ((Gr.new _ _).trans hg)); have c1 := H6.out.keeps c1; clear hg))
              have HIF := Lib.hid (show decide (ts[k] = L) = true ↔ L ∈ ts.take (k + 1) from by
                rw [HSU.out, List.mem_append, List.mem_singleton, decide_eq_true_eq]
                constructor
                · intro h; exact .inr h.symm
                · rintro (h | h)
                  · have := HB.out.1.2 h; cases this
                  · exact h.symm)
              go_wp2_with fail
              go_roundw
              case rel => exact ⟨decide (ts[k] = L), k + 1, rfl, by simp, by omega, HIF.out, HB.out.2.trans H6.out⟩
              case measure => simp [intOf]; omega
          · obtain rfl : k = m := by omega
            have k5 : ¬ (k : Int) < (k : Int) := by omega
            obtain rfl : b = true := by
              refine HB.out.1.2 ?_
              rw [List.take_of_length_le (by rw [HTL.out]; exact Nat.le_refl _)]
              exact HMEMB.out
            have p0 : (0 : Int) ≤ (Z : Int) * (x : Int) := mul_lo (by omega) (by omega)
            have p1 : (Z : Int) * (x : Int) ≤ 65535 * 65535 := Int.mul_le_mul (by omega) (by omega) (by omega) (by omega)
            have r0 := emod_lo ((Z : Int) * (x : Int)) (p : Int) (by omega)
            have r1 := emod_hi ((Z : Int) * (x : Int)) (p : Int) (by omega)
            obtain ⟨U, hU⟩ : ∃ U, (Z : Int) * (x : Int) % (p : Int) = U := ⟨_, rfl⟩
            rw [hU] at r0 r1
            have p4 : (0 : Int) ≤ U * (x : Int) := mul_lo (by omega) (by omega)
            have p5 : U * (x : Int) ≤ 65535 * 65535 := Int.mul_le_mul (by omega) (by omega) (by omega) (by omega)
            have r2 := emod_lo (U * (x : Int)) (p : Int) (by omega)
            have r3 := emod_hi (U * (x : Int)) (p : Int) (by omega)
            have HZN := Lib.hid (show U * (x : Int) % (p : Int) = ((Z * x % p * x % p : Nat) : Int) from by
              rw [← hU]; simp only [Int.natCast_mul, Int.natCast_emod])
            have HST := Lib.hid (HXR.out.step p2 HZ.out.1)
            have HZL := Lib.hid (show Z * x % p * x % p < p from Nat.mod_lt _ (by omega))
            have HW := Lib.hid (HZ.out.2.trans HB.out.2)
            go_wp2_with fail
            go_roundw
            case rel => exact ⟨i + 1, Z * x % p * x % p, by rw [← HZN.out], by simp, by omega, HZL.out, HST.out, HW.out⟩
            case measure => simp [intOf]; omega
      · obtain rfl : i = m := by omega
        have i5 : ¬ (i : Int) < (i : Int) := by omega
        go_wp2_with fail
        refine (awake7_any _).mono ?_
        rintro e w7 ⟨rfl, hg7⟩
        have HG7 := Lib.hid hg7
        clear hg7
        go_wp2_with fail
        go_ret
        exact ⟨rfl, (((HG1.out.trans HG2.out).trans HG4.out).trans HZ.out.2).trans HG7.out⟩
end Go.Proofs.Ytplfeeaocjgliaa
