import Derived.Test.YtfmmkdmnondomaaLSD
/- The law SlotsTwice. -/
namespace Os
open Op
set_option linter.unusedVariables false
theorem mod3 (a b c m : Nat) : a * b % m * c % m = a * (b * c % m) % m := by
  rw [Nat.mod_mul_mod, Nat.mul_mod_mod, Nat.mul_assoc]
theorem Mv.twice {n K L : Nat} (hd : D4 n) {a b c : List Int} (ha : Mv n K a) (hb : Mv n L b) (hc : Mv n (K * L % (2 * n)) c) {j : Nat} (hj : j < n) :
    ∃ t u : Nat, t < n ∧ u < n ∧ cf a j = t ∧ cf b t = u ∧ cf c j = u := by
  obtain ⟨t, t1, t2, t3⟩ := ha.2 j hj
  obtain ⟨u, u1, u2, u3⟩ := hb.2 t t1
  obtain ⟨v, v1, v2, v3⟩ := hc.2 j hj
  refine ⟨t, u, t1, u1, t2, u2, ?_⟩
  rw [v2, Ex.inj hd v1 u1 (by rw [v3, u3, t3, mod3])]
end Os
namespace Go.Proofs.Ytfmmkdmnondomaa
open Go.RowKit
set_option linter.unusedVariables false

theorem HasQ_at {W : World} {g : Option Addr} {m c : Nat} {l : List Int} (h : Lo.HasQ W (.slice g m c) l) {j : Nat} (hj : j < l.length) : ∃ b o, g = some ⟨b, o, none⟩ ∧ W.cell? ⟨b, o + j, none⟩ = some (.int .i64 (Op.cf l j)) := by
  obtain ⟨_, a, c', e, _, _, h3⟩ := h
  cases e
  exact h3 j hj
theorem Kd.twice {n K L : Nat} (hn : 1 ≤ n) (hK : Kd n K) (hL : Kd n L) : Kd n ((K * L % (2 * n) : Nat) : Int) := by
  obtain ⟨a1, a2, a3⟩ := hK
  obtain ⟨b1, b2, b3⟩ := hL
  have h1 := Nat.mod_lt (K * L) (show 0 < 2 * n by omega)
  have h2 : K * L % (2 * n) % 2 = 1 := by rw [Nat.mod_mul_right_mod, Nat.mul_mod]; have : K % 2 = 1 := by omega
                                          have : L % 2 = 1 := by omega
                                          simp [*]
  exact ⟨by omega, by omega, by omega⟩

set_option maxRecDepth 100000 in
set_option maxHeartbeats 4000000 in
theorem twice8_all (N : Int) (P : Nat) (R E : Int) (uA uB : Value) (k l : Int) (w : World) (hP : P ≤ 4294967295) (hR : -9223372036854775808 ≤ R ∧ R ≤ 9223372036854775807) (hk : -9223372036854775808 ≤ k ∧ k ≤ 9223372036854775807) (hl : -9223372036854775808 ≤ l ∧ l ≤ 9223372036854775807) :
    Calls Try.prog 9 #[.agg #[.int .i64 N, .int .u32 P, .int .i64 R, .int .i64 E, uA, uB], .int .i64 k, .int .i64 l] w (Truth w) := by
  have HR := Lib.hid hR
  have HCB := Lib.hid (CB.new w N P R E uA uB)
  clear hR
  go_enter Try.func9, Try.ntmps9
  go_wp2_with fail
  refine (snew_any N P R _ hP HR.out).mono ?_
  rintro e w1 ⟨hg, ⟨n, r, q, x, s, T, rfl, rfl, hN, rfl, hT, -⟩ | ⟨hno, rfl⟩⟩
  · have HG := Lib.hid ((Gr.new w _).trans hg)
    have HC := Lib.hid (HCB.out.later hg)
    have HN := Lib.hid hN
    have HT := Lib.hid hT
    obtain ⟨d1, d2, d3, d4, d5, d6, d7, d8⟩ := hN.dims
    clear hg hN hT d3 d4 d5 d6 d7 d8
    go_wp2_with fail
    refine (sMoves_any n P r q x s T k _ HN.out HT.out hk).mono ?_
    rintro e w2 ⟨g2, m2, cp2, a, rfl, hq, ha, hf, hg⟩
    have HG := Lib.hid (HG.out.trans hg)
    have HC := Lib.hid (HC.out.later hg)
    have HT := Lib.hid (HT.out.later hg)
    have HQA := Lib.hid hq
    have HA := Lib.hid ha
    clear hg hq ha hf
    go_wp2_with fail
    refine (sMoves_any n P r q x s T l _ HN.out HT.out hl).mono ?_
    rintro e w3 ⟨g3, m3, cp3, b, rfl, hq, hb, hf, hg⟩
    have HG := Lib.hid (HG.out.trans hg)
    have HC := Lib.hid (HC.out.later hg)
    have HT := Lib.hid (HT.out.later hg)
    have HQA := Lib.hid (HQA.out.later hg)
    have HQB := Lib.hid hq
    have HB := Lib.hid hb
    have c0 := HC.out.c0
    clear hg hq hb hf
    by_cases h1 : Kd n k
    · by_cases h2 : Kd n l
      · rw [kE_yes h1, kE_yes h2]
        obtain ⟨K, rfl⟩ := Int.eq_ofNat_of_zero_le (show 0 ≤ k by have := h1.1; omega)
        obtain ⟨L, rfl⟩ := Int.eq_ofNat_of_zero_le (show 0 ≤ l by have := h2.1; omega)
        have k1 : (K : Int) < 64 := by have := h1.2.1; omega
        have k2 : (L : Int) < 64 := by have := h2.2.1; omega
        have m0 := mul_lo (a := (K : Int)) (b := (L : Int)) (by omega) (by omega)
        have m1 : (K : Int) * (L : Int) ≤ 64 * 64 := Int.mul_le_mul (by omega) (by omega) (by omega) (by omega)
        have HM := Lib.hid (show (K : Int) * (L : Int) % (2 * (n : Int)) = ((K * L % (2 * n) : Nat) : Int) by simp)
        have HKD := Lib.hid (Kd.twice (by omega) h1 h2)
        have HMA := Lib.hid (show Os.Mv n K a from by
          rcases HA.out with ⟨_, h⟩ | ⟨h, _⟩
          · rwa [Int.toNat_natCast] at h
          · exact absurd h1 h)
        have HMB := Lib.hid (show Os.Mv n L b from by
          rcases HB.out with ⟨_, h⟩ | ⟨h, _⟩
          · rwa [Int.toNat_natCast] at h
          · exact absurd h2 h)
        obtain rfl : n = m2 := by rw [HQA.out.len.1, HMA.out.1]
        obtain rfl : n = m3 := by rw [HQB.out.len.1, HMB.out.1]
        have t1 : decide ((n : Int) < 4) = false := by simp; omega
        have t2 : decide ((32 : Int) < (n : Int)) = false := by simp; omega
        have t3 : decide ((64 : Int) < (K : Int)) = false := by simp; omega
        have t4 : decide ((64 : Int) < (L : Int)) = false := by simp; omega
        clear h1 h2
        go_wp2_with fail
        rw [HM.out]
        refine (sMoves_any n P r q x s T _ _ HN.out HT.out (by have h := HKD.out; unfold Kd at h; omega)).mono ?_
        rintro e w4 ⟨g4, m4, cp4, c, rfl, hq, hc, hf, hg⟩
        rw [kE_yes HKD.out]
        have HMC := Lib.hid (show Os.Mv n (K * L % (2 * n)) c from by
          rcases hc with ⟨_, h⟩ | ⟨h, _⟩
          · rwa [Int.toNat_natCast] at h
          · exact absurd HKD.out h)
        obtain rfl : n = m4 := by rw [hq.len.1, HMC.out.1]
        have HG := Lib.hid (HG.out.trans hg)
        have HC := Lib.hid (HC.out.later hg)
        have HQA := Lib.hid (HQA.out.later hg)
        have HQB := Lib.hid (HQB.out.later hg)
        have HQC := Lib.hid hq
        have c0 := HC.out.c0
        clear hg hq hc hf m0 m1 t1 t2 t3 t4 k1 k2
        go_wp2_with fail
        go_loopw [15] (fun t wr => ∃ j : Nat, t = .int .i64 j ∧ j ≤ n ∧ Gr w4 wr) (fun t _ => n - (intOf t).toNat)
        case atStart => exact ⟨0, rfl, by omega, Gr.refl _⟩
        case round =>
          obtain ⟨j, rfl, hj, hg⟩ := hrel
          have HGW := Lib.hid hg
          have c0 := HGW.out.keeps c0
          clear hg
          by_cases hlt : j < n
          · have i1 : (j : Int) < (n : Int) := by omega
            have i2 : (0 : Int) ≤ (j : Int) := by omega
            obtain ⟨t, u, ht, hu, e1, e2, e3⟩ := HMA.out.twice HN.out.rt.dim HMB.out HMC.out hlt
            obtain ⟨ga, oa, rfl, ca⟩ := HasQ_at (HQA.out.later HGW.out) (show j < a.length by rw [HMA.out.1]; exact hlt)
            obtain ⟨gb, ob, rfl, cb⟩ := HasQ_at (HQB.out.later HGW.out) (show t < b.length by rw [HMB.out.1]; exact ht)
            obtain ⟨gc, oc, rfl, cc⟩ := HasQ_at (HQC.out.later HGW.out) (show j < c.length by rw [HMC.out.1]; exact hlt)
            rw [e1] at ca
            rw [e2] at cb
            rw [e3] at cc
            have b1 : decide ((t : Int) < 0) = false := by simp
            have b2 : decide ((n : Int) ≤ (t : Int)) = false := by simp; omega
            have b3 : ((u : Int) != (u : Int)) = false := by simp
            have i3 : (t : Int) < (n : Int) := by omega
            have i4 : (0 : Int) ≤ (t : Int) := by omega
            clear e1 e2 e3
            go_wp2_with fail
            go_quiet (fail)
            go_wp2_with fail
            go_roundw
            case rel => exact ⟨j + 1, by go_num, by omega, HGW.out.drewN _⟩
            case measure => simp [intOf]; omega
          · obtain rfl : j = n := by omega
            have i1 : ¬ (j : Int) < (j : Int) := by omega
            go_wp2_with fail
            refine (awake8_any _).mono ?_
            rintro e w8 ⟨rfl, hg8⟩
            have HG8 := Lib.hid ((HG.out.trans HGW.out).trans hg8)
            clear hg8
            go_wp2_with fail
            go_ret
            exact ⟨rfl, HG8.out⟩
      · rw [kE_yes h1, kE_no h2]
        clear h1 h2
        go_wp2_with fail
        refine (awake8_any _).mono ?_
        rintro e w8 ⟨rfl, hg8⟩
        have HG8 := Lib.hid (HG.out.trans hg8)
        clear hg8
        go_wp2_with fail
        go_ret
        exact ⟨rfl, HG8.out⟩
    · rw [kE_no h1]
      clear h1
      go_wp2_with fail
      refine (awake8_any _).mono ?_
      rintro e w8 ⟨rfl, hg8⟩
      have HG8 := Lib.hid (HG.out.trans hg8)
      clear hg8
      go_wp2_with fail
      go_ret
      exact ⟨rfl, HG8.out⟩
  · have HG := Lib.hid ((Gr.new w _).trans hg)
    clear hg hno
    go_wp2_with fail
    refine (awake8_any _).mono ?_
    rintro e w8 ⟨rfl, hg8⟩
    have HG8 := Lib.hid (HG.out.trans hg8)
    clear hg8
    go_wp2_with fail
    go_ret
    exact ⟨rfl, HG8.out⟩
end Go.Proofs.Ytfmmkdmnondomaa
