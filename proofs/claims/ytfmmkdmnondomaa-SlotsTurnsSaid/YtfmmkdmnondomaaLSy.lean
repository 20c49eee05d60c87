import Derived.Test.YtfmmkdmnondomaaLSE
/- The law SlotsTurns. -/
namespace Go.Proofs.Ytfmmkdmnondomaa
open Go.RowKit
set_option linter.unusedVariables false

theorem and_pow {n : Nat} (h : Os.D4 n) : bits .and .i64 (n : Int) ((n : Int) - 1) = 0 := by
  rcases h with rfl | rfl | rfl | rfl <;> kernel_rfl
theorem pk_odd {n t : Nat} (h : Os.D4 n) (ht : t < n / 2) (b : Bool) : Kd n (Os.pk n t b : Nat) := by
  have h2 := h.half
  have hlt : (if b then n / 2 + t else t) < n := by split <;> omega
  have h3 : Os.pk n t b = Os.Ex n (if b then n / 2 + t else t) := by cases b <;> rfl
  obtain ⟨o1, o2⟩ := Os.Ex.odd h hlt
  rw [h3]
  exact ⟨by omega, by omega, by omega⟩

set_option maxRecDepth 100000 in
set_option maxHeartbeats 4000000 in
theorem turns8_all (N : Int) (P : Nat) (R E : Int) (uA uB : Value) (A : List Int) (tu : Int) (b : Bool) (w : World) (hP : P ≤ 4294967295) (hR : -9223372036854775808 ≤ R ∧ R ≤ 9223372036854775807) (hE : -9223372036854775808 ≤ E ∧ E ≤ 9223372036854775807) (htu : -9223372036854775808 ≤ tu ∧ tu ≤ 9223372036854775807) (hA : Lo.HasQ w uA A) :
    Calls Try.prog 8 #[.agg #[.int .i64 N, .int .u32 P, .int .i64 R, .int .i64 E, uA, uB], .int .i64 tu, .bool b] w (Truth w) := by
  have HA := Lib.hid hA
  have HE := Lib.hid hE
  have HR := Lib.hid hR
  have HTU := Lib.hid htu
  obtain ⟨-, xa, ca, rfl, a1, a2, -⟩ := hA
  obtain ⟨la, hla⟩ : ∃ la, la = A.length := ⟨_, rfl⟩
  have HLA := Lib.hid hla
  rw [← hla] at HA a1 ⊢
  have HCB := Lib.hid (CB.new w N P R E (.slice xa la ca) uB)
  clear hla hE hR
  go_enter Try.func8, Try.ntmps8
  go_wp2_with fail
  refine (snew_any N P R _ hP HR.out).mono ?_
  rintro e w1 ⟨hg, ⟨n, r, q, x, s, T, rfl, rfl, hN, rfl, hT, -⟩ | ⟨hno, rfl⟩⟩
  · have HG := Lib.hid ((Gr.new w _).trans hg)
    have HC := Lib.hid (HCB.out.later hg)
    have HN := Lib.hid hN
    have HT := Lib.hid hT
    have c3 := HC.out.c3
    have c4 := HC.out.c4
    obtain ⟨d1, d2, d3, d4, -, -, -, -⟩ := hN.dims
    clear hg hN hT
    go_wp2_with fail
    refine (sDecode_any n P r q x s T E A _ _ HN.out HT.out (HA.out.later HG.out) HE.out).mono ?_
    rintro e w2 ⟨g2, m2, cp2, D, rfl, hq2, hd2, hf2, hg2⟩
    have HC := Lib.hid (HC.out.later hg2)
    have HG := Lib.hid (HG.out.trans hg2)
    have HT := Lib.hid (HT.out.later hg2)
    have HQD := Lib.hid hq2
    have c0 := HC.out.c0
    have c3 := HC.out.c3
    have c4 := HC.out.c4
    clear hq2 hg2 hf2
    by_cases hck : Ckd n P r E A
    · have HCK := Lib.hid hck
      rw [chkE_yes hck]
      obtain ⟨e1, e2, hvl⟩ := hck
      obtain ⟨en, rfl⟩ := Int.eq_ofNat_of_zero_le (show 0 ≤ E by omega)
      rw [Int.toNat_natCast] at hvl
      have HDC := Lib.hid (show Os.Dc n (P ^ en) x A D from by
        rcases hd2 with ⟨_, h⟩ | ⟨h, _⟩
        · rwa [Int.toNat_natCast] at h
        · exact absurd HCK.out h)
      have HVL := Lib.hid hvl
      obtain rfl : n = la := by rw [HLA.out, hvl.1]
      obtain rfl : n = m2 := by rw [HQD.out.len.1, HDC.out.1]
      clear hd2 hvl
      obtain ⟨t1, t2⟩ := trn_lt HN.out.rt.dim tu
      obtain ⟨t, ht⟩ : ∃ t, t = trn n tu := ⟨_, rfl⟩
      have HPK := Lib.hid (pk_odd HN.out.rt.dim t1 b)
      have HTT := Lib.hid t2
      have HTL := Lib.hid t1
      rw [← ht] at HPK HTT HTL
      obtain ⟨Q, hQ⟩ : ∃ Q, Q = P ^ en := ⟨_, rfl⟩
      have HQ := Lib.hid hQ
      have hlow := HN.out.low (e := en) (by omega) (by omega)
      rw [← hQ] at hlow
      obtain ⟨k1, k2, k3, k4, k5⟩ := hlow
      have HRT := Lib.hid k1
      have HT0 := Lib.hid ht
      clear t1 t2 ht hQ k1 k2 k5
      go_wp2_with fail
      refine (sPower_any n P r q x s T tu b _ HN.out HT.out HTU.out).mono ?_
      rintro e w3 ⟨rfl, hg3⟩
      rw [← HT0.out]
      have HC := Lib.hid (HC.out.later hg3)
      have HG := Lib.hid (HG.out.trans hg3)
      have HT := Lib.hid (HT.out.later hg3)
      have HQD := Lib.hid (HQD.out.later hg3)
      obtain ⟨K, hK⟩ : ∃ K, K = Os.pk n t b := ⟨_, rfl⟩
      have HK := Lib.hid hK
      rw [← hK] at HPK ⊢
      clear hg3 hK
      go_wp2_with fail
      refine (sMoves_any n P r q x s T (K : Int) _ HN.out HT.out (by have h := HPK.out; unfold Kd at h; omega)).mono ?_
      rintro e w4 ⟨g4, m4, cp4, L, rfl, hq4, hd4, hf4, hg4⟩
      rw [kE_yes HPK.out]
      have HMV := Lib.hid (show Os.Mv n K L from by
        rcases hd4 with ⟨_, h⟩ | ⟨h, _⟩
        · rwa [Int.toNat_natCast] at h
        · exact absurd HPK.out h)
      obtain rfl : n = m4 := by rw [hq4.len.1, HMV.out.1]
      have HC := Lib.hid (HC.out.later hg4)
      have HG := Lib.hid (HG.out.trans hg4)
      have HT := Lib.hid (HT.out.later hg4)
      have HQD := Lib.hid (HQD.out.later hg4)
      have HQL := Lib.hid hq4
      have c0 := HC.out.c0
      have c3 := HC.out.c3
      have c4 := HC.out.c4
      have u1 : decide ((n : Int) < 4) = false := by simp; omega
      have u2 : decide ((32 : Int) < (n : Int)) = false := by simp; omega
      have u3 := and_pow HN.out.rt.dim
      have u4 : ((n : Int) != (n : Int)) = false := by simp
      have hKd := HPK.out
      unfold Kd at hKd
      have u5 : decide ((K : Int) < 1) = false := by simp; omega
      have u6 : decide (2 * (n : Int) ≤ (K : Int)) = false := by simp; omega
      have u7 : ((K : Int) % 2 == 0) = false := by simp; omega
      have HKO := Lib.hid (show K % 2 = 1 by omega)
      have HKL := Lib.hid (show K < 2 * n by omega)
      clear hq4 hd4 hf4 hg4 hKd
      go_wp2_with fail
      clear u1 u2 u3 u4 u5 u6 u7
      have HW := Lib.hid (show Gr w4 w4.drew from (Gr.refl _).drewN 1)
      have HAW := Lib.hid (HA.out.later (HG.out.trans HW.out))
      have HVQ := Lib.hid (show Os.Vl n Q A from by rw [HQ.out]; exact HVL.out)
      have HTW := Lib.hid (HT.out.later HW.out)
      have HEE := HE
      go_region_held3 (fun wz => wz.cell? ⟨w.heap.size, 4, none⟩ = some (.slice xa n ca) ∧ wz.cell? ⟨w.heap.size, 3, none⟩ = some (.int .i64 en)) (go_keep)
        (first
          | (go_at_call 28; refine (rAuto8_any n Q K A _ _ HN.out.rt.dim HKO.out HKL.out HAW.out HVQ.out ⟨by omega, k4⟩).mono ?_; rintro e w5 ⟨l5, rfl, hrow, hau, hg5⟩; have HAU := Lib.hid hau; have HQ5 := Lib.hid (show Lo.HasQ w5 (.slice (some ⟨w4.drew.heap.size, 0, none⟩) n n) l5 from by have h := hrow.hasQ (cap := n) (by rw [hau.len]; exact Nat.le_refl _) (by omega); rwa [hau.len] at h); have HG5 := Lib.hid (HW.out.trans hg5); have c3 := hg5.keeps c3; have c4 := hg5.keeps c4; clear hrow hau hg5)
          | (go_at_call 16; refine (sDecode_any n P r q x s T (en : Int) l5 _ _ HN.out (HT.out.later HG5.out) HQ5.out HE.out).mono ?_; rintro e w6 ⟨g6, m6, cp6, F, rfl, hq6, hd6, hf6, hg6⟩; have HCA := Lib.hid (show Ckd n P r (en : Int) l5 from ⟨HCK.out.1, HCK.out.2.1, by rw [Int.toNat_natCast, ← HQ.out]; exact HAU.out.vl⟩); rw [chkE_yes HCA.out]; have HDF := Lib.hid hd6; have HQF := Lib.hid hq6; have HG6 := Lib.hid (HG5.out.trans hg6); have c3 := hg6.keeps c3; have c4 := hg6.keeps c4; clear hq6 hd6 hf6 hg6))
      have HDF2 := Lib.hid (show Os.Dc n Q x l5 F from by
        rcases HDF.out with ⟨_, h⟩ | ⟨h, _⟩
        · rwa [Int.toNat_natCast, ← HQ.out] at h
        · exact absurd HCA.out h)
      obtain rfl : n = m6 := by rw [HQF.out.len.1, HDF2.out.1]
      have HEQ := Lib.hid (show ∀ j, j < n → ∃ u : Nat, u = Os.tn n j t b ∧ u < n ∧ Op.cf L j = u ∧ Op.cf F j = Op.cf D u from fun j hj => by
        obtain ⟨u, u1, u2, u3⟩ := HMV.out.2 j hj
        obtain ⟨v1, v2⟩ := Os.turn (j := j) (t := t) (b := b) HN.out.rt.dim hj HTL.out
        rw [← HK.out, ← u3] at v2
        have e := Os.Ex.inj HN.out.rt.dim v1 u1 v2
        refine ⟨u, e.symm, u1, u2, ?_⟩
        have h1 := HDF2.out.2 j hj
        have h2 := HDC.out.2 u u1
        rw [← HQ.out] at h2
        exact h1.unique h2 ((HAU.out.val P Q x HRT.out j hj).trans (HRT.out.moved u3)))
      have HGG := Lib.hid (HG.out.trans HG6.out)
      have HQD := Lib.hid (HQD.out.later HG6.out)
      have HQL := Lib.hid (HQL.out.later HG6.out)
      have c0 := HG6.out.keeps c0
      obtain ⟨h, hh⟩ : ∃ h, h = n / 2 := ⟨_, rfl⟩
      have f1 : (n : Int) / 2 = (h : Int) := by omega
      have f2 := HN.out.rt.dim.half
      rw [← hh] at f2 HTL
      have f3 : ((n : Int) != (n : Int)) = false := by simp
      have HH := Lib.hid hh
      have HTT2 := Lib.hid (show (t : Int) = tu % (h : Int) from by rw [HH.out]; exact HTT.out)
      clear hh c3 c4 HTT
      go_wp2_with fail
      clear f3
      go_loopw [18, 19, 20] (fun z _ _ wr => ∃ j : Nat, z = .int .i64 j ∧ j ≤ n ∧ Gr w6 wr) (fun z _ _ _ => n - (intOf z).toNat)
      case atStart => exact ⟨0, rfl, by omega, Gr.refl _⟩
      case round =>
        obtain ⟨j, rfl, hj, hg⟩ := hrel
        have HGW := Lib.hid hg
        have c0 := hg.keeps c0
        clear hg
        by_cases hlt : j < n
        · have i1 : (j : Int) < (n : Int) := by omega
          obtain ⟨u, u1, u2, u3, u4⟩ := HEQ.out j hlt
          obtain ⟨gl, ol, rfl, cl⟩ := HasQ_at' (HQL.out.later HGW.out) (show j < L.length by rw [HMV.out.1]; exact hlt)
          obtain ⟨gf, of, rfl, cf⟩ := HasQ_at' (HQF.out.later HGW.out) (show j < F.length by rw [HDF2.out.1]; exact hlt)
          obtain ⟨gd, od, rfl, cd⟩ := HasQ_at' (HQD.out.later HGW.out) (show u < D.length by rw [HDC.out.1]; exact u2)
          rw [u3] at cl
          rw [u4] at cf
          obtain ⟨y, hy⟩ : ∃ y, Op.cf D u = y := ⟨_, rfl⟩
          rw [hy] at cf cd
          have h0 : ¬ h = 0 := by omega
          obtain ⟨jr, hjr⟩ : ∃ jr, jr = j / h := ⟨_, rfl⟩
          obtain ⟨jm, hjm⟩ : ∃ jm, jm = j % h := ⟨_, rfl⟩
          obtain ⟨C, hC⟩ : ∃ C, C = (jm + t) % h := ⟨_, rfl⟩
          have hjm2 : jm < h := by rw [hjm]; exact Nat.mod_lt _ (by omega)
          have hC2 : C < h := by rw [hC]; exact Nat.mod_lt _ (by omega)
          have hjr2 : jr < 2 := by rw [hjr]; exact Nat.div_lt_of_lt_mul (by omega)
          have v1 : (j : Int) / (h : Int) = (jr : Int) := by rw [hjr]; simp
          have v1' : (j : Int).tdiv (h : Int) = (jr : Int) := by rw [Int.tdiv_eq_ediv_of_nonneg (by omega)]; exact v1
          have v2 : (j : Int) % (h : Int) = (jm : Int) := by rw [hjm]; simp
          have v2' : (j : Int).tmod (h : Int) = (jm : Int) := by rw [Int.tmod_eq_emod_of_nonneg (by omega)]; exact v2
          obtain ⟨tt, v3⟩ : ∃ tt, tu.tmod (h : Int) = tt := ⟨_, rfl⟩
          have b1 : -(h : Int) < tt := by rw [← v3]; exact Int.lt_tmod_of_pos tu (by omega)
          have b2 : tt < (h : Int) := by rw [← v3]; exact Int.tmod_lt_of_pos tu (by omega)
          obtain ⟨vv, v5⟩ : ∃ vv, ((jm : Int) + tt).tmod (h : Int) = vv := ⟨_, rfl⟩
          have b3 : -(h : Int) < vv := by rw [← v5]; exact Int.lt_tmod_of_pos _ (by omega)
          have b4 : vv < (h : Int) := by rw [← v5]; exact Int.tmod_lt_of_pos _ (by omega)
          have v7 : (vv + (h : Int)).tmod (h : Int) = (C : Int) := by
            rw [← v5, tmod_turn (by omega), ← v3, hC, Int.natCast_emod, Int.natCast_add, HTT2.out]
            rw [Int.add_emod, ← tmod_emod, ← Int.add_emod, Int.add_emod_emod]
          have v4 : IntKind.i64.wrap ((jm : Int) + tt) = (jm : Int) + tt := IntWalk.i64_in _ (by omega)
          have v6 : IntKind.i64.wrap (vv + (h : Int)) = vv + (h : Int) := IntWalk.i64_in _ (by omega)
          have v8 : IntKind.i64.wrap (jr : Int) = (jr : Int) := IntWalk.i64_in _ (by omega)
          have v9 : IntKind.i64.wrap (jm : Int) = (jm : Int) := IntWalk.i64_in _ (by omega)
          have v10 : IntKind.i64.wrap tt = tt := IntWalk.i64_in _ (by omega)
          have v11 : IntKind.i64.wrap vv = vv := IntWalk.i64_in _ (by omega)
          have v12 : IntKind.i64.wrap (C : Int) = (C : Int) := IntWalk.i64_in _ (by omega)
          have i2 : (0 : Int) ≤ (j : Int) := by omega
          cases b with
          | false =>
            obtain ⟨R, hR⟩ : ∃ R, R = jr := ⟨_, rfl⟩
            obtain ⟨M, hM⟩ : ∃ M, M = R * h := ⟨_, rfl⟩
            have g1 : (jr : Int) = (R : Int) := by omega
            have g2 : (R : Int) * (h : Int) = (M : Int) := by rw [hM, Int.natCast_mul]
            have g3 : (M : Int) + (C : Int) = (u : Int) := by
              have e : u = M + C := by rw [u1, hM, hR, hjr, hC, hjm, HH.out]; rfl
              omega
            have g4 : M ≤ 32 := by omega
            have g5 : IntKind.i64.wrap (M : Int) = (M : Int) := IntWalk.i64_in _ (by omega)
            have g6 : IntKind.i64.wrap (u : Int) = (u : Int) := IntWalk.i64_in _ (by omega)
            have g7 : ((u : Int) != (u : Int)) = false := by simp
            have g8 : (y != y) = false := by simp
            have g9 : (0 : Int) ≤ (u : Int) := by omega
            have g10 : (u : Int) < (n : Int) := by omega
            clear hR hM hjr hC hjm u1 u3 u4 hy
            go_wp2_with fail
            go_quiet (fail)
            go_wp2_with fail
            go_quiet (fail)
            go_wp2_with fail
            go_roundw
            case rel => exact ⟨j + 1, by go_num, by omega, HGW.out.drewN _⟩
            case measure => simp [intOf]; omega
          | true =>
            obtain ⟨R, hR⟩ : ∃ R, R = 1 - jr := ⟨_, rfl⟩
            obtain ⟨M, hM⟩ : ∃ M, M = R * h := ⟨_, rfl⟩
            have g1 : (1 : Int) - (jr : Int) = (R : Int) := by omega
            have g2 : (R : Int) * (h : Int) = (M : Int) := by rw [hM, Int.natCast_mul]
            have g3 : (M : Int) + (C : Int) = (u : Int) := by
              have e : u = M + C := by rw [u1, hM, hR, hjr, hC, hjm, HH.out]; rfl
              omega
            have g4 : M ≤ 32 := by omega
            have g5 : IntKind.i64.wrap (M : Int) = (M : Int) := IntWalk.i64_in _ (by omega)
            have g6 : IntKind.i64.wrap (u : Int) = (u : Int) := IntWalk.i64_in _ (by omega)
            have g7 : ((u : Int) != (u : Int)) = false := by simp
            have g8 : (y != y) = false := by simp
            have g9 : (0 : Int) ≤ (u : Int) := by omega
            have g10 : (u : Int) < (n : Int) := by omega
            clear hR hM hjr hC hjm u1 u3 u4 hy
            go_wp2_with fail
            go_quiet (fail)
            go_wp2_with fail
            go_quiet (fail)
            go_wp2_with fail
            go_roundw
            case rel => exact ⟨j + 1, by go_num, by omega, HGW.out.drewN _⟩
            case measure => simp [intOf]; omega
        · obtain rfl : j = n := by omega
          have i1 : ¬ (j : Int) < (j : Int) := by omega
          go_wp2_with fail
          refine (awake8_any _).mono ?_
          rintro e w8 ⟨rfl, hg8⟩
          have HG8 := Lib.hid ((HGG.out.trans HGW.out).trans hg8)
          clear hg8
          go_wp2_with fail
          go_ret
          exact ⟨rfl, HG8.out⟩
    · rw [chkE_no hck]
      clear hck hd2
      go_wp2_with fail
      refine (awake8_any _).mono ?_
      rintro e w8 ⟨rfl, hg8⟩
      have HG8 := Lib.hid (HG.out.trans hg8)
      clear hg8
      go_wp2_with fail
      go_ret
      exact ⟨rfl, HG8.out⟩
  · have HG := Lib.hid ((Gr.new w _).trans hg)
    clear hg hno
    go_wp2_with fail
    refine (awake8_any _).mono ?_
    rintro e w8 ⟨rfl, hg8⟩
    have HG8 := Lib.hid (HG.out.trans hg8)
    clear hg8
    go_wp2_with fail
    go_ret
    exact ⟨rfl, HG8.out⟩
end Go.Proofs.Ytfmmkdmnondomaa
