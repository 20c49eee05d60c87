import Derived.Test.YtjbfghnihnmpjaaLTn
/- The law TransformValues. -/
namespace Ot
open Op
set_option linter.unusedVariables false
theorem fo_zero {q psi t : Nat} (hq : 2 ≤ q) : fo q psi 0 t = 1 := by
  unfold fo
  rw [Nat.zero_mul, Nat.pow_zero, Nat.mod_eq_of_lt (by omega)]; rfl
theorem fo_next {q psi i t : Nat} (hq : 1 ≤ q) : fo q psi i t * fo q psi 1 t % q = fo q psi (i + 1) t := by
  refine C.eq (q := q) ?_ ⟨Int.emod_nonneg _ (by omega), Int.emod_lt_of_pos _ (by omega)⟩ (fo_lt hq)
  exact (C.mod q _).trans (fo_add (n := 1) i 1 t).symm
theorem Rt.last {n q psi : Nat} (h : Rt n q psi) (t : Nat) : fo q psi n t = q - 1 := by
  have hq := h.pr.1
  refine C.eq (q := q) ?_ (fo_lt (by omega)) (by omega)
  refine (h.odd t).trans ?_
  show (q : Int) ∣ _
  exact ⟨-1, by omega⟩
theorem Rt.differ {n q psi : Nat} (h : Rt n q psi) {k j : Nat} (hk : k < j) (hj : j < n) : fo q psi 1 k ≠ fo q psi 1 j := fun e => by
  unfold fo at e
  rw [Nat.one_mul, Nat.one_mul] at e
  have := h.ord.inj h.pr (by omega) (2 * k + 1) (2 * j + 1) (by omega) (by omega) (by omega)
  omega
theorem fw_one {n q psi : Nat} (hq : 2 ≤ q) {l : List Int} (hl : ∀ i, cf l i = if i = 1 then 1 else 0) (hn : 2 ≤ n) {k : Nat} (hk : k < n) : cf (fw n q psi l) k = fo q psi 1 k := by
  refine C.eq (q := q) ?_ (cf_tl_lt (by omega) k) (fo_lt (by omega))
  rw [fw, cf_tl hk]
  have h1 := at_C n q 1 (fo q psi) l k
  rw [Int.one_mul] at h1
  refine h1.trans ?_
  have h2 := S_one (m := (q : Int)) (f := fun i => cf l i * fo q psi i k) (s := 1) (n := n) (by omega) (fun i _ hne => by
    show (q : Int) ∣ cf l i * fo q psi i k
    rw [hl, if_neg hne, Int.zero_mul]; exact ⟨0, by omega⟩)
  rw [hl, if_pos rfl, Int.one_mul] at h2
  exact h2
theorem fw_at {n q psi : Nat} (hq : 1 ≤ q) {a : List Int} {k : Nat} (hk : k < n) : cf (fw n q psi a) k = S n (fun i => cf a i * fo q psi i k) % q := by
  rw [fw, cf_tl hk, at_, Int.one_mul]
  exact Int.emod_eq_of_lt (Int.emod_nonneg _ (by omega)) (Int.emod_lt_of_pos _ (by omega))
end Ot
namespace Go.Proofs.Ytjbfghnihnmpjaa
open Go.RowKit
set_option linter.unusedVariables false

theorem one_list (n : Nat) (hn : 2 ≤ n) (i : Nat) : Op.cf ((List.replicate n (0 : Int)).set 1 1) i = if i = 1 then 1 else 0 := by
  rw [cf_set _ _ _ (by simp; omega), cf_rep]
theorem Row.one (w : World) (n : Nat) (hn : 2 ≤ n) : Row (w.alloc (.cells ((zrow n).setIfInBounds 1 (.int .u32 1)) 22)) w.heap.size ((List.replicate n (0 : Int)).set 1 1) := by
  refine ⟨fun y hy => ?_, _, Rw.new w _, by rw [Array.size_setIfInBounds, zrow_size]; simp, fun j hj => ?_⟩
  · rcases List.mem_or_eq_of_mem_set hy with h | rfl
    · rw [List.eq_of_mem_replicate h]; omega
    · omega
  · rw [one_list n hn, Array.getElem?_setIfInBounds]
    have hj' : j < n := by simpa using hj
    by_cases e : 1 = j
    · subst e; rw [if_pos rfl, if_pos rfl, if_pos (by rw [zrow_size]; omega)]
    · rw [if_neg e, if_neg (fun h => e h.symm), zrow_at n j hj']
theorem one_isL {n q : Nat} (hn : 2 ≤ n) (hq : 2 ≤ q) : IsL n q ((List.replicate n (0 : Int)).set 1 1) := ⟨by simp, fun i _ => by
  rw [one_list n hn]; split <;> omega⟩

set_option maxRecDepth 200000 in
set_option maxHeartbeats 8000000 in
theorem transformValues_all (n : Int) (q : Nat) (a b : List Int) (u v : Value) (w : World) (hn : -9223372036854775808 ≤ n ∧ n ≤ 9223372036854775807) (hq : q ≤ 4294967295) (hu : HasP w u a) (hv : HasP w v b) :
    Calls Try.prog 9 #[.agg #[.int .i64 n, .int .u32 q, u, v]] w (Truth w) := by
  have HU := Lib.hid hu
  obtain ⟨-, xa, ca, rfl, a1, a2, -⟩ := hu
  obtain ⟨-, xb, cb, rfl, b1, b2, -⟩ := hv
  obtain ⟨la, hla⟩ : ∃ la, la = a.length := ⟨_, rfl⟩
  obtain ⟨lb, hlb⟩ : ∃ lb, lb = b.length := ⟨_, rfl⟩
  rw [← hla] at HU a1 ⊢
  rw [← hlb] at b1 ⊢
  have HLA := Lib.hid hla
  obtain ⟨n1, n2⟩ := hn
  clear hla hlb
  go_enter Try.func9, Try.ntmps9
  go_wp2_with fail
  obtain ⟨W, hW⟩ : ∃ W, W = w.alloc (.cells #[.int .i64 n, .int .u32 q, .slice xa la ca, .slice xb lb cb] 29) := ⟨_, rfl⟩
  have HG0 := Lib.hid (show Gr w W from by rw [hW]; exact Gr.new _ _)
  have c0 : W.cell? ⟨w.heap.size, 0, none⟩ = some (.int .i64 n) := by rw [hW]; simp [go_sem]
  have c1 : W.cell? ⟨w.heap.size, 1, none⟩ = some (.int .u32 q) := by rw [hW]; simp [go_sem]
  have c2 : W.cell? ⟨w.heap.size, 2, none⟩ = some (.slice xa la ca) := by rw [hW]; simp [go_sem]
  rw [← hW]
  have HUW := Lib.hid (show HasP W (.slice xa la ca) a from HU.out.later HG0.out)
  clear hW
  refine (new_any n q _ hq).mono ?_
  rintro e w1 ⟨hg, h⟩
  have HGW := Lib.hid hg
  have c0 := hg.keeps c0
  have c1 := hg.keeps c1
  have c2 := hg.keeps c2
  clear hg
  rcases h with ⟨m, psi, s, T, rfl, hN, rfl, ht, htw⟩ | ⟨hf, rfl⟩
  · have HN := Lib.hid hN
    have HT := Lib.hid ht
    obtain ⟨m1, m2, q1, q2, hpsi, -⟩ := hN.dims
    clear hN ht htw
    go_wp2_with fail
    refine (pFwd_any m q psi s T a _ _ HN.out HT.out (HUW.out.later HGW.out)).mono ?_
    rintro e w2 ⟨x1, p1, k1, rfl, hx, hfr, hg⟩
    have HF1 := Lib.hid hx
    have HG2 := Lib.hid (HGW.out.trans hg)
    have HT2 := Lib.hid (HT.out.later hg)
    have c0 := hg.keeps c0
    have c1 := hg.keeps c1
    have c2 := hg.keeps c2
    clear hx hfr hg
    rcases chkT_one m q a with ⟨hl, hc⟩ | ⟨hl, hc⟩
    · rw [hc]
      have HL := Lib.hid hl
      have HE1 := Lib.hid (show fwL m q psi a = Ot.fw m q psi a from if_pos hl)
      have hlm : la = m := by have := HLA.out; have := hl.1; omega
      have HN1 := Lib.hid (show p1 = m by rw [HF1.out.len.1]; exact fwL_len hl)
      clear hl hc
      obtain rfl := hlm
      obtain rfl := HN1.out
      have hq0 : ((q : Int) == 0) = false := by simp; omega
      have i1 : ¬ (p1 : Int) < 2 := by omega
      have i2 : ¬ (p1 : Int) > 32 := by omega
      have hmk := mk_row p1 (p1 : Int) (by omega) (by omega)
      have HROW := Lib.hid (Row.one w2 p1 (by omega))
      have hz1 := (Row.zeros w2 p1).cell (j := 1) (by simp; omega)
      rw [cf_rep] at hz1
      have hz2 := (Row.zeros w2 p1).frozen 1
      go_wp2_with fail
      obtain ⟨E1, hE1⟩ : ∃ E1, E1 = (List.replicate p1 (0 : Int)).set 1 1 := ⟨_, rfl⟩
      have HLO := Lib.hid (show IsL p1 q E1 from by rw [hE1]; exact one_isL m1 q1)
      have HCO := Lib.hid ((chkT_one p1 q E1).resolve_right (fun h => h.1 HLO.out)).2
      have HVO := Lib.hid (fun k (hk : k < p1) => (show Op.cf (fwL p1 q psi E1) k = Ot.fo q psi 1 k from by
        rw [fwL, if_pos HLO.out]; exact Ot.fw_one q1 (fun i => by rw [hE1]; exact one_list p1 m1 i) m1 hk))
      have HVA := Lib.hid (fun k (hk : k < p1) => (show Op.cf (fwL p1 q psi a) k = Op.S p1 (fun i => Op.cf a i * Ot.fo q psi i k) % q from by
        rw [HE1.out]; exact Ot.fw_at (by omega) hk))
      rw [← hE1] at HROW
      have hPE := HROW.out.hasP (cap := p1) (by rw [HLO.out.1]; exact Nat.le_refl _) (by omega)
      rw [HLO.out.1] at hPE
      have HPE := Lib.hid hPE
      have HRT := Lib.hid HN.out.rt
      have HT3 := Lib.hid (HT2.out.later (Gr.new w2 (.cells ((zrow p1).setIfInBounds 1 (.int .u32 1)) 22)))
      have c0 := (Gr.new w2 (.cells ((zrow p1).setIfInBounds 1 (.int .u32 1)) 22)).keeps c0
      have c1 := (Gr.new w2 (.cells ((zrow p1).setIfInBounds 1 (.int .u32 1)) 22)).keeps c1
      have c2 := (Gr.new w2 (.cells ((zrow p1).setIfInBounds 1 (.int .u32 1)) 22)).keeps c2
      have HF3 := Lib.hid (HF1.out.later (Gr.new w2 (.cells ((zrow p1).setIfInBounds 1 (.int .u32 1)) 22)))
      have HG3 := Lib.hid (HG2.out.trans (Gr.new w2 (.cells ((zrow p1).setIfInBounds 1 (.int .u32 1)) 22)))
      clear hE1 hPE hz1 hz2 hmk
      refine (pFwd_any p1 q psi s T E1 _ _ HN.out HT3.out HPE.out).mono ?_
      rintro e w4 ⟨x2, p2, k2, rfl, hx, hfr, hg⟩
      rw [HCO.out]
      have HN2 := Lib.hid (show p2 = p1 by rw [hx.len.1]; exact fwL_len HLO.out)
      obtain rfl := HN2.out
      have HPL := Lib.hid hx
      have HFA := Lib.hid (HF3.out.later hg)
      have HG4 := Lib.hid (HG3.out.trans hg)
      have HT4 := Lib.hid (HT3.out.later hg)
      have b0 := hg.keeps c0
      have b1' := hg.keeps c1
      have b2' := hg.keeps c2
      clear c0 c1 c2
      obtain ⟨g2, o2, rfl, r0, -, -, hpk⟩ := hx.el (k := 0) (by omega)
      have f0 : Ot.fo q psi 1 0 = psi := by
        unfold Ot.fo
        rw [Nat.one_mul, Nat.mul_zero, Nat.zero_add, Nat.pow_one, Nat.mod_eq_of_lt hpsi]
      rw [HVO.out 0 (by omega), f0, Nat.add_zero] at r0
      have HRO := Lib.hid (fun W (hT : IsTab W T p2 q psi s) => tRoot_same p2 q psi s T W hT HN.out)
      have j0 : (0 : Int) < (p2 : Int) := by omega
      have j1 : 0 < p2 := by omega
      clear hx hfr hg f0
      go_wp2_with fail
      go_quiet ((go_at_call 22; exact Calls.quiet_of_same (HRO.out _ (HT4.out.later ((Gr.refl _).drewN _)))))
      clear r0 j0
      go_wp2_with fail
      go_loopw [10, 11, 12, 13, 14] (fun t _ _ _ _ wr => ∃ j : Nat, t = .int .i64 j ∧ j ≤ p2 ∧ Gr w4 wr) (fun t _ _ _ _ _ => p2 - (intOf t).toNat)
      case atStart => exact ⟨0, rfl, by omega, (Gr.refl w4).drewN _⟩
      case round =>
        obtain ⟨j, rfl, hj, hg⟩ := hrel
        have HG5 := Lib.hid hg
        have d0 := hg.keeps b0
        have d1 := hg.keeps b1'
        have d2 := hg.keeps b2'
        clear hg
        by_cases hlt : j < p2
        · have i3 : (j : Int) < (p2 : Int) := by omega
          have i4 : (0 : Int) ≤ (j : Int) := by omega
          go_wp2_with fail
          go_loopw [11, 12, 13] (fun x z t wi => ∃ (i : Nat) (y s : Int), x = .int .u64 y ∧ z = .int .u64 s ∧ t = .int .i64 i ∧ i ≤ p2 ∧ y = Ot.fo q psi i j ∧ s = Op.S i (fun k => Op.cf a k * Ot.fo q psi k j) % q ∧ 0 ≤ s ∧ s < q ∧ Gr w4 wi) (fun _ _ t _ => p2 - (intOf t).toNat)
          case atStart => exact ⟨0, 1, 0, rfl, rfl, rfl, by omega, (Ot.fo_zero q1).symm, by simp [Op.S], by omega, by omega, HG5.out⟩
          case round =>
            obtain ⟨i, y, s, rfl, rfl, rfl, hi, hy, hs, s0, s1, hg⟩ := hrel
            have HG6 := Lib.hid hg
            have e0 := hg.keeps b0
            have e1 := hg.keeps b1'
            have e2 := hg.keeps b2'
            have hyb := Ot.fo_lt (q := q) (psi := psi) (i := i) (k := j) (by omega)
            rw [← hy] at hyb
            obtain ⟨y0, y1⟩ := hyb
            have HY := Lib.hid hy
            have HS := Lib.hid hs
            clear hy hs
            by_cases hil : i < p2
            · have i5 : (i : Int) < (p2 : Int) := by omega
              have i6 : (0 : Int) ≤ (i : Int) := by omega
              obtain ⟨gA, oA, rfl, cA, A0, -, lA⟩ := (HUW.out.later (HG4.out.trans hg)).el hil
              obtain ⟨gP, oP, eP, cP, P0, -, lP⟩ := (HPL.out.later hg).el hlt
              cases eP
              rw [HVO.out j hlt] at cP P0
              have A1 := HL.out.2 i (by have := HLA.out; omega)
              have P1 := (Ot.fo_lt (q := q) (psi := psi) (i := 1) (k := j) (by omega)).2
              obtain ⟨x, hx⟩ : ∃ x, x = Op.cf a i := ⟨_, rfl⟩
              obtain ⟨r, hr⟩ : ∃ r, r = Ot.fo q psi 1 j := ⟨_, rfl⟩
              rw [← hx] at cA A0 A1
              rw [← hr] at cP P0 P1
              have hz0 := emod_lo (s + x * y) q (by omega)
              have hz1 := emod_hi (s + x * y) q (by omega)
              have hs2 := Ot.S_step q (fun k => Op.cf a k * Ot.fo q psi k j) i s x y HS.out (by rw [hx, HY.out])
              obtain ⟨z, hz⟩ : ∃ z, z = (s + x * y) % q := ⟨_, rfl⟩
              have hy2 : y * r % q = Ot.fo q psi (i + 1) j := by rw [HY.out, hr]; exact Ot.fo_next (by omega)
              have ht0 := emod_lo (y * r) q (by omega)
              have ht1 := emod_hi (y * r) q (by omega)
              obtain ⟨t, ht⟩ : ∃ t, t = y * r % q := ⟨_, rfl⟩
              have p0 := mul_lo A0 y0
              have p1 : x * y ≤ 4611686014132420609 := by
                have h1 : x * y ≤ 2147483647 * y := Int.mul_le_mul_of_nonneg_right (by omega) y0
                omega
              have p3 := mul_lo y0 P0
              have p4 : y * r ≤ 4611686014132420609 := by
                have h1 : y * r ≤ 2147483647 * r := Int.mul_le_mul_of_nonneg_right (by omega) P0
                omega
              have v1 : IntKind.u64.wrap x = x := IntWalk.u64_in _ (by omega)
              have v2 : IntKind.u64.wrap r = r := IntWalk.u64_in _ (by omega)
              have v3 : IntKind.u64.wrap (q : Int) = q := IntWalk.u64_in _ (by omega)
              have v4 : IntKind.u64.wrap (x * y) = x * y := IntWalk.u64_in _ (by omega)
              have v4' : IntKind.u64.wrap (s + x * y) = s + x * y := IntWalk.u64_in _ (by omega)
              have v5 : (s + x * y).tmod (q : Int) = z := by rw [hz]; exact Int.tmod_eq_emod_of_nonneg (by omega)
              have v6 : (s + x * y) % (q : Int) = z := hz.symm
              rw [v6] at hz0 hz1 hs2
              have v7 : IntKind.u64.wrap z = z := IntWalk.u64_in _ (by omega)
              have v8 : IntKind.u64.wrap (y * r) = y * r := IntWalk.u64_in _ (by omega)
              have v9 : (y * r).tmod (q : Int) = t := by rw [ht]; exact Int.tmod_eq_emod_of_nonneg p3
              have v10 : y * r % (q : Int) = t := ht.symm
              rw [v10] at ht0 ht1 hy2
              have v11 : IntKind.u64.wrap t = t := IntWalk.u64_in _ (by omega)
              have HZ2 := Lib.hid hs2
              have HT2' := Lib.hid hy2
              have hqz : ¬ q = 0 := by omega
              clear hx hr hz ht hs2 hy2 hg
              go_wp2_with fail
              go_quiet (fail)
              go_wp2_with fail
              go_quiet (fail)
              clear v1 v2 v3 v4 v4' v5 v6 v7 v8 v9 v10 v11
              go_wp2_with fail
              go_roundw
              case rel => exact ⟨i + 1, t, z, rfl, rfl, by go_num, by omega, HT2'.out, HZ2.out, hz0, hz1, HG6.out.drewN _⟩
              case measure => simp [intOf]; omega
            · obtain rfl : i = p2 := by omega
              have i5 : ¬ (i : Int) < (i : Int) := by omega
              obtain ⟨gA, oA, eA, cA, -, -, lA⟩ := (HFA.out.later hg).el hlt
              cases eA
              rw [HVA.out j hlt, ← HS.out] at cA
              obtain rfl : y = (q : Int) - 1 := by rw [HY.out]; exact HRT.out.last j
              clear hg HY
              have j2 : (j : Int) ≤ (k1 : Int) := by omega
              go_wp2_with fail
              go_loopw [14] (fun t wi => ∃ k : Nat, t = .int .i64 k ∧ k ≤ j ∧ Gr w4 wi) (fun t _ => j - (intOf t).toNat)
              case atStart => exact ⟨0, rfl, by omega, HG6.out⟩
              case round =>
                obtain ⟨k, rfl, hk, hg⟩ := hrel
                have HG7 := Lib.hid hg
                have e0 := hg.keeps b0
                have e1 := hg.keeps b1'
                by_cases hkj : k < j
                · have i6 : (k : Int) < (j : Int) := by omega
                  have i7 : (0 : Int) ≤ (k : Int) := by omega
                  have i8 : (k : Int) < (i : Int) := by omega
                  obtain ⟨gP, oP, eP, cP, -, -, lP⟩ := (HPL.out.later hg).el hlt
                  cases eP
                  obtain ⟨gK, oK, eK, cK, -, -, -⟩ := (HPL.out.later hg).el (k := k) (by omega)
                  cases eK
                  rw [HVO.out j hlt] at cP
                  rw [HVO.out k (by omega)] at cK
                  have hne : (Ot.fo q psi 1 k == Ot.fo q psi 1 j) = false := by simpa using HRT.out.differ hkj hlt
                  obtain ⟨xk, hxk⟩ : ∃ xk, xk = Ot.fo q psi 1 k := ⟨_, rfl⟩
                  obtain ⟨xj, hxj⟩ : ∃ xj, xj = Ot.fo q psi 1 j := ⟨_, rfl⟩
                  rw [← hxk] at cK hne
                  rw [← hxj] at cP hne
                  clear hg hxk hxj
                  go_wp2_with fail
                  go_quiet (fail)
                  go_wp2_with fail
                  go_roundw
                  case rel => exact ⟨k + 1, by go_num, by omega, HG7.out.drewN _⟩
                  case measure => simp [intOf]; omega
                · obtain rfl : k = j := by omega
                  have i6 : ¬ (k : Int) < (k : Int) := by omega
                  clear hg
                  go_wp2_with fail
                  go_roundw
                  case rel => exact ⟨k + 1, by go_num, by omega, HG7.out⟩
                  case measure => simp [intOf]; omega
        · obtain rfl : j = p2 := by omega
          have i3 : ¬ (j : Int) < (j : Int) := by omega
          go_wp2_with fail
          refine (awake_any _).mono ?_
          rintro e wz ⟨rfl, hg⟩
          have HGz := Lib.hid (HG0.out.trans (HG4.out.trans (HG5.out.trans hg)))
          clear hg
          go_wp2_with fail
          go_ret
          exact ⟨rfl, HGz.out⟩
    · rw [hc]
      clear hl hc
      go_wp2_with fail
      refine (awake_any _).mono ?_
      rintro e w4 ⟨rfl, hg⟩
      have HG4 := Lib.hid (HG0.out.trans (HG2.out.trans hg))
      clear hg
      go_wp2_with fail
      go_ret
      exact ⟨rfl, HG4.out⟩
  · clear hf
    go_wp2_with fail
    refine (awake_any _).mono ?_
    rintro e w2 ⟨rfl, hg⟩
    have HG2 := Lib.hid (HG0.out.trans (HGW.out.trans hg))
    clear hg
    go_wp2_with fail
    go_ret
    exact ⟨rfl, HG2.out⟩
end Go.Proofs.Ytjbfghnihnmpjaa
