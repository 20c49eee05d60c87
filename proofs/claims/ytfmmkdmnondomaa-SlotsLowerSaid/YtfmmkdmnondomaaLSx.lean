import Derived.Test.YtfmmkdmnondomaaLSE
/- The law SlotsLower. -/
namespace Go.Proofs.Ytfmmkdmnondomaa
open Go.RowKit
set_option linter.unusedVariables false

theorem SN.seven {n p r q x s : Nat} (h : SN n p r q x s) : r ≤ 7 := by
  have hf := h.fits
  obtain ⟨_, _, h1⟩ := hf
  rw [Int.toNat_natCast] at h1
  have hd := h.rt.dim
  have hp := h.rt.pr
  have h2 := h.rt.two
  have h8 : p % 8 = 1 := by
    have h3 : 8 ∣ 2 * n := by rcases hd with rfl | rfl | rfl | rfl <;> decide
    rw [← Nat.mod_mod_of_dvd p h3, h1]
  have h17 : 17 ≤ p := by
    have h9 : p ≠ 9 := fun e => by
      subst e
      exact hp.2 3 (by omega) (by omega) ⟨3, rfl⟩
    omega
  apply Classical.byContradiction
  intro hn
  have h4 : 17 ^ 8 ≤ p ^ r := Nat.le_trans (Nat.pow_le_pow_left h17 8) (Nat.pow_le_pow_right (by omega) (by omega))
  have h5 := h.le
  rw [h.hq] at h5
  have h6 : (17 : Nat) ^ 8 = 6975757441 := by decide
  omega
/-- A prefix, balanced. -/
def pre (A : List Int) (m k : Nat) : List Int := (A.take k).map (fun x => rb x m)
theorem pre_len {A : List Int} {m k : Nat} (h : k ≤ A.length) : (pre A m k).length = k := by simp [pre]; omega
theorem cf_pre {A : List Int} {m k i : Nat} (hk : k ≤ A.length) (hi : i < k) : Op.cf (pre A m k) i = rb (Op.cf A i) m := by
  rw [← Op.cf_at, ← Op.cf_at]
  have h : i < A.length := by omega
  simp [pre, hi, h]
theorem pre_succ {A : List Int} {m k : Nat} (h : k < A.length) : pre A m (k + 1) = pre A m k ++ [rb (Op.cf A k) m] := by
  unfold pre
  rw [take_succ_cf h, List.map_append]; rfl
theorem rb_i64 {x : Int} {m : Nat} (h3 : 3 ≤ m) (ho : m % 2 = 1) (hm : m ≤ 2147483647) : -2147483648 ≤ rb x m ∧ rb x m ≤ 2147483647 := by
  have h := (rb_bl (x := x) h3 ho).2
  omega

set_option maxRecDepth 100000 in
set_option maxHeartbeats 4000000 in
theorem lower8_all (N : Int) (P : Nat) (R E : Int) (uA uB : Value) (A : List Int) (lo : Int) (w : World) (hP : P ≤ 4294967295) (hR : -9223372036854775808 ≤ R ∧ R ≤ 9223372036854775807) (hE : -9223372036854775808 ≤ E ∧ E ≤ 9223372036854775807) (hlo : -9223372036854775808 ≤ lo ∧ lo ≤ 9223372036854775807) (hA : Lo.HasQ w uA A) :
    Calls Try.prog 10 #[.agg #[.int .i64 N, .int .u32 P, .int .i64 R, .int .i64 E, uA, uB], .int .i64 lo] w (Truth w) := by
  have HA := Lib.hid hA
  have HE := Lib.hid hE
  have HR := Lib.hid hR
  have HLO := Lib.hid hlo
  obtain ⟨-, xa, ca, rfl, a1, a2, -⟩ := hA
  obtain ⟨la, hla⟩ : ∃ la, la = A.length := ⟨_, rfl⟩
  have HLA := Lib.hid hla
  rw [← hla] at HA a1 ⊢
  have HCB := Lib.hid (CB.new w N P R E (.slice xa la ca) uB)
  clear hla hE hR hlo
  go_enter Try.func10, Try.ntmps10
  go_wp2_with fail
  refine (snew_any N P R _ hP HR.out).mono ?_
  rintro e w1 ⟨hg, ⟨n, r, q, x, s, T, rfl, rfl, hN, rfl, hT, -⟩ | ⟨hno, rfl⟩⟩
  · have HG := Lib.hid ((Gr.new w _).trans hg)
    have HC := Lib.hid (HCB.out.later hg)
    have HN := Lib.hid hN
    have HT := Lib.hid hT
    have c3 := HC.out.c3
    have c4 := HC.out.c4
    obtain ⟨d1, d2, d3, d4, -, -, -, -⟩ := hN.dims
    clear hg hN hT
    go_wp2_with fail
    refine (sDecode_any n P r q x s T E A _ _ HN.out HT.out (HA.out.later HG.out) HE.out).mono ?_
    rintro e w2 ⟨g2, m2, cp2, D, rfl, hq2, hd2, hf2, hg2⟩
    have HC := Lib.hid (HC.out.later hg2)
    have HG := Lib.hid (HG.out.trans hg2)
    have HT := Lib.hid (HT.out.later hg2)
    have HQD := Lib.hid hq2
    have c0 := HC.out.c0
    have c1 := HC.out.c1
    have c2 := HC.out.c2
    have c3 := HC.out.c3
    have c4 := HC.out.c4
    clear hq2 hg2 hf2
    by_cases hck : Ckd n P r E A
    · have HCK := Lib.hid hck
      rw [chkE_yes hck]
      obtain ⟨e1, e2, hvl⟩ := hck
      obtain ⟨en, rfl⟩ := Int.eq_ofNat_of_zero_le (show 0 ≤ E by omega)
      rw [Int.toNat_natCast] at hvl
      have HDC := Lib.hid (show Os.Dc n (P ^ en) x A D from by
        rcases hd2 with ⟨_, h⟩ | ⟨h, _⟩
        · rwa [Int.toNat_natCast] at h
        · exact absurd HCK.out h)
      have HVL := Lib.hid hvl
      obtain rfl : n = la := by rw [HLA.out, hvl.1]
      obtain rfl : n = m2 := by rw [HQD.out.len.1, HDC.out.1]
      clear hd2 hvl
      by_cases l1 : lo < 1
      · have t1 : decide (lo < 1) = true := by simpa using l1
        go_wp2_with fail
        refine (awake8_any _).mono ?_
        rintro e w8 ⟨rfl, hg8⟩
        have HG8 := Lib.hid (HG.out.trans hg8)
        clear hg8
        go_wp2_with fail
        go_ret
        exact ⟨rfl, HG8.out⟩
      have t1 : decide (lo < 1) = false := by simpa using l1
      by_cases l2 : (en : Int) < lo
      · have t2 : decide ((en : Int) < lo) = true := by simpa using l2
        go_wp2_with fail
        refine (awake8_any _).mono ?_
        rintro e w8 ⟨rfl, hg8⟩
        have HG8 := Lib.hid (HG.out.trans hg8)
        clear hg8
        go_wp2_with fail
        go_ret
        exact ⟨rfl, HG8.out⟩
      have t2 : decide ((en : Int) < lo) = false := by simpa using l2
      obtain ⟨ln, rfl⟩ := Int.eq_ofNat_of_zero_le (show 0 ≤ lo by omega)
      have hr7 := HN.out.seven
      have t3 : decide ((7 : Int) < (r : Int)) = false := by simp; omega
      have t4 : decide ((r : Int) < (en : Int)) = false := by simp; omega
      have t5 : ((n : Int) != (n : Int)) = false := by simp
      have t6 : decide ((P : Int) < 3) = false := by simp; omega
      have l3 : 1 ≤ ln := by omega
      have l4 : ln ≤ en := by omega
      have l5 : ln ≤ r := by omega
      have l6 : ln ≤ 7 := by omega
      obtain ⟨Q, hQ⟩ : ∃ Q, Q = P ^ ln := ⟨_, rfl⟩
      have HQ := Lib.hid hQ
      have hlow := HN.out.low l3 l5
      rw [← hQ] at hlow
      obtain ⟨k1, k2, k3, k4, k5⟩ := hlow
      have k6 := k1.pos
      have HRT := Lib.hid k1
      have HQD2 := Lib.hid (show Q ∣ P ^ en from by rw [hQ]; exact Nat.pow_dvd_pow P l4)
      clear l1 l2 hQ k1 k2
      go_wp2_with fail
      go_loopw [9, 10] (fun a t wr => ∃ i M : Nat, t = .int .i64 i ∧ a = .int .i64 M ∧ i ≤ ln ∧ M = P ^ i ∧ wr = w2) (fun _ t _ => ln - (intOf t).toNat)
      case atStart => exact ⟨0, 1, rfl, rfl, by omega, by simp, rfl⟩
      case round =>
        obtain ⟨i, M, rfl, rfl, hi, hM, rfl⟩ := hrel
        have HM := Lib.hid hM
        clear hM
        by_cases hlt : i < ln
        · have i5 : (i : Int) < (ln : Int) := by omega
          have HQQ := Lib.hid (show M * P = P ^ (i + 1) from by rw [HM.out, Nat.pow_succ])
          have hQQ : M * P ≤ 2147483647 := by
            rw [HQQ.out]
            refine Nat.le_trans (Nat.pow_le_pow_right (by omega) (show i + 1 ≤ ln by omega)) ?_
            rw [← HQ.out]; exact k4
          obtain ⟨Q', hQe⟩ : ∃ Q' : Nat, Q' = M * P := ⟨_, rfl⟩
          have q1 : (M : Int) * (P : Int) = (Q' : Int) := by rw [hQe, Int.natCast_mul]
          rw [← hQe] at HQQ hQQ
          have q0 : 0 ≤ (M : Int) * (P : Int) := by rw [q1]; omega
          have q2 : (M : Int) * (P : Int) ≤ 2147483647 := by rw [q1]; omega
          have HQ1 := Lib.hid q1
          clear q1 hQe
          go_wp2_with fail
          go_roundw
          case rel => exact ⟨i + 1, Q', by go_num, by rw [HQ1.out], by omega, HQQ.out, trivial⟩
          case measure => simp [intOf]; omega
        · obtain rfl : i = ln := by omega
          have i5 : ¬ (i : Int) < (i : Int) := by omega
          obtain rfl : Q = M := by rw [HQ.out, HM.out]
          clear t1 t2 t3 t4 t5 t6
          go_wp2_with fail
          obtain ⟨wo, rfl⟩ : ∃ wo : World, wo = wr := ⟨_, rfl⟩
          go_loopw [11, 12] (fun v t ws => ∃ (k : Nat) (va : Option Addr) (vc : Nat), t = .int .i64 k ∧ k ≤ n ∧ v = .slice va k vc ∧ Lo.Own1 ws wo.heap.size (.slice va k vc) (pre A Q k) ∧ Gr wo ws) (fun _ t _ => n - (intOf t).toNat)
          case atStart => exact ⟨0, none, 0, rfl, by omega, rfl, Lo.Own1.nil _ _, Gr.refl _⟩
          case round =>
            obtain ⟨k, va, vc, rfl, hk, rfl, hown, hgw⟩ := hrel
            have HO := Lib.hid hown
            have HGW := Lib.hid hgw
            have c0 := hgw.keeps c0
            have c4 := hgw.keeps c4
            clear hown hgw
            by_cases hkl : k < n
            · have i6 : (k : Int) < (n : Int) := by omega
              obtain ⟨ga, oa, rfl, cca⟩ := HasQ_at' (HA.out.later (HG.out.trans HGW.out)) (show k < A.length by rw [← HLA.out]; exact hkl)
              obtain ⟨y, hy⟩ : ∃ y, y = Op.cf A k := ⟨_, rfl⟩
              have hyb := HA.out.1.at_ k
              rw [← hy] at cca hyb
              have HY := Lib.hid hy
              clear hy
              go_wp2_with fail
              refine (rBal8_any y Q _ ⟨by omega, k4⟩ k5 (by omega)).mono ?_
              rintro e w5 ⟨rfl, rfl⟩
              have hrb := rb_i64 (x := y) (m := Q) (by omega) k5 k4
              obtain ⟨z, hz⟩ : ∃ z, z = rb y Q := ⟨_, rfl⟩
              have HZ := Lib.hid (show pre A Q (k + 1) = pre A Q k ++ [z] from by rw [pre_succ (by rw [← HLA.out]; exact hkl), hz, HY.out])
              rw [← hz] at hrb ⊢
              have HPL := Lib.hid (show (pre A Q k).length = k from pre_len (by rw [← HLA.out]; exact hk))
              have HOA := Lib.hid (HO.out.alloc (.cells #[.int .i64 z] 2))
              have HONE := Lib.hid (Lo.one_hasQ wr z (by omega))
              have HLEN := Lib.hid (show (pre A Q k).length + ([z] : List Int).length ≤ 1000000 from by rw [HPL.out]; simp; omega)
              have HBS := Lib.hid (show wo.heap.size ≤ (wr.alloc (.cells #[.int .i64 z] 2)).heap.size from by have := HGW.out.size; simp; omega)
              clear hz hrb cca hyb
              go_wp2_with (at_builtin; refine Lo.wpList_app rfl (.tmp 94) (.tmp 102) rfl rfl wo.heap.size (.slice va k vc) (pre A Q k) rfl HOA.out (.slice (some ⟨wr.heap.size, 0, none⟩) 1 1) [z] rfl HONE.out HLEN.out HBS.out ?_; intro v' wn hown hgrow; obtain ⟨va', vc', hv, hv1, hv2⟩ := hown.form; rw [List.length_append, HPL.out] at hv; subst hv; have HN5 := Lib.hid (And.intro hown hgrow); clear hown hgrow hv1 hv2)
              go_roundw
              case rel => exact ⟨k + 1, va', vc', by go_num, by omega, rfl, by rw [HZ.out]; exact HN5.out.1, Lo.grown_own (HGW.out.alloc _) HOA.out HN5.out.2 (Nat.le_refl _)⟩
              case measure => simp [intOf]; omega
            · obtain rfl : k = n := by omega
              have i6 : ¬ (k : Int) < (k : Int) := by omega
              have HSH := Lib.hid (show Lo.HasQ wr (.slice va k vc) (pre A Q k) from HO.out.hasQ)
              have HPL := Lib.hid (show (pre A Q k).length = k from pre_len (by rw [← HLA.out]; exact hk))
              have HCKS := Lib.hid (show Ckd k P r (i : Int) (pre A Q k) from ⟨by omega, by omega, HPL.out, fun t ht => by
                rw [HPL.out] at ht
                rw [Int.toNat_natCast, ← HQ.out, cf_pre (by rw [← HLA.out]; exact Nat.le_refl _) ht]
                exact (rb_bl (by omega) k5).2⟩)
              have HTS := Lib.hid (HT.out.later HGW.out)
              have HIB := Lib.hid (show -9223372036854775808 ≤ (i : Int) ∧ (i : Int) ≤ 9223372036854775807 by omega)
              go_wp2_with fail
              refine (sDecode_any k P r q x s T (i : Int) (pre A Q k) _ _ HN.out HTS.out HSH.out HIB.out).mono ?_
              rintro e w6 ⟨g6, m6, cp6, b, rfl, hq6, hd6, hf6, hg6⟩
              rw [chkE_yes HCKS.out]
              have HDB := Lib.hid (show Os.Dc k Q x (pre A Q k) b from by
                rcases hd6 with ⟨_, h⟩ | ⟨h, _⟩
                · rwa [Int.toNat_natCast, ← HQ.out] at h
                · exact absurd HCKS.out h)
              obtain rfl : k = m6 := by rw [hq6.len.1, HDB.out.1]
              have HEQ := Lib.hid (show ∀ t, t < k → Op.cf b t = rb (Op.cf D t) Q from fun t ht => by
                have h1 := HDB.out.2 t ht
                have h2 := rb_bl (x := Op.cf D t) (show 3 ≤ Q by omega) k5
                refine h1.unique h2 ?_
                have h3 := ((HDC.out.2 t ht).1).down HQD2.out
                refine Os.C.trans (Os.vec_cg (fun j hj => ?_) t) h3.symm
                rw [cf_pre (by rw [← HLA.out]; exact Nat.le_refl _) hj]
                exact (rb_bl (by omega) k5).1)
              have HG6 := Lib.hid (HGW.out.trans hg6)
              have HQD6 := Lib.hid (HQD.out.later HG6.out)
              have HQB := Lib.hid hq6
              have c0 := hg6.keeps c0
              have t5 : ((k : Int) != (k : Int)) = false := by simp
              clear hq6 hd6 hf6 hg6
              go_wp2_with fail
              clear t5
              go_loopw [15] (fun t wt => ∃ j : Nat, t = .int .i64 j ∧ j ≤ k ∧ Gr w6 wt) (fun t _ => k - (intOf t).toNat)
              case atStart => exact ⟨0, rfl, by omega, Gr.refl _⟩
              case round =>
                obtain ⟨j, rfl, hj, hg⟩ := hrel
                have HGT := Lib.hid hg
                have c0 := hg.keeps c0
                clear hg
                by_cases hjl : j < k
                · have i7 : (j : Int) < (k : Int) := by omega
                  have i8 : (0 : Int) ≤ (j : Int) := by omega
                  obtain ⟨gb, ob, rfl, cb⟩ := HasQ_at' (HQB.out.later HGT.out) (show j < b.length by rw [HDB.out.1]; exact hjl)
                  obtain ⟨gd, od, rfl, cd⟩ := HasQ_at' (HQD6.out.later HGT.out) (show j < D.length by rw [HDC.out.1]; exact hjl)
                  have hyb := HQD.out.1.at_ j
                  rw [HEQ.out j hjl] at cb
                  obtain ⟨y, hy⟩ : ∃ y, y = Op.cf D j := ⟨_, rfl⟩
                  rw [← hy] at cb cd hyb
                  obtain ⟨z, hz⟩ : ∃ z, rb y Q = z := ⟨_, rfl⟩
                  rw [hz] at cb
                  have HZ := Lib.hid hz
                  have b3 : (z != z) = false := by simp
                  clear hy hz
                  go_wp2_with fail
                  go_region_held3 (fun wz => wz.cell? ⟨gb, ob + j, none⟩ = some (.int .i64 z) ∧ wz.cell? ⟨gd, od + j, none⟩ = some (.int .i64 y)) (go_keep)
                    (first | (go_at_call 27; refine (rBal8_any y Q _ ⟨by omega, k4⟩ k5 (by omega)).mono ?_; rintro e w7 ⟨rfl, rfl⟩; rw [HZ.out]))
                  go_wp2_with fail
                  go_roundw
                  case rel => exact ⟨j + 1, by go_num, by omega, HGT.out.drewN 1⟩
                  case measure => simp [intOf]; omega
                · obtain rfl : j = k := by omega
                  have i7 : ¬ (j : Int) < (j : Int) := by omega
                  go_wp2_with fail
                  refine (awake8_any _).mono ?_
                  rintro e w8 ⟨rfl, hg8⟩
                  have HG8 := Lib.hid (((HG.out.trans HG6.out).trans HGT.out).trans hg8)
                  clear hg8
                  go_wp2_with fail
                  go_ret
                  exact ⟨rfl, HG8.out⟩
    · rw [chkE_no hck]
      clear hck hd2
      go_wp2_with fail
      refine (awake8_any _).mono ?_
      rintro e w8 ⟨rfl, hg8⟩
      have HG8 := Lib.hid (HG.out.trans hg8)
      clear hg8
      go_wp2_with fail
      go_ret
      exact ⟨rfl, HG8.out⟩
  · have HG := Lib.hid ((Gr.new w _).trans hg)
    clear hg hno
    go_wp2_with fail
    refine (awake8_any _).mono ?_
    rintro e w8 ⟨rfl, hg8⟩
    have HG8 := Lib.hid (HG.out.trans hg8)
    clear hg8
    go_wp2_with fail
    go_ret
    exact ⟨rfl, HG8.out⟩
end Go.Proofs.Ytfmmkdmnondomaa
