/- The law PolyWrapped. -/
import Derived.Test.YtaenjbemkeghgaaPlr
namespace Go.Proofs.Ytaenjbemkeghgaa
open Go.RowKit
set_option linter.unusedVariables false

theorem Wr.trans' {m : Int} {n : Nat} {a v w : List Int} (h : Op.Wr m n a v) (k : Op.Wr m n v w) : Op.Wr m n a w := by
  obtain ⟨p, hp⟩ := h
  obtain ⟨q, hq⟩ := k
  exact ⟨Op.add p q, (hp.trans ((Op.Cg.refl m _).add hq)).trans (Op.Cg.of (fun i => by rw [Op.cf_add, Op.cf_add, Op.cf_add, Op.mul_add_left]; omega))⟩
theorem rs_tz {m : Int} {l : List Int} (h : Op.Rs m l) : Op.Nf m (Op.tz l) := ⟨fun x hx => h x (Op.tz_mem hx), Op.tz_tz l⟩
theorem cg_tz (m : Int) (l : List Int) : Op.Cg m (Op.tz l) l := Op.Cg.of (Op.cf_tz l)

set_option maxRecDepth 100000 in
set_option maxHeartbeats 4000000 in
theorem polyWrapped_all (m : Int) (a b : List Int) (u v t : Value) (N K X : Int) (w : World) (hK : -9223372036854775808 ≤ K ∧ K ≤ 9223372036854775807) (hu : HasP w u a) (hv : HasP w v b) (hla : a.length ≤ 9223372036854775807) (hlb : b.length ≤ 9223372036854775807) :
    Calls Try.prog 12 #[.agg #[.int .u32 m, u, v, t, .int .u64 N, .int .i64 K, .int .u32 X]] w (Truth w) := by
  obtain ⟨-, xa, ca, rfl, -, -, -⟩ := id hu
  obtain ⟨na, hna⟩ : ∃ na, na = a.length := ⟨_, rfl⟩
  rw [← hna] at hu ⊢
  have HU := Lib.hid hu
  have HNA := Lib.hid hna
  have hbna : na ≤ 9223372036854775807 := by omega
  have HLa := Lib.hid hla
  have HIFFa := Lib.hid (checkE_one (m := m) hu.1)
  obtain ⟨Ea, hEa⟩ : ∃ E, E = checkE m [a] := ⟨_, rfl⟩
  have HEa := Lib.hid hEa
  clear hu hna hla hEa
  obtain ⟨-, xb, cb, rfl, -, -, -⟩ := id hv
  obtain ⟨nb, hnb⟩ : ∃ nb, nb = b.length := ⟨_, rfl⟩
  rw [← hnb] at hv ⊢
  have HV := Lib.hid hv
  have HNB := Lib.hid hnb
  have hbnb : nb ≤ 9223372036854775807 := by omega
  have HLb := Lib.hid hlb
  have HIFFb := Lib.hid (checkE_one (m := m) hv.1)
  obtain ⟨Eb, hEb⟩ : ∃ E, E = checkE m [b] := ⟨_, rfl⟩
  have HEb := Lib.hid hEb
  clear hv hnb hlb hEb
  obtain ⟨hK0, hK1⟩ := hK
  by_cases g1 : (100 : Int) < (na : Int)
  · go_enter Try.func12, Try.ntmps12
    go_wp2_with fail
    go_quiet (fail)
    go_wp2_with fail
    refine (awake_any _).mono ?_
    rintro e wz ⟨rfl, hg⟩
    have HGZ := Lib.hid ((((Gr.new w _).drewN _)).trans hg)
    clear hg
    go_wp2_with fail
    go_ret
    exact ⟨rfl, HGZ.out⟩
  · by_cases g2 : (100 : Int) < (nb : Int)
    · go_enter Try.func12, Try.ntmps12
      go_wp2_with fail
      go_quiet (fail)
      go_wp2_with fail
      refine (awake_any _).mono ?_
      rintro e wz ⟨rfl, hg⟩
      have HGZ := Lib.hid ((((Gr.new w _).drewN _)).trans hg)
      clear hg
      go_wp2_with fail
      go_ret
      exact ⟨rfl, HGZ.out⟩
    · by_cases g3 : K < 1
      · go_enter Try.func12, Try.ntmps12
        go_wp2_with fail
        go_quiet (fail)
        go_wp2_with fail
        refine (awake_any _).mono ?_
        rintro e wz ⟨rfl, hg⟩
        have HGZ := Lib.hid ((((Gr.new w _).drewN _)).trans hg)
        clear hg
        go_wp2_with fail
        go_ret
        exact ⟨rfl, HGZ.out⟩
      · by_cases g4 : 100 < K
        · go_enter Try.func12, Try.ntmps12
          go_wp2_with fail
          go_quiet (fail)
          go_wp2_with fail
          refine (awake_any _).mono ?_
          rintro e wz ⟨rfl, hg⟩
          have HGZ := Lib.hid ((((Gr.new w _).drewN _)).trans hg)
          clear hg
          go_wp2_with fail
          go_ret
          exact ⟨rfl, HGZ.out⟩
        · obtain ⟨k, rfl⟩ := Int.eq_ofNat_of_zero_le (show 0 ≤ K from by omega)
          by_cases h0a : Ea = 0
          · subst h0a
            have HOKa := Lib.hid (HIFFa.out.1 HEa.out.symm)
            by_cases h0b : Eb = 0
            · subst h0b
              have HOKb := Lib.hid (HIFFb.out.1 HEb.out.symm)
              go_enter Try.func12, Try.ntmps12
              go_wp2_with fail
              go_quiet (fail)
              go_wp2_with fail
              refine (pCheck_any m a _ _ (HU.out.later ((Gr.new w _).drewN _)) HLa.out).mono ?_
              rintro e wc1 ⟨rfl, hg⟩
              rw [← HEa.out]
              have HGC1 := Lib.hid ((((Gr.new w _).drewN _)).trans hg)
              clear hg
              go_wp2_with fail
              refine (pCheck_any m b _ _ (HV.out.later HGC1.out) HLb.out).mono ?_
              rintro e wc2 ⟨rfl, hg⟩
              rw [← HEb.out]
              have HGC2 := Lib.hid ((HGC1.out).trans hg)
              clear hg
              go_wp2_with fail
              have HM := Lib.hid HOKa.out.1
              have HM0 := Lib.hid (show 0 < m from by have h := HM.out; unfold okM at h; omega)
              have HLA := Lib.hid (show a.length ≤ 100 from by have := HNA.out; omega)
              have HLB := Lib.hid (show b.length ≤ 100 from by have := HNB.out; omega)
              have HKP := Lib.hid (nfl HM.out _ (Op.mul_len a b) (by have := HLA.out; have := HLB.out; omega))
              have HNB1 := Lib.hid (show 1 ≤ k ∧ k ≤ 256 from by omega)
              have hk100 : k ≤ 100 := by omega
              refine (gMul m a b _ _ _ HM.out HOKa.out.2 HOKb.out.2 (by have := HLA.out; have := HLB.out; omega) (HU.out.later (HGC2.out)) (HV.out.later (HGC2.out))).mono ?_
              rintro e wq1 ⟨xz, nz, cz, rfl, hx, hfr, hg⟩
              have HGQ1 := Lib.hid ((HGC2.out).trans hg)
              have PP_1 := Lib.hid hx
              clear hg hx hfr
              go_wp2_with fail
              refine (gWrap m k (Op.nf m (Op.mul a b)) _ _ HM.out HNB1.out HKP.out PP_1.out).mono ?_
              rintro e wq2 ⟨xlw, nlw, clw, lw, rfl, hx, hxl, hxr, hxw, hg⟩
              have HGQ2 := Lib.hid ((HGQ1.out).trans hg)
              have PP_2 := Lib.hid (PP_1.out.later hg)
              have PW_2 := Lib.hid hx
              have HLPW := Lib.hid hxl
              have HRPW := Lib.hid hxr
              have HWPW := Lib.hid hxw
              have hnPW : nlw = k := by have := hx.len.1; omega
              have HNPW := Lib.hid hnPW
              have hnbPW : ((nlw : Int) != (k : Int)) = false := by simp; omega
              clear hxl hxr hxw hnPW
              clear hg hx
              go_wp2_with fail
              refine (gWrap m k a _ _ HM.out HNB1.out HOKa.out.2 (HU.out.later (HGQ2.out))).mono ?_
              rintro e wq3 ⟨xlx, nlx, clx, lx, rfl, hx, hxl, hxr, hxw, hg⟩
              have HGQ3 := Lib.hid ((HGQ2.out).trans hg)
              have PP_3 := Lib.hid (PP_2.out.later hg)
              have PW_3 := Lib.hid (PW_2.out.later hg)
              have PX_3 := Lib.hid hx
              have HLPX := Lib.hid hxl
              have HRPX := Lib.hid hxr
              have HWPX := Lib.hid hxw
              have hnPX : nlx = k := by have := hx.len.1; omega
              have HNPX := Lib.hid hnPX
              have hnbPX : ((nlx : Int) != (k : Int)) = false := by simp; omega
              clear hxl hxr hxw hnPX
              clear hg hx
              go_wp2_with fail
              refine (gWrap m k b _ _ HM.out HNB1.out HOKb.out.2 (HV.out.later (HGQ3.out))).mono ?_
              rintro e wq4 ⟨xly, nly, cly, ly, rfl, hx, hxl, hxr, hxw, hg⟩
              have HGQ4 := Lib.hid ((HGQ3.out).trans hg)
              have PP_4 := Lib.hid (PP_3.out.later hg)
              have PW_4 := Lib.hid (PW_3.out.later hg)
              have PX_4 := Lib.hid (PX_3.out.later hg)
              have PY_4 := Lib.hid hx
              have HLPY := Lib.hid hxl
              have HRPY := Lib.hid hxr
              have HWPY := Lib.hid hxw
              have hnPY : nly = k := by have := hx.len.1; omega
              have HNPY := Lib.hid hnPY
              have hnbPY : ((nly : Int) != (k : Int)) = false := by simp; omega
              clear hxl hxr hxw hnPY
              clear hg hx
              go_wp2_with fail
              refine (trim5_any lx _ _ PX_4.out (by rw [HLPX.out]; omega)).mono ?_
              rintro e wq5 ⟨xTX, nTX, cTX, rfl, hx, hfr, hg⟩
              have HGQ5 := Lib.hid ((HGQ4.out).trans hg)
              have PP_5 := Lib.hid (PP_4.out.later hg)
              have PW_5 := Lib.hid (PW_4.out.later hg)
              have PX_5 := Lib.hid (PX_4.out.later hg)
              have PY_5 := Lib.hid (PY_4.out.later hg)
              have TX_5 := Lib.hid hx
              clear hg hx hfr
              go_wp2_with fail
              refine (trim5_any ly _ _ PY_5.out (by rw [HLPY.out]; omega)).mono ?_
              rintro e wq6 ⟨xTY, nTY, cTY, rfl, hx, hfr, hg⟩
              have HGQ6 := Lib.hid ((HGQ5.out).trans hg)
              have PP_6 := Lib.hid (PP_5.out.later hg)
              have PW_6 := Lib.hid (PW_5.out.later hg)
              have PX_6 := Lib.hid (PX_5.out.later hg)
              have PY_6 := Lib.hid (PY_5.out.later hg)
              have TX_6 := Lib.hid (TX_5.out.later hg)
              have TY_6 := Lib.hid hx
              clear hg hx hfr
              go_wp2_with fail
              have HKX := Lib.hid (show (Op.tz lx).length ≤ 256 ∧ Op.Nf m (Op.tz lx) from ⟨by have := Op.tz_len lx; have := HLPX.out; omega, rs_tz HRPX.out⟩)
              have HKY := Lib.hid (show (Op.tz ly).length ≤ 256 ∧ Op.Nf m (Op.tz ly) from ⟨by have := Op.tz_len ly; have := HLPY.out; omega, rs_tz HRPY.out⟩)
              have HXY := Lib.hid (show (Op.tz lx).length + (Op.tz ly).length ≤ 257 from by have := Op.tz_len lx; have := HLPX.out; have := Op.tz_len ly; have := HLPY.out; omega)
              have HKXY := Lib.hid (nfl HM.out (Op.mul (Op.tz lx) (Op.tz ly)) (k := 200) (by have := Op.mul_len (Op.tz lx) (Op.tz ly); have := Op.tz_len lx; have := HLPX.out; have := Op.tz_len ly; have := HLPY.out; omega) (by omega))
              refine (gMul m (Op.tz lx) (Op.tz ly) _ _ _ HM.out HKX.out HKY.out HXY.out TX_6.out TY_6.out).mono ?_
              rintro e wq7 ⟨xz, nz, cz, rfl, hx, hfr, hg⟩
              have HGQ7 := Lib.hid ((HGQ6.out).trans hg)
              have PP_7 := Lib.hid (PP_6.out.later hg)
              have PW_7 := Lib.hid (PW_6.out.later hg)
              have PX_7 := Lib.hid (PX_6.out.later hg)
              have PY_7 := Lib.hid (PY_6.out.later hg)
              have TX_7 := Lib.hid (TX_6.out.later hg)
              have TY_7 := Lib.hid (TY_6.out.later hg)
              have PS_7 := Lib.hid hx
              clear hg hx hfr
              go_wp2_with fail
              refine (gWrap m k (Op.nf m (Op.mul (Op.tz lx) (Op.tz ly))) _ _ HM.out HNB1.out HKXY.out PS_7.out).mono ?_
              rintro e wq8 ⟨xlg, nlg, clg, lg, rfl, hx, hxl, hxr, hxw, hg⟩
              have HGQ8 := Lib.hid ((HGQ7.out).trans hg)
              have PP_8 := Lib.hid (PP_7.out.later hg)
              have PW_8 := Lib.hid (PW_7.out.later hg)
              have PX_8 := Lib.hid (PX_7.out.later hg)
              have PY_8 := Lib.hid (PY_7.out.later hg)
              have TX_8 := Lib.hid (TX_7.out.later hg)
              have TY_8 := Lib.hid (TY_7.out.later hg)
              have PS_8 := Lib.hid (PS_7.out.later hg)
              have PG_8 := Lib.hid hx
              have HLPG := Lib.hid hxl
              have HRPG := Lib.hid hxr
              have HWPG := Lib.hid hxw
              have hnPG : nlg = k := by have := hx.len.1; omega
              have HNPG := Lib.hid hnPG
              have hnbPG : ((nlg : Int) != (k : Int)) = false := by simp; omega
              clear hxl hxr hxw hnPG
              clear hg hx
              go_wp2_with fail
              have HEQ := Lib.hid (show lg = lw from Op.ext_cf (HLPG.out.trans HLPW.out.symm) (Op.rs_eq HM0.out HRPG.out HRPW.out (Op.Wr.unique (n := k) HNB1.out.1 (by rw [HLPG.out]; exact Nat.le_refl _) (by rw [HLPW.out]; exact Nat.le_refl _) (Op.nf_cg m (Op.mul a b)).symm (Wr.trans' (HWPX.out.mul HWPY.out) (HWPG.out.cgl (((cg_tz m lx).mul (cg_tz m ly)).symm.trans (Op.nf_cg m _).symm))) HWPW.out)))
              refine (lsame_any lg lw _ _ _ PG_8.out PW_8.out (by rw [HLPG.out]; omega) (by rw [HLPW.out]; omega)).mono ?_
              rintro e wq9 ⟨rfl, hg⟩
              rw [show decide (lg = lw) = true from decide_eq_true HEQ.out]
              have HGQ9 := Lib.hid ((HGQ8.out).trans hg)
              clear hg
              go_wp2_with fail
              refine (awake_any _).mono ?_
              rintro e wz ⟨rfl, hg⟩
              have HGZ := Lib.hid ((HGQ9.out).trans hg)
              clear hg
              go_wp2_with fail
              go_ret
              exact ⟨rfl, HGZ.out⟩
            · have hfb : (Eb != 0) = true := by simp [h0b]
              go_enter Try.func12, Try.ntmps12
              go_wp2_with fail
              go_quiet (fail)
              go_wp2_with fail
              refine (pCheck_any m a _ _ (HU.out.later ((Gr.new w _).drewN _)) HLa.out).mono ?_
              rintro e wc1 ⟨rfl, hg⟩
              rw [← HEa.out]
              have HGC1 := Lib.hid ((((Gr.new w _).drewN _)).trans hg)
              clear hg
              go_wp2_with fail
              refine (pCheck_any m b _ _ (HV.out.later HGC1.out) HLb.out).mono ?_
              rintro e wc2 ⟨rfl, hg⟩
              rw [← HEb.out]
              have HGC2 := Lib.hid ((HGC1.out).trans hg)
              clear hg
              go_wp2_with fail
              refine (awake_any _).mono ?_
              rintro e wz ⟨rfl, hg⟩
              have HGZ := Lib.hid ((HGC2.out).trans hg)
              clear hg
              go_wp2_with fail
              go_ret
              exact ⟨rfl, HGZ.out⟩
          · have hfa : (Ea != 0) = true := by simp [h0a]
            go_enter Try.func12, Try.ntmps12
            go_wp2_with fail
            go_quiet (fail)
            go_wp2_with fail
            refine (pCheck_any m a _ _ (HU.out.later ((Gr.new w _).drewN _)) HLa.out).mono ?_
            rintro e wc1 ⟨rfl, hg⟩
            rw [← HEa.out]
            have HGC1 := Lib.hid ((((Gr.new w _).drewN _)).trans hg)
            clear hg
            go_wp2_with fail
            refine (awake_any _).mono ?_
            rintro e wz ⟨rfl, hg⟩
            have HGZ := Lib.hid ((HGC1.out).trans hg)
            clear hg
            go_wp2_with fail
            go_ret
            exact ⟨rfl, HGZ.out⟩
end Go.Proofs.Ytaenjbemkeghgaa
