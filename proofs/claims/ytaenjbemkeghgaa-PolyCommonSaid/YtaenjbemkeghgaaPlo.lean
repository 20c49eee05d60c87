/- The law PolyCommon. -/
import Derived.Test.YtaenjbemkeghgaaPlr
import Derived.Test.YtaenjbemkeghgaaPg
namespace Go.Proofs.Ytaenjbemkeghgaa
open Go.RowKit
set_option linter.unusedVariables false

theorem dd_unit {m : Int} {x d : List Int} {v : Int} (hv : m ∣ Op.ld x * v - 1) (hd : d = Op.nf m (Op.sc v x)) : Op.Dd m d x ∧ Op.Dd m x d := by
  have h1 : Op.Cg m d (Op.sc v x) := by rw [hd]; exact Op.nf_cg m _
  refine ⟨⟨[Op.ld x], ?_⟩, ⟨[v], h1.trans (Op.cg_scn' m v x).symm⟩⟩
  refine Op.Cg.trans ?_ (Op.cg_scn' m (Op.ld x) d).symm
  intro i
  rw [Op.cf_sc]
  have h2 := h1 i
  rw [Op.cf_sc] at h2
  have e : Op.cf x i - Op.ld x * Op.cf d i = -((Op.ld x * v - 1) * Op.cf x i + Op.ld x * (Op.cf d i - v * Op.cf x i)) := by
    rw [Int.sub_mul, Int.mul_sub, ← Int.mul_assoc]; omega
  rw [e]
  exact Int.dvd_neg.2 (Int.dvd_add (Int.dvd_mul_of_dvd_left hv) (Int.dvd_mul_of_dvd_right h2))
theorem dd_mul (m : Int) (a c : List Int) : Op.Dd m c (Op.nf m (Op.mul a c)) := ⟨a, Op.nf_cg m _⟩
theorem gd_len {p : Int} {a b g : List Int} (ha : a.length ≤ 256) (hb : b.length ≤ 256) (h : Op.Gd p a b g) : g.length ≤ 256 := by
  obtain ⟨x, hx, hg⟩ := h
  have hxl : x.length ≤ 256 := by
    clear hg
    induction hx with
    | done a => exact ha
    | step _ hd _ ih => exact ih hb (by have := hd.2.2.1; omega)
  rcases hg with ⟨_, rfl⟩ | ⟨_, v, _, rfl⟩
  · simp
  · have := Op.nf_len p (Op.sc v x)
    rw [Op.sc_len] at this; omega
theorem common_nil {p : Int} {a b c d : List Int} (ha : a = []) (hb : b = []) (h : Op.Gd p (Op.nf p (Op.mul a c)) (Op.nf p (Op.mul b c)) d) : d = [] := by
  subst ha; subst hb
  have e : Op.nf p (Op.mul [] c) = [] := by rfl
  rw [e] at h
  obtain ⟨x, hx, hg⟩ := h
  have hx0 : x = [] := by cases hx with
    | done => rfl
    | step hb _ _ => exact absurd rfl hb
  rcases hg with ⟨_, rfl⟩ | ⟨h0, _⟩
  · rfl
  · exact absurd hx0 h0
theorem common_one {p : Int} (hF : Op.Fld p) (hp : 2 ≤ p) {a b c d : List Int} (ha : Op.Nf p a) (hb : Op.Nf p b) (hc : Op.Nf p c) (hc0 : c ≠ []) (hab : ¬ (a = [] ∧ b = [])) (h : Op.Gd p (Op.nf p (Op.mul a c)) (Op.nf p (Op.mul b c)) d) :
    d ≠ [] ∧ Op.ld d = 1 ∧ Op.Dd p d (Op.nf p (Op.mul a c)) ∧ Op.Dd p d (Op.nf p (Op.mul b c)) ∧ Op.Dd p c d := by
  obtain ⟨x, hx, hg⟩ := h
  have hd := hx.divides
  have hgr := hx.greatest (dd_mul p a c) (dd_mul p b c)
  have h0 : x ≠ [] := by
    rintro rfl
    by_cases ha0 : a = []
    · have hb0 : b ≠ [] := fun h => hab ⟨ha0, h⟩
      exact Op.mul_ne hF hp hb hc hb0 hc0 (Op.Dd.zero (by omega) (Op.nf_nf (by omega) _) hd.2)
    · exact Op.mul_ne hF hp ha hc ha0 hc0 (Op.Dd.zero (by omega) (Op.nf_nf (by omega) _) hd.1)
  rcases hg with ⟨h1, _⟩ | ⟨_, v, hv, hdv⟩
  · exact absurd h1 h0
  · have h2 := Op.nf_len_unit hp h0 hv
    have h3 := dd_unit hv hdv
    refine ⟨?_, by rw [hdv]; exact h2.2, h3.1.trans hd.1, h3.1.trans hd.2, hgr.trans h3.2⟩
    intro e
    rw [e] at hdv
    rw [← hdv] at h2
    exact h0 (List.length_eq_zero_iff.1 h2.1.symm)
theorem one_unit {p : Int} {d : List Int} (h0 : d ≠ []) (h : Op.ld d = 1) : divU p d := ⟨h0, 1, by rw [h]; exact ⟨0, by omega⟩⟩
theorem dd_exact {p : Int} (hp : 0 < p) {a b q r : List Int} (hU : divU p b) (hk : Op.Dd p b a) (h : Op.Dv p a b q r) : r.length = 0 := by
  obtain ⟨k, hk⟩ := hk
  rw [Op.Dv.exact hp hU.1 hU.2 hk h]; rfl
theorem rprimeZ (m : Int) (w : World) (h : 0 ≤ m ∧ m < 4294967296) : Calls Try.prog 43 #[.int .u32 m] w (BoolPost (Ob.Pr m.toNat) w) := by
  obtain ⟨p, rfl⟩ := Int.eq_ofNat_of_zero_le h.1
  exact rprime5 p w (by omega)
theorem pr_fld (m : Int) (h : 0 ≤ m) (hp : Ob.Pr m.toNat) : Op.Fld m := by
  obtain ⟨p, rfl⟩ := Int.eq_ofNat_of_zero_le h
  exact fld_pr hp

set_option maxRecDepth 100000 in
set_option maxHeartbeats 4000000 in
theorem polyCommon_all (m : Int) (a b c : List Int) (u v t : Value) (N K X : Int) (w : World) (hmr : 0 ≤ m ∧ m < 4294967296) (hu : HasP w u a) (hv : HasP w v b) (ht : HasP w t c) (hla : a.length ≤ 9223372036854775807) (hlb : b.length ≤ 9223372036854775807) (hlc : c.length ≤ 9223372036854775807) :
    Calls Try.prog 13 #[.agg #[.int .u32 m, u, v, t, .int .u64 N, .int .i64 K, .int .u32 X]] w (Truth w) := by
  obtain ⟨-, xa, ca, rfl, -, -, -⟩ := id hu
  obtain ⟨na, hna⟩ : ∃ na, na = a.length := ⟨_, rfl⟩
  rw [← hna] at hu ⊢
  have HU := Lib.hid hu
  have HNA := Lib.hid hna
  have hbna : na ≤ 9223372036854775807 := by omega
  have HLa := Lib.hid hla
  have HIFFa := Lib.hid (checkE_one (m := m) hu.1)
  obtain ⟨Ea, hEa⟩ : ∃ E, E = checkE m [a] := ⟨_, rfl⟩
  have HEa := Lib.hid hEa
  clear hu hna hla hEa
  obtain ⟨-, xb, cb, rfl, -, -, -⟩ := id hv
  obtain ⟨nb, hnb⟩ : ∃ nb, nb = b.length := ⟨_, rfl⟩
  rw [← hnb] at hv ⊢
  have HV := Lib.hid hv
  have HNB := Lib.hid hnb
  have hbnb : nb ≤ 9223372036854775807 := by omega
  have HLb := Lib.hid hlb
  have HIFFb := Lib.hid (checkE_one (m := m) hv.1)
  obtain ⟨Eb, hEb⟩ : ∃ E, E = checkE m [b] := ⟨_, rfl⟩
  have HEb := Lib.hid hEb
  clear hv hnb hlb hEb
  obtain ⟨-, xc, cc, rfl, -, -, -⟩ := id ht
  obtain ⟨nc, hnc⟩ : ∃ nc, nc = c.length := ⟨_, rfl⟩
  rw [← hnc] at ht ⊢
  have HT := Lib.hid ht
  have HNC := Lib.hid hnc
  have hbnc : nc ≤ 9223372036854775807 := by omega
  have HLc := Lib.hid hlc
  have HIFFc := Lib.hid (checkE_one (m := m) ht.1)
  obtain ⟨Ec, hEc⟩ : ∃ E, E = checkE m [c] := ⟨_, rfl⟩
  have HEc := Lib.hid hEc
  clear ht hnc hlc hEc
  obtain ⟨hmr0, hmr1⟩ := hmr
  by_cases g1 : (40 : Int) < (na : Int)
  · go_enter Try.func13, Try.ntmps13
    go_wp2_with fail
    go_quiet (fail)
    go_wp2_with fail
    refine (awake_any _).mono ?_
    rintro e wz ⟨rfl, hg⟩
    have HGZ := Lib.hid ((((Gr.new w _).drewN _)).trans hg)
    clear hg
    go_wp2_with fail
    go_ret
    exact ⟨rfl, HGZ.out⟩
  · by_cases g2 : (40 : Int) < (nb : Int)
    · go_enter Try.func13, Try.ntmps13
      go_wp2_with fail
      go_quiet (fail)
      go_wp2_with fail
      refine (awake_any _).mono ?_
      rintro e wz ⟨rfl, hg⟩
      have HGZ := Lib.hid ((((Gr.new w _).drewN _)).trans hg)
      clear hg
      go_wp2_with fail
      go_ret
      exact ⟨rfl, HGZ.out⟩
    · by_cases g3 : (40 : Int) < (nc : Int)
      · go_enter Try.func13, Try.ntmps13
        go_wp2_with fail
        go_quiet (fail)
        go_wp2_with fail
        refine (awake_any _).mono ?_
        rintro e wz ⟨rfl, hg⟩
        have HGZ := Lib.hid ((((Gr.new w _).drewN _)).trans hg)
        clear hg
        go_wp2_with fail
        go_ret
        exact ⟨rfl, HGZ.out⟩
      · by_cases g4 : nc = 0
        · have g4b : ((nc : Int) == 0) = true := by simp [g4]
          go_enter Try.func13, Try.ntmps13
          go_wp2_with fail
          go_quiet (fail)
          go_wp2_with fail
          refine (awake_any _).mono ?_
          rintro e wz ⟨rfl, hg⟩
          have HGZ := Lib.hid ((((Gr.new w _).drewN _)).trans hg)
          clear hg
          go_wp2_with fail
          go_ret
          exact ⟨rfl, HGZ.out⟩
        · have g4b : ((nc : Int) == 0) = false := by simp; omega
          by_cases hpr : Ob.Pr m.toNat
          · have HPR := Lib.hid hpr
            clear hpr
            by_cases h0a : Ea = 0
            · subst h0a
              have HOKa := Lib.hid (HIFFa.out.1 HEa.out.symm)
              by_cases h0b : Eb = 0
              · subst h0b
                have HOKb := Lib.hid (HIFFb.out.1 HEb.out.symm)
                by_cases h0c : Ec = 0
                · subst h0c
                  have HOKc := Lib.hid (HIFFc.out.1 HEc.out.symm)
                  go_enter Try.func13, Try.ntmps13
                  go_wp2_with fail
                  go_quiet (fail)
                  go_wp2_with fail
                  refine (rprimeZ m _ (by omega)).mono ?_
                  rintro e wc1 ⟨r, rfl, hr, hg⟩
                  have HGC1 := Lib.hid ((((Gr.new w _).drewN _)).trans hg)
                  obtain rfl : r = true := by exact hr.2 HPR.out
                  clear hr hg
                  go_wp2_with fail
                  refine (pCheck_any m a _ _ (HU.out.later HGC1.out) HLa.out).mono ?_
                  rintro e wc2 ⟨rfl, hg⟩
                  rw [← HEa.out]
                  have HGC2 := Lib.hid ((HGC1.out).trans hg)
                  clear hg
                  go_wp2_with fail
                  refine (pCheck_any m b _ _ (HV.out.later HGC2.out) HLb.out).mono ?_
                  rintro e wc3 ⟨rfl, hg⟩
                  rw [← HEb.out]
                  have HGC3 := Lib.hid ((HGC2.out).trans hg)
                  clear hg
                  go_wp2_with fail
                  refine (pCheck_any m c _ _ (HT.out.later HGC3.out) HLc.out).mono ?_
                  rintro e wc4 ⟨rfl, hg⟩
                  rw [← HEc.out]
                  have HGC4 := Lib.hid ((HGC3.out).trans hg)
                  clear hg
                  go_wp2_with fail
                  have HM := Lib.hid HOKa.out.1
                  have hm2 : 2 ≤ m := HM.out.1
                  have hm3 : m ≤ 2147483647 := HM.out.2
                  have HLA := Lib.hid (show a.length ≤ 40 from by have := HNA.out; omega)
                  have HLB := Lib.hid (show b.length ≤ 40 from by have := HNB.out; omega)
                  have HLC := Lib.hid (show c.length ≤ 40 from by have := HNC.out; omega)
                  have HC0 := Lib.hid (show c ≠ [] from fun h => by have := HNC.out; rw [h] at this; simp at this; omega)
                  have HX := Lib.hid (nfl HM.out _ (Op.mul_len a c) (by have := HLA.out; have := HLC.out; omega))
                  have HY := Lib.hid (nfl HM.out _ (Op.mul_len b c) (by have := HLB.out; have := HLC.out; omega))
                  have HF := Lib.hid (pr_fld m (by omega) HPR.out)
                  refine (gMul m a c _ _ _ HM.out HOKa.out.2 HOKc.out.2 (by have := HLA.out; have := HLC.out; omega) (HU.out.later (HGC4.out)) (HT.out.later (HGC4.out))).mono ?_
                  rintro e wq1 ⟨xz, nz, cz, rfl, hx, hfr, hg⟩
                  have HGQ1 := Lib.hid ((HGC4.out).trans hg)
                  have PX_1 := Lib.hid hx
                  clear hg hx hfr
                  go_wp2_with fail
                  refine (gMul m b c _ _ _ HM.out HOKb.out.2 HOKc.out.2 (by have := HLB.out; have := HLC.out; omega) (HV.out.later (HGQ1.out)) (HT.out.later (HGQ1.out))).mono ?_
                  rintro e wq2 ⟨xz, nz, cz, rfl, hx, hfr, hg⟩
                  have HGQ2 := Lib.hid ((HGQ1.out).trans hg)
                  have PX_2 := Lib.hid (PX_1.out.later hg)
                  have PY_2 := Lib.hid hx
                  clear hg hx hfr
                  go_wp2_with fail
                  refine (pGcd_any m (Op.nf m (Op.mul a c)) (Op.nf m (Op.mul b c)) _ _ _ (by omega) PX_2.out PY_2.out (by have := HX.out; omega) (by have := HY.out; omega)).mono ?_
                  rintro e wq3 ⟨xd, nd, cd, d, E, rfl, hd, hgr, hfr, hg⟩
                  have HGQ3 := Lib.hid ((HGQ2.out).trans hg)
                  have PX_3 := Lib.hid (PX_2.out.later hg)
                  have PY_3 := Lib.hid (PY_2.out.later hg)
                  have PD_3 := Lib.hid hd
                  have HGD := Lib.hid (show E = 0 ∧ Op.Gd m (Op.nf m (Op.mul a c)) (Op.nf m (Op.mul b c)) d ∧ Op.Nf m d from by
                    rcases hgr with ⟨h1, _⟩ | ⟨_, h1, h2, _⟩ | ⟨_, _, h3, h4⟩
                    · exact absurd HPR.out h1
                    · exact absurd (h1.trans (ck2 HM.out HX.out HY.out)) h2
                    · exact ⟨h3, h4⟩)
                  obtain rfl : E = 0 := HGD.out.1
                  have HND := Lib.hid hd.len.1
                  have HLD := Lib.hid (gd_len HX.out.1 HY.out.1 HGD.out.2.1)
                  clear hgr hfr
                  clear hg hd
                  by_cases hab : na = 0 ∧ nb = 0
                  · obtain ⟨rfl, rfl⟩ := hab
                    obtain rfl : nd = 0 := by rw [HND.out, common_nil (List.length_eq_zero_iff.1 HNA.out.symm) (List.length_eq_zero_iff.1 HNB.out.symm) HGD.out.2.1]; rfl
                    go_wp2_with fail
                    refine (awake_any _).mono ?_
                    rintro e wz ⟨rfl, hg⟩
                    have HGZ := Lib.hid ((HGQ3.out).trans hg)
                    clear hg
                    go_wp2_with fail
                    go_ret
                    exact ⟨rfl, HGZ.out⟩
                  have HD := Lib.hid (common_one HF.out hm2 HOKa.out.2.2 HOKb.out.2.2 HOKc.out.2.2 HC0.out (fun h => hab ⟨by rw [HNA.out, h.1]; rfl, by rw [HNB.out, h.2]; rfl⟩) HGD.out.2.1)
                  have hnd : 0 < nd := by rw [HND.out]; exact List.length_pos_iff.2 HD.out.1
                  obtain ⟨gd, od, rfl, hcell⟩ := PD_3.out.cells0 hnd
                  rw [show Op.cf d (nd - 1) = 1 from by rw [HND.out]; exact HD.out.2.1] at hcell
                  have HUD := Lib.hid (one_unit (p := m) HD.out.1 HD.out.2.1)
                  have HUC := Lib.hid (show divU m c from ⟨HC0.out, Op.ld_unit HF.out (by omega) HOKc.out.2.2 HC0.out⟩)
                  have HOKD := Lib.hid (show d.length ≤ 256 ∧ Op.Nf m d from ⟨HLD.out, HGD.out.2.2⟩)
                  have hnd2 : nd ≤ 256 := by rw [HND.out]; exact HLD.out
                  have HAB := Lib.hid hab
                  clear hab
                  by_cases ha0 : na = 0
                  · have hb0 : 0 < nb := by have := HAB.out; omega
                    have hna0 : ((na : Int) == 0) = true := by simp [ha0]
                    have hnb0 : ((nb : Int) == 0) = false := by simp; omega
                    go_wp2_with fail
                    refine (gDiv m (Op.nf m (Op.mul a c)) d _ _ _ HM.out HX.out HOKD.out HUD.out PX_3.out PD_3.out).mono ?_
                    rintro e wq4 ⟨x1u, n1u, c1u, x2u, n2u, c2u, qu, ru, rfl, hq, hr, hdv, hg⟩
                    have HGQ4 := Lib.hid ((HGQ3.out).trans hg)
                    have PX_4 := Lib.hid (PX_3.out.later hg)
                    have PY_4 := Lib.hid (PY_3.out.later hg)
                    have PD_4 := Lib.hid (PD_3.out.later hg)
                    have hzu : n2u = 0 := by rw [hr.len.1]; exact dd_exact (by omega) HUD.out HD.out.2.2.1 hdv
                    subst hzu
                    clear hq hr hdv
                    clear hg 
                    go_wp2_with fail
                    refine (gDiv m (Op.nf m (Op.mul b c)) d _ _ _ HM.out HY.out HOKD.out HUD.out PY_4.out PD_4.out).mono ?_
                    rintro e wq5 ⟨x1v, n1v, c1v, x2v, n2v, c2v, qv, rv, rfl, hq, hr, hdv, hg⟩
                    have HGQ5 := Lib.hid ((HGQ4.out).trans hg)
                    have PX_5 := Lib.hid (PX_4.out.later hg)
                    have PY_5 := Lib.hid (PY_4.out.later hg)
                    have PD_5 := Lib.hid (PD_4.out.later hg)
                    have hzv : n2v = 0 := by rw [hr.len.1]; exact dd_exact (by omega) HUD.out HD.out.2.2.2.1 hdv
                    subst hzv
                    clear hq hr hdv
                    clear hg 
                    go_wp2_with fail
                    refine (gDiv m d c _ _ _ HM.out HOKD.out HOKc.out.2 HUC.out PD_5.out (HT.out.later (HGQ5.out))).mono ?_
                    rintro e wq6 ⟨x1w, n1w, c1w, x2w, n2w, c2w, qw, rw, rfl, hq, hr, hdv, hg⟩
                    have HGQ6 := Lib.hid ((HGQ5.out).trans hg)
                    have PX_6 := Lib.hid (PX_5.out.later hg)
                    have PY_6 := Lib.hid (PY_5.out.later hg)
                    have PD_6 := Lib.hid (PD_5.out.later hg)
                    have hzw : n2w = 0 := by rw [hr.len.1]; exact dd_exact (by omega) HUC.out HD.out.2.2.2.2 hdv
                    subst hzw
                    clear hq hr hdv
                    clear hg 
                    go_wp2_with fail
                    refine (awake_any _).mono ?_
                    rintro e wz ⟨rfl, hg⟩
                    have HGZ := Lib.hid ((HGQ6.out).trans hg)
                    clear hg
                    go_wp2_with fail
                    go_ret
                    exact ⟨rfl, HGZ.out⟩
                  · have hna0 : ((na : Int) == 0) = false := by simp; omega
                    go_wp2_with fail
                    refine (gDiv m (Op.nf m (Op.mul a c)) d _ _ _ HM.out HX.out HOKD.out HUD.out PX_3.out PD_3.out).mono ?_
                    rintro e wq4 ⟨x1u, n1u, c1u, x2u, n2u, c2u, qu, ru, rfl, hq, hr, hdv, hg⟩
                    have HGQ4 := Lib.hid ((HGQ3.out).trans hg)
                    have PX_4 := Lib.hid (PX_3.out.later hg)
                    have PY_4 := Lib.hid (PY_3.out.later hg)
                    have PD_4 := Lib.hid (PD_3.out.later hg)
                    have hzu : n2u = 0 := by rw [hr.len.1]; exact dd_exact (by omega) HUD.out HD.out.2.2.1 hdv
                    subst hzu
                    clear hq hr hdv
                    clear hg 
                    go_wp2_with fail
                    refine (gDiv m (Op.nf m (Op.mul b c)) d _ _ _ HM.out HY.out HOKD.out HUD.out PY_4.out PD_4.out).mono ?_
                    rintro e wq5 ⟨x1v, n1v, c1v, x2v, n2v, c2v, qv, rv, rfl, hq, hr, hdv, hg⟩
                    have HGQ5 := Lib.hid ((HGQ4.out).trans hg)
                    have PX_5 := Lib.hid (PX_4.out.later hg)
                    have PY_5 := Lib.hid (PY_4.out.later hg)
                    have PD_5 := Lib.hid (PD_4.out.later hg)
                    have hzv : n2v = 0 := by rw [hr.len.1]; exact dd_exact (by omega) HUD.out HD.out.2.2.2.1 hdv
                    subst hzv
                    clear hq hr hdv
                    clear hg 
                    go_wp2_with fail
                    refine (gDiv m d c _ _ _ HM.out HOKD.out HOKc.out.2 HUC.out PD_5.out (HT.out.later (HGQ5.out))).mono ?_
                    rintro e wq6 ⟨x1w, n1w, c1w, x2w, n2w, c2w, qw, rw, rfl, hq, hr, hdv, hg⟩
                    have HGQ6 := Lib.hid ((HGQ5.out).trans hg)
                    have PX_6 := Lib.hid (PX_5.out.later hg)
                    have PY_6 := Lib.hid (PY_5.out.later hg)
                    have PD_6 := Lib.hid (PD_5.out.later hg)
                    have hzw : n2w = 0 := by rw [hr.len.1]; exact dd_exact (by omega) HUC.out HD.out.2.2.2.2 hdv
                    subst hzw
                    clear hq hr hdv
                    clear hg 
                    go_wp2_with fail
                    refine (awake_any _).mono ?_
                    rintro e wz ⟨rfl, hg⟩
                    have HGZ := Lib.hid ((HGQ6.out).trans hg)
                    clear hg
                    go_wp2_with fail
                    go_ret
                    exact ⟨rfl, HGZ.out⟩
                · have hfc : (Ec != 0) = true := by simp [h0c]
                  go_enter Try.func13, Try.ntmps13
                  go_wp2_with fail
                  go_quiet (fail)
                  go_wp2_with fail
                  refine (rprimeZ m _ (by omega)).mono ?_
                  rintro e wc1 ⟨r, rfl, hr, hg⟩
                  have HGC1 := Lib.hid ((((Gr.new w _).drewN _)).trans hg)
                  obtain rfl : r = true := by exact hr.2 HPR.out
                  clear hr hg
                  go_wp2_with fail
                  refine (pCheck_any m a _ _ (HU.out.later HGC1.out) HLa.out).mono ?_
                  rintro e wc2 ⟨rfl, hg⟩
                  rw [← HEa.out]
                  have HGC2 := Lib.hid ((HGC1.out).trans hg)
                  clear hg
                  go_wp2_with fail
                  refine (pCheck_any m b _ _ (HV.out.later HGC2.out) HLb.out).mono ?_
                  rintro e wc3 ⟨rfl, hg⟩
                  rw [← HEb.out]
                  have HGC3 := Lib.hid ((HGC2.out).trans hg)
                  clear hg
                  go_wp2_with fail
                  refine (pCheck_any m c _ _ (HT.out.later HGC3.out) HLc.out).mono ?_
                  rintro e wc4 ⟨rfl, hg⟩
                  rw [← HEc.out]
                  have HGC4 := Lib.hid ((HGC3.out).trans hg)
                  clear hg
                  go_wp2_with fail
                  refine (awake_any _).mono ?_
                  rintro e wz ⟨rfl, hg⟩
                  have HGZ := Lib.hid ((HGC4.out).trans hg)
                  clear hg
                  go_wp2_with fail
                  go_ret
                  exact ⟨rfl, HGZ.out⟩
              · have hfb : (Eb != 0) = true := by simp [h0b]
                go_enter Try.func13, Try.ntmps13
                go_wp2_with fail
                go_quiet (fail)
                go_wp2_with fail
                refine (rprimeZ m _ (by omega)).mono ?_
                rintro e wc1 ⟨r, rfl, hr, hg⟩
                have HGC1 := Lib.hid ((((Gr.new w _).drewN _)).trans hg)
                obtain rfl : r = true := by exact hr.2 HPR.out
                clear hr hg
                go_wp2_with fail
                refine (pCheck_any m a _ _ (HU.out.later HGC1.out) HLa.out).mono ?_
                rintro e wc2 ⟨rfl, hg⟩
                rw [← HEa.out]
                have HGC2 := Lib.hid ((HGC1.out).trans hg)
                clear hg
                go_wp2_with fail
                refine (pCheck_any m b _ _ (HV.out.later HGC2.out) HLb.out).mono ?_
                rintro e wc3 ⟨rfl, hg⟩
                rw [← HEb.out]
                have HGC3 := Lib.hid ((HGC2.out).trans hg)
                clear hg
                go_wp2_with fail
                refine (awake_any _).mono ?_
                rintro e wz ⟨rfl, hg⟩
                have HGZ := Lib.hid ((HGC3.out).trans hg)
                clear hg
                go_wp2_with fail
                go_ret
                exact ⟨rfl, HGZ.out⟩
            · have hfa : (Ea != 0) = true := by simp [h0a]
              go_enter Try.func13, Try.ntmps13
              go_wp2_with fail
              go_quiet (fail)
              go_wp2_with fail
              refine (rprimeZ m _ (by omega)).mono ?_
              rintro e wc1 ⟨r, rfl, hr, hg⟩
              have HGC1 := Lib.hid ((((Gr.new w _).drewN _)).trans hg)
              obtain rfl : r = true := by exact hr.2 HPR.out
              clear hr hg
              go_wp2_with fail
              refine (pCheck_any m a _ _ (HU.out.later HGC1.out) HLa.out).mono ?_
              rintro e wc2 ⟨rfl, hg⟩
              rw [← HEa.out]
              have HGC2 := Lib.hid ((HGC1.out).trans hg)
              clear hg
              go_wp2_with fail
              refine (awake_any _).mono ?_
              rintro e wz ⟨rfl, hg⟩
              have HGZ := Lib.hid ((HGC2.out).trans hg)
              clear hg
              go_wp2_with fail
              go_ret
              exact ⟨rfl, HGZ.out⟩
          · have HPR := Lib.hid hpr
            clear hpr
            go_enter Try.func13, Try.ntmps13
            go_wp2_with fail
            go_quiet (fail)
            go_wp2_with fail
            refine (rprimeZ m _ (by omega)).mono ?_
            rintro e wc1 ⟨r, rfl, hr, hg⟩
            have HGC1 := Lib.hid ((((Gr.new w _).drewN _)).trans hg)
            obtain rfl : r = false := by cases r with | false => rfl | true => exact absurd (hr.1 rfl) HPR.out
            clear hr hg
            go_wp2_with fail
            refine (awake_any _).mono ?_
            rintro e wz ⟨rfl, hg⟩
            have HGZ := Lib.hid ((HGC1.out).trans hg)
            clear hg
            go_wp2_with fail
            go_ret
            exact ⟨rfl, HGZ.out⟩
end Go.Proofs.Ytaenjbemkeghgaa
