/- The laws PolyRing, PolyValues. -/
import Derived.Test.YtaenjbemkeghgaaPlc
namespace Go.Proofs.Ytaenjbemkeghgaa
open Go.RowKit
set_option linter.unusedVariables false

theorem ck2 {m : Int} {A B : List Int} (hm : okM m) (hA : A.length ≤ 256 ∧ Op.Nf m A) (hB : B.length ≤ 256 ∧ Op.Nf m B) : checkE m [A, B] = 0 :=
  (checkE_two (U32.rs hA.2.1 (by unfold okM at hm; omega)) (U32.rs hB.2.1 (by unfold okM at hm; omega))).2 ⟨hm, hA, hB⟩
theorem ck1 {m : Int} {A : List Int} (hm : okM m) (hA : A.length ≤ 256 ∧ Op.Nf m A) : checkE m [A] = 0 :=
  (checkE_one (U32.rs hA.2.1 (by unfold okM at hm; omega))).2 ⟨hm, hA⟩
theorem gMul (m : Int) (A B : List Int) (u v : Value) (w : World) (hm : okM m) (hA : A.length ≤ 256 ∧ Op.Nf m A) (hB : B.length ≤ 256 ∧ Op.Nf m B) (hs : A.length + B.length ≤ 257) (hu : HasP w u A) (hv : HasP w v B) :
    Calls Try.prog 22 #[.int .u32 m, u, v] w (PolE (Op.nf m (Op.mul A B)) 0 w) := by
  have h := pMul_any m A B u v w hu hv (by omega) (by omega)
  have e : mulE m A B = 0 := by unfold mulE; rw [ck2 hm hA hB, if_pos rfl, if_neg (by omega)]
  have e2 : mulL m A B = Op.nf m (Op.mul A B) := if_pos e
  rw [e, e2] at h
  exact h
theorem gAdd (m : Int) (A B : List Int) (u v : Value) (w : World) (hm : okM m) (hA : A.length ≤ 256 ∧ Op.Nf m A) (hB : B.length ≤ 256 ∧ Op.Nf m B) (hu : HasP w u A) (hv : HasP w v B) :
    Calls Try.prog 20 #[.int .u32 m, u, v] w (PolE (Op.nf m (Op.add A B)) 0 w) := by
  have h := pAdd_any m A B u v w hu hv (by omega) (by omega)
  have e := ck2 hm hA hB
  have e2 : addL m A B = Op.nf m (Op.add A B) := if_pos e
  rw [e, e2] at h
  exact h
theorem gSub (m : Int) (A B : List Int) (u v : Value) (w : World) (hm : okM m) (hA : A.length ≤ 256 ∧ Op.Nf m A) (hB : B.length ≤ 256 ∧ Op.Nf m B) (hu : HasP w u A) (hv : HasP w v B) :
    Calls Try.prog 21 #[.int .u32 m, u, v] w (PolE (Op.nf m (Op.add A (Op.sc (-1) B))) 0 w) := by
  have h := pSub_any m A B u v w hu hv (by omega) (by omega)
  have e := ck2 hm hA hB
  have e2 : subL m A B = Op.nf m (Op.add A (Op.sc (-1) B)) := if_pos e
  rw [e, e2] at h
  exact h
theorem gEval (m x : Int) (A : List Int) (u : Value) (w : World) (hm : okM m) (hx : 0 ≤ x ∧ x < m) (hA : A.length ≤ 256 ∧ Op.Nf m A) (hu : HasP w u A) :
    Calls Try.prog 36 #[.int .u32 m, u, .int .u32 x] w (fun e w' => e = .returned (.tuple #[.int .u32 (Op.ev A x % m), .int .i64 0]) ∧ Gr w w') := by
  have h := pEval_any m x A u w (by unfold okM at hm; omega) hu (by omega)
  have e : evE m A x = 0 := by unfold evE; rw [ck1 hm hA, if_pos rfl, if_neg (by omega)]
  have e2 : evV m A x = Op.ev A x % m := if_pos e
  rw [e, e2] at h
  exact h
/-- Wrap, where there is no error. -/
def WrapG (m : Int) (n : Nat) (A : List Int) (w : World) (e : Ending) (w' : World) : Prop :=
  ∃ x k c l, e = .returned (.tuple #[.slice x k c, .int .i64 0]) ∧ HasP w' (.slice x k c) l ∧ l.length = n ∧ Op.Rs m l ∧ Op.Wr m n A l ∧ Gr w w'
theorem gWrap (m : Int) (n : Nat) (A : List Int) (u : Value) (w : World) (hm : okM m) (hn : 1 ≤ n ∧ n ≤ 256) (hA : A.length ≤ 256 ∧ Op.Nf m A) (hu : HasP w u A) :
    Calls Try.prog 35 #[.int .u32 m, u, .int .i64 n] w (WrapG m n A w) := by
  refine (pWrap_any m n A u w (by omega) hu (by omega)).mono ?_
  rintro e w' ⟨x, k, c, l, E, rfl, hl, hr, hf, hg⟩
  have e := ck1 hm hA
  rcases hr with ⟨h1, h2, _⟩ | ⟨_, h2, _⟩ | ⟨_, _, h3, h4, h5, h6⟩
  · omega
  · omega
  · subst h3
    exact ⟨x, k, c, l, rfl, hl, by simpa using h4, h5, by simpa using h6, hg⟩
/-- DivMod, where there is no error. -/
def DivG (m : Int) (A B : List Int) (w : World) (e : Ending) (w' : World) : Prop :=
  ∃ x1 n1 c1 x2 n2 c2 q r, e = .returned (.tuple #[.slice x1 n1 c1, .slice x2 n2 c2, .int .i64 0]) ∧ HasP w' (.slice x1 n1 c1) q ∧ HasP w' (.slice x2 n2 c2) r ∧ Op.Dv m A B q r ∧ Gr w w'
theorem gDiv (m : Int) (A B : List Int) (u v : Value) (w : World) (hm : okM m) (hA : A.length ≤ 256 ∧ Op.Nf m A) (hB : B.length ≤ 256 ∧ Op.Nf m B) (hU : divU m B) (hu : HasP w u A) (hv : HasP w v B) :
    Calls Try.prog 29 #[.int .u32 m, u, v] w (DivG m A B w) := by
  refine (pDivMod_any m A B u v w hu hv (by omega) (by omega)).mono ?_
  rintro e w' ⟨x1, n1, c1, x2, n2, c2, q, r, E, rfl, hq, hr, hd, _, _, hg⟩
  have e := ck2 hm hA hB
  rcases hd with ⟨h1, h2, _⟩ | ⟨_, h2, _⟩ | ⟨_, _, h3, h4⟩
  · omega
  · exact absurd hU h2
  · subst h3
    exact ⟨_, _, _, _, _, _, q, r, rfl, hq, hr, h4, hg⟩
theorem nfl {m : Int} (hm : okM m) (A : List Int) {k : Nat} (hk : A.length ≤ k) (hk2 : k ≤ 256) : (Op.nf m A).length ≤ 256 ∧ Op.Nf m (Op.nf m A) :=
  ⟨by have := Op.nf_len m A; omega, Op.nf_nf (by unfold okM at hm; omega) A⟩

set_option maxRecDepth 100000 in
set_option maxHeartbeats 4000000 in
theorem polyRing_all (m : Int) (a b c : List Int) (u v t : Value) (N K X : Int) (w : World)  (hu : HasP w u a) (hv : HasP w v b) (ht : HasP w t c) (hla : a.length ≤ 9223372036854775807) (hlb : b.length ≤ 9223372036854775807) (hlc : c.length ≤ 9223372036854775807) :
    Calls Try.prog 10 #[.agg #[.int .u32 m, u, v, t, .int .u64 N, .int .i64 K, .int .u32 X]] w (Truth w) := by
  obtain ⟨-, xa, ca, rfl, -, -, -⟩ := id hu
  obtain ⟨na, hna⟩ : ∃ na, na = a.length := ⟨_, rfl⟩
  rw [← hna] at hu ⊢
  have HU := Lib.hid hu
  have HNA := Lib.hid hna
  have hbna : na ≤ 9223372036854775807 := by omega
  have HLa := Lib.hid hla
  have HIFFa := Lib.hid (checkE_one (m := m) hu.1)
  obtain ⟨Ea, hEa⟩ : ∃ E, E = checkE m [a] := ⟨_, rfl⟩
  have HEa := Lib.hid hEa
  clear hu hna hla hEa
  obtain ⟨-, xb, cb, rfl, -, -, -⟩ := id hv
  obtain ⟨nb, hnb⟩ : ∃ nb, nb = b.length := ⟨_, rfl⟩
  rw [← hnb] at hv ⊢
  have HV := Lib.hid hv
  have HNB := Lib.hid hnb
  have hbnb : nb ≤ 9223372036854775807 := by omega
  have HLb := Lib.hid hlb
  have HIFFb := Lib.hid (checkE_one (m := m) hv.1)
  obtain ⟨Eb, hEb⟩ : ∃ E, E = checkE m [b] := ⟨_, rfl⟩
  have HEb := Lib.hid hEb
  clear hv hnb hlb hEb
  obtain ⟨-, xc, cc, rfl, -, -, -⟩ := id ht
  obtain ⟨nc, hnc⟩ : ∃ nc, nc = c.length := ⟨_, rfl⟩
  rw [← hnc] at ht ⊢
  have HT := Lib.hid ht
  have HNC := Lib.hid hnc
  have hbnc : nc ≤ 9223372036854775807 := by omega
  have HLc := Lib.hid hlc
  have HIFFc := Lib.hid (checkE_one (m := m) ht.1)
  obtain ⟨Ec, hEc⟩ : ∃ E, E = checkE m [c] := ⟨_, rfl⟩
  have HEc := Lib.hid hEc
  clear ht hnc hlc hEc
  by_cases g1 : (60 : Int) < (na : Int)
  · go_enter Try.func10, Try.ntmps10
    go_wp2_with fail
    go_quiet (fail)
    go_wp2_with fail
    refine (awake_any _).mono ?_
    rintro e wz ⟨rfl, hg⟩
    have HGZ := Lib.hid ((((Gr.new w _).drewN _)).trans hg)
    clear hg
    go_wp2_with fail
    go_ret
    exact ⟨rfl, HGZ.out⟩
  · by_cases g2 : (60 : Int) < (nb : Int)
    · go_enter Try.func10, Try.ntmps10
      go_wp2_with fail
      go_quiet (fail)
      go_wp2_with fail
      refine (awake_any _).mono ?_
      rintro e wz ⟨rfl, hg⟩
      have HGZ := Lib.hid ((((Gr.new w _).drewN _)).trans hg)
      clear hg
      go_wp2_with fail
      go_ret
      exact ⟨rfl, HGZ.out⟩
    · by_cases g3 : (60 : Int) < (nc : Int)
      · go_enter Try.func10, Try.ntmps10
        go_wp2_with fail
        go_quiet (fail)
        go_wp2_with fail
        refine (awake_any _).mono ?_
        rintro e wz ⟨rfl, hg⟩
        have HGZ := Lib.hid ((((Gr.new w _).drewN _)).trans hg)
        clear hg
        go_wp2_with fail
        go_ret
        exact ⟨rfl, HGZ.out⟩
      · by_cases h0a : Ea = 0
        · subst h0a
          have HOKa := Lib.hid (HIFFa.out.1 HEa.out.symm)
          by_cases h0b : Eb = 0
          · subst h0b
            have HOKb := Lib.hid (HIFFb.out.1 HEb.out.symm)
            by_cases h0c : Ec = 0
            · subst h0c
              have HOKc := Lib.hid (HIFFc.out.1 HEc.out.symm)
              go_enter Try.func10, Try.ntmps10
              go_wp2_with fail
              go_quiet (fail)
              go_wp2_with fail
              refine (pCheck_any m a _ _ (HU.out.later ((Gr.new w _).drewN _)) HLa.out).mono ?_
              rintro e wc1 ⟨rfl, hg⟩
              rw [← HEa.out]
              have HGC1 := Lib.hid ((((Gr.new w _).drewN _)).trans hg)
              clear hg
              go_wp2_with fail
              refine (pCheck_any m b _ _ (HV.out.later HGC1.out) HLb.out).mono ?_
              rintro e wc2 ⟨rfl, hg⟩
              rw [← HEb.out]
              have HGC2 := Lib.hid ((HGC1.out).trans hg)
              clear hg
              go_wp2_with fail
              refine (pCheck_any m c _ _ (HT.out.later HGC2.out) HLc.out).mono ?_
              rintro e wc3 ⟨rfl, hg⟩
              rw [← HEc.out]
              have HGC3 := Lib.hid ((HGC2.out).trans hg)
              clear hg
              go_wp2_with fail
              have HM := Lib.hid HOKa.out.1
              have HLA := Lib.hid (show a.length ≤ 60 from by have := HNA.out; omega)
              have HLB := Lib.hid (show b.length ≤ 60 from by have := HNB.out; omega)
              have HLC := Lib.hid (show c.length ≤ 60 from by have := HNC.out; omega)
              have HM0 := Lib.hid (show 0 < m from by have h := HM.out; unfold okM at h; omega)
              have HKAB := Lib.hid (nfl HM.out _ (Op.mul_len a b) (by have := HLA.out; have := HLB.out; have := HLC.out; omega))
              have HKBC := Lib.hid (nfl HM.out _ (Op.mul_len b c) (by have := HLA.out; have := HLB.out; have := HLC.out; omega))
              have HKAC := Lib.hid (nfl HM.out _ (Op.mul_len a c) (by have := HLA.out; have := HLB.out; have := HLC.out; omega))
              have HAB := Lib.hid (show (Op.nf m (Op.mul a b)).length ≤ 120 from by have := Op.nf_len m (Op.mul a b); have := Op.mul_len a b; have := HLA.out; have := HLB.out; omega)
              have HBC := Lib.hid (show (Op.nf m (Op.mul b c)).length ≤ 120 from by have := Op.nf_len m (Op.mul b c); have := Op.mul_len b c; have := HLC.out; have := HLB.out; omega)
              have HKS := Lib.hid (show (Op.nf m (Op.add a b)).length ≤ 256 ∧ Op.Nf m (Op.nf m (Op.add a b)) from nfl HM.out _ (k := 60) (by rw [Op.add_len]; have := HLA.out; have := HLB.out; omega) (by omega))
              have HS60 := Lib.hid (show (Op.nf m (Op.add a b)).length ≤ 60 from by have := Op.nf_len m (Op.add a b); rw [Op.add_len] at this; have := HLA.out; have := HLB.out; omega)
              refine (gMul m a b _ _ _ HM.out HOKa.out.2 HOKb.out.2 (by have := HLA.out; have := HLB.out; have := HLC.out; have := HAB.out; have := HBC.out; have := HS60.out; omega) (HU.out.later (HGC3.out)) (HV.out.later (HGC3.out))).mono ?_
              rintro e wq1 ⟨xz, nz, cz, rfl, hx, hfr, hg⟩
              have HGQ1 := Lib.hid ((HGC3.out).trans hg)
              have PAB_1 := Lib.hid hx
              clear hg hx hfr
              go_wp2_with fail
              refine (gMul m b a _ _ _ HM.out HOKb.out.2 HOKa.out.2 (by have := HLA.out; have := HLB.out; have := HLC.out; have := HAB.out; have := HBC.out; have := HS60.out; omega) (HV.out.later (HGQ1.out)) (HU.out.later (HGQ1.out))).mono ?_
              rintro e wq2 ⟨xz, nz, cz, rfl, hx, hfr, hg⟩
              have HGQ2 := Lib.hid ((HGQ1.out).trans hg)
              have PAB_2 := Lib.hid (PAB_1.out.later hg)
              have PBA_2 := Lib.hid hx
              clear hg hx hfr
              go_wp2_with fail
              refine (gMul m (Op.nf m (Op.mul a b)) c _ _ _ HM.out HKAB.out HOKc.out.2 (by have := HLA.out; have := HLB.out; have := HLC.out; have := HAB.out; have := HBC.out; have := HS60.out; omega) PAB_2.out (HT.out.later (HGQ2.out))).mono ?_
              rintro e wq3 ⟨xz, nz, cz, rfl, hx, hfr, hg⟩
              have HGQ3 := Lib.hid ((HGQ2.out).trans hg)
              have PAB_3 := Lib.hid (PAB_2.out.later hg)
              have PBA_3 := Lib.hid (PBA_2.out.later hg)
              have PL_3 := Lib.hid hx
              clear hg hx hfr
              go_wp2_with fail
              refine (gMul m b c _ _ _ HM.out HOKb.out.2 HOKc.out.2 (by have := HLA.out; have := HLB.out; have := HLC.out; have := HAB.out; have := HBC.out; have := HS60.out; omega) (HV.out.later (HGQ3.out)) (HT.out.later (HGQ3.out))).mono ?_
              rintro e wq4 ⟨xz, nz, cz, rfl, hx, hfr, hg⟩
              have HGQ4 := Lib.hid ((HGQ3.out).trans hg)
              have PAB_4 := Lib.hid (PAB_3.out.later hg)
              have PBA_4 := Lib.hid (PBA_3.out.later hg)
              have PL_4 := Lib.hid (PL_3.out.later hg)
              have PBC_4 := Lib.hid hx
              clear hg hx hfr
              go_wp2_with fail
              refine (gMul m a (Op.nf m (Op.mul b c)) _ _ _ HM.out HOKa.out.2 HKBC.out (by have := HLA.out; have := HLB.out; have := HLC.out; have := HAB.out; have := HBC.out; have := HS60.out; omega) (HU.out.later (HGQ4.out)) PBC_4.out).mono ?_
              rintro e wq5 ⟨xz, nz, cz, rfl, hx, hfr, hg⟩
              have HGQ5 := Lib.hid ((HGQ4.out).trans hg)
              have PAB_5 := Lib.hid (PAB_4.out.later hg)
              have PBA_5 := Lib.hid (PBA_4.out.later hg)
              have PL_5 := Lib.hid (PL_4.out.later hg)
              have PBC_5 := Lib.hid (PBC_4.out.later hg)
              have PR_5 := Lib.hid hx
              clear hg hx hfr
              go_wp2_with fail
              have HQ6 := Lib.hid (show decide ((Op.nf m (Op.mul a b)) = (Op.nf m (Op.mul b a))) = true from decide_eq_true (Op.nf_iff HM0.out (Op.cg_swap m a b)))
              refine (lsame_any (Op.nf m (Op.mul a b)) (Op.nf m (Op.mul b a)) _ _ _ PAB_5.out PBA_5.out (by have h1 := Op.nf_len m (Op.mul a b); have h2 := Op.mul_len a b; have := HLA.out; have := HLB.out; have := HLC.out; have := HAB.out; have := HBC.out; have := HS60.out; omega) (by have h1 := Op.nf_len m (Op.mul b a); have h2 := Op.mul_len b a; have := HLA.out; have := HLB.out; have := HLC.out; have := HAB.out; have := HBC.out; have := HS60.out; omega)).mono ?_
              rintro e wq6 ⟨rfl, hg⟩
              rw [HQ6.out]
              have HGQ6 := Lib.hid ((HGQ5.out).trans hg)
              have PAB_6 := Lib.hid (PAB_5.out.later hg)
              have PBA_6 := Lib.hid (PBA_5.out.later hg)
              have PL_6 := Lib.hid (PL_5.out.later hg)
              have PBC_6 := Lib.hid (PBC_5.out.later hg)
              have PR_6 := Lib.hid (PR_5.out.later hg)
              clear hg
              go_wp2_with fail
              have HQ7 := Lib.hid (show decide ((Op.nf m (Op.mul (Op.nf m (Op.mul a b)) c)) = (Op.nf m (Op.mul a (Op.nf m (Op.mul b c))))) = true from decide_eq_true (Op.nf_iff HM0.out ((((Op.nf_cg m _).mul (Op.Cg.refl m c)).trans (Op.cg_assoc m a b c)).trans ((Op.Cg.refl m a).mul (Op.nf_cg m _).symm))))
              refine (lsame_any (Op.nf m (Op.mul (Op.nf m (Op.mul a b)) c)) (Op.nf m (Op.mul a (Op.nf m (Op.mul b c)))) _ _ _ PL_6.out PR_6.out (by have h1 := Op.nf_len m (Op.mul (Op.nf m (Op.mul a b)) c); have h2 := Op.mul_len (Op.nf m (Op.mul a b)) c; have := HLA.out; have := HLB.out; have := HLC.out; have := HAB.out; have := HBC.out; have := HS60.out; omega) (by have h1 := Op.nf_len m (Op.mul a (Op.nf m (Op.mul b c))); have h2 := Op.mul_len a (Op.nf m (Op.mul b c)); have := HLA.out; have := HLB.out; have := HLC.out; have := HAB.out; have := HBC.out; have := HS60.out; omega)).mono ?_
              rintro e wq7 ⟨rfl, hg⟩
              rw [HQ7.out]
              have HGQ7 := Lib.hid ((HGQ6.out).trans hg)
              have PAB_7 := Lib.hid (PAB_6.out.later hg)
              have PBA_7 := Lib.hid (PBA_6.out.later hg)
              have PL_7 := Lib.hid (PL_6.out.later hg)
              have PBC_7 := Lib.hid (PBC_6.out.later hg)
              have PR_7 := Lib.hid (PR_6.out.later hg)
              clear hg
              go_wp2_with fail
              refine (gAdd m a b _ _ _ HM.out HOKa.out.2 HOKb.out.2 (HU.out.later (HGQ7.out)) (HV.out.later (HGQ7.out))).mono ?_
              rintro e wq8 ⟨xz, nz, cz, rfl, hx, hfr, hg⟩
              have HGQ8 := Lib.hid ((HGQ7.out).trans hg)
              have PAB_8 := Lib.hid (PAB_7.out.later hg)
              have PBA_8 := Lib.hid (PBA_7.out.later hg)
              have PL_8 := Lib.hid (PL_7.out.later hg)
              have PBC_8 := Lib.hid (PBC_7.out.later hg)
              have PR_8 := Lib.hid (PR_7.out.later hg)
              have PS_8 := Lib.hid hx
              clear hg hx hfr
              go_wp2_with fail
              refine (gMul m (Op.nf m (Op.add a b)) c _ _ _ HM.out HKS.out HOKc.out.2 (by have := HLA.out; have := HLB.out; have := HLC.out; have := HAB.out; have := HBC.out; have := HS60.out; omega) PS_8.out (HT.out.later (HGQ8.out))).mono ?_
              rintro e wq9 ⟨xz, nz, cz, rfl, hx, hfr, hg⟩
              have HGQ9 := Lib.hid ((HGQ8.out).trans hg)
              have PAB_9 := Lib.hid (PAB_8.out.later hg)
              have PBA_9 := Lib.hid (PBA_8.out.later hg)
              have PL_9 := Lib.hid (PL_8.out.later hg)
              have PBC_9 := Lib.hid (PBC_8.out.later hg)
              have PR_9 := Lib.hid (PR_8.out.later hg)
              have PS_9 := Lib.hid (PS_8.out.later hg)
              have PF_9 := Lib.hid hx
              clear hg hx hfr
              go_wp2_with fail
              refine (gMul m a c _ _ _ HM.out HOKa.out.2 HOKc.out.2 (by have := HLA.out; have := HLB.out; have := HLC.out; have := HAB.out; have := HBC.out; have := HS60.out; omega) (HU.out.later (HGQ9.out)) (HT.out.later (HGQ9.out))).mono ?_
              rintro e wq10 ⟨xz, nz, cz, rfl, hx, hfr, hg⟩
              have HGQ10 := Lib.hid ((HGQ9.out).trans hg)
              have PAB_10 := Lib.hid (PAB_9.out.later hg)
              have PBA_10 := Lib.hid (PBA_9.out.later hg)
              have PL_10 := Lib.hid (PL_9.out.later hg)
              have PBC_10 := Lib.hid (PBC_9.out.later hg)
              have PR_10 := Lib.hid (PR_9.out.later hg)
              have PS_10 := Lib.hid (PS_9.out.later hg)
              have PF_10 := Lib.hid (PF_9.out.later hg)
              have PAC_10 := Lib.hid hx
              clear hg hx hfr
              go_wp2_with fail
              refine (gAdd m (Op.nf m (Op.mul a c)) (Op.nf m (Op.mul b c)) _ _ _ HM.out HKAC.out HKBC.out PAC_10.out PBC_10.out).mono ?_
              rintro e wq11 ⟨xz, nz, cz, rfl, hx, hfr, hg⟩
              have HGQ11 := Lib.hid ((HGQ10.out).trans hg)
              have PAB_11 := Lib.hid (PAB_10.out.later hg)
              have PBA_11 := Lib.hid (PBA_10.out.later hg)
              have PL_11 := Lib.hid (PL_10.out.later hg)
              have PBC_11 := Lib.hid (PBC_10.out.later hg)
              have PR_11 := Lib.hid (PR_10.out.later hg)
              have PS_11 := Lib.hid (PS_10.out.later hg)
              have PF_11 := Lib.hid (PF_10.out.later hg)
              have PAC_11 := Lib.hid (PAC_10.out.later hg)
              have P2_11 := Lib.hid hx
              clear hg hx hfr
              go_wp2_with fail
              refine (gSub m (Op.nf m (Op.add a b)) b _ _ _ HM.out HKS.out HOKb.out.2 PS_11.out (HV.out.later (HGQ11.out))).mono ?_
              rintro e wq12 ⟨xz, nz, cz, rfl, hx, hfr, hg⟩
              have HGQ12 := Lib.hid ((HGQ11.out).trans hg)
              have PAB_12 := Lib.hid (PAB_11.out.later hg)
              have PBA_12 := Lib.hid (PBA_11.out.later hg)
              have PL_12 := Lib.hid (PL_11.out.later hg)
              have PBC_12 := Lib.hid (PBC_11.out.later hg)
              have PR_12 := Lib.hid (PR_11.out.later hg)
              have PS_12 := Lib.hid (PS_11.out.later hg)
              have PF_12 := Lib.hid (PF_11.out.later hg)
              have PAC_12 := Lib.hid (PAC_11.out.later hg)
              have P2_12 := Lib.hid (P2_11.out.later hg)
              have PK_12 := Lib.hid hx
              clear hg hx hfr
              go_wp2_with fail
              have HQ13 := Lib.hid (show decide ((Op.nf m (Op.mul (Op.nf m (Op.add a b)) c)) = (Op.nf m (Op.add (Op.nf m (Op.mul a c)) (Op.nf m (Op.mul b c))))) = true from decide_eq_true (Op.nf_iff HM0.out ((((Op.nf_cg m _).mul (Op.Cg.refl m c)).trans (Op.cg_distl m a b c)).trans (((Op.nf_cg m _).symm).add (Op.nf_cg m _).symm))))
              refine (lsame_any (Op.nf m (Op.mul (Op.nf m (Op.add a b)) c)) (Op.nf m (Op.add (Op.nf m (Op.mul a c)) (Op.nf m (Op.mul b c)))) _ _ _ PF_12.out P2_12.out (by have h1 := Op.nf_len m (Op.mul (Op.nf m (Op.add a b)) c); have h2 := Op.mul_len (Op.nf m (Op.add a b)) c; have := HLA.out; have := HLB.out; have := HLC.out; have := HAB.out; have := HBC.out; have := HS60.out; omega) (by have h1 := Op.nf_len m (Op.add (Op.nf m (Op.mul a c)) (Op.nf m (Op.mul b c))); rw [Op.add_len] at h1; have h2 := HKAC.out.1; have := HBC.out; omega)).mono ?_
              rintro e wq13 ⟨rfl, hg⟩
              rw [HQ13.out]
              have HGQ13 := Lib.hid ((HGQ12.out).trans hg)
              have PAB_13 := Lib.hid (PAB_12.out.later hg)
              have PBA_13 := Lib.hid (PBA_12.out.later hg)
              have PL_13 := Lib.hid (PL_12.out.later hg)
              have PBC_13 := Lib.hid (PBC_12.out.later hg)
              have PR_13 := Lib.hid (PR_12.out.later hg)
              have PS_13 := Lib.hid (PS_12.out.later hg)
              have PF_13 := Lib.hid (PF_12.out.later hg)
              have PAC_13 := Lib.hid (PAC_12.out.later hg)
              have P2_13 := Lib.hid (P2_12.out.later hg)
              have PK_13 := Lib.hid (PK_12.out.later hg)
              clear hg
              go_wp2_with fail
              have HQ14 := Lib.hid (show decide ((Op.nf m (Op.add (Op.nf m (Op.add a b)) (Op.sc (-1) b))) = a) = true from decide_eq_true ((Op.nf_iff HM0.out (((Op.nf_cg m _).add (Op.Cg.refl m _)).trans (Op.Cg.of (fun i => by rw [Op.cf_add, Op.cf_add, Op.cf_sc]; omega)))).trans (Op.nf_self HM0.out HOKa.out.2.2)))
              refine (lsame_any (Op.nf m (Op.add (Op.nf m (Op.add a b)) (Op.sc (-1) b))) a _ _ _ PK_13.out (HU.out.later (HGQ13.out)) (by have h1 := Op.nf_len m (Op.add (Op.nf m (Op.add a b)) (Op.sc (-1) b)); rw [Op.add_len, Op.sc_len] at h1; have := HS60.out; have := HLB.out; omega) (by have := HLA.out; omega)).mono ?_
              rintro e wq14 ⟨rfl, hg⟩
              rw [HQ14.out]
              have HGQ14 := Lib.hid ((HGQ13.out).trans hg)
              have PAB_14 := Lib.hid (PAB_13.out.later hg)
              have PBA_14 := Lib.hid (PBA_13.out.later hg)
              have PL_14 := Lib.hid (PL_13.out.later hg)
              have PBC_14 := Lib.hid (PBC_13.out.later hg)
              have PR_14 := Lib.hid (PR_13.out.later hg)
              have PS_14 := Lib.hid (PS_13.out.later hg)
              have PF_14 := Lib.hid (PF_13.out.later hg)
              have PAC_14 := Lib.hid (PAC_13.out.later hg)
              have P2_14 := Lib.hid (P2_13.out.later hg)
              have PK_14 := Lib.hid (PK_13.out.later hg)
              clear hg
              go_wp2_with fail
              refine (awake_any _).mono ?_
              rintro e wz ⟨rfl, hg⟩
              have HGZ := Lib.hid ((HGQ14.out).trans hg)
              clear hg
              go_wp2_with fail
              go_ret
              exact ⟨rfl, HGZ.out⟩
            · have hfc : (Ec != 0) = true := by simp [h0c]
              go_enter Try.func10, Try.ntmps10
              go_wp2_with fail
              go_quiet (fail)
              go_wp2_with fail
              refine (pCheck_any m a _ _ (HU.out.later ((Gr.new w _).drewN _)) HLa.out).mono ?_
              rintro e wc1 ⟨rfl, hg⟩
              rw [← HEa.out]
              have HGC1 := Lib.hid ((((Gr.new w _).drewN _)).trans hg)
              clear hg
              go_wp2_with fail
              refine (pCheck_any m b _ _ (HV.out.later HGC1.out) HLb.out).mono ?_
              rintro e wc2 ⟨rfl, hg⟩
              rw [← HEb.out]
              have HGC2 := Lib.hid ((HGC1.out).trans hg)
              clear hg
              go_wp2_with fail
              refine (pCheck_any m c _ _ (HT.out.later HGC2.out) HLc.out).mono ?_
              rintro e wc3 ⟨rfl, hg⟩
              rw [← HEc.out]
              have HGC3 := Lib.hid ((HGC2.out).trans hg)
              clear hg
              go_wp2_with fail
              refine (awake_any _).mono ?_
              rintro e wz ⟨rfl, hg⟩
              have HGZ := Lib.hid ((HGC3.out).trans hg)
              clear hg
              go_wp2_with fail
              go_ret
              exact ⟨rfl, HGZ.out⟩
          · have hfb : (Eb != 0) = true := by simp [h0b]
            go_enter Try.func10, Try.ntmps10
            go_wp2_with fail
            go_quiet (fail)
            go_wp2_with fail
            refine (pCheck_any m a _ _ (HU.out.later ((Gr.new w _).drewN _)) HLa.out).mono ?_
            rintro e wc1 ⟨rfl, hg⟩
            rw [← HEa.out]
            have HGC1 := Lib.hid ((((Gr.new w _).drewN _)).trans hg)
            clear hg
            go_wp2_with fail
            refine (pCheck_any m b _ _ (HV.out.later HGC1.out) HLb.out).mono ?_
            rintro e wc2 ⟨rfl, hg⟩
            rw [← HEb.out]
            have HGC2 := Lib.hid ((HGC1.out).trans hg)
            clear hg
            go_wp2_with fail
            refine (awake_any _).mono ?_
            rintro e wz ⟨rfl, hg⟩
            have HGZ := Lib.hid ((HGC2.out).trans hg)
            clear hg
            go_wp2_with fail
            go_ret
            exact ⟨rfl, HGZ.out⟩
        · have hfa : (Ea != 0) = true := by simp [h0a]
          go_enter Try.func10, Try.ntmps10
          go_wp2_with fail
          go_quiet (fail)
          go_wp2_with fail
          refine (pCheck_any m a _ _ (HU.out.later ((Gr.new w _).drewN _)) HLa.out).mono ?_
          rintro e wc1 ⟨rfl, hg⟩
          rw [← HEa.out]
          have HGC1 := Lib.hid ((((Gr.new w _).drewN _)).trans hg)
          clear hg
          go_wp2_with fail
          refine (awake_any _).mono ?_
          rintro e wz ⟨rfl, hg⟩
          have HGZ := Lib.hid ((HGC1.out).trans hg)
          clear hg
          go_wp2_with fail
          go_ret
          exact ⟨rfl, HGZ.out⟩

theorem ev_nf {m : Int} (A : List Int) (x : Int) : Op.ev (Op.nf m A) x % m = Op.ev A x % m :=
  Int.emod_eq_emod_iff_emod_sub_eq_zero.2 (Int.emod_eq_zero_of_dvd (Op.ev_cg x (Op.nf_cg m A)))
theorem line_nf {m x : Int} (hm : 2 ≤ m) : Op.Nf m [(m - x) % m, 1] := ⟨fun y hy => by
  simp at hy
  rcases hy with rfl | rfl
  · exact ⟨Int.emod_nonneg _ (by omega), Int.emod_lt_of_pos _ (by omega)⟩
  · omega, Op.tz_id (fun _ => by simp)⟩
theorem line_unit (m x : Int) : divU m [(m - x) % m, 1] := ⟨by simp, 1, ⟨0, by show Op.cf [(m - x) % m, 1] 1 * 1 - 1 = _; simp⟩⟩
/-- The rest of a division by x - X is the value. -/
theorem line_rest {m x : Int} (hm : 2 ≤ m) {a q r : List Int} (h : Op.Dv m a [(m - x) % m, 1] q r) : r.length ≤ 1 ∧ Op.cf r 0 = Op.ev a x % m := by
  obtain ⟨_, hr, hl, hc⟩ := h
  have hl1 : r.length ≤ 1 := by simp at hl; omega
  refine ⟨hl1, ?_⟩
  have h1 := Op.ev_cg x hc
  rw [Op.ev_add, Op.ev_mul] at h1
  have h2 : m ∣ Op.ev [(m - x) % m, 1] x := by
    simp only [Op.ev]
    have h3 := Op.dvd_mod m (m - x)
    have e : (m - x) % m + x * (1 + x * 0) = ((m - x) % m - (m - x)) + m := by simp; omega
    rw [e]; exact Int.dvd_add h3 (Int.dvd_refl m)
  have h4 : Op.ev r x = Op.cf r 0 := by
    cases r with
    | nil => rfl
    | cons c r => cases r with
      | nil => simp [Op.ev]
      | cons d r => simp at hl1
  rw [h4] at h1
  have h5 : m ∣ Op.ev a x - Op.cf r 0 := by
    have e : Op.ev a x - Op.cf r 0 = (Op.ev a x - (Op.ev q x * Op.ev [(m - x) % m, 1] x + Op.cf r 0)) + Op.ev q x * Op.ev [(m - x) % m, 1] x := by omega
    rw [e]; exact Int.dvd_add h1 (Int.dvd_mul_of_dvd_right h2)
  have h6 := Op.rs_cf (show 0 < m by omega) hr.1 0
  have h7 : Op.ev a x % m = Op.cf r 0 % m := Int.emod_eq_emod_iff_emod_sub_eq_zero.2 (Int.emod_eq_zero_of_dvd h5)
  rw [h7, Int.emod_eq_of_lt h6.1 h6.2]

set_option maxRecDepth 100000 in
set_option maxHeartbeats 4000000 in
theorem polyValues_all (m : Int) (a b : List Int) (u v t : Value) (N K X : Int) (w : World) (hmr : 0 ≤ m ∧ m < 4294967296) (hX : 0 ≤ X ∧ X < 4294967296) (hu : HasP w u a) (hv : HasP w v b) (hla : a.length ≤ 9223372036854775807) (hlb : b.length ≤ 9223372036854775807) :
    Calls Try.prog 11 #[.agg #[.int .u32 m, u, v, t, .int .u64 N, .int .i64 K, .int .u32 X]] w (Truth w) := by
  obtain ⟨-, xa, ca, rfl, -, -, -⟩ := id hu
  obtain ⟨na, hna⟩ : ∃ na, na = a.length := ⟨_, rfl⟩
  rw [← hna] at hu ⊢
  have HU := Lib.hid hu
  have HNA := Lib.hid hna
  have hbna : na ≤ 9223372036854775807 := by omega
  have HLa := Lib.hid hla
  have HIFFa := Lib.hid (checkE_one (m := m) hu.1)
  obtain ⟨Ea, hEa⟩ : ∃ E, E = checkE m [a] := ⟨_, rfl⟩
  have HEa := Lib.hid hEa
  clear hu hna hla hEa
  obtain ⟨-, xb, cb, rfl, -, -, -⟩ := id hv
  obtain ⟨nb, hnb⟩ : ∃ nb, nb = b.length := ⟨_, rfl⟩
  rw [← hnb] at hv ⊢
  have HV := Lib.hid hv
  have HNB := Lib.hid hnb
  have hbnb : nb ≤ 9223372036854775807 := by omega
  have HLb := Lib.hid hlb
  have HIFFb := Lib.hid (checkE_one (m := m) hv.1)
  obtain ⟨Eb, hEb⟩ : ∃ E, E = checkE m [b] := ⟨_, rfl⟩
  have HEb := Lib.hid hEb
  clear hv hnb hlb hEb
  obtain ⟨hX0, hX1⟩ := hX
  obtain ⟨hmr0, hmr1⟩ := hmr
  by_cases g1 : (120 : Int) < (na : Int)
  · go_enter Try.func11, Try.ntmps11
    go_wp2_with fail
    go_quiet (fail)
    go_wp2_with fail
    refine (awake_any _).mono ?_
    rintro e wz ⟨rfl, hg⟩
    have HGZ := Lib.hid ((((Gr.new w _).drewN _)).trans hg)
    clear hg
    go_wp2_with fail
    go_ret
    exact ⟨rfl, HGZ.out⟩
  · by_cases g2 : (120 : Int) < (nb : Int)
    · go_enter Try.func11, Try.ntmps11
      go_wp2_with fail
      go_quiet (fail)
      go_wp2_with fail
      refine (awake_any _).mono ?_
      rintro e wz ⟨rfl, hg⟩
      have HGZ := Lib.hid ((((Gr.new w _).drewN _)).trans hg)
      clear hg
      go_wp2_with fail
      go_ret
      exact ⟨rfl, HGZ.out⟩
    · by_cases h0a : Ea = 0
      · subst h0a
        have HOKa := Lib.hid (HIFFa.out.1 HEa.out.symm)
        by_cases h0b : Eb = 0
        · subst h0b
          have HOKb := Lib.hid (HIFFb.out.1 HEb.out.symm)
          by_cases g5 : m ≤ X
          · go_enter Try.func11, Try.ntmps11
            go_wp2_with fail
            go_quiet (fail)
            go_wp2_with fail
            refine (pCheck_any m a _ _ (HU.out.later ((Gr.new w _).drewN _)) HLa.out).mono ?_
            rintro e wc1 ⟨rfl, hg⟩
            rw [← HEa.out]
            have HGC1 := Lib.hid ((((Gr.new w _).drewN _)).trans hg)
            clear hg
            go_wp2_with fail
            refine (pCheck_any m b _ _ (HV.out.later HGC1.out) HLb.out).mono ?_
            rintro e wc2 ⟨rfl, hg⟩
            rw [← HEb.out]
            have HGC2 := Lib.hid ((HGC1.out).trans hg)
            clear hg
            go_wp2_with fail
            refine (awake_any _).mono ?_
            rintro e wz ⟨rfl, hg⟩
            have HGZ := Lib.hid ((HGC2.out).trans hg)
            clear hg
            go_wp2_with fail
            go_ret
            exact ⟨rfl, HGZ.out⟩
          · go_enter Try.func11, Try.ntmps11
            go_wp2_with fail
            go_quiet (fail)
            go_wp2_with fail
            refine (pCheck_any m a _ _ (HU.out.later ((Gr.new w _).drewN _)) HLa.out).mono ?_
            rintro e wc1 ⟨rfl, hg⟩
            rw [← HEa.out]
            have HGC1 := Lib.hid ((((Gr.new w _).drewN _)).trans hg)
            clear hg
            go_wp2_with fail
            refine (pCheck_any m b _ _ (HV.out.later HGC1.out) HLb.out).mono ?_
            rintro e wc2 ⟨rfl, hg⟩
            rw [← HEb.out]
            have HGC2 := Lib.hid ((HGC1.out).trans hg)
            clear hg
            go_wp2_with fail
            have HM := Lib.hid HOKa.out.1
            have hm2 : 2 ≤ m := HM.out.1
            have hm3 : m ≤ 2147483647 := HM.out.2
            have HLA := Lib.hid (show a.length ≤ 120 from by have := HNA.out; omega)
            have HLB := Lib.hid (show b.length ≤ 120 from by have := HNB.out; omega)
            have HXB := Lib.hid (show 0 ≤ X ∧ X < m from by omega)
            have HKP := Lib.hid (nfl HM.out _ (Op.mul_len a b) (by have := HLA.out; have := HLB.out; omega))
            have HKS := Lib.hid (nfl HM.out (Op.add a b) (k := 120) (by rw [Op.add_len]; have := HLA.out; have := HLB.out; omega) (by omega))
            obtain ⟨V, hV⟩ : ∃ V, V = Op.ev a X % m := ⟨_, rfl⟩
            obtain ⟨U, hU⟩ : ∃ U, U = Op.ev b X % m := ⟨_, rfl⟩
            have hV0 : 0 ≤ V := by rw [hV]; exact Int.emod_nonneg _ (by omega)
            have hV1 : V < m := by rw [hV]; exact Int.emod_lt_of_pos _ (by omega)
            have hU0 : 0 ≤ U := by rw [hU]; exact Int.emod_nonneg _ (by omega)
            have hU1 : U < m := by rw [hU]; exact Int.emod_lt_of_pos _ (by omega)
            have HSUM := Lib.hid (show Op.ev (Op.nf m (Op.add a b)) X % m = (V + U) % m from by rw [ev_nf, Op.ev_add, hV, hU, ← Int.add_emod])
            have HPRO := Lib.hid (show Op.ev (Op.nf m (Op.mul a b)) X % m = V * U % m from by rw [ev_nf, Op.ev_mul, hV, hU, ← Int.mul_emod])
            have p0 := mul_lo hV0 hU0
            have p1 := mul_hi hV0 hU0 (by omega) (by omega)
            have HV0 := Lib.hid hV
            have HU0 := Lib.hid hU
            have r0 := emod_lo (V + U) m (by omega)
            have r1 := emod_hi (V + U) m (by omega)
            have r2 := emod_lo (V * U) m (by omega)
            have r3 := emod_hi (V * U) m (by omega)
            have r4 := emod_lo (m - X) m (by omega)
            have r5 := emod_hi (m - X) m (by omega)
            have hneg : -X % m % 4294967296 = (m - X) % m := by
              have e : -X % m = (m - X) % m := by rw [show m - X = -X + m by omega, Int.add_emod_right]
              rw [e, Int.emod_eq_of_lt r4 (by omega)]
            have HLU := Lib.hid (show divU m [-X % m % 4294967296, 1] from by rw [hneg]; exact line_unit m X)
            have HLN := Lib.hid (show ([-X % m % 4294967296, 1] : List Int).length ≤ 256 ∧ Op.Nf m [-X % m % 4294967296, 1] from ⟨by simp, by rw [hneg]; exact line_nf hm2⟩)
            have HLB2 := Lib.hid (show (0 ≤ -X % m % 4294967296 ∧ -X % m % 4294967296 < 4294967296) from by omega)
            have HNEG := Lib.hid hneg
            clear hneg
            clear hV hU
            refine (gEval m X a _ _ HM.out HXB.out HOKa.out.2 (HU.out.later (HGC2.out))).mono ?_
            rintro e wq1 ⟨rfl, hg⟩
            have HGQ1 := Lib.hid ((HGC2.out).trans hg)
            rw [← HV0.out]
            clear hg 
            go_wp2_with fail
            refine (gEval m X b _ _ HM.out HXB.out HOKb.out.2 (HV.out.later (HGQ1.out))).mono ?_
            rintro e wq2 ⟨rfl, hg⟩
            have HGQ2 := Lib.hid ((HGQ1.out).trans hg)
            rw [← HU0.out]
            clear hg 
            go_wp2_with fail
            refine (gAdd m a b _ _ _ HM.out HOKa.out.2 HOKb.out.2 (HU.out.later (HGQ2.out)) (HV.out.later (HGQ2.out))).mono ?_
            rintro e wq3 ⟨xz, nz, cz, rfl, hx, hfr, hg⟩
            have HGQ3 := Lib.hid ((HGQ2.out).trans hg)
            have PS_3 := Lib.hid hx
            clear hg hx hfr
            go_wp2_with fail
            refine (gMul m a b _ _ _ HM.out HOKa.out.2 HOKb.out.2 (by have := HLA.out; have := HLB.out; omega) (HU.out.later (HGQ3.out)) (HV.out.later (HGQ3.out))).mono ?_
            rintro e wq4 ⟨xz, nz, cz, rfl, hx, hfr, hg⟩
            have HGQ4 := Lib.hid ((HGQ3.out).trans hg)
            have PS_4 := Lib.hid (PS_3.out.later hg)
            have PP_4 := Lib.hid hx
            clear hg hx hfr
            go_wp2_with fail
            refine (gEval m X (Op.nf m (Op.add a b)) _ _ HM.out HXB.out HKS.out PS_4.out).mono ?_
            rintro e wq5 ⟨rfl, hg⟩
            have HGQ5 := Lib.hid ((HGQ4.out).trans hg)
            have PS_5 := Lib.hid (PS_4.out.later hg)
            have PP_5 := Lib.hid (PP_4.out.later hg)
            rw [HSUM.out]
            clear hg 
            go_wp2_with fail
            refine (gEval m X (Op.nf m (Op.mul a b)) _ _ HM.out HXB.out HKP.out PP_5.out).mono ?_
            rintro e wq6 ⟨rfl, hg⟩
            have HGQ6 := Lib.hid ((HGQ5.out).trans hg)
            have PS_6 := Lib.hid (PS_5.out.later hg)
            have PP_6 := Lib.hid (PP_5.out.later hg)
            rw [HPRO.out]
            clear hg 
            go_wp2_with fail
            refine (gDiv m a [-X % m % 4294967296, 1] _ _ _ HM.out HOKa.out.2 HLN.out HLU.out (HU.out.later ((HGQ6.out).alloc _)) (two_hasP' _ (-X % m % 4294967296) 1 _ rfl HLB2.out (by omega))).mono ?_
            rintro e wq7 ⟨x1, n1, c1, x2, n2, c2, q, r, rfl, hq, hr, hdv, hg⟩
            have HRL := Lib.hid (line_rest hm2 (show Op.Dv m a [(m - X) % m, 1] q r from HNEG.out ▸ hdv))
            have hrl := hr.len
            have hn2 : n2 ≤ 1 := by have := HRL.out.1; omega
            have HR := Lib.hid hr
            have HRE := Lib.hid hrl.1
            have HGQ7 := Lib.hid (((HGQ6.out).alloc _).trans hg)
            clear hq hr hdv hg hrl
            rcases Nat.eq_zero_or_pos n2 with hz | hz
            · subst hz
              have hV2 : V = 0 := by rw [HV0.out, ← HRL.out.2, Op.cf_out (by rw [← HRE.out]; omega)]
              subst hV2
              go_wp2_with fail
              refine (awake_any _).mono ?_
              rintro e wz ⟨rfl, hg⟩
              have HGZ := Lib.hid ((HGQ7.out).trans hg)
              clear hg
              go_wp2_with fail
              go_ret
              exact ⟨rfl, HGZ.out⟩
            · obtain rfl : n2 = 1 := by omega
              obtain ⟨g, o, rfl, hcell⟩ := HR.out.cells0 (by omega)
              have hcell : wq7.cell? ⟨g, o, none⟩ = some (.int .u32 V) := by
                rw [show o + (1 - 1) = o from rfl, show (1 - 1 : Nat) = 0 from rfl, HRL.out.2, ← HV0.out] at hcell
                exact hcell
              by_cases hV2 : V = 0
              · have hvb : (V == 0) = true := by simp [hV2]
                go_wp2_with fail
                refine (awake_any _).mono ?_
                rintro e wz ⟨rfl, hg⟩
                have HGZ := Lib.hid ((HGQ7.out).trans hg)
                clear hg
                go_wp2_with fail
                go_ret
                exact ⟨rfl, HGZ.out⟩
              · have hvb : (V == 0) = false := by simp [hV2]
                go_wp2_with fail
                refine (awake_any _).mono ?_
                rintro e wz ⟨rfl, hg⟩
                have HGZ := Lib.hid ((HGQ7.out).trans hg)
                clear hg
                go_wp2_with fail
                go_ret
                exact ⟨rfl, HGZ.out⟩
        · have hfb : (Eb != 0) = true := by simp [h0b]
          go_enter Try.func11, Try.ntmps11
          go_wp2_with fail
          go_quiet (fail)
          go_wp2_with fail
          refine (pCheck_any m a _ _ (HU.out.later ((Gr.new w _).drewN _)) HLa.out).mono ?_
          rintro e wc1 ⟨rfl, hg⟩
          rw [← HEa.out]
          have HGC1 := Lib.hid ((((Gr.new w _).drewN _)).trans hg)
          clear hg
          go_wp2_with fail
          refine (pCheck_any m b _ _ (HV.out.later HGC1.out) HLb.out).mono ?_
          rintro e wc2 ⟨rfl, hg⟩
          rw [← HEb.out]
          have HGC2 := Lib.hid ((HGC1.out).trans hg)
          clear hg
          go_wp2_with fail
          refine (awake_any _).mono ?_
          rintro e wz ⟨rfl, hg⟩
          have HGZ := Lib.hid ((HGC2.out).trans hg)
          clear hg
          go_wp2_with fail
          go_ret
          exact ⟨rfl, HGZ.out⟩
      · have hfa : (Ea != 0) = true := by simp [h0a]
        go_enter Try.func11, Try.ntmps11
        go_wp2_with fail
        go_quiet (fail)
        go_wp2_with fail
        refine (pCheck_any m a _ _ (HU.out.later ((Gr.new w _).drewN _)) HLa.out).mono ?_
        rintro e wc1 ⟨rfl, hg⟩
        rw [← HEa.out]
        have HGC1 := Lib.hid ((((Gr.new w _).drewN _)).trans hg)
        clear hg
        go_wp2_with fail
        refine (awake_any _).mono ?_
        rintro e wz ⟨rfl, hg⟩
        have HGZ := Lib.hid ((HGC1.out).trans hg)
        clear hg
        go_wp2_with fail
        go_ret
        exact ⟨rfl, HGZ.out⟩
end Go.Proofs.Ytaenjbemkeghgaa
