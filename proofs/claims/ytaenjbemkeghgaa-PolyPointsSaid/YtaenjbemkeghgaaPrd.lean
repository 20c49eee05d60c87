/- The reference: Add, Sub, Mul, DivMod, PowMod. -/
import Derived.Test.YtaenjbemkeghgaaPrs
namespace Go.Proofs.Ytaenjbemkeghgaa
open Go.RowKit
set_option linter.unusedVariables false

set_option maxRecDepth 100000 in
set_option maxHeartbeats 2000000 in
theorem rSub_any (m : Int) (a b : List Int) (u v : Value) (w : World) (hu : HasP w u a) (hv : HasP w v b) (hla : a.length ≤ 1000) (hlb : b.length ≤ 1000) :
    Calls Try.prog 26 #[.int .u32 m, u, v] w (PolE (subL m a b) (checkE m [a, b]) w) := by
  obtain ⟨-, xa, ca, rfl, -, -, -⟩ := id hu
  obtain ⟨-, xb, cb, rfl, -, -, -⟩ := id hv
  obtain ⟨na, hna⟩ : ∃ na, na = a.length := ⟨_, rfl⟩
  obtain ⟨nb, hnb⟩ : ∃ nb, nb = b.length := ⟨_, rfl⟩
  rw [← hna] at hu ⊢
  rw [← hnb] at hv ⊢
  have HU := Lib.hid hu
  have HV := Lib.hid hv
  have HNA := Lib.hid hna
  have HNB := Lib.hid hnb
  have HLA := Lib.hid hla
  have HLB := Lib.hid hlb
  have HIFF := Lib.hid (checkE_two (m := m) hu.1 hv.1)
  obtain ⟨E, hE⟩ : ∃ E, E = checkE m [a, b] := ⟨_, rfl⟩
  try rw [← hE]
  have HE := Lib.hid hE
  clear hu hv hla hlb hna hnb hE
  by_cases h0 : E = 0
  · subst h0
    have HOK := Lib.hid (HIFF.out.1 HE.out.symm)
    have HMB := Lib.hid (show 1 ≤ m ∧ m ≤ 4294967295 from by have := HOK.out.1; unfold okM at this; omega)
    go_enter Try.func26, Try.ntmps26
    go_wp2_with fail
    refine (both5_any m a b _ _ _ HU.out HV.out HLA.out HLB.out).mono ?_
    rintro e w1 ⟨rfl, rfl⟩
    rw [← HE.out]
    go_wp2_with fail
    refine (minus5_any m a b _ _ _ HMB.out HOK.out.2.2.2.1 HU.out HV.out (by have := HLA.out; omega) (by have := HLB.out; omega)).mono ?_
    rintro e w2 ⟨x, n, c, rfl, hx, hfr, hg⟩
    have H := Lib.hid (And.intro hx (And.intro hfr hg))
    clear hx hfr hg
    go_wp2_with fail
    go_ret2
    exact ⟨_, _, _, rfl, by have h : subL m a b = Op.nf m (Op.add a (Op.sc (-1) b)) := if_pos HE.out.symm; rw [h]; exact H.out.1, H.out.2.1, H.out.2.2⟩
  · have hf : (E != 0) = true := by simp [h0]
    have H0 := Lib.hid h0
    clear h0
    go_enter Try.func26, Try.ntmps26
    go_wp2_with fail
    refine (both5_any m a b _ _ _ HU.out HV.out HLA.out HLB.out).mono ?_
    rintro e w1 ⟨rfl, rfl⟩
    rw [← HE.out]
    go_wp2_with fail
    go_ret2
    exact ⟨_, _, _, rfl, by have h : subL m a b = [] := if_neg (by rw [← HE.out]; exact H0.out); rw [h]; exact HasP.nil _, (fun p hp => by cases hp), Gr.refl w⟩

set_option maxRecDepth 100000 in
set_option maxHeartbeats 2000000 in
theorem rMul_any (m : Int) (a b : List Int) (u v : Value) (w : World) (hu : HasP w u a) (hv : HasP w v b) (hla : a.length ≤ 1000) (hlb : b.length ≤ 1000) :
    Calls Try.prog 27 #[.int .u32 m, u, v] w (PolE (mulL m a b) (mulE m a b) w) := by
  obtain ⟨-, xa, ca, rfl, -, -, -⟩ := id hu
  obtain ⟨-, xb, cb, rfl, -, -, -⟩ := id hv
  obtain ⟨na, hna⟩ : ∃ na, na = a.length := ⟨_, rfl⟩
  obtain ⟨nb, hnb⟩ : ∃ nb, nb = b.length := ⟨_, rfl⟩
  rw [← hna] at hu ⊢
  rw [← hnb] at hv ⊢
  have HU := Lib.hid hu
  have HV := Lib.hid hv
  have HNA := Lib.hid hna
  have HNB := Lib.hid hnb
  have HLA := Lib.hid hla
  have HLB := Lib.hid hlb
  have HIFF := Lib.hid (checkE_two (m := m) hu.1 hv.1)
  obtain ⟨E, hE⟩ : ∃ E, E = checkE m [a, b] := ⟨_, rfl⟩
  try rw [← hE]
  have HE := Lib.hid hE
  have hba : na ≤ 1000 := by omega
  have hbb : nb ≤ 1000 := by omega
  clear hu hv hla hlb hna hnb hE
  by_cases h0 : E = 0
  · subst h0
    have HOK := Lib.hid (HIFF.out.1 HE.out.symm)
    have HMB := Lib.hid (show 1 ≤ m ∧ m ≤ 4294967295 from by have := HOK.out.1; unfold okM at this; omega)
    by_cases ha0 : (0 : Int) < (na : Int)
    · by_cases hb0 : (0 : Int) < (nb : Int)
      · by_cases hlong : (257 : Int) < (na : Int) + (nb : Int)
        · have HME := Lib.hid (show mulE m a b = 3 from by unfold mulE; rw [← HE.out, if_pos rfl]; exact if_pos (by have := HNA.out; have := HNB.out; omega))
          have HN := Lib.hid (show mulL m a b = [] from if_neg (by rw [HME.out]; decide))
          rw [HME.out]
          go_enter Try.func27, Try.ntmps27
          go_wp2_with fail
          refine (both5_any m a b _ _ _ HU.out HV.out HLA.out HLB.out).mono ?_
          rintro e w1 ⟨rfl, rfl⟩
          rw [← HE.out]
          go_wp2_with fail
          go_ret2
          exact ⟨_, _, _, rfl, by rw [HN.out]; exact HasP.nil _, (fun p hp => by cases hp), Gr.refl w⟩
        · have HME := Lib.hid (show mulE m a b = 0 from by unfold mulE; rw [← HE.out, if_pos rfl]; exact if_neg (by have := HNA.out; have := HNB.out; have := HOK.out.2.1.1; have := HOK.out.2.2.1; omega))
          have HN := Lib.hid (show mulL m a b = Op.nf m (Op.mul a b) from if_pos HME.out)
          rw [HME.out]
          go_enter Try.func27, Try.ntmps27
          go_wp2_with fail
          refine (both5_any m a b _ _ _ HU.out HV.out HLA.out HLB.out).mono ?_
          rintro e w1 ⟨rfl, rfl⟩
          rw [← HE.out]
          go_wp2_with fail
          refine (times5_any m a b _ _ _ HMB.out HU.out HV.out (by have := HLA.out; omega) (by have := HLB.out; omega)).mono ?_
          rintro e w2 ⟨x, n, c, rfl, hx, hfr, hg⟩
          have H := Lib.hid (And.intro hx (And.intro hfr hg))
          clear hx hfr hg
          go_wp2_with fail
          go_ret2
          exact ⟨_, _, _, rfl, by rw [HN.out]; exact H.out.1, H.out.2.1, H.out.2.2⟩
      · have HME := Lib.hid (show mulE m a b = 0 from by unfold mulE; rw [← HE.out, if_pos rfl]; exact if_neg (by have := HNA.out; have := HNB.out; have := HOK.out.2.1.1; have := HOK.out.2.2.1; omega))
        have HN := Lib.hid (show mulL m a b = Op.nf m (Op.mul a b) from if_pos HME.out)
        rw [HME.out]
        go_enter Try.func27, Try.ntmps27
        go_wp2_with fail
        refine (both5_any m a b _ _ _ HU.out HV.out HLA.out HLB.out).mono ?_
        rintro e w1 ⟨rfl, rfl⟩
        rw [← HE.out]
        go_wp2_with fail
        refine (times5_any m a b _ _ _ HMB.out HU.out HV.out (by have := HLA.out; omega) (by have := HLB.out; omega)).mono ?_
        rintro e w2 ⟨x, n, c, rfl, hx, hfr, hg⟩
        have H := Lib.hid (And.intro hx (And.intro hfr hg))
        clear hx hfr hg
        go_wp2_with fail
        go_ret2
        exact ⟨_, _, _, rfl, by rw [HN.out]; exact H.out.1, H.out.2.1, H.out.2.2⟩
    · have HME := Lib.hid (show mulE m a b = 0 from by unfold mulE; rw [← HE.out, if_pos rfl]; exact if_neg (by have := HNA.out; have := HNB.out; have := HOK.out.2.1.1; have := HOK.out.2.2.1; omega))
      have HN := Lib.hid (show mulL m a b = Op.nf m (Op.mul a b) from if_pos HME.out)
      rw [HME.out]
      go_enter Try.func27, Try.ntmps27
      go_wp2_with fail
      refine (both5_any m a b _ _ _ HU.out HV.out HLA.out HLB.out).mono ?_
      rintro e w1 ⟨rfl, rfl⟩
      rw [← HE.out]
      go_wp2_with fail
      refine (times5_any m a b _ _ _ HMB.out HU.out HV.out (by have := HLA.out; omega) (by have := HLB.out; omega)).mono ?_
      rintro e w2 ⟨x, n, c, rfl, hx, hfr, hg⟩
      have H := Lib.hid (And.intro hx (And.intro hfr hg))
      clear hx hfr hg
      go_wp2_with fail
      go_ret2
      exact ⟨_, _, _, rfl, by rw [HN.out]; exact H.out.1, H.out.2.1, H.out.2.2⟩
  · have hf : (E != 0) = true := by simp [h0]
    have HME := Lib.hid (show mulE m a b = E from by unfold mulE; rw [← HE.out]; exact if_neg h0)
    have HN := Lib.hid (show mulL m a b = [] from if_neg (by rw [HME.out]; exact h0))
    rw [HME.out]
    clear h0
    go_enter Try.func27, Try.ntmps27
    go_wp2_with fail
    refine (both5_any m a b _ _ _ HU.out HV.out HLA.out HLB.out).mono ?_
    rintro e w1 ⟨rfl, rfl⟩
    rw [← HE.out]
    go_wp2_with fail
    go_ret2
    exact ⟨_, _, _, rfl, by rw [HN.out]; exact HasP.nil _, (fun p hp => by cases hp), Gr.refl w⟩

set_option maxRecDepth 100000 in
set_option maxHeartbeats 2000000 in
theorem rDivMod_any (m : Int) (a b : List Int) (u v : Value) (w : World) (hu : HasP w u a) (hv : HasP w v b) (hla : a.length ≤ 1000) (hlb : b.length ≤ 1000) :
    Calls Try.prog 30 #[.int .u32 m, u, v] w (DivE m a b w) := by
  obtain ⟨-, xa, ca, rfl, -, -, -⟩ := id hu
  obtain ⟨-, xb, cb, rfl, -, -, -⟩ := id hv
  obtain ⟨na, hna⟩ : ∃ na, na = a.length := ⟨_, rfl⟩
  obtain ⟨nb, hnb⟩ : ∃ nb, nb = b.length := ⟨_, rfl⟩
  rw [← hna] at hu ⊢
  rw [← hnb] at hv ⊢
  have HU := Lib.hid hu
  have HV := Lib.hid hv
  have HNA := Lib.hid hna
  have HNB := Lib.hid hnb
  have HLA := Lib.hid hla
  have HLB := Lib.hid hlb
  have HIFF := Lib.hid (checkE_two (m := m) hu.1 hv.1)
  obtain ⟨E, hE⟩ : ∃ E, E = checkE m [a, b] := ⟨_, rfl⟩
  try rw [← hE]
  have HE := Lib.hid hE
  clear hu hv hla hlb hna hnb hE
  by_cases h0 : E = 0
  · subst h0
    have HOK := Lib.hid (HIFF.out.1 HE.out.symm)
    have HMB := Lib.hid (show 1 ≤ m ∧ m ≤ 4294967295 from by have := HOK.out.1; unfold okM at this; omega)
    have HM2 := Lib.hid (show 2 ≤ m ∧ m ≤ 2147483647 from HOK.out.1)
    go_enter Try.func30, Try.ntmps30
    go_wp2_with fail
    refine (both5_any m a b _ _ _ HU.out HV.out HLA.out HLB.out).mono ?_
    rintro e w1 ⟨rfl, rfl⟩
    rw [← HE.out]
    go_wp2_with fail
    refine (leads5_any m b _ _ HM2.out HOK.out.2.2.2.1 HV.out (by have := HLB.out; omega)).mono ?_
    rintro e w1 (⟨rc, rfl, hu, hr0, hr1, hr2, rfl⟩ | ⟨rfl, hu, rfl⟩)
    · have HD := Lib.hid (show DvsOK m rc b from ⟨HM2.out, HOK.out.2.2.2.1, List.length_pos_iff.2 hu.1, ⟨hr0, hr1⟩, hr2⟩)
      have HDU := Lib.hid hu
      clear hu hr0 hr1 hr2
      go_wp2_with fail
      refine (split5_any m rc a b _ _ _ HD.out HOK.out.2.1.2 HU.out HV.out (by have := HLA.out; omega) (by have := HLB.out; omega)).mono ?_
      rintro e w2 ⟨x1, n1, c1, x2, n2, c2, q, r, rfl, hq, hr, hdv, hf1, hf2, hg2⟩
      have H := Lib.hid (And.intro hq (And.intro hr (And.intro hdv (And.intro hf1 (And.intro hf2 hg2)))))
      clear hq hr hdv hf1 hf2 hg2
      go_wp2_with fail
      go_ret3
      obtain ⟨hq, hr, hdv, hf1, hf2, hg2⟩ := H.out
      exact ⟨_, _, _, _, _, _, q, r, 0, rfl, hq, hr, .inr (.inr ⟨HE.out.symm, HDU.out, rfl, hdv⟩), hf1, hf2, hg2⟩
    · have HDU := Lib.hid hu
      clear hu
      go_wp2_with fail
      go_ret3
      exact ⟨_, _, _, _, _, _, [], [], 7, rfl, HasP.nil _, HasP.nil _, .inr (.inl ⟨HE.out.symm, HDU.out, rfl, rfl, rfl⟩), (fun p hp => by cases hp), (fun p hp => by cases hp), Gr.refl w⟩
  · have hf : (E != 0) = true := by simp [h0]
    have H0 := Lib.hid h0
    clear h0
    go_enter Try.func30, Try.ntmps30
    go_wp2_with fail
    refine (both5_any m a b _ _ _ HU.out HV.out HLA.out HLB.out).mono ?_
    rintro e w1 ⟨rfl, rfl⟩
    rw [← HE.out]
    go_wp2_with fail
    go_ret3
    exact ⟨_, _, _, _, _, _, [], [], E, rfl, HasP.nil _, HasP.nil _, .inl ⟨HE.out, H0.out, rfl, rfl⟩, (fun p hp => by cases hp), (fun p hp => by cases hp), Gr.refl w⟩

theorem two_mod {E : Nat} (h : E % 2 = 1) : ((E : Int) % 2 == 1) = true := by simp; omega
theorem two_mod' {E : Nat} (h : ¬ E % 2 = 1) : ((E : Int) % 2 == 1) = false := by simp; omega

set_option maxRecDepth 100000 in
set_option maxHeartbeats 2000000 in
theorem rPowMod_any (m : Int) (a b : List Int) (N : Nat) (u v : Value) (w : World) (hu : HasP w u a) (hv : HasP w v b) (hla : a.length ≤ 1000) (hlb : b.length ≤ 1000) (hN : N ≤ 18446744073709551615) :
    Calls Try.prog 34 #[.int .u32 m, u, .int .u64 N, v] w (NewE (PowR m a b N) w) := by
  have HNN := Lib.hid hN
  obtain ⟨-, xa, ca, rfl, -, -, -⟩ := id hu
  obtain ⟨-, xb, cb, rfl, -, -, -⟩ := id hv
  obtain ⟨na, hna⟩ : ∃ na, na = a.length := ⟨_, rfl⟩
  obtain ⟨nb, hnb⟩ : ∃ nb, nb = b.length := ⟨_, rfl⟩
  rw [← hna] at hu ⊢
  rw [← hnb] at hv ⊢
  have HU := Lib.hid hu
  have HV := Lib.hid hv
  have HNA := Lib.hid hna
  have HNB := Lib.hid hnb
  have HLA := Lib.hid hla
  have HLB := Lib.hid hlb
  have HIFF := Lib.hid (checkE_two (m := m) hu.1 hv.1)
  obtain ⟨E, hE⟩ : ∃ E, E = checkE m [a, b] := ⟨_, rfl⟩
  try rw [← hE]
  have HE := Lib.hid hE
  clear hu hv hla hlb hna hnb hE
  by_cases h0 : E = 0
  · subst h0
    have HOK := Lib.hid (HIFF.out.1 HE.out.symm)
    have HMB := Lib.hid (show 1 ≤ m ∧ m ≤ 4294967295 from by have := HOK.out.1; unfold okM at this; omega)
    have HM2 := Lib.hid (show 2 ≤ m ∧ m ≤ 2147483647 from HOK.out.1)
    have HM0 := Lib.hid (show 0 < m from by have := HM2.out; omega)
    go_enter Try.func34, Try.ntmps34
    go_wp2_with fail
    refine (both5_any m a b _ _ _ HU.out HV.out HLA.out HLB.out).mono ?_
    rintro e w1 ⟨rfl, rfl⟩
    rw [← HE.out]
    go_wp2_with fail
    refine (leads5_any m b _ _ HM2.out HOK.out.2.2.2.1 HV.out (by have := HLB.out; omega)).mono ?_
    rintro e w1 (⟨rc, rfl, hu, hr0, hr1, hr2, rfl⟩ | ⟨rfl, hu, rfl⟩)
    · have HD := Lib.hid (show DvsOK m rc b from ⟨HM2.out, HOK.out.2.2.2.1, List.length_pos_iff.2 hu.1, ⟨hr0, hr1⟩, hr2⟩)
      have HDU := Lib.hid hu
      clear hu hr0 hr1 hr2
      go_wp2_with fail
      refine (split5_any m rc [1] b _ _ _ HD.out (one_nf HM2.out.1) (one_hasP' _ 1 _ (by simp) (by omega)) (HV.out.later (Gr.new w _)) (by simp) (by have := HLB.out; omega)).mono ?_
      rintro e w2 ⟨y1, k1, d1, x2, n2, c2, q2, r2, rfl, hq, hr, hdv, hf1, hf2, hg⟩
      have HR2 := Lib.hid hr
      have HREM2 := Lib.hid hdv.rem
      have HG2 := Lib.hid ((Gr.new w _).trans hg)
      have HF2 := Lib.hid (show ∀ p, x2 = some p → w.heap.size ≤ p.block from fun p hp => by have := hf2 p hp; rw [World.size_alloc] at this; omega)
      clear hq hr hdv hf1 hf2 hg
      go_wp2_with fail
      refine (split5_any m rc a b _ _ _ HD.out HOK.out.2.1.2 (HU.out.later HG2.out) (HV.out.later HG2.out) (by have := HLA.out; omega) (by have := HLB.out; omega)).mono ?_
      rintro e w3 ⟨y1, k1, d1, x3, n3, c3, q3, r3, rfl, hq, hr, hdv, hf1, hf2, hg⟩
      have HR3 := Lib.hid hr
      have HREM3 := Lib.hid hdv.rem
      have HG3 := Lib.hid (HG2.out.trans hg)
      have HR23 := Lib.hid (HR2.out.later hg)
      clear hq hr hdv hf1 hf2 hg
      go_wp2_with fail
      go_loopw [2, 14, 16] (fun s7 s9 s8 wr => ∃ E sq res xs ns cs xr nr cr, s7 = .int .u64 (E : Nat) ∧ s8 = .slice xs ns cs ∧ s9 = .slice xr nr cr ∧ E ≤ 18446744073709551615 ∧ HasP wr (.slice xs ns cs) sq ∧ HasP wr (.slice xr nr cr) res ∧ sq.length < b.length ∧ Op.Nf m res ∧ res.length < b.length ∧ Op.PwI m b a N res sq E ∧ (∀ p, xr = some p → w.heap.size ≤ p.block) ∧ Gr w wr) (fun s _ _ _ => (intOf s).toNat)
      case atStart => exact ⟨N, r3, r2, _, _, _, _, _, _, rfl, rfl, rfl, HNN.out, HR3.out, HR23.out, HREM3.out.2.1, HREM2.out.1, HREM2.out.2.1, Op.PwI.start HREM2.out.2.2 HREM3.out.2.2, HF2.out, HG3.out⟩
      case round =>
        obtain ⟨E, sq, res, xs, ns, cs, xr, nr, cr, rfl, rfl, rfl, hE, hsq, hres, hls, hnf, hlr, hpw, hfr, hgw⟩ := hrel
        have HSQ := Lib.hid hsq
        have HRES := Lib.hid hres
        have HLS := Lib.hid hls
        have HNFR := Lib.hid hnf
        have HLR := Lib.hid hlr
        have HPW := Lib.hid hpw
        have HFR := Lib.hid hfr
        have HGW := Lib.hid hgw
        clear hsq hres hls hnf hlr hpw hfr hgw
        by_cases he : 0 < E
        · by_cases ho : E % 2 = 1
          · have hand := two_mod ho
            have HO := Lib.hid ho
            clear ho
            go_wp2_with fail
            refine (times5_any m res sq _ _ _ HMB.out HRES.out HSQ.out (by have := HLR.out; have := HLB.out; omega) (by have := HLS.out; have := HLB.out; omega)).mono ?_
            rintro e w4 ⟨xp, np, cp, rfl, hp, hpf, hpg⟩
            have HP4 := Lib.hid hp
            have HG4 := Lib.hid hpg
            have HLN4 := Lib.hid (show (Op.nf m (Op.mul res sq)).length ≤ 10000 from by
              have h1 := Op.nf_len m (Op.mul res sq)
              have h2 := Op.mul_len res sq
              have h3 := HLR.out
              have h4 := HLS.out
              have h5 := HLB.out
              omega)
            clear hp hpf hpg
            go_wp2_with fail
            refine (split5_any m rc (Op.nf m (Op.mul res sq)) b _ _ _ HD.out (Op.nf_nf HM0.out _) HP4.out (HV.out.later (HGW.out.trans HG4.out)) HLN4.out (by have := HLB.out; omega)).mono ?_
            rintro e w4' ⟨y1, k1, d1, x4, n4, c4, q4, r4, rfl, hq, hr, hdv, hf1, hf2, hg⟩
            have HR4 := Lib.hid hr
            have HREM4 := Lib.hid (show Op.MC m b (Op.mul res sq) r4 ∧ Op.Nf m r4 ∧ r4.length < b.length from ⟨(Op.MC.of (Op.nf_cg m _).symm).trans hdv.rem.2.2, hdv.rem.1, hdv.rem.2.1⟩)
            have HGG4 := Lib.hid (HG4.out.trans hg)
            have HF4 := Lib.hid (show ∀ p, x4 = some p → w.heap.size ≤ p.block from fun p hp => Nat.le_trans (HGW.out.trans HG4.out).size (hf2 p hp))
            clear hq hr hdv hf1 hf2 hg
            go_wp2_with fail
            have HSQ2 := Lib.hid (HSQ.out.later HGG4.out)
            have HGW2 := Lib.hid (HGW.out.trans HGG4.out)
            refine (times5_any m sq sq _ _ _ HMB.out HSQ2.out HSQ2.out (by have := HLS.out; have := HLB.out; omega) (by have := HLS.out; have := HLB.out; omega)).mono ?_
            rintro e w5 ⟨xp, np, cp, rfl, hp, hpf, hpg⟩
            have HP5 := Lib.hid hp
            have HG5 := Lib.hid hpg
            have HLN5 := Lib.hid (show (Op.nf m (Op.mul sq sq)).length ≤ 10000 from by
              have h1 := Op.nf_len m (Op.mul sq sq)
              have h2 := Op.mul_len sq sq
              have h3 := HLR.out
              have h4 := HLS.out
              have h5 := HLB.out
              omega)
            clear hp hpf hpg
            go_wp2_with fail
            refine (split5_any m rc (Op.nf m (Op.mul sq sq)) b _ _ _ HD.out (Op.nf_nf HM0.out _) HP5.out (HV.out.later (HGW2.out.trans HG5.out)) HLN5.out (by have := HLB.out; omega)).mono ?_
            rintro e w5' ⟨y1, k1, d1, x5, n5, c5, q5, r5, rfl, hq, hr, hdv, hf1, hf2, hg⟩
            have HR5 := Lib.hid hr
            have HREM5 := Lib.hid (show Op.MC m b (Op.mul sq sq) r5 ∧ Op.Nf m r5 ∧ r5.length < b.length from ⟨(Op.MC.of (Op.nf_cg m _).symm).trans hdv.rem.2.2, hdv.rem.1, hdv.rem.2.1⟩)
            have HGG5 := Lib.hid (HG5.out.trans hg)
            have HF5 := Lib.hid (show ∀ p, x5 = some p → w.heap.size ≤ p.block from fun p hp => Nat.le_trans (HGW2.out.trans HG5.out).size (hf2 p hp))
            clear hq hr hdv hf1 hf2 hg
            go_wp2_with fail
            have HRR := Lib.hid (HR4.out.later HGG5.out)
            have HPW4 := Lib.hid (show Op.PwI m b a N r4 r5 (E / 2) from Op.PwI.odd (by have := HO.out; omega) HREM4.out.1 HREM5.out.1 HPW.out)
            go_roundw
            case rel => exact ⟨E / 2, r5, r4, _, _, _, _, _, _, by go_num, rfl, rfl, by omega, HR5.out, HRR.out, HREM5.out.2.2, HREM4.out.2.1, HREM4.out.2.2, HPW4.out, HF4.out, HGW2.out.trans HGG5.out⟩
            case measure => simp [intOf]; omega
          · have hand := two_mod' ho
            have HO := Lib.hid ho
            clear ho
            go_wp2_with fail
            refine (times5_any m sq sq _ _ _ HMB.out HSQ.out HSQ.out (by have := HLS.out; have := HLB.out; omega) (by have := HLS.out; have := HLB.out; omega)).mono ?_
            rintro e w5 ⟨xp, np, cp, rfl, hp, hpf, hpg⟩
            have HP5 := Lib.hid hp
            have HG5 := Lib.hid hpg
            have HLN5 := Lib.hid (show (Op.nf m (Op.mul sq sq)).length ≤ 10000 from by
              have h1 := Op.nf_len m (Op.mul sq sq)
              have h2 := Op.mul_len sq sq
              have h3 := HLR.out
              have h4 := HLS.out
              have h5 := HLB.out
              omega)
            clear hp hpf hpg
            go_wp2_with fail
            refine (split5_any m rc (Op.nf m (Op.mul sq sq)) b _ _ _ HD.out (Op.nf_nf HM0.out _) HP5.out (HV.out.later (HGW.out.trans HG5.out)) HLN5.out (by have := HLB.out; omega)).mono ?_
            rintro e w5' ⟨y1, k1, d1, x5, n5, c5, q5, r5, rfl, hq, hr, hdv, hf1, hf2, hg⟩
            have HR5 := Lib.hid hr
            have HREM5 := Lib.hid (show Op.MC m b (Op.mul sq sq) r5 ∧ Op.Nf m r5 ∧ r5.length < b.length from ⟨(Op.MC.of (Op.nf_cg m _).symm).trans hdv.rem.2.2, hdv.rem.1, hdv.rem.2.1⟩)
            have HGG5 := Lib.hid (HG5.out.trans hg)
            have HF5 := Lib.hid (show ∀ p, x5 = some p → w.heap.size ≤ p.block from fun p hp => Nat.le_trans (HGW.out.trans HG5.out).size (hf2 p hp))
            clear hq hr hdv hf1 hf2 hg
            go_wp2_with fail
            have HRR := Lib.hid (HRES.out.later HGG5.out)
            have HPW4 := Lib.hid (show Op.PwI m b a N res r5 (E / 2) from Op.PwI.even (by have := HO.out; omega) HREM5.out.1 HPW.out)
            go_roundw
            case rel => exact ⟨E / 2, r5, res, _, _, _, _, _, _, by go_num, rfl, rfl, by omega, HR5.out, HRR.out, HREM5.out.2.2, HNFR.out, HLR.out, HPW4.out, HFR.out, HGW.out.trans HGG5.out⟩
            case measure => simp [intOf]; omega
        · obtain rfl : E = 0 := by omega
          go_wp2_with fail
          go_ret2
          exact ⟨_, _, _, res, 0, rfl, HRES.out, .inr (.inr ⟨HE.out.symm, HDU.out, rfl, HNFR.out, HLR.out, HPW.out.done⟩), HFR.out, HGW.out⟩
    · have HDU := Lib.hid hu
      clear hu
      go_wp2_with fail
      go_ret2
      exact ⟨_, _, _, [], 7, rfl, HasP.nil _, .inr (.inl ⟨HE.out.symm, HDU.out, rfl, rfl⟩), (fun p hp => by cases hp), Gr.refl w⟩
  · have hf : (E != 0) = true := by simp [h0]
    have H0 := Lib.hid h0
    clear h0
    go_enter Try.func34, Try.ntmps34
    go_wp2_with fail
    refine (both5_any m a b _ _ _ HU.out HV.out HLA.out HLB.out).mono ?_
    rintro e w1 ⟨rfl, rfl⟩
    rw [← HE.out]
    go_wp2_with fail
    go_ret2
    exact ⟨_, _, _, [], E, rfl, HasP.nil _, .inl ⟨HE.out, H0.out, rfl⟩, (fun p hp => by cases hp), Gr.refl w⟩

set_option maxRecDepth 100000 in
set_option maxHeartbeats 2000000 in
theorem rAdd_any (m : Int) (a b : List Int) (u v : Value) (w : World) (hu : HasP w u a) (hv : HasP w v b) (hla : a.length ≤ 1000) (hlb : b.length ≤ 1000) :
    Calls Try.prog 25 #[.int .u32 m, u, v] w (PolE (addL m a b) (checkE m [a, b]) w) := by
  obtain ⟨-, xa, ca, rfl, -, -, -⟩ := id hu
  obtain ⟨-, xb, cb, rfl, -, -, -⟩ := id hv
  obtain ⟨na, hna⟩ : ∃ na, na = a.length := ⟨_, rfl⟩
  obtain ⟨nb, hnb⟩ : ∃ nb, nb = b.length := ⟨_, rfl⟩
  rw [← hna] at hu ⊢
  rw [← hnb] at hv ⊢
  have HU := Lib.hid hu
  have HV := Lib.hid hv
  have HLA := Lib.hid hna
  have HLB := Lib.hid hnb
  have HLA0 := Lib.hid hla
  have HLB0 := Lib.hid hlb
  have HIFF := Lib.hid (checkE_two (m := m) hu.1 hv.1)
  obtain ⟨E, hE⟩ : ∃ E, E = checkE m [a, b] := ⟨_, rfl⟩
  try rw [← hE]
  have HE0 := Lib.hid hE
  have HDA := Lib.hid hu.1
  obtain ⟨n, hn⟩ : ∃ n, n = max na nb := ⟨_, rfl⟩
  have HC := max_cases na nb n hn
  have hn3 : n ≤ 1000 := by omega
  have hn4 : na ≤ n ∧ nb ≤ n := by omega
  have hl1 : na ≤ 1000 := by omega
  have hl2 : nb ≤ 1000 := by omega
  have HN4 := Lib.hid hn4
  clear hu hv hla hlb hna hnb hE hn hn4
  by_cases h0 : E = 0
  · subst h0
    have HOK := Lib.hid (HIFF.out.1 HE0.out.symm)
    have HMB := Lib.hid (show 1 ≤ m ∧ m ≤ 4294967295 from by have := HOK.out.1; unfold okM at this; omega)
    have HM := Lib.hid HMB.out
    have HB := Lib.hid HOK.out.2.2.2.1
    obtain ⟨hm1, hm2⟩ := HMB.out
    rcases HC with ⟨hc, he⟩ | ⟨hc, he⟩
    all_goals
      have HE := Lib.hid he
      clear he
      go_enter Try.func25, Try.ntmps25
      go_wp2_with fail
      refine (both5_any m a b _ _ _ HU.out HV.out HLA0.out HLB0.out).mono ?_
      rintro e w1 ⟨rfl, rfl⟩
      rw [← HE0.out]
      go_wp2_with fail
      go_loopw [9, 10] (fun s t wr => ∃ (k : Nat) (pre : List Int), t = .int .i64 k ∧ k ≤ n ∧ pre.length = k ∧ (∀ i, i < k → Op.cf pre i = (Op.cf a i + Op.cf b i) % m) ∧ Own1 wr w.heap.size s pre ∧ Gr w wr) (fun _ t _ => n - (intOf t).toNat)
      case atStart => exact ⟨0, [], rfl, by omega, rfl, (fun i hi => by omega), Own1.nil _ _, Gr.refl w⟩
      case round =>
        obtain ⟨k, pre, rfl, hk, hp, hpc, hown, hg⟩ := hrel
        have HP := Lib.hid hp
        have HPC := Lib.hid hpc
        have HO := Lib.hid hown
        have HG := Lib.hid hg
        have hsz := hg.size
        obtain ⟨vx, vc, rfl, -, -⟩ := hown.form
        clear hp hpc hown hg
        by_cases hlt : k < n
        · have HUW := Lib.hid (HU.out.later HG.out)
          have HVW := Lib.hid (HV.out.later HG.out)
          have hx := HDA.out.at_ k
          have hy := Op.rs_cf (show 0 < m by omega) HB.out k
          obtain ⟨x, hxe⟩ : ∃ x, x = Op.cf a k := ⟨_, rfl⟩
          obtain ⟨y, hye⟩ : ∃ y, y = Op.cf b k := ⟨_, rfl⟩
          rw [← hxe] at hx
          rw [← hye] at hy
          have HX := Lib.hid hxe
          have HY := Lib.hid hye
          obtain ⟨hx0, hx1⟩ := hx
          obtain ⟨hy0, hy1⟩ := hy
          have i2 : (k : Int) < (n : Int) := by omega
          have hla2 : a.length ≤ 1000000 := by rw [← HLA.out]; omega
          have hlb2 : b.length ≤ 1000000 := by rw [← HLB.out]; omega
          have hr0 := emod_lo (x + y) m hm1
          have hr1 := emod_hi (x + y) m hm1
          have HLA2 := Lib.hid hla2
          have HLB2 := Lib.hid hlb2
          have HPL := Lib.hid (show pre.length + [(x + y) % m].length ≤ 1000000 from by rw [HP.out]; simp; omega)
          have hk6 : k ≤ 1000000 := by omega
          have HRB := Lib.hid (show 0 ≤ (x + y) % m ∧ (x + y) % m < 4294967296 from by omega)
          clear hla2 hlb2 hxe hye
          first | have hkl : (k : Int) < (nb : Int) := (by have := HE.out; omega) | have hkl : (k : Int) < (na : Int) := (by have := HE.out; omega)
          go_wp2_with (first
            | (go_at_call 48; ((with_reducible refine (at_any a k _ _ HUW.out HLA2.out hk6).mono ?_); rintro e w' ⟨rfl, rfl⟩; rw [← HX.out]))
            | (go_at_call 48; ((with_reducible refine (at_any b k _ _ HVW.out HLB2.out hk6).mono ?_); rintro e w' ⟨rfl, rfl⟩; rw [← HY.out]))
            | (at_builtin; refine wpList_app rfl (.tmp 27) (.tmp 39) rfl rfl w.heap.size (.slice vx pre.length vc) pre rfl (HO.out.alloc _) (.slice (some ⟨wr.heap.size, 0, none⟩) 1 1) [(x + y) % m] rfl (one_hasP' _ _ _ rfl HRB.out) HPL.out (Nat.le_trans hsz (Nat.le_of_lt (by simp))) ?_; intro v' w2 hown hgrow; have HO2 := Lib.hid hown; have HG2 := Lib.hid (show Gr w w2 from grown_own (HG.out.alloc _) (HO.out.alloc _) hgrow (Nat.le_refl _)); clear hown hgrow))
          go_roundw
          case rel => exact ⟨k + 1, pre ++ [(x + y) % m], by go_num, by omega, by rw [List.length_append, HP.out]; rfl, (fun i hi => by
              rw [Op.cf_append]
              by_cases h : i < pre.length
              · rw [if_pos h]; exact HPC.out i (by have := HP.out; omega)
              · rw [if_neg h]
                obtain rfl : i = k := by have := HP.out; omega
                rw [HP.out, Nat.sub_self, HX.out, HY.out]; rfl), HO2.out, HG2.out⟩
          case measure => simp [intOf]; omega
        · obtain rfl : k = n := by omega
          have HNF := Lib.hid (show Op.tz pre = Op.nf m (Op.add a b) from Op.tz_nf (fun i => by
            rw [Op.cf_add]
            by_cases h : i < k
            · exact HPC.out i h
            · have := HN4.out
              rw [Op.cf_out (l := pre) (by rw [HP.out]; omega), Op.cf_out (l := a) (by rw [← HLA.out]; omega), Op.cf_out (l := b) (by rw [← HLB.out]; omega)]
              simp))
          have hkl : ¬ (k : Int) < (nb : Int) := by have := HN4.out; omega
          have hkl2 : ¬ (k : Int) < (na : Int) := by have := HN4.out; omega
          go_wp2_with fail
          refine (trim5_any pre _ _ HO.out.hasP (by rw [HP.out]; omega)).mono ?_
          rintro e w2 ⟨x, j, c, rfl, hx, hfr, hg2⟩
          have H := Lib.hid (And.intro hx (And.intro hfr hg2))
          clear hx hfr hg2
          go_wp2_with fail
          go_ret2
          obtain ⟨hx, hfr, hg2⟩ := H.out
          exact ⟨_, _, _, rfl, by have h : addL m a b = Op.nf m (Op.add a b) := if_pos HE0.out.symm; rw [h, ← HNF.out]; exact hx, (fun p hp => Nat.le_trans hsz (hfr p hp)), HG.out.trans hg2⟩
  · have hf : (E != 0) = true := by simp [h0]
    have H0 := Lib.hid h0
    clear h0
    go_enter Try.func25, Try.ntmps25
    go_wp2_with fail
    refine (both5_any m a b _ _ _ HU.out HV.out HLA0.out HLB0.out).mono ?_
    rintro e w1 ⟨rfl, rfl⟩
    rw [← HE0.out]
    go_wp2_with fail
    go_ret2
    exact ⟨_, _, _, rfl, by have h : addL m a b = [] := if_neg (by rw [← HE0.out]; exact H0.out); rw [h]; exact HasP.nil _, (fun p hp => by cases hp), Gr.refl w⟩
end Go.Proofs.Ytaenjbemkeghgaa
