/- divide, rest, power, common. -/
import Derived.Test.YtaenjbemkeghgaaPdivi
import Derived.Test.YtaenjbemkeghgaaOpd
import Derived.Deep.DeepCutAuto
namespace Go.Proofs.Ytaenjbemkeghgaa
open Go.RowKit
set_option linter.unusedVariables false

/-- What is asked of a divisor. -/
def DvsOK (m rc : Int) (b : List Int) : Prop := (2 ≤ m ∧ m ≤ 2147483647) ∧ Op.Rs m b ∧ 0 < b.length ∧ (0 ≤ rc ∧ rc < m) ∧ m ∣ Op.ld b * rc - 1
theorem divide_any (m rc : Int) (a b : List Int) (u v : Value) (w : World) (hd : DvsOK m rc b) (ha : Op.Nf m a) (hu : HasP w u a) (hv : HasP w v b) (hla : a.length ≤ 100000) :
    Calls Try.prog 53 #[.agg #[.int .u32 m, v, .int .u32 rc], u] w (DivP m a b w) := by
  obtain ⟨hm, hb, hne, hrc, hi⟩ := hd
  by_cases h : a.length < b.length
  · exact divide_short m a b u v rc w hm ha hu hv hla h
  · exact divide_long m a b u v rc w hm ha hb hrc hi hu hv hla (by omega) hne
/-- The rest is returned, as new memory. -/
def RestP (m : Int) (a b : List Int) (w : World) (e : Ending) (w' : World) : Prop :=
  ∃ x n c r, e = .returned (.slice x n c) ∧ HasP w' (.slice x n c) r ∧ Op.Rem m b a r ∧ (∀ p, x = some p → w.heap.size ≤ p.block) ∧ Gr w w'

set_option maxRecDepth 100000 in
set_option maxHeartbeats 1000000 in
theorem rest_any (m rc : Int) (a b : List Int) (u : Value) (bd : Option Addr) (lb cb : Nat) (w : World) (hd : DvsOK m rc b) (ha : Op.Nf m a) (hu : HasP w u a) (hv : HasP w (.slice bd lb cb) b) (hla : a.length ≤ 100000) :
    Calls Try.prog 73 #[.agg #[.int .u32 m, .slice bd lb cb, .int .u32 rc], u] w (RestP m a b w) := by
  have HD := Lib.hid hd
  have HA := Lib.hid ha
  have HU := Lib.hid hu
  have HV := Lib.hid hv
  have HLA := Lib.hid hla
  clear hd ha hu hv hla
  go_enter Try.func73, Try.ntmps73
  go_wp2_with fail
  refine (divide_any m rc a b _ _ _ HD.out HA.out (HU.out.later (Gr.new w _)) (HV.out.later (Gr.new w _)) HLA.out).mono ?_
  rintro e w2 ⟨x1, n1, c1, x2, n2, c2, q, r, rfl, hq, hr, hdv, hf1, hf2, hg⟩
  have H := Lib.hid (And.intro hr (And.intro hdv (And.intro hf2 hg)))
  clear hq hr hdv hf1 hf2 hg
  go_wp2_with fail
  go_ret
  obtain ⟨hr, hdv, hf2, hg⟩ := H.out
  exact ⟨_, _, _, r, rfl, hr, hdv.rem, (fun p hp => by have := hf2 p hp; rw [World.size_alloc] at this; omega), (Gr.new w _).trans hg⟩

/-- The remainder of a power is returned. -/
def PowP (m : Int) (a b : List Int) (N : Nat) (w : World) (e : Ending) (w' : World) : Prop :=
  ∃ x n c r, e = .returned (.slice x n c) ∧ HasP w' (.slice x n c) r ∧ Op.Rem m b (Op.pw a N) r ∧ (∀ p, x = some p → w.heap.size ≤ p.block) ∧ Gr w w'

theorem one_nf {m : Int} (hm : 2 ≤ m) : Op.Nf m [1] := ⟨fun x hx => by simp at hx; subst hx; omega, rfl⟩

set_option maxRecDepth 100000 in
set_option maxHeartbeats 2000000 in
theorem power_any' (m rc : Int) (a b : List Int) (N : Nat) (u : Value) (bd : Option Addr) (lb cb : Nat) (w : World) (hd : DvsOK m rc b) (ha : Op.Nf m a) (hu : HasP w u a) (hv : HasP w (.slice bd lb cb) b) (hla : a.length ≤ 1000) (hlb : b.length ≤ 1000) (hN : N ≤ 18446744073709551615) :
    Calls Try.prog 58 #[.agg #[.int .u32 m, .slice bd lb cb, .int .u32 rc], u, .int .u64 N] w (PowP m a b N w) := by
  have HD := Lib.hid hd
  have HA := Lib.hid ha
  have HV := Lib.hid hv
  have HLA := Lib.hid hla
  have HLB := Lib.hid hlb
  have HU := Lib.hid hu
  obtain ⟨-, ua, uc, rfl, -, -, -⟩ := hu
  obtain ⟨la, hla'⟩ : ∃ la, la = a.length := ⟨_, rfl⟩
  rw [← hla'] at HU ⊢
  have HL := Lib.hid hla'
  have HMB := Lib.hid (show 1 ≤ m ∧ m ≤ 4294967295 from by have := HD.out.1; omega)
  have HM2 := Lib.hid hd.1.1
  clear hd ha hv hla hlb hla'
  go_enter Try.func58, Try.ntmps58
  go_wp2_with fail
  refine (rest_any m rc [1] b _ bd lb cb _ HD.out (one_nf HM2.out) (one_hasP' _ 1 _ (by simp) (by omega)) (HV.out.later ((Gr.new w _).alloc _)) (by simp)).mono ?_
  rintro e w2 ⟨x, n, c, r, rfl, hr, hrem, hf, hg⟩
  have hg1 : Gr (w.alloc (.cells #[.int .u32 m, .slice bd lb cb, .int .u32 rc] 56)) w2 := (Gr.new _ _).trans hg
  have hc0 := hg1.keeps (p := ⟨w.heap.size, 0, none⟩) (v := .int .u32 m) (by simp [go_sem])
  have hc1 := hg1.keeps (p := ⟨w.heap.size, 1, none⟩) (v := .slice bd lb cb) (by simp [go_sem])
  have hc2 := hg1.keeps (p := ⟨w.heap.size, 2, none⟩) (v := .int .u32 rc) (by simp [go_sem])
  have HR := Lib.hid hr
  have HREM := Lib.hid hrem
  have HF := Lib.hid hf
  have HG := Lib.hid ((Gr.new w _).trans hg1)
  have HC := Lib.hid (And.intro hc0 (And.intro hc1 hc2))
  clear hr hrem hf hg hg1 hc0 hc1 hc2
  go_wp2_with fail
  go_loopw [2, 7, 8] (fun s7 s8 s9 wr => ∃ E sq res xs ns cs xr nr cr, s7 = .int .u64 (E : Nat) ∧ s8 = .slice xs ns cs ∧ s9 = .slice xr nr cr ∧ E ≤ 18446744073709551615 ∧ HasP wr (.slice xs ns cs) sq ∧ HasP wr (.slice xr nr cr) res ∧ sq.length ≤ 1000 ∧ Op.Nf m res ∧ res.length < b.length ∧ Op.PwI m b a N res sq E ∧ (∀ p, xr = some p → w.heap.size ≤ p.block) ∧ wr.cell? ⟨w.heap.size, 0, none⟩ = some (.int .u32 m) ∧ wr.cell? ⟨w.heap.size, 1, none⟩ = some (.slice bd lb cb) ∧ wr.cell? ⟨w.heap.size, 2, none⟩ = some (.int .u32 rc) ∧ Gr w wr) (fun s _ _ _ => (intOf s).toNat)
  case atStart => exact ⟨N, a, r, ua, la, uc, x, n, c, rfl, rfl, rfl, hN, HU.out.later HG.out, HR.out, HLA.out, HREM.out.1, HREM.out.2.1, Op.PwI.start HREM.out.2.2 (Op.MC.refl m b a), (fun p hp => by have := HF.out p hp; simp at this; omega), HC.out.1, HC.out.2.1, HC.out.2.2, HG.out⟩
  case round =>
    obtain ⟨E, sq, res, xs, ns, cs, xr, nr, cr, rfl, rfl, rfl, hE, hsq, hres, hls, hnf, hlr, hpw, hfr, hc0, hc1, hc2, hgw⟩ := hrel
    have HSQ := Lib.hid hsq
    have HRES := Lib.hid hres
    have HLS := Lib.hid hls
    have HNFR := Lib.hid hnf
    have HLR := Lib.hid hlr
    have HLR2 := Lib.hid (show res.length ≤ 1000 from by have := HLB.out; omega)
    have HPW := Lib.hid hpw
    have HFR := Lib.hid hfr
    have HGW := Lib.hid hgw
    have HC0 := Lib.hid hc0
    have HC1 := Lib.hid hc1
    have HC2 := Lib.hid hc2
    clear hsq hres hls hnf hlr hpw hfr hgw
    by_cases he : 0 < E
    · by_cases ho : E % 2 = 1
      · have hand : (bits .and .u64 (E : Int) 1) = 1 := by rw [and_one_u64 _ (by omega) (by omega)]; omega
        have HO := Lib.hid ho
        clear ho
        go_wp2_with fail
        have HDR3 := Lib.hid (show Gr wr wr.drew from (Gr.refl _).drewN 1)
        have HPA3 := Lib.hid (HRES.out.later HDR3.out)
        have HPB3 := Lib.hid (HSQ.out.later HDR3.out)
        have HNF3 := Lib.hid (show Op.Nf m (Op.nf m (Op.mul res sq)) from Op.nf_nf (by have := HM2.out; omega) _)
        have HLN3 := Lib.hid (show (Op.nf m (Op.mul res sq)).length ≤ 100000 from by
          have h1 := Op.nf_len m (Op.mul res sq)
          have h2 := Op.mul_len res sq
          have h3 := HLR2.out
          have h4 := HLS.out
          omega)
        have HLA3 := Lib.hid (show (res).length ≤ 100000 from by have := HLR2.out; omega)
        have HLB3 := Lib.hid (show (sq).length ≤ 100000 from by have := HLS.out; omega)
        go_wp2_with fail
        go_region_held3 (fun wz => wz.cell? ⟨w.heap.size, 0, none⟩ = some (.int .u32 m) ∧ wz.cell? ⟨w.heap.size, 1, none⟩ = some (.slice bd lb cb) ∧ wz.cell? ⟨w.heap.size, 2, none⟩ = some (.int .u32 rc)) (go_keep)
          (first
            | (go_at_call 46; refine (product_any m res sq _ _ _ HMB.out HPA3.out HPB3.out HLA3.out HLB3.out).mono ?_; rintro e w3 ⟨xp, np, cp, rfl, hp, hpf, hpg⟩; have HP3 := Lib.hid hp; have HG3 := Lib.hid (HDR3.out.trans hpg); have HV3 := Lib.hid (HV.out.later (HGW.out.trans HG3.out)); have hc0 := HG3.out.keeps HC0.out; have hc1 := HG3.out.keeps HC1.out; have hc2 := HG3.out.keeps HC2.out; clear hp hpf hpg)
            | (go_at_call 73; refine (rest_any m rc (Op.nf m (Op.mul res sq)) b _ bd lb cb _ HD.out HNF3.out HP3.out HV3.out HLN3.out).mono ?_; rintro e w3' ⟨x3, n3, c3, r3, rfl, hr, hrem, hf, hg⟩; have HR3 := Lib.hid hr; have HREM3 := Lib.hid (show Op.MC m b (Op.mul res sq) r3 ∧ Op.Nf m r3 ∧ r3.length < b.length from ⟨(Op.MC.of (Op.nf_cg m _).symm).trans hrem.2.2, hrem.1, hrem.2.1⟩); have HF3 := Lib.hid (show ∀ p, x3 = some p → wr.heap.size ≤ p.block from fun p hp => Nat.le_trans HG3.out.size (hf p hp)); have HGG3 := Lib.hid (HG3.out.trans hg); have hc0 := hg.keeps hc0; have hc1 := hg.keeps hc1; have hc2 := hg.keeps hc2; clear hr hrem hf hg))
        have HSQ2 := Lib.hid (HSQ.out.later HGG3.out)
        have HGW2 := Lib.hid (HGW.out.trans HGG3.out)
        have HD0 := Lib.hid hc0
        have HD1 := Lib.hid hc1
        have HD2 := Lib.hid hc2
        have HDR4 := Lib.hid (show Gr w3' w3'.drew from (Gr.refl _).drewN 1)
        have HPA4 := Lib.hid (HSQ2.out.later HDR4.out)
        have HPB4 := Lib.hid (HSQ2.out.later HDR4.out)
        have HNF4 := Lib.hid (show Op.Nf m (Op.nf m (Op.mul sq sq)) from Op.nf_nf (by have := HM2.out; omega) _)
        have HLN4 := Lib.hid (show (Op.nf m (Op.mul sq sq)).length ≤ 100000 from by
          have h1 := Op.nf_len m (Op.mul sq sq)
          have h2 := Op.mul_len sq sq
          have h3 := HLS.out
          have h4 := HLS.out
          omega)
        have HLA4 := Lib.hid (show (sq).length ≤ 100000 from by have := HLS.out; omega)
        have HLB4 := Lib.hid (show (sq).length ≤ 100000 from by have := HLS.out; omega)
        go_wp2_with fail
        go_region_held3 (fun wz => wz.cell? ⟨w.heap.size, 0, none⟩ = some (.int .u32 m) ∧ wz.cell? ⟨w.heap.size, 1, none⟩ = some (.slice bd lb cb) ∧ wz.cell? ⟨w.heap.size, 2, none⟩ = some (.int .u32 rc)) (go_keep)
          (first
            | (go_at_call 46; refine (product_any m sq sq _ _ _ HMB.out HPA4.out HPB4.out HLA4.out HLB4.out).mono ?_; rintro e w4 ⟨xp, np, cp, rfl, hp, hpf, hpg⟩; have HP4 := Lib.hid hp; have HG4 := Lib.hid (HDR4.out.trans hpg); have HV4 := Lib.hid (HV.out.later (HGW2.out.trans HG4.out)); have hc0 := HG4.out.keeps HD0.out; have hc1 := HG4.out.keeps HD1.out; have hc2 := HG4.out.keeps HD2.out; clear hp hpf hpg)
            | (go_at_call 73; refine (rest_any m rc (Op.nf m (Op.mul sq sq)) b _ bd lb cb _ HD.out HNF4.out HP4.out HV4.out HLN4.out).mono ?_; rintro e w4' ⟨x4, n4, c4, r4, rfl, hr, hrem, hf, hg⟩; have HR4 := Lib.hid hr; have HREM4 := Lib.hid (show Op.MC m b (Op.mul sq sq) r4 ∧ Op.Nf m r4 ∧ r4.length < b.length from ⟨(Op.MC.of (Op.nf_cg m _).symm).trans hrem.2.2, hrem.1, hrem.2.1⟩); have HF4 := Lib.hid (show ∀ p, x4 = some p → w3'.heap.size ≤ p.block from fun p hp => Nat.le_trans HG4.out.size (hf p hp)); have HGG4 := Lib.hid (HG4.out.trans hg); have hc0 := hg.keeps hc0; have hc1 := hg.keeps hc1; have hc2 := hg.keeps hc2; clear hr hrem hf hg))
        have HRR := Lib.hid (HR3.out.later HGG4.out)
        have HPW4 := Lib.hid (show Op.PwI m b a N r3 r4 (E / 2) from Op.PwI.odd (by have := HO.out; omega) HREM3.out.1 HREM4.out.1 HPW.out)
        have HLR4 := Lib.hid (show r4.length ≤ 1000 from by have := HREM4.out.2.2; have := HLB.out; omega)
        go_wp2_with fail
        go_roundw
        case rel => exact ⟨E / 2, r4, r3, _, _, _, _, _, _, by go_num, rfl, rfl, by omega, HR4.out, HRR.out, HLR4.out, HREM3.out.2.1, HREM3.out.2.2, HPW4.out, (fun p hp => Nat.le_trans HGW.out.size (HF3.out p hp)), hc0, hc1, hc2, HGW2.out.trans HGG4.out⟩
        case measure => simp [intOf]; omega
      · have hand : (bits .and .u64 (E : Int) 1) = 0 := by rw [and_one_u64 _ (by omega) (by omega)]; omega
        have HO := Lib.hid ho
        clear ho
        have HDR4 := Lib.hid (show Gr wr wr.drew from (Gr.refl _).drewN 1)
        have HPA4 := Lib.hid (HSQ.out.later HDR4.out)
        have HPB4 := Lib.hid (HSQ.out.later HDR4.out)
        have HNF4 := Lib.hid (show Op.Nf m (Op.nf m (Op.mul sq sq)) from Op.nf_nf (by have := HM2.out; omega) _)
        have HLN4 := Lib.hid (show (Op.nf m (Op.mul sq sq)).length ≤ 100000 from by
          have h1 := Op.nf_len m (Op.mul sq sq)
          have h2 := Op.mul_len sq sq
          have h3 := HLS.out
          have h4 := HLS.out
          omega)
        have HLA4 := Lib.hid (show (sq).length ≤ 100000 from by have := HLS.out; omega)
        have HLB4 := Lib.hid (show (sq).length ≤ 100000 from by have := HLS.out; omega)
        go_wp2_with fail
        go_region_held3 (fun wz => wz.cell? ⟨w.heap.size, 0, none⟩ = some (.int .u32 m) ∧ wz.cell? ⟨w.heap.size, 1, none⟩ = some (.slice bd lb cb) ∧ wz.cell? ⟨w.heap.size, 2, none⟩ = some (.int .u32 rc)) (go_keep)
          (first
            | (go_at_call 46; refine (product_any m sq sq _ _ _ HMB.out HPA4.out HPB4.out HLA4.out HLB4.out).mono ?_; rintro e w4 ⟨xp, np, cp, rfl, hp, hpf, hpg⟩; have HP4 := Lib.hid hp; have HG4 := Lib.hid (HDR4.out.trans hpg); have HV4 := Lib.hid (HV.out.later (HGW.out.trans HG4.out)); have hc0 := HG4.out.keeps HC0.out; have hc1 := HG4.out.keeps HC1.out; have hc2 := HG4.out.keeps HC2.out; clear hp hpf hpg)
            | (go_at_call 73; refine (rest_any m rc (Op.nf m (Op.mul sq sq)) b _ bd lb cb _ HD.out HNF4.out HP4.out HV4.out HLN4.out).mono ?_; rintro e w4' ⟨x4, n4, c4, r4, rfl, hr, hrem, hf, hg⟩; have HR4 := Lib.hid hr; have HREM4 := Lib.hid (show Op.MC m b (Op.mul sq sq) r4 ∧ Op.Nf m r4 ∧ r4.length < b.length from ⟨(Op.MC.of (Op.nf_cg m _).symm).trans hrem.2.2, hrem.1, hrem.2.1⟩); have HF4 := Lib.hid (show ∀ p, x4 = some p → wr.heap.size ≤ p.block from fun p hp => Nat.le_trans HG4.out.size (hf p hp)); have HGG4 := Lib.hid (HG4.out.trans hg); have hc0 := hg.keeps hc0; have hc1 := hg.keeps hc1; have hc2 := hg.keeps hc2; clear hr hrem hf hg))
        have HRR := Lib.hid (HRES.out.later HGG4.out)
        have HPW4 := Lib.hid (show Op.PwI m b a N res r4 (E / 2) from Op.PwI.even (by have := HO.out; omega) HREM4.out.1 HPW.out)
        have HLR4 := Lib.hid (show r4.length ≤ 1000 from by have := HREM4.out.2.2; have := HLB.out; omega)
        go_wp2_with fail
        go_roundw
        case rel => exact ⟨E / 2, r4, res, _, _, _, _, _, _, by go_num, rfl, rfl, by omega, HR4.out, HRR.out, HLR4.out, HNFR.out, HLR.out, HPW4.out, HFR.out, hc0, hc1, hc2, HGW.out.trans HGG4.out⟩
        case measure => simp [intOf]; omega
    · obtain rfl : E = 0 := by omega
      go_wp2_with fail
      go_ret
      exact ⟨_, _, _, res, rfl, HRES.out, ⟨HNFR.out, HLR.out, HPW.out.done⟩, HFR.out, HGW.out⟩
-- END LOOP
end Go.Proofs.Ytaenjbemkeghgaa
