/- split: long division. -/
import Derived.Test.YtgalgldnhdiggaaDoorSplitp
namespace Go.Proofs.YtgalgldnhdiggaaDoor
open Go.RowKit
set_option linter.unusedVariables false

def DivPost (A B : Nat) (w : World) (e : Ending) (w' : World) : Prop :=
  ∃ u v q r, e = .returned (.tuple #[u, v]) ∧ HasD w' u q ∧ HasD w' v r ∧ Ow.Nm q ∧ Ow.Nm r ∧ Ow.val q = A / B ∧ Ow.val r = A % B ∧ Gr w w'

set_option maxRecDepth 100000 in
set_option maxHeartbeats 600000 in
theorem split_any (l m : List Nat) (u v : Value) (w : World) (hu : HasD w u l) (hv : HasD w v m) (hl : Ow.Nm l) (hm : Ow.Nm m) (hm0 : 0 < m.length) (hlb : l.length ≤ 10000) (hmb : m.length ≤ 10000) :
    Calls Tryd.prog 77 #[u, v] w (DivPost (Ow.val l) (Ow.val m) w) := by
  have HU := Lib.hid hu
  have HV := Lib.hid hv
  have HL := Lib.hid hl
  have HM := Lib.hid hm
  obtain ⟨du, a, cap, rfl, u1, u2, -⟩ := hu
  obtain ⟨dv, b, cap', rfl, v1, v2, cv⟩ := hv
  obtain ⟨la, hla⟩ : ∃ la, la = l.length := ⟨_, rfl⟩
  obtain ⟨n, hn⟩ : ∃ n, n = m.length := ⟨_, rfl⟩
  have HLA := Lib.hid hla
  have HN := Lib.hid hn
  have hlab : la ≤ 10000 := by omega
  have hnb : n ≤ 10000 := by omega
  have hn1 : 1 ≤ n := by omega
  by_cases hsh : l.length < m.length
  · have hz := Ow.val_short hl hm hsh
    have HZ := Lib.hid (And.intro (Nat.div_eq_of_lt hz) (Nat.mod_eq_of_lt hz))
    have hsh2 : la < n := by omega
    have t0 : decide ((la : Int) < (n : Int)) = true := by simp; omega
    rw [← hla] at HU u1 ⊢
    rw [← hn] at HV v1 ⊢
    clear hla hn hz hl hm du dv cv hlb hmb hm0 hsh
    go_enter Tryd.func77, Tryd.ntmps77
    go_wp2_with fail
    go_ret2
    exact ⟨_, _, [], l, rfl, HasD.nil _, HU.out, ⟨Ow.dg_nil, rfl⟩, HL.out, HZ.out.1.symm, HZ.out.2.symm, Gr.refl _⟩
  · obtain ⟨gb, ob, rfl, c3⟩ := cv (m.length - 1) (by omega)
    obtain ⟨d, hd⟩ : ∃ d, d = m[m.length - 1]?.getD 0 := ⟨_, rfl⟩
    have hdb := Ow.dg_at dv (m.length - 1)
    have hd1 : 1 ≤ m[m.length - 1]?.getD 0 := Ow.nm_last (by rw [← Ow.snoc_of hm0]; exact hm)
    have hbl := Any.bitLen_le32 (d : Int) (by omega) (by omega)
    rw [Int.toNat_natCast] at hbl
    obtain ⟨k1, k2, -⟩ := Ow.bitLen_bl d (by omega)
    have k2 := k2 (by omega)
    obtain ⟨s, hs⟩ : ∃ s, s = 32 - Lib.bitLen d := ⟨_, rfl⟩
    have hs32 : s < 32 := by omega
    have hsi : (32 : Int) - (Lib.bitLen d : Int) = (s : Int) := by omega
    have hul := Ow.up_len hm hm0 (s := s) (by rw [← hd]; omega) (by rw [← hd]; exact hbl)
    have hupm := up_any m _ s w HV.out (by omega) (by omega)
    rw [show s / 32 = 0 by omega, Nat.add_zero] at hupm
    have HUPM := Lib.hid hupm
    rw [← hd] at c3 hdb hd1
    have HUL := Lib.hid hul
    have hle : n ≤ la := by omega
    have t0 : decide ((la : Int) < (n : Int)) = false := by simp; omega
    have i1 : ((n : Int) - 1).toNat = n - 1 := by omega
    have i2 : (0 : Int) ≤ (n : Int) - 1 := by omega
    rw [← hla] at HU u1 ⊢
    rw [← hn] at HV v1 c3 HUPM HUL ⊢
    clear hla hn hl hm du dv cv hd hupm hul k1 k2 hs hlb hmb hm0 hsh
    obtain ⟨S, hS⟩ : ∃ S, S = 2 ^ s := ⟨_, rfl⟩
    have HS := Lib.hid hS
    have HS0 := Lib.hid (show 0 < S by rw [hS]; exact Nat.two_pow_pos s)
    rw [← hS] at HUPM HUL
    clear hS
    obtain ⟨cnt, hcnt⟩ : ∃ cnt, cnt = la - n + 1 := ⟨_, rfl⟩
    have hmk := mk_row cnt ((la : Int) - (n : Int) + 1) (by omega) (by omega)
    have HC := Lib.hid hcnt
    have hc1 : (cnt : Int) = (la : Int) - (n : Int) + 1 := by omega
    have HC1 := Lib.hid hc1
    clear hcnt hc1
    go_enter Tryd.func77, Tryd.ntmps77
    go_wp2_with fail
    refine (Tryd.bits_LeadingZeros32 (d : Int) _ (by omega) (by omega)).mono ?_
    rintro e w1 ⟨rfl, rfl⟩
    rw [Int.toNat_natCast, hsi]
    clear hsi hbl
    go_wp2_with fail
    refine HUPM.out.mono ?_
    rintro e w2 ⟨g3, Lb, rfl, hLb, hg3, hlies3, hval3, gr3⟩
    have hd3 := hlies3.hasD (cap := n + 1) (by omega) (by omega)
    rw [hLb] at hd3
    have HD3 := Lib.hid hd3
    have hg3lt : g3 < w2.heap.size := (hd3.block (by omega)).elim (fun b hb => by have e : g3 = b := Option.some.inj hb.1; omega)
    have HR3 := Lib.hid (And.intro hval3 gr3)
    clear hlies3 hval3 gr3 hd3
    go_wp2_with fail
    refine (trim_any Lb _ _ HD3.out).mono ?_
    rintro e w3 ⟨⟨dvv, rfl, hcut⟩, rfl⟩
    have hnm : Ow.Nm (Ow.tr Lb) := Ow.nm_tr HD3.out.1
    have hvd : Ow.val (Ow.tr Lb) = Ow.val m * S := by rw [Ow.val_tr]; exact HR3.out.1
    obtain ⟨T, hT⟩ : ∃ T, T = Ow.tr Lb := ⟨_, rfl⟩
    rw [← hT] at hnm hvd hcut
    have hTn : T.length = n := by
      have h1 : T.length ≤ n := Ow.nm_len hnm (by rw [hvd]; exact HUL.out)
      have h2 := Ow.val_lt T hnm.1
      have h3 := Ow.val_ge m HM.out.2 (fun e => by have := HN.out; rw [e] at this; simp at this; omega)
      rw [← HN.out] at h3
      have h4 : Ow.val m * 1 ≤ Ow.val m * S := Nat.mul_le_mul_left _ HS0.out
      have := (Nat.pow_lt_pow_iff_right (by omega : 1 < 4294967296)).1 (show 4294967296 ^ (n - 1) < 4294967296 ^ T.length by rw [hvd] at h2; omega)
      omega
    have HB3 := Lib.hid (CutPost.block hcut HD3.out rfl (by omega))
    have HT := Lib.hid (hcut _ HD3.out)
    have HTN := Lib.hid (And.intro hnm (And.intro hvd hTn))
    clear hT hcut hnm hvd hTn
    go_wp2_with fail
    have hupl := up_any l _ s w2 (HU.out.later HR3.out.2) (by rw [← HLA.out]; omega) (by omega)
    rw [← HLA.out, show s / 32 = 0 by omega, Nat.add_zero, ← HS.out] at hupl
    refine hupl.mono ?_
    clear hupl
    rintro e w4 ⟨g, L0, rfl, hL0, hg, hlies, hval, gr4⟩
    have HLI := Lib.hid hlies
    have HDI := Lib.hid (Ow.DivI.start (n := n) (a := la) (S := S) (m := m) (l := l) hlies.1 hL0 HL.out.1 HLA.out.symm HM.out HN.out.symm (by omega) hle hval HS0.out)
    have HG4 := Lib.hid (And.intro gr4 (HR3.out.2.trans gr4))
    rw [← HC.out] at HDI
    have hglt : g < w4.heap.size := (Array.getElem?_eq_some_iff.1 (show w4.heap[g]? = _ from hlies.2.1.choose_spec.1)).1
    clear hlies hval gr4
    go_wp2_with fail
    clear hmk
    obtain ⟨W, hW⟩ : ∃ W, W = w4.alloc (.cells (zrow cnt) 59) := ⟨_, rfl⟩
    have g5 : Gr w4 W := by rw [hW]; exact Gr.new _ _
    have hq0 : Lies W w4.heap.size 0 (List.replicate cnt 0) := by rw [hW]; exact Lies.zeros (Rw.new _ _)
    rw [← hW]
    clear hW
    obtain ⟨g2, hg2⟩ : ∃ g2, g2 = w4.heap.size := ⟨_, rfl⟩
    rw [← hg2] at hq0 ⊢
    have hgg : g2 ≠ g := by omega
    have hg23 : g2 ≠ g3 := by have := HG4.out.1.size; omega
    have hg13 : g ≠ g3 := by omega
    have hgw : w1.heap.size ≤ g := by have := HR3.out.2.size; omega
    have hg2w : w1.heap.size ≤ g2 := by omega
    have HQ0 := Lib.hid hq0
    have HG5 := Lib.hid (HG4.out.2.trans g5)
    have HT5 := Lib.hid (HT.out.later (HG4.out.1.trans g5))
    have HLI5 := Lib.hid (HLI.out.later g5)
    clear hq0 g5 hg2 hglt
    go_loopw [8] (fun t8 wr => ∃ k Q L, t8 = .int .i64 ((k : Nat) - 1) ∧ k ≤ cnt ∧ Ow.DivI (Ow.val l * S) (Ow.val m * S) n L k Q ∧ Lies wr g 0 L ∧ Lies wr g2 0 (List.replicate k 0 ++ Q) ∧ Gr w1 wr ∧ HasD wr dvv T ∧ L.length = la + 1) (fun t8 _ => (intOf t8 + 1).toNat)
    case atStart => exact ⟨cnt, [], L0, by have := HC1.out; go_num, Nat.le_refl _, HDI.out, HLI5.out, by rw [List.append_nil]; exact HQ0.out, HG5.out, HT5.out, hL0⟩
    case round =>
      obtain ⟨k, Q, L, rfl, hk, hdi, hli, hq, hgr, hdv, hQl⟩ := hrel
      have HLL := Lib.hid hQl
      have HDI := Lib.hid hdi
      have HLI := Lib.hid hli
      have HQ := Lib.hid hq
      have HGR := Lib.hid hgr
      have HDV := Lib.hid hdv
      clear hdi hli hq hgr hdv hQl
      rcases k with _ | j
      · have hlast := HDI.out.last
        obtain ⟨i1, i2, i3, -, -⟩ := id HDI.out
        have hLl := HLL.out
        have hQl : Q.length = cnt := by have := HC1.out; omega
        have hq := HQ.out
        rw [List.replicate_zero, List.nil_append] at hq
        have hqd := hq.hasD (cap := cnt) (by omega) (by omega)
        have hld := HLI.out.hasD (cap := la + 1) (by omega) (by omega)
        rw [hQl] at hqd
        rw [hLl] at hld
        have HQD := Lib.hid hqd
        have HLD := Lib.hid hld
        have HLA2 := Lib.hid hlast
        have HI := Lib.hid (And.intro i1 (And.intro i2 hLl))
        rw [show ((0 : Nat) : Int) - 1 = -1 from rfl]
        clear hqd hld hq hlast i1 i2 i3 hQl hLl
        go_wp2_with fail
        refine (trim_any Q _ _ HQD.out).mono ?_
        rintro e w6 ⟨⟨uq, rfl, hcq⟩, rfl⟩
        have HCQ := Lib.hid (hcq _ HQD.out)
        clear hcq
        go_wp2_with fail
        refine (trim_any L _ _ HLD.out).mono ?_
        rintro e w7 ⟨⟨ur, rfl, hcr⟩, rfl⟩
        have HCR := Lib.hid (hcr _ HLD.out)
        clear hcr
        go_wp2_with fail
        refine (down_any (Ow.tr L) _ s _ HCR.out (by have := Ow.tr_len L; have := HI.out.2.2; omega) (by omega)).mono ?_
        rintro e w8 ⟨vr, r, rfl, hr, hrn, hrv, gr8⟩
        have HR8 := Lib.hid (And.intro hr (And.intro hrn (And.intro hrv gr8)))
        clear hr hrn hrv gr8
        go_wp2_with fail
        go_ret2
        refine ⟨_, _, Ow.tr Q, r, rfl, HCQ.out.later HR8.out.2.2.2, HR8.out.1, Ow.nm_tr HI.out.2.1, HR8.out.2.1, ?_, ?_, HGR.out.trans HR8.out.2.2.2⟩
        · rw [Ow.val_tr, HLA2.out.1, Nat.mul_div_mul_right _ _ HS0.out]
        · rw [HR8.out.2.2.1, Ow.val_tr, HLA2.out.2, Nat.mul_mod_mul_right, ← HS.out, Nat.mul_div_cancel _ HS0.out]
      · rw [show ((j + 1 : Nat) : Int) - 1 = (j : Int) by omega]
        have hD : Ow.val m * S < 4294967296 ^ n := HUL.out
        have hpart := HDI.out.part hD
        have hLl : L.length = n + (j + 1) + Q.length := HDI.out.2.2.1
        have hQl := HLL.out
        obtain ⟨P, hP⟩ : ∃ P, P = (L.drop j).take (n + 1) := ⟨_, rfl⟩
        rw [← hP] at hpart
        have hlp : Lies wr g j P := by rw [hP]; exact HLI.out.part (by omega)
        have hto := takeOut_any g j P T (la + 1 - j) dvv wr hlp (by omega) (by omega) HDV.out (by rw [HB3.out]; intro e; exact hg13 (Option.some.inj e).symm) (by rw [hpart.2.1, HTN.out.2.2]) (by rw [HTN.out.2.2]; omega) HTN.out.1 (by rw [HTN.out.2.1]; exact hpart.1) (by rw [HTN.out.2.2]; omega)
        rw [hpart.2.1] at hto
        have HTO := Lib.hid hto
        have HP := Lib.hid hP
        have HPL := Lib.hid hpart
        have b1 : (j : Int) + (n : Int) + 1 - (j : Int) = (n : Int) + 1 := by omega
        have b2 : j + n + 1 ≤ la + 1 := by omega
        clear hpart hlp hto hP hLl hQl hD
        go_wp2_with fail
        rw [show j + n + 1 - j = n + 1 by omega]
        refine HTO.out.mono ?_
        rintro e w6 ⟨l', rfl, p1, p2, p3, p4⟩
        have hst := HDI.out.step HUL.out (Nat.lt_of_le_of_lt (Nat.zero_le _) (show Ow.val (L.drop (j + 1)) < Ow.val m * S from HDI.out.2.2.2.2)) p2 (by rw [p1, HPL.out.2.1]) (x := Ow.val P) (by rw [HP.out]) (by rw [p3, HTN.out.2.1])
        rw [← HTN.out.2.1] at hst
        have HST := Lib.hid hst
        have hlen' : j + l'.length ≤ L.length := by rw [p1, HPL.out.2.1, HLL.out]; omega
        have hli2 := HLI.out.put p4 p2 hlen'
        have hq2 := HQ.out.upd_other p4 hgg
        have hcell := hq2.2.2 j (by simp; omega)
        rw [Nat.zero_add, List.getElem?_append_left (by simp)] at hcell
        have f1 := hq2.frozen j
        have HL2 := Lib.hid (And.intro hli2 (And.intro hq2 (And.intro (p4.gr HGR.out hgw) (HDV.out.upd p4 (by rw [HB3.out]; intro e; exact hg13 (Option.some.inj e).symm)))))
        have HPLN := Lib.hid (show (Ow.put L j l').length = la + 1 by rw [Ow.put_len hlen']; exact HLL.out)
        obtain ⟨q0, hq0⟩ : ∃ q0, q0 = Ow.val P / Ow.val T := ⟨_, rfl⟩
        rw [← hq0]
        rw [← hq0] at HST
        have hqb := HST.out.1
        clear hst hli2 hq2 p1 p2 p3 p4 hq0
        go_wp2_with fail
        go_roundw
        case rel =>
          have hdi : Ow.DivI (Ow.val l * S) (Ow.val m * S) n (Ow.put L j l') j (q0 :: Q) := by have h := HST.out.2; rw [HTN.out.2.1] at h; exact h
          refine ⟨j, q0 :: Q, Ow.put L j l', by go_num, by omega, hdi, ?_, ?_, ?_, ?_, HPLN.out⟩
          · exact HL2.out.1.set_other (p := ⟨g2, j, none⟩) hgg _
          · exact HL2.out.2.1.below hqb
          · exact HL2.out.2.2.1.setCell (p := ⟨g2, j, none⟩) hg2w _
          · exact HL2.out.2.2.2.set (p := ⟨g2, j, none⟩) (fun g' e => by rw [HB3.out] at e; cases e; exact fun e => hg23 e.symm) _
        case measure => simp [intOf]
end Go.Proofs.YtgalgldnhdiggaaDoor
