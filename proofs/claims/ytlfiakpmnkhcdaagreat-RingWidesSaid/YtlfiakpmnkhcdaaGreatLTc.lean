import Derived.Test.YtlfiakpmnkhcdaaGreatLTcr
namespace Go.Proofs.YtlfiakpmnkhcdaaGreat.Mo
open Go.RowKit
set_option linter.unusedVariables false
theorem rinv_any (u p : Int) (w : World) (hp : okP p) (hc : Int.gcd u p = 1) : Calls Tryz.prog 118 #[.int .u32 (u % p), .int .u32 p] w (fun e w' => ∃ b, e = .returned (.tuple #[.int .u32 b, .int .i64 0]) ∧ IsInv (u % p) p b ∧ Gr w w') := by
 have hp1 : 1 ≤ p := by have := hp.1; omega
 have h2 := hp.1
 have h3 := hp.2
 have hm0 := emod_lo u p hp1
 have hm1 := emod_hi u p hp1
 have hg := gcd_mod1 hc
 generalize u % p = y at *
 obtain ⟨x, rfl⟩ := Int.eq_ofNat_of_zero_le hm0
 obtain ⟨n, rfl⟩ := Int.eq_ofNat_of_zero_le (show 0 ≤ p by omega)
 refine (rinverse_any x n w (by omega) (by omega) (by omega)).mono ?_
 rintro e w' ⟨h, -⟩
 obtain ⟨b, ⟨rfl, hg2⟩, hb⟩ := h (by simpa using hg)
 exact ⟨b, rfl, hb, hg2⟩
theorem rwbalv_any (x y : Int) (w : World) (hx : InR x) (hy : InR y) (h0 : 0 < y) (hb : InR (wbal x y)) : Calls Tryz.prog 121 #[wv x, wv y] w (fun e w' => e = .returned (.tuple #[wv (wbal x y), .int .i64 0]) ∧ Gr w w') := by
 have h := rwbal_any (decide (x < 0)) (bstr x.natAbs) y w (form_bstr x hx) hy h0 (by rw [zOf_bstr]; exact hb)
 rw [zOf_bstr] at h
 exact h
theorem rwmodv_any (x p : Int) (w : World) (hx : InR x) (hp : okP p) : Calls Tryz.prog 117 #[wv x, .int .u32 p] w (fun e w' => e = .returned (.tuple #[.int .u32 (x % p), .int .i64 0]) ∧ Gr w w') := by
 have h := rwmod_any (decide (x < 0)) (bstr x.natAbs) p w (form_bstr x hx) hp
 rw [zOf_bstr] at h
 exact h
theorem bstr0 : bstr 0 = ⟨#[]⟩ := by unfold bstr; rw [Ow.byt_zero]
def JoinRP (l r : List Int) (w : World) (e : Ending) (w' : World) : Prop := ∃ X c, e = .returned (.tuple #[wv X, .int .i64 c]) ∧ JoinR l r X c ∧ Gr w w'
set_option maxRecDepth 100000 in
set_option maxHeartbeats 8000000 in
theorem rjoin_any (R : Nat) (l r : List Int) (vr : Value) (w : World) (h : RefPr w R l) (hs : Sys l) (hu : HasP w vr r) : Calls Tryz.prog 83 #[.pointer (some ⟨R, 0, none⟩), vr] w (JoinRP l r w) := by
 have hg0 := Gr.new w (.cells #[.bool false, .string ⟨#[]⟩] 50)
 have H := Lib.hid (h.later hg0)
 have HU := Lib.hid (hu.later hg0)
 have HG0 := Lib.hid hg0
 have HS := Lib.hid hs
 obtain ⟨-, xb, cb, rfl, -, -, -⟩ := hu
 obtain ⟨n, hn⟩ : ∃ n, n = r.length := ⟨_, rfl⟩
 rw [← hn] at HU ⊢
 have HRN := Lib.hid hn
 clear hn
 have HC0 := Lib.hid (show (w.alloc (.cells #[.bool false, .string ⟨#[]⟩] 50)).cell? ⟨w.heap.size, 0, none⟩ = some (.bool false) by simp [go_sem])
 have HC1 := Lib.hid (show (w.alloc (.cells #[.bool false, .string ⟨#[]⟩] 50)).cell? ⟨w.heap.size, 1, none⟩ = some (.string ⟨#[]⟩) by simp [go_sem])
 have HZ0 := Lib.hid (show (w.alloc (.cells #[.bool false, .string ⟨#[]⟩] 50)).frozen? ⟨w.heap.size, 0, none⟩ = false by simp [go_sem])
 have HZ1 := Lib.hid (show (w.alloc (.cells #[.bool false, .string ⟨#[]⟩] 50)).frozen? ⟨w.heap.size, 1, none⟩ = false by simp [go_sem])
 clear h hs hg0
 go_enter Tryz.func83, Tryz.ntmps83
 go_wp2_with fail
 generalize w.alloc (.cells #[.bool false, .string ⟨#[]⟩] 50) = wa at *
 have HA := Lib.hid (show w.heap.size ≤ w.heap.size from Nat.le_refl _)
 obtain ⟨A, hA⟩ : ∃ A, A = w.heap.size := ⟨_, rfl⟩
 rw [← hA] at HC0 HC1 HZ0 HZ1 ⊢
 have HA := Lib.hid (show w.heap.size ≤ A by omega)
 clear hA
 refine (rrow_any R l r _ _ H.out HU.out HS.out.2.2.2.2).mono ?_
 rintro e w1 ⟨b, rfl, hb, g⟩
 have HB := Lib.hid hb
 have c0 := g.keeps HC0.out
 have c1 := g.keeps HC1.out
 have f0 := (Below.frozen g (World.block_lt_of_cell? _ _ HC0.out)).trans HZ0.out
 have f1 := (Below.frozen g (World.block_lt_of_cell? _ _ HC1.out)).trans HZ1.out
 have HG := Lib.hid (HG0.out.trans g)
 have H1 := Lib.hid (H.out.later g)
 have HU1 := Lib.hid (HU.out.later g)
 clear g hb HC0 HC1 HZ0 HZ1
 cases b with
 | false =>
  have HNR := Lib.hid (show ¬ RowOf l r from fun h => by have := HB.out.2 h; simp at this)
  go_wp2_with fail
  refine bodyPost_ret (v := .tuple #[.agg #[.bool false, .string ⟨#[]⟩], .int .i64 2]) (by simp [results, Tryz.results83, go_sem, c0, c1]) rfl ?_
  refine ⟨0, 2, by rw [wv_zero], .inl ⟨HNR.out, rfl, rfl⟩, ?_⟩
  exact (HG.out.setCell (p := ⟨A, 0, none⟩) HA.out _).setCell (p := ⟨A, 1, none⟩) HA.out _
 | true =>
  have HROW := Lib.hid (HB.out.1 (by simp))
  have HC := Lib.hid (show XC w A 0 w1 from ⟨HA.out, by simpa using c0, by rw [show Int.natAbs 0 = 0 from rfl, bstr0]; exact c1, f0, f1⟩)
  clear c0 c1 f0 f1
  go_wp2_with fail
  refine (rwof_any 1 _ ⟨by omega, by omega⟩).mono ?_
  rintro e w2 ⟨rfl, g⟩
  have HC := Lib.hid (HC.out.later g)
  have HG := Lib.hid (HG.out.trans g)
  have H2 := Lib.hid (H1.out.later g)
  have HU2 := Lib.hid (HU1.out.later g)
  clear g
  unfold wv
  go_wp2_with fail
  have HW3 := Lib.hid (((Gr.new w2 (.cells #[.bool false, .string ⟨#[]⟩] 50))).alloc (.cells #[.bool false, .string (bstr 1)] 50))
  have HX3 := Lib.hid (show XC w2 w2.heap.size 0 ((w2.alloc (.cells #[.bool false, .string ⟨#[]⟩] 50)).alloc (.cells #[.bool false, .string (bstr 1)] 50)) from ⟨Nat.le_refl _, by simp [go_sem], by rw [show Int.natAbs 0 = 0 from rfl, bstr0]; simp [go_sem], by simp [go_sem], by simp [go_sem]⟩)
  have HP3 := Lib.hid (show XC w2 (w2.heap.size + 1) 1 ((w2.alloc (.cells #[.bool false, .string ⟨#[]⟩] 50)).alloc (.cells #[.bool false, .string (bstr 1)] 50)) from ⟨by omega, by simp [go_sem], by simp [go_sem], by simp [go_sem], by simp [go_sem]⟩)
  obtain ⟨v, h0, hv⟩ := H2.out
  obtain ⟨-, xa, ca, rfl, -, -, -⟩ := id hv
  have hln : l.length = n := by rw [HRN.out]; exact HROW.out.1.symm
  rw [hln] at hv h0
  have HV := Lib.hid hv
  have H0 := Lib.hid h0
  have HLN := Lib.hid hln
  have hn25 : n ≤ 25 := by rw [← hln]; exact HS.out.2.2.2.2
  clear hv h0 hln
  generalize ((w2.alloc (.cells #[.bool false, .string ⟨#[]⟩] 50)).alloc (.cells #[.bool false, .string (bstr 1)] 50)) = w3 at *
  obtain ⟨XB, hXB⟩ : ∃ XB, XB = w2.heap.size := ⟨_, rfl⟩
  obtain ⟨PB, hPB⟩ : ∃ PB, PB = w2.heap.size + 1 := ⟨_, rfl⟩
  rw [← hPB] at HP3 ⊢
  rw [← hXB] at HX3 ⊢
  have hne : ¬ (XB = PB) := by omega
  have hne' : ¬ (PB = XB) := by omega
  clear hXB hPB
  go_loopw [8] (fun t wr => ∃ (k : Nat) (X : Int), t = .int .i64 k ∧ k ≤ n ∧ RJ l r k X ∧ XC w2 XB X wr ∧ XC w2 PB (Or.pr (l.take k)) wr ∧ Gr w2 wr) (fun t _ => n - (intOf t).toNat)
  case atStart => exact ⟨0, 0, rfl, by omega, RJ.start l r, HX3.out, by rw [List.take_zero]; exact HP3.out, HW3.out⟩
  case round =>
   obtain ⟨k, X, rfl, hk, hrj, hxc, hpc, hgr⟩ := hrel
   have HRJ := Lib.hid hrj
   have HXC := Lib.hid hxc
   have HPC := Lib.hid hpc
   have HGR := Lib.hid hgr
   clear hrj hxc hpc hgr
   by_cases hlt : k < n
   ·have hk0 : (0 : Int) ≤ (k : Int) := by omega
    have hk1 : (k : Int) < (n : Int) := by omega
    have hkl : k < l.length := by have := HLN.out; omega
    have h0 := HGR.out.keeps H0.out
    obtain ⟨gx, ox, rfl, hcx⟩ : ∃ gx ox, xa = some ⟨gx, ox, none⟩ ∧ wr.cell? ⟨gx, ox + k, none⟩ = some (.int .u32 (Op.cf l k)) := by
     obtain ⟨_, a, c', e, _, _, h3⟩ := HV.out.later HGR.out
     cases e
     obtain ⟨gx, ox, e, hc⟩ := h3 k hkl
     exact ⟨gx, ox, e, hc⟩
    obtain ⟨gy, oy, rfl, hcy⟩ : ∃ gy oy, xb = some ⟨gy, oy, none⟩ ∧ wr.cell? ⟨gy, oy + k, none⟩ = some (.int .u32 (Op.cf r k)) := by
     obtain ⟨_, a, c', e, _, _, h3⟩ := HU2.out.later HGR.out
     cases e
     obtain ⟨gx, ox, e, hc⟩ := h3 k (by have := HRN.out; omega)
     exact ⟨gx, ox, e, hc⟩
    have hq3 := HS.out.at_ hkl
    have hcop := HS.out.cop hkl
    have hrk := HROW.out.2 k hkl
    obtain ⟨p, hp⟩ : ∃ p, p = Op.cf l k := ⟨_, rfl⟩
    obtain ⟨b, hb⟩ : ∃ b, b = Op.cf r k := ⟨_, rfl⟩
    obtain ⟨P, hP⟩ : ∃ P, P = Or.pr (l.take k) := ⟨_, rfl⟩
    rw [← hp] at hcx hq3 hcop hrk
    rw [← hb] at hcy hrk
    rw [← hP] at HPC hcop
    have HPD := Lib.hid hP
    have HPP := Lib.hid hp
    have HBB := Lib.hid hb
    have HRK := Lib.hid hrk
    have HCOP := Lib.hid hcop
    have HOK := Lib.hid (show okP p from ⟨by omega, by omega⟩)
    have HXR := Lib.hid (HRJ.out.inR HS.out (by omega))
    have HPR := Lib.hid (show InR P by rw [hP]; exact inR_pr (HS.out.1.take k) (by rw [List.length_take]; have := HS.out.2.2.2.2; omega))
    clear hp hb hP hq3 hcop hrk hkl
    have x0 := HXC.out.2.1
    have x1 := HXC.out.2.2.1
    go_wp2_with fail
    refine (rwmodv_any X p _ HXR.out HOK.out).mono ?_
    rintro e w4 ⟨rfl, g⟩
    have hcy := g.keeps hcy
    have HXC := Lib.hid (XC.later HXC.out g)
    have HPC := Lib.hid (XC.later HPC.out g)
    have HGR := Lib.hid (HGR.out.trans g)
    have p0 := HPC.out.2.1
    have p1 := HPC.out.2.2.1
    clear g x0 x1 hcx h0
    obtain ⟨have', hha⟩ : ∃ y, y = X % p := ⟨_, rfl⟩
    have hhb : 0 ≤ have' ∧ have' < p := by rw [hha]; exact ⟨emod_lo X p (by have := HOK.out.1; omega), emod_hi X p (by have := HOK.out.1; omega)⟩
    rw [← hha]
    have HHA := Lib.hid hha
    have HHB := Lib.hid hhb
    clear hha hhb
    go_wp2_with fail
    refine (rwmodv_any P p _ HPR.out HOK.out).mono ?_
    rintro e w5 ⟨rfl, g⟩
    have hcy := g.keeps hcy
    have HXC := Lib.hid (XC.later HXC.out g)
    have HPC := Lib.hid (XC.later HPC.out g)
    have HGR := Lib.hid (HGR.out.trans g)
    clear g p0 p1
    go_wp2_with fail
    refine (rinv_any P p _ HOK.out HCOP.out).mono ?_
    rintro e w6 ⟨inv, rfl, hinv, g⟩
    have hcy := g.keeps hcy
    have HXC := Lib.hid (XC.later HXC.out g)
    have HPC := Lib.hid (XC.later HPC.out g)
    have HGR := Lib.hid (HGR.out.trans g)
    have HINV := Lib.hid hinv
    clear g hinv
    go_wp2_with fail
    refine (rsub_ok b have' p _ HOK.out.1 HOK.out.2 HRK.out.1 HHB.out.1 HRK.out.2 HHB.out.2).mono ?_
    rintro e w7 ⟨rfl, g⟩
    have HXC := Lib.hid (XC.later HXC.out g)
    have HPC := Lib.hid (XC.later HPC.out g)
    have HGR := Lib.hid (HGR.out.trans g)
    clear g hcy
    obtain ⟨miss, hmi⟩ : ∃ y, y = (b + p - have') % p := ⟨_, rfl⟩
    have hmb : 0 ≤ miss ∧ miss < p := by rw [hmi]; exact ⟨emod_lo _ p (by have := HOK.out.1; omega), emod_hi _ p (by have := HOK.out.1; omega)⟩
    rw [← hmi]
    have HMI := Lib.hid hmi
    have HMB := Lib.hid hmb
    clear hmi hmb
    go_wp2_with fail
    refine (rmul_ok miss inv p _ HOK.out.1 HOK.out.2 HMB.out.1 HINV.out.1 HMB.out.2 HINV.out.2.1).mono ?_
    rintro e w8 ⟨rfl, g⟩
    have HXC := Lib.hid (XC.later HXC.out g)
    have HPC := Lib.hid (XC.later HPC.out g)
    have HGR := Lib.hid (HGR.out.trans g)
    clear g
    obtain ⟨many, hma⟩ : ∃ y, y = miss * inv % p := ⟨_, rfl⟩
    have hmb : 0 ≤ many ∧ many < p := by rw [hma]; exact ⟨emod_lo _ p (by have := HOK.out.1; omega), emod_hi _ p (by have := HOK.out.1; omega)⟩
    rw [← hma]
    have HMB2 := Lib.hid hmb
    have HNX := Lib.hid (show RJ l r (k + 1) (X + P * many) from by
     have hc := rj_cong (r := b) (X := X) (P := P) rfl HHA.out HINV.out.2.2 HMI.out hma
     have h := HRJ.out.next (by have := HLN.out; omega) HS.out.1 (many := many) (by rw [← HPP.out]; exact hmb) (by rw [← HPP.out, ← HPD.out, ← HBB.out]; exact hc)
     rw [← HPD.out] at h
     exact h)
    clear hma hmb
    have HNR := Lib.hid (HNX.out.inR HS.out (by have := HLN.out; omega))
    have HPM := Lib.hid (show InR (P * many) from by
     have h1 := HNX.out.2.1
     have h0 := HRJ.out.1
     have h2 := HNR.out
     have h3 : 0 ≤ P * many := Int.mul_nonneg (by rw [HPD.out]; exact Int.le_of_lt (pr_le (HS.out.1.take k)).1) HMB2.out.1
     unfold InR at h2 ⊢
     omega)
    have HPQ := Lib.hid (show InR (P * p) ∧ Or.pr (l.take (k + 1)) = P * p from by
     have h1 := Or.pr_take_succ (l := l) (i := k) (by have := HLN.out; omega)
     rw [at_cf, ← HPP.out, ← HPD.out] at h1
     exact ⟨by rw [← h1]; exact inR_pr (HS.out.1.take (k + 1)) (by rw [List.length_take]; have := HS.out.2.2.2.2; omega), h1⟩)
    have HAW := Lib.hid (show isW many from ⟨by have := HMB2.out; omega, by have := HMB2.out; have := HOK.out.2; omega⟩)
    have HW0 := Lib.hid (show IntKind.i64.wrap many = many from IntWalk.i64_in _ (by have := HAW.out.1; have := HAW.out.2; omega))
    go_wp2_with fail
    refine wp_region_noPanic ?_
    refine rj_more P many PB w8 _ HPC.out.2.1 HPC.out.2.2.1 (Gr.refl _) HW0.out (fun w _ => rwof_any many w HAW.out) (fun w => rwmul_any P many w HPR.out (inR_small HAW.out) HPM.out) _ _ _ _ _ _ _ _ _ _ _ _ _ _ _ _ _ _ _ _ _ _ _ _ _ _ _ _ _ _ _ _ _ _ _ _ _ _ _ _ _ _ _ _ _ _ _ _ _ _ _ _ _ _ _ _ _ _ _ _ _ _ _ _ _ _ _ _ _ _ _ _ _ _ _ _ _ _ _ _ _ _ _ _ _ _ _ _ _ _ _ _ _ _ _ _ _ _ _ _ _ _ _ (fun _ _ _ _ _ h => h) ?_
    intro u1 u2 u3 u4 u5 u6 u7 u8 MB w9 m0 m1 g
    refine NoPanic.normal ?_
    have HXC := Lib.hid (XC.later HXC.out g)
    have HPC := Lib.hid (XC.later HPC.out g)
    have HGR := Lib.hid (HGR.out.trans g)
    have x0 := HXC.out.2.1
    have x1 := HXC.out.2.2.1
    clear g
    go_wp2_with fail
    refine (rwadd_any X (P * many) _ HXR.out HPM.out HNR.out).mono ?_
    rintro e wb ⟨rfl, g⟩
    have HXC := Lib.hid (XC.later HXC.out g)
    have HPC := Lib.hid (XC.later HPC.out g)
    have HGR := Lib.hid (HGR.out.trans g)
    clear g x0 x1 m0 m1
    obtain ⟨X', hX'⟩ : ∃ y, y = X + P * many := ⟨_, rfl⟩
    rw [← hX'] at HNX HNR ⊢
    clear hX'
    have x0 := HXC.out.2.1
    have x1 := HXC.out.2.2.1
    have f0 := HXC.out.2.2.2.1
    have f1 := HXC.out.2.2.2.2
    have HXP := Lib.hid (XC.put HXC.out X')
    have HPO := Lib.hid (XC.other HPC.out hne (.bool (decide (X' < 0))) (.string (bstr X'.natAbs)))
    have HGP := Lib.hid ((HGR.out.setCell (p := ⟨XB, 0, none⟩) HXC.out.1 (.bool (decide (X' < 0)))).setCell (p := ⟨XB, 1, none⟩) HXC.out.1 (.string (bstr X'.natAbs)))
    unfold wv
    go_wp2_with fail
    refine wp_region_noPanic ?_
    refine rj_product P p w2 _ PB XB X' ⟨by have := HOK.out.1; omega, by have := HOK.out.2; omega⟩ HPR.out (inR_small ⟨by have := HOK.out.1; omega, by have := HOK.out.2; omega⟩) HPQ.out.1 HGP.out ⟨HPO.out, HXP.out, hne'⟩ _ _ _ _ _ _ _ _ _ _ _ _ _ _ _ _ _ _ _ _ _ _ _ _ _ _ _ _ _ _ _ _ _ _ _ _ _ _ _ _ _ _ _ _ _ _ _ _ _ _ _ _ _ _ _ _ _ _ _ _ _ _ _ _ _ _ _ _ _ _ _ _ _ _ _ _ _ _ _ _ _ _ _ _ _ _ _ _ _ _ _ _ _ _ _ _ _ _ _ _ _ _ _ (fun _ _ _ _ _ h => h) ?_
    intro u1 u2 u3 u4 u5 u6 u7 u8 wx hx hgx
    refine NoPanic.normal ?_
    have HXN := Lib.hid hx
    have HGN := Lib.hid hgx
    clear hx hgx x0 x1 f0 f1
    go_wp2_with fail
    exact ⟨⟨k + 1, X', by simp, by omega, HNX.out, HXN.out.2.1, by rw [HPQ.out.2]; exact HXN.out.1, HGN.out⟩, by simp [intOf]; omega⟩
   ·obtain rfl : k = n := by omega
    have hk1 : ¬ (k : Int) < (k : Int) := by omega
    have hpt : Or.pr (l.take k) = Or.pr l := by rw [show l.take k = l by rw [← HLN.out, List.take_length]]
    have HRL := Lib.hid (show RJ l r l.length X by rw [HLN.out]; exact HRJ.out)
    rw [hpt] at HPC
    have x0 := HXC.out.2.1
    have x1 := HXC.out.2.2.1
    have p0 := HPC.out.2.1
    have p1 := HPC.out.2.2.1
    have HXR := Lib.hid (HRL.out.inR HS.out (Nat.le_refl _))
    have HPR := Lib.hid (inR_pr HS.out.1 HS.out.2.2.2.2)
    clear hpt
    go_wp2_with fail
    refine (rwbalv_any X (Or.pr l) _ HXR.out HPR.out (pr_le HS.out.1).1 (inR_wbal HS.out X)).mono ?_
    rintro e wb ⟨rfl, g⟩
    have HCA := Lib.hid (XC.later (XC.later HC.out HGR.out) g)
    have HGA := Lib.hid ((HG.out.trans HGR.out).trans g)
    obtain ⟨V, hV⟩ : ∃ y, y = wbal X (Or.pr l) := ⟨_, rfl⟩
    have HJV := Lib.hid (show JoinV l r V by rw [hV]; exact HRL.out.join HS.out)
    rw [← hV]
    clear g x0 x1 p0 p1 hV
    have a0 := HCA.out.2.1
    have a1 := HCA.out.2.2.1
    have z0 := HCA.out.2.2.2.1
    have z1 := HCA.out.2.2.2.2
    unfold wv
    go_wp2_with fail
    refine bodyPost_ret (v := .tuple #[wv V, .int .i64 0]) (by simp [results, Tryz.results83, go_sem, a0, a1, wv]) rfl ?_
    refine ⟨V, 0, rfl, .inr ⟨HROW.out, rfl, HJV.out⟩, ?_⟩
    exact (HGA.out.setCell (p := ⟨A, 0, none⟩) HA.out _).setCell (p := ⟨A, 1, none⟩) HA.out _
end Go.Proofs.YtlfiakpmnkhcdaaGreat.Mo
