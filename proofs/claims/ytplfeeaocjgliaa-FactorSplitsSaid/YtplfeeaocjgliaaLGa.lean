import Derived.Test.YtplfeeaocjgliaaLFG
/- The law Splits. -/
namespace Oq
theorem Lv.snoc {p d : Nat} {f g l : List Int} {ls : List (List Int)} (h : Lv p d f ls) (hl : Leaf p d l) (e : Op.Cg p g (Op.mul f l)) : Lv p d g (ls ++ [l]) :=
  ⟨fun x hx => (List.mem_append.1 hx).elim (h.1 x) (fun h1 => by rw [List.mem_singleton.1 h1]; exact hl), (e.trans (h.2.mul (Op.Cg.refl _ l))).trans (((Op.Cg.refl _ (prd ls)).mul ((Op.cg_swap _ l [1]).trans (Op.Cg.of (Op.mul_one l))).symm).trans (prd_app ls [l]).symm)⟩
theorem Lv.nil (p d : Nat) : Lv p d [1] [] := ⟨fun l hl => (by cases hl), Op.Cg.refl _ _⟩
theorem take_succ_get {α : Type} {l : List α} {k : Nat} (h : k < l.length) : l.take (k + 1) = l.take k ++ [l[k]] := List.take_succ_eq_append_getElem h
end Oq
namespace Go.Proofs.Ytplfeeaocjgliaa
open Go.RowKit
set_option linter.unusedVariables false

set_option maxRecDepth 100000 in
set_option maxHeartbeats 4000000 in
theorem splits7_all (n : Int) (p : Nat) (w : World) (hn : -9223372036854775808 ≤ n ∧ n ≤ 9223372036854775807) (hp : p ≤ 4294967295) : Calls Try.prog 4 #[.int .i64 n, .int .u32 p] w (Truth w) := by
  have HN := Lib.hid hn
  clear hn
  go_enter Try.func4, Try.ntmps4
  go_wp2_with fail
  refine (ffactors_any n p _ HN.out hp).mono ?_
  rintro e w1 (⟨hno, rfl, hg⟩ | ⟨hdim, hpl, d, g, c, vs, ts, rfl, hc1, hc2, hll, hpd, hlv, hsrt, hg⟩)
  · have HNO := Lib.hid (And.intro hno hg)
    clear hno hg
    go_wp2_with fail
    refine (rdegree7_any n p _ HN.out hp).mono ?_
    rintro e w2 ⟨d', E', rfl, hr, hg⟩
    obtain rfl : E' = 2 := by
      rcases hr with ⟨h1, h2, _⟩ | ⟨_, h, _⟩
      · exact absurd ⟨h1, h2⟩ HNO.out.1
      · exact h
    have H2 := Lib.hid hg
    clear hr hg
    go_wp2_with fail
    refine (awake7_any _).mono ?_
    rintro e w3 ⟨rfl, hg⟩
    have H3 := Lib.hid hg
    clear hg
    go_wp2_with fail
    go_ret
    exact ⟨rfl, (HNO.out.2.trans H2.out).trans H3.out⟩
  · obtain ⟨hmem, hnn, hn2, hn32⟩ := hdim.mem
    obtain ⟨m, hm⟩ : ∃ m, m = n.toNat := ⟨_, rfl⟩
    rw [← hm] at hmem hnn hn2 hn32 hpd hlv
    subst hnn
    have hcount := hlv.count (by have := hpl.1; omega) (Oq.dz_whole hpl.2.2 hpl.1 hmem).nor
    rw [Oq.xn_len] at hcount
    have hd1 := hpd.d1
    have hdm := PD_le hpd (by omega)
    obtain ⟨N, hN⟩ : ∃ N, N = ts.length := ⟨_, rfl⟩
    rw [← hN] at hcount hc1 hll ⊢
    have hm0 : m = N * d := by omega
    have hN0 : N ≠ 0 := fun h => by rw [h] at hm0; omega
    have hNle : N ≤ 32 := by
      have : N * 1 ≤ N * d := Nat.mul_le_mul_left N hd1
      omega
    have hq1 : (m : Int) / (d : Int) = (N : Int) := by rw [hm0, Int.natCast_mul, Int.mul_ediv_cancel _ (by omega)]
    have hq2 : (m : Int).tdiv (d : Int) = (N : Int) := by rw [hm0, Int.natCast_mul, Int.mul_tdiv_cancel _ (by omega)]
    have p2 : (2 : Int) < (p : Int) := by have := hpl.1; omega
    have p3 : (p : Int) ≤ 65535 := by have := hpl.2.1; omega
    have hdz : ¬ (d : Int) = 0 := by omega
    have HD := Lib.hid hdim
    have HPL := Lib.hid hpl
    have HM := Lib.hid hm
    have HMEM := Lib.hid hmem
    have HPD := Lib.hid hpd
    have HLL := Lib.hid hll
    have HLV := Lib.hid hlv
    have HS := Lib.hid hsrt
    have HG := Lib.hid hg
    have HNT := Lib.hid hN
    have HC := Lib.hid hcount
    clear hdim hpl hm hmem hpd hll hlv hsrt hg hN hcount hm0
    go_wp2_with fail
    refine (rdegree7_any (m : Int) p _ HN.out hp).mono ?_
    rintro e w2 ⟨d', E', rfl, hr, hg⟩
    obtain ⟨rfl, rfl⟩ : d' = d ∧ E' = 0 := by
      rcases hr with ⟨h1, h2, h3, h4⟩ | ⟨h, _⟩
      · rw [← HM.out] at h4
        exact ⟨h4.unique HPD.out, h3⟩
      · exact absurd ⟨HD.out, HPL.out⟩ h
    have HG2 := Lib.hid (HG.out.trans hg)
    have HLL2 := Lib.hid (show HasLL w2 g N vs ts from ⟨HLL.out.1, HLL.out.2.1, fun i hi => by
      obtain ⟨x, k, c, h1, h2⟩ := HLL.out.2.2 i hi
      exact ⟨x, k, c, hg.keeps h1, h2.later hg⟩⟩)
    clear hr hg
    go_wp2_with fail
    go_loopw [9, 10, 11, 12] (fun s t _ _ wr => ∃ (i : Nat) (Pl : List Int), t = .int .i64 i ∧ i ≤ N ∧ HasP wr s Pl ∧ Op.Nf p Pl ∧ Oq.Lv p d' Pl (ts.take i) ∧ Gr w2 wr) (fun _ t _ _ _ => N - (intOf t).toNat)
    case atStart => exact ⟨0, [1], rfl, by omega, one_hasP _ 1 (by omega), (Oq.Mo.one (p := p) (by omega)).nf, by rw [List.take_zero]; exact Oq.Lv.nil p d', Gr.new _ _⟩
    case round =>
      obtain ⟨i, Pl, rfl, hi, hP, hPn, hPv, hgw⟩ := hrel
      obtain ⟨-, xs, cs, rfl, -, -, -⟩ := id hP
      have hPl := hPv.count (by omega) hPn
      rw [List.length_take] at hPl
      have H := Lib.hid (And.intro hP (And.intro hPn (And.intro hPv hgw)))
      obtain ⟨np, hnp⟩ : ∃ np, np = Pl.length := ⟨_, rfl⟩
      have HNP := Lib.hid hnp
      rw [← hnp] at hPl ⊢
      have hmin : min i ts.length = i := by have := HNT.out; omega
      rw [hmin] at hPl
      have hPlb : np ≤ 33 := by
        have h1 : i * d' ≤ N * d' := Nat.mul_le_mul_right d' hi
        have h2 := HC.out
        omega
      clear hP hPn hPv hgw hnp hmin hPl
      by_cases hlt : i < N
      · have i5 : (i : Int) < (N : Int) := by omega
        have hit : i < ts.length := by rw [← HNT.out]; exact hlt
        have hleaf := HLV.out.1 ts[i] (List.getElem_mem hit)
        obtain ⟨x, k, c1, h1, h2⟩ := HLL2.out.2.2 i hit
        have ek := h2.len.1
        rw [hleaf.2.2] at ek
        subst ek
        have h1' := H.out.2.2.2.keeps h1
        have h2' := h2.later H.out.2.2.2
        obtain ⟨-, a', c', e', -, -, hcell⟩ := id h2'
        simp only [Value.slice.injEq] at e'
        obtain ⟨rfl, -, -⟩ := e'
        obtain ⟨gx, ox, rfl, hcd⟩ := hcell d' (by rw [hleaf.2.2]; omega)
        have hone : Op.cf ts[i] d' = 1 := by
          have := hleaf.2.1
          unfold Op.ld at this
          rwa [hleaf.2.2, Nat.add_sub_cancel] at this
        rw [hone] at hcd
        have HL := Lib.hid hleaf
        have HE := Lib.hid h2'
        have b1 : ∀ n, (wr.drewN n).cell? ⟨g, i, none⟩ = some (.slice (some ⟨gx, ox, none⟩) (d' + 1) c1) := fun n => h1'
        have b2 : ∀ n, (wr.drewN n).cell? ⟨gx, ox + d', none⟩ = some (.int .u32 1) := fun n => hcd
        clear h1 h2 h2' hcell hleaf hone
        by_cases h0 : 0 < i
        · obtain ⟨j, rfl⟩ : ∃ j, i = j + 1 := ⟨i - 1, by omega⟩
          have hjt : j < ts.length := by omega
          obtain ⟨y, ky, cy, k1, k2⟩ := HLL2.out.2.2 j hjt
          have ek := k2.len.1
          rw [(HLV.out.1 ts[j] (List.getElem_mem hjt)).2.2] at ek
          subst ek
          have k1' := H.out.2.2.2.keeps k1
          have b3 : ∀ n, (wr.drewN n).cell? ⟨g, j, none⟩ = some (.slice y (d' + 1) cy) := fun n => k1'
          have j0 : ((j + 1 : Nat) : Int) - 1 = (j : Int) := by omega
          have j1 : (0 : Int) < ((j + 1 : Nat) : Int) := by omega
          have HLESS := Lib.hid (fun n => less7_any ts[j] ts[j + 1] (.slice y (d' + 1) cy) (.slice (some ⟨gx, ox, none⟩) (d' + 1) c1) (wr.drewN n) ((k2.later H.out.2.2.2).later ((Gr.refl _).drewN n)) (HE.out.later ((Gr.refl _).drewN n)) (by rw [(HLV.out.1 ts[j] (List.getElem_mem hjt)).2.2]; omega) (by rw [(HLV.out.1 ts[j] (List.getElem_mem hjt)).2.2, (HLV.out.1 ts[j + 1] (List.getElem_mem hit)).2.2]))
          have HLT := Lib.hid (show decide (Oq.cmpL ts[j] ts[j + 1] < 0) = true from decide_eq_true (HS.out j (j + 1) hjt hit (by omega)))
          rw [HLT.out] at HLESS
          clear k1 k2
          go_wp2_with fail
          go_quiet ((go_at_call 14; exact Calls.quiet_of (HLESS.out _)))
          go_wp2_with fail
          refine (rMul_any p Pl ts[j + 1] _ _ _ (by have := H.out.1.later ((Gr.refl wr).drewN nq); rwa [← HNP.out] at this) (HE.out.later ((Gr.refl wr).drewN nq)) (by rw [← HNP.out]; omega) (by rw [HL.out.2.2]; omega)).mono ?_
          rintro e w3 ⟨x3, n3, c3, rfl, hm3, -, hg3⟩
          obtain ⟨e1, e2⟩ := pmul_ok HPL.out.1 HPL.out.2.1 H.out.2.1 HL.out.1 (by rw [← HNP.out, HL.out.2.2]; omega)
          rw [e2] at hm3
          rw [e1]
          have HM3 := Lib.hid (And.intro hm3 (((Gr.refl wr).drewN nq).trans hg3))
          clear hm3 hg3 e1 e2
          go_wp2_with fail
          go_roundw
          case rel =>
            refine ⟨j + 1 + 1, Op.nf p (Op.mul Pl ts[j + 1]), by simp, by omega, HM3.out.1, Op.nf_nf (by omega) _, ?_, H.out.2.2.2.trans HM3.out.2⟩
            rw [Oq.take_succ_get hit]
            exact H.out.2.2.1.snoc HL.out (Op.nf_cg _ _)
          case measure => simp [intOf]; omega
        · obtain rfl : i = 0 := by omega
          have j1 : ¬ (0 : Int) < ((0 : Nat) : Int) := by omega
          go_wp2_with fail
          go_quiet (fail)
          go_wp2_with fail
          refine (rMul_any p Pl ts[0] _ _ _ (by have := H.out.1.later ((Gr.refl wr).drewN nq); rwa [← HNP.out] at this) (HE.out.later ((Gr.refl wr).drewN nq)) (by rw [← HNP.out]; omega) (by rw [HL.out.2.2]; omega)).mono ?_
          rintro e w3 ⟨x3, n3, c3, rfl, hm3, -, hg3⟩
          obtain ⟨e1, e2⟩ := pmul_ok HPL.out.1 HPL.out.2.1 H.out.2.1 HL.out.1 (by rw [← HNP.out, HL.out.2.2]; omega)
          rw [e2] at hm3
          rw [e1]
          have HM3 := Lib.hid (And.intro hm3 (((Gr.refl wr).drewN nq).trans hg3))
          clear hm3 hg3 e1 e2
          go_wp2_with fail
          go_roundw
          case rel =>
            refine ⟨0 + 1, Op.nf p (Op.mul Pl ts[0]), by simp, by omega, HM3.out.1, Op.nf_nf (by omega) _, ?_, H.out.2.2.2.trans HM3.out.2⟩
            rw [Oq.take_succ_get hit]
            exact H.out.2.2.1.snoc HL.out (Op.nf_cg _ _)
          case measure => simp [intOf]; omega
      · obtain rfl : i = N := by omega
        have i5 : ¬ (i : Int) < (i : Int) := by omega
        have hmk := mk_row (m + 1) ((m : Int) + 1) (by omega) (by omega)
        have HZ := Lib.hid (own_zeros wr (m + 1) wr.heap.size (Nat.le_refl _) (by omega))
        have hr0 := Row.zeros wr (m + 1)
        have c0 := hr0.cell (j := 0) (by simp)
        have c1 := hr0.cell (j := m) (by simp)
        have f0 := hr0.frozen 0
        have f1 := hr0.frozen m
        rw [cf_rep] at c0 c1
        have hz : ((zrow (m + 1)).setIfInBounds 0 (.int .u32 1))[m]? = some (.int .u32 0) := by
          rw [Array.getElem?_setIfInBounds_ne (by omega), zrow_at _ _ (by omega)]
        obtain ⟨W5, hW5⟩ : ∃ W5, W5 = wr.alloc (.cells (((zrow (m + 1)).setIfInBounds 0 (.int .u32 1)).setIfInBounds m (.int .u32 1)) 22) := ⟨_, rfl⟩
        have HX := Lib.hid (show HasP W5 (.slice (some ⟨wr.heap.size, 0, none⟩) (m + 1) (m + 1)) (Op.xn m) from by
          obtain ⟨k1, k2⟩ := HZ.out.set (j := 0) (by simp) (x := 1) (by omega)
          obtain ⟨k3, k4⟩ := k1.set (j := m) (by simp) (x := 1) (by omega)
          rw [xn_set m (by omega)] at k3
          have e : ((wr.alloc (.cells (zrow (m + 1)) 22)).setCell ⟨wr.heap.size, 0, none⟩ (.int .u32 1)).setCell ⟨wr.heap.size, m, none⟩ (.int .u32 1) = W5 := by rw [hW5]; simp [go_sem]
          have h5 := k3.hasP
          rwa [e] at h5)
        have HG5 := Lib.hid (show Gr wr W5 from by rw [hW5]; exact Gr.new _ _)
        have HEQ := Lib.hid (show Pl = Op.xn m from by
          have h1 := H.out.2.2.1
          rw [List.take_of_length_le (by rw [← HNT.out]; exact Nat.le_refl _)] at h1
          exact Op.nf_eq (by omega) H.out.2.1 (Oq.dz_whole HPL.out.2.2 HPL.out.1 HMEM.out).nor (h1.2.trans HLV.out.2.symm))
        clear hr0
        go_wp2_with fail
        rw [← hW5]
        refine (lsame_any Pl (Op.xn m) _ _ _ (by have := H.out.1.later HG5.out; rwa [← HNP.out] at this) HX.out (by rw [← HNP.out]; omega) (by rw [Oq.xn_len]; omega)).mono ?_
        rintro e w6 ⟨rfl, hg6⟩
        have HG6 := Lib.hid hg6
        rw [decide_eq_true HEQ.out]
        clear hg6 hW5 hmk c0 c1 f0 f1 hz
        go_wp2_with fail
        refine (awake7_any _).mono ?_
        rintro e w7 ⟨rfl, hg7⟩
        have HG7 := Lib.hid hg7
        clear hg7
        go_wp2_with fail
        go_ret
        exact ⟨rfl, (((HG2.out.trans H.out.2.2.2).trans HG5.out).trans HG6.out).trans HG7.out⟩
end Go.Proofs.Ytplfeeaocjgliaa
