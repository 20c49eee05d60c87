import Derived.Test.YtjbfghnihnmpjaaLTD
/- The laws TransformTables, TransformKnown, TransformRound. -/
namespace Go.Proofs.Ytjbfghnihnmpjaa
open Go.RowKit
set_option linter.unusedVariables false

theorem zero_case (w : World) : (zeroValue 29).run Try.prog w = .ok (.agg #[.int .i64 0, .int .u32 0, .slice none 0 0, .slice none 0 0]) w := by kernel_rfl

set_option maxRecDepth 100000 in
set_option maxHeartbeats 2000000 in
theorem transformTables_all (n : Int) (q : Nat) (w : World) (hn : -9223372036854775808 ≤ n ∧ n ≤ 9223372036854775807) (hq : q ≤ 4294967295) :
    Calls Try.prog 3 #[.int .i64 n, .int .u32 q] w (Truth w) := by
  have HN := Lib.hid hn
  have hz := zero_case
  obtain ⟨n1, n2⟩ := hn
  go_enter Try.func3, Try.ntmps3
  go_wp2_with fail
  refine (lmade_any n q [] [] _ _ _ HN.out hq (HasP.nil _) (HasP.nil _)).mono ?_
  rintro e w1 ⟨hg, h⟩
  have HG := Lib.hid hg
  clear hg
  rcases h with ⟨m, psi, s, T, R, rfl, hN, rfl, ht, hr⟩ | ⟨hf, rfl⟩
  all_goals
    go_wp2_with fail
    refine (awake_any _).mono ?_
    rintro e w2 ⟨rfl, hg⟩
    have HG2 := Lib.hid (HG.out.trans hg)
    clear hg
    go_wp2_with fail
    go_ret
    exact ⟨rfl, HG2.out⟩

/-- The error of a list, case by case. -/
theorem fwL_len {n q psi : Nat} {a : List Int} (h : IsL n q a) : (fwL n q psi a).length = n := by
  unfold fwL; rw [if_pos h, Ot.fw, Ot.tl_len]
theorem isL_fwL {n q psi : Nat} {a : List Int} (h : IsL n q a) (hq : 1 ≤ q) : IsL n q (fwL n q psi a) := by
  unfold fwL; rw [if_pos h]; exact isL_tl hq
theorem isL_bwL {n q psi : Nat} {s : Int} {a : List Int} (h : IsL n q a) (hq : 1 ≤ q) : IsL n q (bwL n q psi s a) := by
  unfold bwL; rw [if_pos h]; exact isL_tl hq

set_option maxRecDepth 100000 in
set_option maxHeartbeats 4000000 in
theorem transformRound_all (n : Int) (q : Nat) (a b : List Int) (u v : Value) (w : World) (hn : -9223372036854775808 ≤ n ∧ n ≤ 9223372036854775807) (hq : q ≤ 4294967295) (hu : HasP w u a) (hv : HasP w v b) :
    Calls Try.prog 7 #[.agg #[.int .i64 n, .int .u32 q, u, v]] w (Truth w) := by
  have HU := Lib.hid hu
  have HV := Lib.hid hv
  obtain ⟨-, xa, ca, rfl, a1, a2, -⟩ := hu
  obtain ⟨-, xb, cb, rfl, b1, b2, -⟩ := hv
  obtain ⟨la, hla⟩ : ∃ la, la = a.length := ⟨_, rfl⟩
  obtain ⟨lb, hlb⟩ : ∃ lb, lb = b.length := ⟨_, rfl⟩
  rw [← hla] at HU a1 ⊢
  rw [← hlb] at HV b1 ⊢
  have HLA := Lib.hid hla
  obtain ⟨n1, n2⟩ := hn
  clear hla hlb
  go_enter Try.func7, Try.ntmps7
  go_wp2_with fail
  obtain ⟨W, hW⟩ : ∃ W, W = w.alloc (.cells #[.int .i64 n, .int .u32 q, .slice xa la ca, .slice xb lb cb] 29) := ⟨_, rfl⟩
  have HG0 := Lib.hid (show Gr w W from by rw [hW]; exact Gr.new _ _)
  have c2 : W.cell? ⟨w.heap.size, 2, none⟩ = some (.slice xa la ca) := by rw [hW]; simp [go_sem]
  rw [← hW]
  clear hW
  refine (new_any n q _ hq).mono ?_
  rintro e w1 ⟨hg, h⟩
  have c2 := hg.keeps c2
  have HG1 := Lib.hid (HG0.out.trans hg)
  clear hg
  rcases h with ⟨m, psi, s, T, rfl, hN, rfl, ht, htw⟩ | ⟨hf, rfl⟩
  · have HN := Lib.hid hN
    have HT := Lib.hid ht
    have hd := hN.dims
    have HQ := Lib.hid (show 1 ≤ q by omega)
    have HM := Lib.hid (show m ≤ 32 by omega)
    clear hN ht hd
    go_wp2_with fail
    refine (pFwd_any m q psi s T a _ _ HN.out HT.out (HU.out.later HG1.out)).mono ?_
    rintro e w2 ⟨xf, nf, cf, rfl, hx, hfr, hg⟩
    have HF := Lib.hid hx
    have HG2 := Lib.hid (HG1.out.trans hg)
    have HT2 := Lib.hid (HT.out.later hg)
    have c2 := hg.keeps c2
    have HNF := Lib.hid hx.len.1
    clear hx hfr hg
    rcases chkT_one m q a with ⟨hl, hc⟩ | ⟨hl, hc⟩
    · rw [hc]
      have HL := Lib.hid hl
      have HE := Lib.hid (show fwL m q psi a = Ot.fw m q psi a from if_pos hl)
      have HLF := Lib.hid (isL_fwL (psi := psi) hl HQ.out)
      have hcf := (chkT_one m q (fwL m q psi a)).resolve_right (fun h => h.1 HLF.out)
      have HCF := Lib.hid hcf.2
      have HC := Lib.hid hc
      have HLB := Lib.hid (isL_bwL (psi := psi) (s := (s : Int)) hl HQ.out)
      have HCB := Lib.hid ((chkT_one m q (bwL m q psi s a)).resolve_right (fun h => h.1 HLB.out)).2
      have HAI := Lib.hid (hl.is HU.out.1)
      have HBA := Lib.hid (show bwL m q psi s (fwL m q psi a) = a from by
        rw [bwL, if_pos HLF.out, HE.out]; exact HN.out.rt.back HN.out.inv.2.2 HAI.out)
      have HFA := Lib.hid (show fwL m q psi (bwL m q psi s a) = a from by
        rw [fwL, if_pos HLB.out, bwL, if_pos hl]; exact HN.out.rt.forth HN.out.inv.2.2 HAI.out)
      have HAL := Lib.hid (show a.length ≤ 1000000 by have := hl.1; have := HM.out; omega)
      clear hl hc hcf
      go_wp2_with fail
      refine (pInv_any m q psi s T _ _ _ HN.out HT2.out HF.out).mono ?_
      rintro e w3 ⟨xg, ng, cg, rfl, hx, hfr, hg⟩
      rw [HCF.out]
      rw [HBA.out] at hx
      have HX3 := Lib.hid hx
      have HG3 := Lib.hid (HG2.out.trans hg)
      have HT3 := Lib.hid (HT2.out.later hg)
      have c2 := hg.keeps c2
      clear hx hfr hg
      go_wp2_with fail
      refine (pInv_any m q psi s T a _ _ HN.out HT3.out (HU.out.later HG3.out)).mono ?_
      rintro e w4 ⟨xh, nh, ch, rfl, hx, hfr, hg⟩
      rw [HC.out]
      have HH := Lib.hid hx
      have HX4 := Lib.hid (HX3.out.later hg)
      have HG4 := Lib.hid (HG3.out.trans hg)
      have HT4 := Lib.hid (HT3.out.later hg)
      have c2 := hg.keeps c2
      clear hx hfr hg
      go_wp2_with fail
      refine (pFwd_any m q psi s T _ _ _ HN.out HT4.out HH.out).mono ?_
      rintro e w5 ⟨xi, ni, ci, rfl, hx, hfr, hg⟩
      rw [HCB.out]
      rw [HFA.out] at hx
      have HI := Lib.hid hx
      have HX5 := Lib.hid (HX4.out.later hg)
      have HG5 := Lib.hid (HG4.out.trans hg)
      have c2 := hg.keeps c2
      clear hx hfr hg
      go_wp2_with fail
      refine (lsame_any a a _ _ _ HX5.out (HU.out.later HG5.out) HAL.out HAL.out).mono ?_
      rintro e w6 ⟨rfl, hg⟩
      rw [show decide (a = a) = true from by simp]
      have HI6 := Lib.hid (HI.out.later hg)
      have HG6 := Lib.hid (HG5.out.trans hg)
      have c2 := hg.keeps c2
      clear hg
      go_wp2_with fail
      refine (lsame_any a a _ _ _ HI6.out (HU.out.later HG6.out) HAL.out HAL.out).mono ?_
      rintro e w7 ⟨rfl, hg⟩
      rw [show decide (a = a) = true from by simp]
      have HG7 := Lib.hid (HG6.out.trans hg)
      clear hg
      go_wp2_with fail
      refine (awake_any _).mono ?_
      rintro e w8 ⟨rfl, hg⟩
      have HG8 := Lib.hid (HG7.out.trans hg)
      clear hg
      go_wp2_with fail
      go_ret
      exact ⟨rfl, HG8.out⟩
    · rw [hc]
      have hE : fwL m q psi a = [] := if_neg hl
      have hnf := HNF.out
      rw [hE] at hnf
      obtain rfl : nf = 0 := hnf
      clear HNF
      clear hl hc hE
      go_wp2_with fail
      refine (awake_any _).mono ?_
      rintro e w3 ⟨rfl, hg⟩
      have HG3 := Lib.hid (HG2.out.trans hg)
      clear hg
      go_wp2_with fail
      go_ret
      exact ⟨rfl, HG3.out⟩
  · clear hf
    go_wp2_with fail
    refine (awake_any _).mono ?_
    rintro e w2 ⟨rfl, hg⟩
    have HG2 := Lib.hid (HG1.out.trans hg)
    clear hg
    go_wp2_with fail
    go_ret
    exact ⟨rfl, HG2.out⟩

theorem no413 : ¬ Fit 4 13 := fun ⟨m, e, _, _, _, h⟩ => by obtain rfl : m = 4 := (by omega); omega
theorem no317 : ¬ Fit 3 17 := fun ⟨m, e, h, _⟩ => by obtain rfl : m = 3 := (by omega); unfold Dim at h; omega
theorem no64 : ¬ Fit 64 257 := fun ⟨m, e, h, _⟩ => by obtain rfl : m = 64 := (by omega); unfold Dim at h; omega
theorem kn_fw : fwL 4 17 2 [1, 0, 0, 0] = [1, 1, 1, 1] ∧ chkT 4 17 [[1, 0, 0, 0]] = 0 := by decide +kernel
theorem kn_bw : bwL 4 17 2 ((13 : Nat) : Int) [1, 1, 1, 1] = [1, 0, 0, 0] ∧ chkT 4 17 [[1, 1, 1, 1]] = 0 := by decide +kernel

set_option maxRecDepth 100000 in
set_option maxHeartbeats 4000000 in
theorem transformKnown_all (w : World) : Calls Try.prog 10 #[] w (Truth w) := by
  have HA := Lib.hid kn_fw
  have HB := Lib.hid kn_bw
  go_enter Try.func10, Try.ntmps10
  go_wp2_with fail
  refine (new_any 4 17 _ (by omega)).mono ?_
  rintro e w1 ⟨hg, h⟩
  have HG1 := Lib.hid hg
  clear hg
  rcases h with ⟨m, psi, s, T, e1, hN, rfl, ht, htw⟩ | ⟨hf, rfl⟩
  · obtain rfl : m = 4 := by omega
    obtain ⟨rfl, rfl⟩ := num4 hN
    have HN := Lib.hid hN
    have HT := Lib.hid ht
    clear hN ht e1
    go_wp2_with fail
    refine (new_any 4 13 _ (by omega)).mono ?_
    rintro e w2 ⟨hg, h⟩
    obtain ⟨-, rfl⟩ := h.resolve_left (fun ⟨m, psi, s, T, e1, hN, _⟩ => no413 (by rw [e1]; exact hN.fit))
    have HG2 := Lib.hid (HG1.out.trans hg)
    have HT2 := Lib.hid (HT.out.later hg)
    clear hg h
    go_wp2_with fail
    refine (new_any 3 17 _ (by omega)).mono ?_
    rintro e w3 ⟨hg, h⟩
    obtain ⟨-, rfl⟩ := h.resolve_left (fun ⟨m, psi, s, T, e1, hN, _⟩ => no317 (by rw [e1]; exact hN.fit))
    have HG3 := Lib.hid (HG2.out.trans hg)
    have HT3 := Lib.hid (HT2.out.later hg)
    clear hg h
    go_wp2_with fail
    refine (new_any 64 257 _ (by omega)).mono ?_
    rintro e w4 ⟨hg, h⟩
    obtain ⟨-, rfl⟩ := h.resolve_left (fun ⟨m, psi, s, T, e1, hN, _⟩ => no64 (by rw [e1]; exact hN.fit))
    have HG4 := Lib.hid (HG3.out.trans hg)
    have HT4 := Lib.hid (HT3.out.later hg)
    clear hg h
    go_wp2_with fail
    refine (pFwd_any 4 17 2 13 T [1, 0, 0, 0] _ _ HN.out (HT4.out.later (Gr.new _ _)) (four_hasP' w4 1 0 0 0 _ rfl (u32_dec (by decide)))).mono ?_
    rintro e w5 ⟨x, n, c, rfl, hx, hfr, hg⟩
    rw [HA.out.2]
    rw [HA.out.1] at hx
    have HX := Lib.hid hx
    have HD5 := Lib.hid ((Gr.new w4 _).trans hg)
    have HG5 := Lib.hid (HG4.out.trans HD5.out)
    have HT5 := Lib.hid (HT4.out.later HD5.out)
    clear hx hfr hg
    go_wp2_with fail
    refine (pInv_any 4 17 2 13 T [1, 1, 1, 1] _ _ HN.out (HT5.out.later (Gr.new _ _)) (four_hasP' w5 1 1 1 1 _ rfl (u32_dec (by decide)))).mono ?_
    rintro e w6 ⟨y, n2, c2, rfl, hy, hfr, hg⟩
    rw [HB.out.2]
    rw [HB.out.1] at hy
    have HY := Lib.hid hy
    have HD6 := Lib.hid ((Gr.new w5 _).trans hg)
    have HG6 := Lib.hid (HG5.out.trans HD6.out)
    have HX6 := Lib.hid (HX.out.later HD6.out)
    clear hy hfr hg
    go_wp2_with fail
    refine (lsame_any [1, 1, 1, 1] [1, 1, 1, 1] _ _ _ (HX6.out.later (Gr.new _ _)) (four_hasP' _ 1 1 1 1 _ rfl (u32_dec (by decide))) (by decide) (by decide)).mono ?_
    rintro e w7 ⟨rfl, hg⟩
    rw [show decide (([1, 1, 1, 1] : List Int) = [1, 1, 1, 1]) = true from by simp]
    have HD7 := Lib.hid ((Gr.new w6 _).trans hg)
    clear hg
    go_wp2_with fail
    refine (lsame_any [1, 0, 0, 0] [1, 0, 0, 0] _ _ _ (HY.out.later (HD7.out.alloc _)) (four_hasP' _ 1 0 0 0 _ rfl (u32_dec (by decide))) (by decide) (by decide)).mono ?_
    rintro e w8 ⟨rfl, hg⟩
    rw [show decide (([1, 0, 0, 0] : List Int) = [1, 0, 0, 0]) = true from by simp]
    have HD8 := Lib.hid ((HD7.out.alloc _).trans hg)
    clear hg
    go_wp2_with fail
    refine (awake_any _).mono ?_
    rintro e w9 ⟨rfl, hg⟩
    have HG9 := Lib.hid ((HG6.out.trans HD8.out).trans hg)
    clear hg
    go_wp2_with fail
    go_ret
    exact ⟨rfl, HG9.out⟩
  · exact absurd fit4 hf
end Go.Proofs.Ytjbfghnihnmpjaa
