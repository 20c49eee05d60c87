/- The law SupplyPrefix. -/
import Derived.Test.YtmankcmmlcfbaaaVye
import Derived.Laws.Concat
namespace Go.Proofs.Ytmankcmmlcfbaaa
open Go.RowKit Ov
set_option linter.unusedVariables false
set_option maxRecDepth 100000 in
set_option maxHeartbeats 4000000 in
theorem prefix_law (s r : ByteArray) (v : Value) (n : Nat) (A : Nat → Nat × Int × Int × Nat) (w : World) (hv : HasActs w v n A) (hs : s.size ≤ 9223372036854775807) (hr : r.size ≤ 9223372036854775807) : Calls Try.prog 4 #[.string s, .string r, v] w (Truth w) := by
  obtain ⟨a, cap, rfl, hn1, hn2, hA⟩ := hv
  have HA := Lib.hid hA
  obtain ⟨L, hL⟩ : ∃ L, L = s.size := ⟨_, rfl⟩
  have HL := Lib.hid hL
  have hLi : (s.size : Int) = (L : Int) := by omega
  have hL9 : L ≤ 9223372036854775807 := by omega
  obtain ⟨M, hM⟩ : ∃ M, M = r.size := ⟨_, rfl⟩
  have HM := Lib.hid hM
  have hMi : (r.size : Int) = (M : Int) := by omega
  have hM9 : M ≤ 9223372036854775807 := by omega
  clear hA hs hL hr hM
  have hc : 20000 < L ∨ (¬ 20000 < L ∧ 20000 < M) ∨ (¬ 20000 < L ∧ ¬ 20000 < M ∧ 60 < n) ∨ (L ≤ 20000 ∧ M ≤ 20000 ∧ n ≤ 60) := by omega
  rcases hc with c1 | ⟨c1, c2⟩ | ⟨c1, c2, c3⟩ | ⟨c1, c2, c3⟩
  · have d1 : (20000 : Int) < (L : Int) := by omega
    go_enter Try.func4, Try.ntmps4
    go_wp2_with (go_at_call 7; refine (shown_any _).mono ?_; rintro e w1 ⟨rfl, hg⟩)
    go_ret
    exact ⟨rfl, hg⟩
  · have d1 : ¬ (20000 : Int) < (L : Int) := by omega
    have d2 : (20000 : Int) < (M : Int) := by omega
    go_enter Try.func4, Try.ntmps4
    go_wp2_with (go_at_call 7; refine (shown_any _).mono ?_; rintro e w1 ⟨rfl, hg⟩)
    go_ret
    exact ⟨rfl, hg⟩
  · have d1 : ¬ (20000 : Int) < (L : Int) := by omega
    have d2 : ¬ (20000 : Int) < (M : Int) := by omega
    have d3 : (60 : Int) < (n : Int) := by omega
    go_enter Try.func4, Try.ntmps4
    go_wp2_with (go_at_call 7; refine (shown_any _).mono ?_; rintro e w1 ⟨rfl, hg⟩)
    go_ret
    exact ⟨rfl, hg⟩
  · have d1 : ¬ (20000 : Int) < (L : Int) := by omega
    have d2 : ¬ (20000 : Int) < (M : Int) := by omega
    have d3 : ¬ (60 : Int) < (n : Int) := by omega
    have hn9 : (n : Int) ≤ 60 := by omega
    have hL2 : (L : Int) ≤ 20000 := by omega
    have HN1 := Lib.hid (pNew_any s w (by have := HL.out; omega))
    have HN2 := Lib.hid (fun w1 => rNew_any s w1 (by have := HL.out; omega))
    have HNB := Lib.hid (show nbits s = 8 * L from by have := HL.out; unfold nbits; omega)
    go_enter Try.func4, Try.ntmps4
    go_wp2_with (first | (go_at_call 8; refine HN1.out.mono ?_; rintro e w1 ⟨b, g, c, rfl, hs1, hb1, hb2, hg1⟩) | (go_at_call 9; refine (HN2.out _).mono ?_; rintro e w2 ⟨r1, rfl, hr2, hr3, hg2⟩))
    have HB := Lib.hid (show w.heap.size ≤ b ∧ w.heap.size ≤ r1 ∧ b ≠ r1 ∧ g ≠ r1 from ⟨hb1, Nat.le_trans hg1.size hr3, by have := hs1.lt; omega, by have := hs1.lt; omega⟩)
    have HS0 := Lib.hid (hs1.later hg2)
    have HR0 := Lib.hid hr2
    have HG0 := Lib.hid (Gr.trans hg1 hg2)
    clear hs1 hb1 hb2 hg1 hr2 hr3 hg2
    go_loopw [9] (fun x wr => ∃ k : Nat, x = .int .i64 (k : Nat) ∧ k ≤ n ∧ Sup wr b g c s (pl s A k) ∧ Rup wr r1 s (pl s A k) ∧ Gr w wr) (fun x _ => n - (intOf x).toNat)
    case atStart => exact ⟨0, rfl, by omega, HS0.out, HR0.out, HG0.out⟩
    case round =>
      obtain ⟨k, rfl, hk, hs, hr, hg⟩ := hrel
      have HS := Lib.hid hs
      have HR := Lib.hid hr
      have HG := Lib.hid hg
      have hcase : k < n ∨ ¬ k < n := Classical.em _
      rcases hcase with hc | hc
      · have hci : (k : Int) < (n : Int) := by omega
        obtain ⟨gA, oA, rfl, a1, a2, x0, x1, x2, x3⟩ := HA.out k hc
        have y0 := hg.keeps x0
        have y1 := hg.keeps x1
        have y2 := hg.keeps x2
        have y3 := hg.keeps x3
        have HD := Lib.hid (does_any b g c r1 s s (pl s A k) (pl s A k) (A k) w wr hs hr hg HB.out.1 HB.out.2.1 HB.out.2.2.1 HB.out.2.2.2 a2 rfl rfl)
        have HQ := Lib.hid (show (act s (A k) (pl s A k)).2.2 = pl s A (k + 1) from rfl)
        rw [HQ.out] at HD
        obtain ⟨q, hq⟩ : ∃ q, q = pl s A (k + 1) := ⟨_, rfl⟩
        have HQE := Lib.hid hq
        have hq8 : q ≤ 8 * L := by rw [hq, ← HNB.out]; exact pl_end s A _
        rw [← hq] at HD
        obtain ⟨lf, hlf⟩ : ∃ lf : Int, lf = (nbits s : Nat) - (q : Nat) := ⟨_, rfl⟩
        have HLF := Lib.hid hlf
        rw [HNB.out] at hlf
        have hsum : lf + (q : Int) = 8 * (L : Int) := by omega
        have hlf1 : 0 ≤ lf := by omega
        have hlf2 : lf ≤ 160000 := by omega
        generalize A k = ak at HD y0 y1 y2 y3 a1 a2
        obtain ⟨W, N, H, Q⟩ := ak
        clear hs hr hg x0 x1 x2 x3 a1 a2 hlf hq HQ
        dsimp only at HD y0 y1 y2 y3
        go_wp2_with (first | (go_at_call 10; refine HD.out.mono ?_; rintro e w2 ⟨rfl, hs2, hr2, hg2⟩; (have HS2 := Lib.hid hs2; have HR2 := Lib.hid hr2; have HG2 := Lib.hid hg2); clear hs2 hr2 hg2) | (go_at_call 11; refine (left_any b g c s q w2 HS2.out).mono ?_; rintro e w3 ⟨rfl, hg3⟩; rw [← HLF.out]; (have HG3 := Lib.hid hg3); clear hg3) | (go_at_call 13; refine (taken_any b g c s q w3 (HS2.out.later HG3.out)).mono ?_; rintro e w5 ⟨he, hw⟩; subst he; subst hw))
        go_roundw
        case rel => exact ⟨k + 1, by simp, by omega, by rw [← HQE.out]; exact HS2.out.later HG3.out, by rw [← HQE.out]; exact HR2.out.later HG3.out, Gr.trans HG2.out HG3.out⟩
        case measure => simp [intOf]; omega
      · obtain rfl : n = k := by omega
        clear hs hr hg
        obtain ⟨P, hP⟩ : ∃ P, P = pl s A n := ⟨_, rfl⟩
        have HP := Lib.hid hP
        have hP8 : P ≤ 8 * L := by rw [hP, ← HNB.out]; exact pl_end s A _
        have hP9 : (P : Int) ≤ 160000 := by omega
        rw [← hP] at HS HR
        obtain ⟨m, hm⟩ : ∃ m, m = (P + 7) / 8 := ⟨_, rfl⟩
        have hmi : ((P : Int) + 7).tdiv 8 = (m : Int) := by rw [Int.tdiv_eq_ediv_of_nonneg (by omega)]; omega
        have hmL : m ≤ L := by omega
        have hmLi : ¬ (L : Int) < (m : Int) := by omega
        have hm0 : ¬ (m : Int) < 0 := by omega
        have hP8m : P ≤ 8 * m := by omega
        have HPM := Lib.hid hP8m
        have hms : m ≤ s.size := by have := HL.out; omega
        have hsl := fun (w : World) => run_slice_string_h (P := Try.prog) w 9 s Try.underlying9 .i64 (m : Int) (by omega) (by omega)
        have hcat := fun (w : World) => run_string_add_sum (P := Try.prog) w (s.extract 0 m) r (by rw [ByteArray.size_extract]; have := HM.out; omega)
        obtain ⟨T, hT⟩ : ∃ T, T = s.extract 0 m ++ r := ⟨_, rfl⟩
        have HT := Lib.hid hT
        have hTs : T.size ≤ 40000 := by rw [hT, ByteArray.size_append, ByteArray.size_extract]; have := HM.out; omega
        rw [← hT] at hcat
        have HN3 := Lib.hid (fun w1 => pNew_any T w1 (by omega))
        clear hP hm hP8m hT hTs
        go_wp2_with (first | (go_at_call 13; refine (taken_any b g c s P wr HS.out).mono ?_; rintro e w5 ⟨he, hw⟩; subst he; subst hw) | (go_at_call 8; refine (HN3.out _).mono ?_; rintro e w6 ⟨b2, g2, c2', rfl, hs6, hb6, hb7, hg6⟩) | (go_at_call 9; refine (HN2.out _).mono ?_; rintro e w7 ⟨r2, rfl, hr7, hr8, hg7⟩))
        have HB2 := Lib.hid (show w.heap.size ≤ b2 ∧ w.heap.size ≤ r2 ∧ b2 ≠ r2 ∧ g2 ≠ r2 from ⟨by have := HG.out.size; omega, by have := HG.out.size; have := hg6.size; omega, by have := hs6.lt; omega, by have := hs6.lt; omega⟩)
        have HS6 := Lib.hid (hs6.later hg7)
        have HR6 := Lib.hid hr7
        have HG6 := Lib.hid (Gr.trans HG.out (Gr.trans hg6 hg7))
        have HMS := Lib.hid hms
        clear hs6 hb6 hb7 hg6 hr7 hr8 hg7 hsl hcat hms HS HR HG
        go_loopw [14] (fun x wq => ∃ i : Nat, x = .int .i64 (i : Nat) ∧ i ≤ n ∧ Sup wq b2 g2 c2' T (pl s A i) ∧ Rup wq r2 s (pl s A i) ∧ Gr w wq) (fun x _ => n - (intOf x).toNat)
        case atStart => exact ⟨0, rfl, by omega, HS6.out, HR6.out, HG6.out⟩
        case round =>
          obtain ⟨i, rfl, hi, hs, hr, hg⟩ := hrel
          have HS := Lib.hid hs
          have HR := Lib.hid hr
          have HG := Lib.hid hg
          have hcase : i < n ∨ ¬ i < n := Classical.em _
          rcases hcase with hc | hc
          · have hci : (i : Int) < (n : Int) := by omega
            obtain ⟨gA, oA, rfl, a1, a2, x0, x1, x2, x3⟩ := HA.out i hc
            have HX := Lib.hid (show ∀ wz, Gr w wz → wz.cell? ⟨gA, oA + i * 4, none⟩ = some (.int .u8 ((A i).1 : Nat)) ∧ wz.cell? ⟨gA, oA + i * 4 + 1, none⟩ = some (.int .i64 (A i).2.1) ∧ wz.cell? ⟨gA, oA + i * 4 + 2, none⟩ = some (.int .i64 (A i).2.2.1) ∧ wz.cell? ⟨gA, oA + i * 4 + 3, none⟩ = some (.int .u64 ((A i).2.2.2 : Nat)) from fun wz hz => ⟨hz.keeps x0, hz.keeps x1, hz.keeps x2, hz.keeps x3⟩)
            obtain ⟨q, hq⟩ : ∃ q, q = pl s A i := ⟨_, rfl⟩
            have hqe : q ≤ nbits s := by rw [hq]; exact pl_end s A i
            have HQN := Lib.hid hqe
            rw [← hq] at HS HR
            obtain ⟨q', hq'⟩ : ∃ q', q' = pl s A (i + 1) := ⟨_, rfl⟩
            have HQ' := Lib.hid hq'
            have hcd : (act s (A i) q).2.1 = 0 ∨ ¬ (act s (A i) q).2.1 = 0 := Classical.em _
            have HST := Lib.hid (fun (h : ¬ (act s (A i) q).2.1 = 0) => show q = pl s A (i + 1) from by rw [hq] at h ⊢; exact (pl_stay s A i h).symm)
            have HAC := Lib.hid (fun (h : (act s (A i) q).2.1 = 0) => show act T (A i) q = act s (A i) q from by
              rw [HT.out]; rw [hq] at h ⊢
              exact pre_act s r A HMS.out (by rw [← HP.out]; exact HPM.out) hc h)
            have HE := Lib.hid (show (act s (A i) q).2.2 = q' from by rw [hq, hq']; rfl)
            have HD := Lib.hid (fun (h : (act s (A i) q).2.1 = 0) wz (k1 : Sup wz b2 g2 c2' T q) (k2 : Rup wz r2 s q) (k3 : Gr w wz) => show Calls Try.prog 10 #[.pointer (some ⟨b2, 0, none⟩), .pointer (some ⟨r2, 0, none⟩), .agg #[.int .u8 ((A i).1 : Nat), .int .i64 (A i).2.1, .int .i64 (A i).2.2.1, .int .u64 ((A i).2.2.2 : Nat)]] wz (DoesP w b2 g2 c2' r2 T s q' q') from by
              have e := HAC.out h
              have f := does_any b2 g2 c2' r2 T s q q (A i) w wz k1 k2 k3 HB2.out.1 HB2.out.2.1 HB2.out.2.2.1 HB2.out.2.2.2 a2 (by rw [e]) (by rw [e])
              rw [e, HE.out] at f
              exact f)
            have HU := Lib.hid (fun rr wz (k1 : Rup wz rr s q) (k2 : Gr wr wz) (k3 : wr.heap.size ≤ rr) => succ_any rr s q (A i) wr wz k1 k2 k3 a2)
            generalize (act s (A i) q).2.1 = cd at hcd HST HAC HE HD HU
            generalize A i = ak at HD HU HX a1 a2
            obtain ⟨W, N, H, Q⟩ := ak
            clear hs hr hg x0 x1 x2 x3 a1 a2 hq hqe hq' HAC HE
            dsimp only at HD HU HX
            rcases hcd with hcd | hcd
            · have HDo := Lib.hid (HD.out hcd)
              rw [decide_eq_true hcd] at HU
              clear HD HST hcd
              go_wp2_with (first | (go_at_call 14; refine (rTaken_any r2 s q _ HR.out).mono ?_; rintro e w6 ⟨he, hw⟩; subst he; subst hw) | (go_at_call 9; refine (HN2.out _).mono ?_; rintro e w7 ⟨r3, rfl, hr7, hr8, hg7⟩) | (go_at_call 15; refine (rSkip_any r3 s q w7 hr7 HQN.out).mono ?_; rintro e w8 ⟨rfl, hr9, hx9⟩; (have HG8 := Lib.hid (hx9.gr hg7 hr8)); (obtain ⟨y0, y1, y2, y3⟩ := HX.out _ (Gr.trans HG.out HG8.out)); (have HU8 := Lib.hid (HU.out r3 w8 hr9 HG8.out hr8)); clear hr7 hr8 hg7 hr9 hx9) | (go_at_call 16; refine HU8.out.mono ?_; rintro e w9 ⟨rfl, hg9⟩; clear y0 y1 y2 y3; (obtain ⟨y0, y1, y2, y3⟩ := HX.out _ (Gr.trans HG.out hg9)); (have HD9 := Lib.hid (HDo.out w9 (HS.out.later hg9) (HR.out.later hg9) (Gr.trans HG.out hg9))); clear hg9) | (go_at_call 10; refine HD9.out.mono ?_; rintro e w10 ⟨rfl, hs10, hr10, hg10⟩; (have HS10 := Lib.hid hs10; have HR10 := Lib.hid hr10; have HG10 := Lib.hid hg10); clear hs10 hr10 hg10))
              go_roundw
              case rel => exact ⟨i + 1, by simp, by omega, by rw [← HQ'.out]; exact HS10.out, by rw [← HQ'.out]; exact HR10.out, HG10.out⟩
              case measure => simp [intOf]; omega
            · have HSt := Lib.hid (HST.out hcd)
              rw [decide_eq_false hcd] at HU
              clear HD HST hcd
              go_wp2_with (first | (go_at_call 14; refine (rTaken_any r2 s q _ HR.out).mono ?_; rintro e w6 ⟨he, hw⟩; subst he; subst hw) | (go_at_call 9; refine (HN2.out _).mono ?_; rintro e w7 ⟨r3, rfl, hr7, hr8, hg7⟩) | (go_at_call 15; refine (rSkip_any r3 s q w7 hr7 HQN.out).mono ?_; rintro e w8 ⟨rfl, hr9, hx9⟩; (have HG8 := Lib.hid (hx9.gr hg7 hr8)); (obtain ⟨y0, y1, y2, y3⟩ := HX.out _ (Gr.trans HG.out HG8.out)); (have HU8 := Lib.hid (HU.out r3 w8 hr9 HG8.out hr8)); clear hr7 hr8 hg7 hr9 hx9) | (go_at_call 16; refine HU8.out.mono ?_; rintro e w9 ⟨rfl, hg9⟩; (have HG9 := Lib.hid hg9); clear hg9))
              go_roundw
              case rel => exact ⟨i + 1, by simp, by omega, by rw [← HSt.out]; exact HS.out.later HG9.out, by rw [← HSt.out]; exact HR.out.later HG9.out, Gr.trans HG.out HG9.out⟩
              case measure => simp [intOf]; omega
          · obtain rfl : n = i := by omega
            rw [← HP.out] at HS HR
            clear hs hr hg
            go_wp2_with (first | (go_at_call 13; refine (taken_any b2 g2 c2' T P wr HS.out).mono ?_; rintro e w5 ⟨he, hw⟩; subst he; subst hw) | (go_at_call 14; refine (rTaken_any r2 s P _ HR.out).mono ?_; rintro e w6 ⟨he, hw⟩; subst he; subst hw) | (go_at_call 7; refine (shown_any _).mono ?_; rintro e w7 ⟨rfl, hg1⟩))
            go_ret
            exact ⟨rfl, Gr.trans HG.out hg1⟩
end Go.Proofs.Ytmankcmmlcfbaaa
