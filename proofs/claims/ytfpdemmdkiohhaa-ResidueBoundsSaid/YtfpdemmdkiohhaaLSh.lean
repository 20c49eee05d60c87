import Derived.Test.YtfpdemmdkiohhaaLSg
import Derived.Test.YtfpdemmdkiohhaaLZF
/- The law ResidueBounds. -/
namespace Go.Proofs.Ytfpdemmdkiohhaa.Mo
open Go.RowKit
set_option linter.unusedVariables false

theorem bstr_zero : bstr (Int.natAbs 0) = ⟨#[]⟩ := by unfold bstr; rw [show Ow.byt (Int.natAbs 0) = [] from Ow.byt_zero]
theorem wsgn_ge {x y : Int} (h : ¬ wsgn x y ≥ 0) : x < y := by
  unfold wsgn Go.Proofs.Ytfpdemmdkiohhaa.sgn at h
  split at h
  · assumption
  · split at h <;> omega
theorem wsgn_le {x y : Int} (h : x ≤ y) : ¬ wsgn x y > 0 := by
  unfold wsgn Go.Proofs.Ytfpdemmdkiohhaa.sgn
  split
  · omega
  · split <;> omega
set_option maxRecDepth 100000 in
set_option maxHeartbeats 16000000 in
theorem residueBounds_all (l : List Int) (v : Value) (neg : Bool) (s : ByteArray) (t : Int) (w : World) (hv : HasP w v l) (hlm : l.length ≤ 9223372036854775807) (hs : s.size ≤ 9223372036854775807) (ht : 0 ≤ t ∧ t ≤ 4294967295) :
    Calls Try.prog 5 #[v, .agg #[.bool neg, .string s], .int .u32 t] w (Tru w) := by
  obtain ⟨-, xa, ca, rfl, -, -, -⟩ := id hv
  obtain ⟨n, hn⟩ : ∃ n, n = l.length := ⟨_, rfl⟩
  rw [← hn] at hv hlm ⊢
  have HV := Lib.hid hv
  have HN := Lib.hid hn
  have HG0 := Lib.hid (Gr.new w (.cells #[.bool neg, .string s] 36))
  obtain ⟨ht0, ht1⟩ := ht
  clear hv hn
  have hc : 40 < n ∨ (¬ 40 < n ∧ 300 < s.size) ∨ (¬ 40 < n ∧ ¬ 300 < s.size) := by omega
  rcases hc with h1 | ⟨h1, h2⟩ | ⟨h1, h2⟩
  · have i1 : (n : Int) > 40 := by omega
    go_enter Try.func5, Try.ntmps5
    have HG := HG0
    go_wp2_with fail
    refine (shown_any _).mono ?_
    rintro e wz ⟨rfl, g⟩
    have HG := Lib.hid (HG.out.trans g)
    clear g
    go_wp2_with fail
    go_ret
    exact ⟨rfl, HG.out⟩
  · have i1 : ¬ (n : Int) > 40 := by omega
    have i2 : (s.size : Int) > 300 := by omega
    go_enter Try.func5, Try.ntmps5
    have HG := HG0
    go_wp2_with fail
    refine (shown_any _).mono ?_
    rintro e wz ⟨rfl, g⟩
    have HG := Lib.hid (HG.out.trans g)
    clear g
    go_wp2_with fail
    go_ret
    exact ⟨rfl, HG.out⟩
  have i1 : ¬ (n : Int) > 40 := by omega
  have i2 : ¬ (s.size : Int) > 300 := by omega
  go_enter Try.func5, Try.ntmps5
  go_wp2_with fail
  have x0 : (w.alloc (.cells #[.bool neg, .string s] 36)).cell? ⟨w.heap.size, 0, none⟩ = some (.bool neg) := by simp [go_sem]
  have x1 : (w.alloc (.cells #[.bool neg, .string s] 36)).cell? ⟨w.heap.size, 1, none⟩ = some (.string s) := by simp [go_sem]
  generalize w.alloc (.cells #[.bool neg, .string s] 36) = w0 at *
  generalize w.heap.size = X0 at *
  have HG := HG0
  have HV := Lib.hid (HV.out.later HG0.out)
  refine (rvalid_any neg s _ hs).mono ?_
  rintro e w1 ⟨b, rfl, hb, g⟩
  have x0 := g.keeps x0
  have x1 := g.keeps x1
  have HV := Lib.hid (HV.out.later g)
  have HG := Lib.hid (HG.out.trans g)
  clear g
  have HB := Lib.hid hb
  clear hb
  cases b with
  | false =>
    go_wp2_with fail
    refine (shown_any _).mono ?_
    rintro e wz ⟨rfl, g⟩
    have HG := Lib.hid (HG.out.trans g)
    clear g
    go_wp2_with fail
    go_ret
    exact ⟨rfl, HG.out⟩
  | true =>
  have HF := Lib.hid (HB.out.1 (by simp))
  go_wp2_with fail
  refine (new_any l _ _ HV.out).mono ?_
  rintro e w2 ⟨g, hcase⟩
  have x0 := g.keeps x0
  have x1 := g.keeps x1
  have HV := Lib.hid (HV.out.later g)
  have HG := Lib.hid (HG.out.trans g)
  clear g
  rcases hcase with ⟨hd, S, rfl, hsy, -⟩ | ⟨hnd, rfl⟩
  rotate_left
  · have HG := HG
    go_wp2_with fail
    refine (shown_any _).mono ?_
    rintro e wz ⟨rfl, g⟩
    have HG := Lib.hid (HG.out.trans g)
    clear g
    go_wp2_with fail
    go_ret
    exact ⟨rfl, HG.out⟩
  have HD0 := Lib.hid hd
  have HD := Lib.hid hd.sys
  have HS := Lib.hid hsy
  clear hd hsy
  by_cases hn3 : n < 3
  · have i4 : (n : Int) < 3 := by omega
    go_wp2_with fail
    refine (shown_any _).mono ?_
    rintro e wz ⟨rfl, g⟩
    have HG := Lib.hid (HG.out.trans g)
    clear g
    go_wp2_with fail
    go_ret
    exact ⟨rfl, HG.out⟩
  have i4 : ¬ (n : Int) < 3 := by omega
  by_cases ht2 : t < 1
  · have HG := HG
    go_wp2_with fail
    refine (shown_any _).mono ?_
    rintro e wz ⟨rfl, g⟩
    have HG := Lib.hid (HG.out.trans g)
    clear g
    go_wp2_with fail
    go_ret
    exact ⟨rfl, HG.out⟩
  by_cases ht3 : t > 1048576
  · have HG := HG
    go_wp2_with fail
    refine (shown_any _).mono ?_
    rintro e wz ⟨rfl, g⟩
    have HG := Lib.hid (HG.out.trans g)
    clear g
    go_wp2_with fail
    go_ret
    exact ⟨rfl, HG.out⟩
  obtain ⟨m, hm⟩ : ∃ m, m = n - 1 := ⟨_, rfl⟩
  obtain ⟨gx, ox, rfl, cx⟩ : ∃ gx ox, xa = some ⟨gx, ox, none⟩ ∧ w2.cell? ⟨gx, ox + m, none⟩ = some (.int .u32 (Op.cf l m)) := by
    obtain ⟨_, a, c', e, _, _, h3⟩ := HV.out
    cases e
    obtain ⟨gx, ox, e, hc⟩ := h3 m (by have := HN.out; omega)
    exact ⟨gx, ox, e, hc⟩
  have hq3 := HD.out.at_ (i := m) (by have := HN.out; omega)
  obtain ⟨q, hq⟩ : ∃ q, q = Op.cf l m := ⟨_, rfl⟩
  rw [← hq] at cx hq3
  have HQ := Lib.hid (show Op.cf l (l.length - 1) = q by rw [hq, hm, HN.out])
  have HQL := Lib.hid hq
  have i5 : (0 : Int) ≤ (m : Int) := by omega
  have i6 : (m : Int) < (n : Int) := by omega
  have i7 : (n : Int) - 1 = (m : Int) := by omega
  have i8 : (m : Int) ≤ (ca : Int) := by have := HV.out.len; omega
  have HM := Lib.hid hm
  clear hq hm
  have hq0 : ¬ q = 0 := by omega
  have hq0b : (q == 0) = false := by simp; omega
  have hr0 := emod_lo t q (by omega)
  have hr1 := emod_hi t q (by omega)
  by_cases h5 : t % q = 0
  · have h5b : (t % q == 0) = true := by simpa using h5
    clear h5
    go_wp2_with fail
    refine (shown_any _).mono ?_
    rintro e wz ⟨rfl, g⟩
    have HG := Lib.hid (HG.out.trans g)
    clear g
    go_wp2_with fail
    go_ret
    exact ⟨rfl, HG.out⟩
  have H5 := Lib.hid h5
  have h5b : (t % q == 0) = false := by simpa using h5
  have HTK := Lib.hid (show HasP w2 (.slice (some ⟨gx, ox, none⟩) m ca) (l.take m) from HV.out.take (by have := HN.out; omega))
  have HDL := Lib.hid (HD0.out.take (k := m) (by omega) (by have := HN.out; omega))
  clear h5
  go_wp2_with fail
  refine (new_any (l.take m) _ _ HTK.out).mono ?_
  rintro e w3 ⟨g, hcase⟩
  clear h5b hr0 hr1
  have x0 := g.keeps x0
  have x1 := g.keeps x1
  have HS := Lib.hid (HS.out.later g)
  have HG := Lib.hid (HG.out.trans g)
  clear g
  rcases hcase with ⟨-, S1, rfl, hsy, -⟩ | ⟨hnd, -⟩
  rotate_left
  · exact absurd HDL.out hnd
  have HS1 := Lib.hid hsy
  clear hsy
  obtain ⟨z, hz⟩ : ∃ z, z = zOf neg s := ⟨_, rfl⟩
  have HZ := Lib.hid hz
  clear hz
  go_wp2_with fail
  refine (split_any S l neg s _ HS.out HD.out hs).mono ?_
  rintro e w4 ⟨ar, nr, cr, row, E, rfl, hp, hr, g⟩
  rcases hr with ⟨hnf, -, -⟩ | ⟨-, rfl, hrow⟩
  · exact absurd HF.out hnf
  change row = rowL l.length (fun i => zOf neg s % Op.cf l i) at hrow
  rw [← HZ.out] at hrow
  change row = resL l z at hrow
  subst hrow
  have HS := Lib.hid (HS.out.later g)
  have HS1 := Lib.hid (HS1.out.later g)
  have HG := Lib.hid (HG.out.trans g)
  clear g
  have HR := Lib.hid hp
  clear hp
  go_wp2_with fail
  refine (scale_any S l (resL l z) t _ _ HS.out HD.out HD0.out.primeL HR.out ⟨ht0, ht1⟩).mono ?_
  rintro e w5 ⟨ak, nk, ck, rk, E, rfl, hp, hr, g⟩
  rcases hr with ⟨hnr, -, -⟩ | ⟨-, hbad, -, -⟩ | ⟨-, -, hbad, -, -⟩ | ⟨-, -, -, rfl, d, hdiv⟩
  · exact absurd (resL_row HD.out z) hnr
  · rw [HQ.out] at hbad
    have := H5.out
    exfalso; omega
  · have := HN.out
    exfalso; omega
  have HDV := Lib.hid hdiv
  clear hdiv
  have HS := Lib.hid (HS.out.later g)
  have HS1 := Lib.hid (HS1.out.later g)
  have HR := Lib.hid (HR.out.later g)
  have HG := Lib.hid (HG.out.trans g)
  clear g
  have HK := Lib.hid hp
  clear hp
  go_wp2_with fail
  refine (join_any S1 (l.take m) rk _ _ HS1.out HDL.out.sys HK.out).mono ?_
  rintro e w6 ⟨X1, c, rfl, hj, g⟩
  have HS := Lib.hid (HS.out.later g)
  have HS1 := Lib.hid (HS1.out.later g)
  have HR := Lib.hid (HR.out.later g)
  have HG := Lib.hid (HG.out.trans g)
  clear g
  have hrow : RowOf (l.take m) rk := by
    have h6 := resL_row HD.out z
    obtain ⟨b, -, -, h7⟩ := HDV.out
    have hlen : (l.take m).length = m := by rw [List.length_take]; have := HN.out; omega
    have hm1 : l.length - 1 = m := by have := HN.out; have := HM.out; omega
    refine ⟨by rw [h7, rowL_len, hlen, hm1], fun i hi => ?_⟩
    rw [hlen] at hi
    have hp3 := HD.out.at_ (i := i) (by have := HN.out; omega)
    rw [h7, hm1, rowL_at _ _ hi, Op.cf_take, if_pos hi]
    have hg : Int.gcd (Op.cf l m) (Op.cf l i) = 1 := HD.out.two (by have := HN.out; omega) (by have := HN.out; omega) (by omega)
    unfold qf
    split
    · next hex => have := Classical.choose_spec hex; exact ⟨this.1, this.2.1⟩
    · exact ⟨by omega, by omega⟩
  rcases hj with ⟨hnr, -, -⟩ | ⟨-, rfl, hj⟩
  · exact absurd hrow hnr
  have HJ1 := Lib.hid hj
  clear hj hrow
  have g := Gr.new w6 (.cells #[.bool (decide (X1 < 0)), .string (bstr (X1).natAbs)] 36)
  have b10 : (w6.alloc (.cells #[.bool (decide (X1 < 0)), .string (bstr (X1).natAbs)] 36)).cell? ⟨w6.heap.size, 0, none⟩ = some (.bool (decide (X1 < 0))) := by simp [go_sem]
  have b11 : (w6.alloc (.cells #[.bool (decide (X1 < 0)), .string (bstr (X1).natAbs)] 36)).cell? ⟨w6.heap.size, 1, none⟩ = some (.string (bstr (X1).natAbs)) := by simp [go_sem]
  have HS := Lib.hid (HS.out.later g)
  have HS1 := Lib.hid (HS1.out.later g)
  have HR := Lib.hid (HR.out.later g)
  have HG := Lib.hid (HG.out.trans g)
  clear g
  unfold wv
  go_wp2_with fail
  generalize w6.alloc (.cells #[.bool (decide (X1 < 0)), .string (bstr (X1).natAbs)] 36) = w7 at *
  generalize w6.heap.size = B1 at *
  refine (join_any S l (resL l z) _ _ HS.out HD.out HR.out).mono ?_
  rintro e w8 ⟨X2, c, rfl, hj, g⟩
  rcases hj with ⟨hnr, -, -⟩ | ⟨-, rfl, hj⟩
  · exact absurd (resL_row HD.out z) hnr
  have HJ2 := Lib.hid hj
  clear hj
  have HS := Lib.hid (HS.out.later g)
  have HS1 := Lib.hid (HS1.out.later g)
  have HR := Lib.hid (HR.out.later g)
  have b10 := g.keeps b10
  have b11 := g.keeps b11
  have HG := Lib.hid (HG.out.trans g)
  clear g
  have g := Gr.new w8 (.cells #[.bool (decide (X2 < 0)), .string (bstr (X2).natAbs)] 36)
  have b20 : (w8.alloc (.cells #[.bool (decide (X2 < 0)), .string (bstr (X2).natAbs)] 36)).cell? ⟨w8.heap.size, 0, none⟩ = some (.bool (decide (X2 < 0))) := by simp [go_sem]
  have b21 : (w8.alloc (.cells #[.bool (decide (X2 < 0)), .string (bstr (X2).natAbs)] 36)).cell? ⟨w8.heap.size, 1, none⟩ = some (.string (bstr (X2).natAbs)) := by simp [go_sem]
  have HS := Lib.hid (HS.out.later g)
  have HS1 := Lib.hid (HS1.out.later g)
  have HR := Lib.hid (HR.out.later g)
  have b10 := g.keeps b10
  have b11 := g.keeps b11
  have HG := Lib.hid (HG.out.trans g)
  clear g
  unfold wv
  go_wp2_with fail
  generalize w8.alloc (.cells #[.bool (decide (X2 < 0)), .string (bstr (X2).natAbs)] 36) = w9 at *
  generalize w8.heap.size = B2 at *
  obtain ⟨H, hH⟩ : ∃ H, H = (q - 1) / 2 := ⟨_, rfl⟩
  obtain ⟨K0, hK0⟩ : ∃ K0, K0 = t * H := ⟨_, rfl⟩
  have hHb : 1 ≤ H ∧ H ≤ 1073741823 := by omega
  have hK0b : 0 ≤ K0 ∧ K0 ≤ 1048576 * 1073741823 := by
    rw [hK0]
    exact ⟨Int.mul_nonneg (by omega) (by omega), Int.mul_le_mul (by omega) hHb.2 (by omega) (by omega)⟩
  have HW0 := Lib.hid (show IntKind.i64.wrap t = t from IntWalk.i64_in _ (by omega))
  have HW1 := Lib.hid (show IntKind.i64.wrap (q - 1) = q - 1 from IntWalk.i64_in _ (by omega))
  have HW2 := Lib.hid (show IntKind.i64.wrap (Int.tdiv (q - 1) 2) = H from by rw [Int.tdiv_eq_ediv_of_nonneg (by omega), ← hH]; exact IntWalk.i64_in _ (by omega))
  have HW3 := Lib.hid (show IntKind.i64.wrap (t * H) = K0 from by rw [← hK0]; exact IntWalk.i64_in _ (by omega))
  have HKB := Lib.hid hK0b
  have HQB := Lib.hid hq3
  have HTB := Lib.hid (show 1 ≤ t ∧ t ≤ 1048576 by omega)
  have HH := Lib.hid hH
  have HKK := Lib.hid hK0
  clear hH hK0 hHb hK0b hq3
  obtain ⟨Y, hY1, hY2, hY3, hY4, hY5⟩ := divR_math HD.out (by have := HN.out; omega) (resL_row HD.out z) HJ2.out HTB.out.1 HDV.out
  rw [HQ.out] at hY1 hY4 hY5
  rw [← HH.out, ← HKK.out] at hY4 hY5
  have HY1 := Lib.hid hY1
  have HY2 := Lib.hid (show rk = resL (l.take m) Y by rw [hY2, show l.length - 1 = m by have := HN.out; have := HM.out; omega])
  have HY3 := Lib.hid hY3
  have HY4 := Lib.hid (And.intro hY4 hY5)
  have HFIT := Lib.hid (fun (y : Int) (h : -(X2.natAbs + K0) ≤ y ∧ y ≤ X2.natAbs + K0) => bound_fits HD.out (by have := HN.out; omega) HJ2.out (by have := HKB.out; omega) h)
  clear hY1 hY2 hY3 hY4 hY5
  refine (rwabs_any X2 _ (HFIT.out X2 (by have := HKB.out; omega))).mono ?_
  rintro e w10 ⟨rfl, g⟩
  have HS := Lib.hid (HS.out.later g)
  have HS1 := Lib.hid (HS1.out.later g)
  have HR := Lib.hid (HR.out.later g)
  have b10 := g.keeps b10
  have b11 := g.keeps b11
  have b20 := g.keeps b20
  have b21 := g.keeps b21
  have HG := Lib.hid (HG.out.trans g)
  clear g
  obtain ⟨sz, hsz⟩ : ∃ sz : Int, sz = X2.natAbs := ⟨_, rfl⟩
  rw [← hsz]
  have Esz := Lib.hid hsz
  clear hsz
  have g := Gr.new w10 (.cells #[.bool (decide (sz < 0)), .string (bstr (sz).natAbs)] 36)
  have b30 : (w10.alloc (.cells #[.bool (decide (sz < 0)), .string (bstr (sz).natAbs)] 36)).cell? ⟨w10.heap.size, 0, none⟩ = some (.bool (decide (sz < 0))) := by simp [go_sem]
  have b31 : (w10.alloc (.cells #[.bool (decide (sz < 0)), .string (bstr (sz).natAbs)] 36)).cell? ⟨w10.heap.size, 1, none⟩ = some (.string (bstr (sz).natAbs)) := by simp [go_sem]
  have HS := Lib.hid (HS.out.later g)
  have HS1 := Lib.hid (HS1.out.later g)
  have HR := Lib.hid (HR.out.later g)
  have b10 := g.keeps b10
  have b11 := g.keeps b11
  have b20 := g.keeps b20
  have b21 := g.keeps b21
  have HG := Lib.hid (HG.out.trans g)
  clear g
  unfold wv
  go_wp2_with fail
  generalize w10.alloc (.cells #[.bool (decide (sz < 0)), .string (bstr (sz).natAbs)] 36) = w11 at *
  generalize w10.heap.size = B3 at *
  refine wp_region_noPanic ?_
  refine bd_most sz t q H K0 B3 w11 _ b30 b31 (Gr.refl _) HW0.out HW1.out HW2.out HW3.out (fun w _ => rwof_any K0 w ⟨by have := HKB.out; omega, by have := HKB.out; omega⟩) (fun w => rwadd_any sz K0 w (HFIT.out sz (by have := HKB.out; have := Esz.out; omega)) (HFIT.out K0 (by have := HKB.out; omega)) (HFIT.out (sz + K0) (by have := HKB.out; have := Esz.out; omega))) _ _ _ _ _ _ _ _ _ _ _ _ _ _ _ _ _ _ _ _ _ _ _ _ _ _ _ _ _ _ _ _ _ _ _ _ _ _ _ _ _ _ _ _ _ _ _ _ _ _ _ _ _ _ _ _ _ _ _ _ _ _ _ _ _ _ _ _ _ _ _ _ _ _ _ _ _ _ _ _ _ _ _ _ _ _ _ _ _ _ _ _ _ _ _ _ _ _ _ _ _ _ _ _ _ _ _ _ _ _ _ _ _ _ _ _ _ _ _ _ _ _ _ _ _ _ _ _ _ _ _ _ _ _ _ _ _ _ _ _ _ _ _ _ _ _ _ _ _ _ _ _ _ _ _ _ _ _ _ _ _ _ _ _ _ _ _ _ _ _ _ _ _ _ _ _ _ _ _ _ _ _ _ _ _ _ _ _ _ _ _ _ _ _ _ _ _ _ _ _ _ _ _ _ _ _ _ _ _ _ _ _ _ _ _ _ _ _ _ _ _ _ _ _ _ _ _ _ _ _ _ _ _ _ _ _ _ _ _ _ _ _ _ _ _ _ _ _ _ _ _ _ _ _ _ _ _ _ _ _ _ _ _ _ _ _ _ _ _ _ _ _ _ _ _ _ _ _ (fun _ _ _ _ _ h => h) ?_
  intro u0 u1 u2 u3 u4 u5 u6 u7 u8 u9 u10 u11 B4 w12 b40 b41 g
  refine NoPanic.normal ?_
  have HS := Lib.hid (HS.out.later g)
  have HS1 := Lib.hid (HS1.out.later g)
  have HR := Lib.hid (HR.out.later g)
  have b10 := g.keeps b10
  have b11 := g.keeps b11
  have b20 := g.keeps b20
  have b21 := g.keeps b21
  have b30 := g.keeps b30
  have b31 := g.keeps b31
  have HG := Lib.hid (HG.out.trans g)
  clear g
  obtain ⟨mo, hmo⟩ : ∃ mo : Int, mo = sz + K0 := ⟨_, rfl⟩
  rw [← hmo] at b40 b41
  have Emo := Lib.hid hmo
  clear hmo
  have hmo : 0 ≤ mo ∧ mo = X2.natAbs + K0 := by have := HKB.out; have := Esz.out; have := Emo.out; omega
  have hdv := Int.ediv_mul_le mo (show q ≠ 0 by have := HQB.out; omega)
  have hdn := Int.ediv_nonneg hmo.1 (show 0 ≤ q by have := HQB.out; omega)
  have hdq : 3 * (mo / q) ≤ mo := by
    have h1 : (mo / q) * 3 ≤ (mo / q) * q := Int.mul_le_mul_of_nonneg_left (by have := HQB.out; omega) hdn
    omega
  have hr0 := emod_lo mo q (by have := HQB.out; omega)
  have hr1 := emod_hi mo q (by have := HQB.out; omega)
  have HMO := Lib.hid (And.intro hmo (And.intro hdn hdq))
  have HQW := Lib.hid (show isW q from ⟨by have := HQB.out; omega, by have := HQB.out; omega⟩)
  have HRM := Lib.hid (inR_small (z := mo % q) ⟨by omega, by have := HQB.out; omega⟩)
  have HI1 := Lib.hid (HFIT.out mo (by omega))
  have HI2 := Lib.hid (HFIT.out (mo / q) (by omega))
  clear hmo hdv hdn hdq hr0 hr1
  go_wp2_with fail
  refine wp_region_noPanic ?_
  refine bd_bound mo q B4 w12 _ b40 b41 (Gr.refl _) (fun w _ => rwof_any q w HQW.out) (fun w => rwdiv_any mo q w HI1.out (inR_small HQW.out) hq0 HI2.out HRM.out) _ _ _ _ _ _ _ _ _ _ _ _ _ _ _ _ _ _ _ _ _ _ _ _ _ _ _ _ _ _ _ _ _ _ _ _ _ _ _ _ _ _ _ _ _ _ _ _ _ _ _ _ _ _ _ _ _ _ _ _ _ _ _ _ _ _ _ _ _ _ _ _ _ _ _ _ _ _ _ _ _ _ _ _ _ _ _ _ _ _ _ _ _ _ _ _ _ _ _ _ _ _ _ _ _ _ _ _ _ _ _ _ _ _ _ _ _ _ _ _ _ _ _ _ _ _ _ _ _ _ _ _ _ _ _ _ _ _ _ _ _ _ _ _ _ _ _ _ _ _ _ _ _ _ _ _ _ _ _ _ _ _ _ _ _ _ _ _ _ _ _ _ _ _ _ _ _ _ _ _ _ _ _ _ _ _ _ _ _ _ _ _ _ _ _ _ _ _ _ _ _ _ _ _ _ _ _ _ _ _ _ _ _ _ _ _ _ _ _ _ _ _ _ _ _ _ _ _ _ _ _ _ _ _ _ _ _ _ _ _ _ _ _ _ _ _ _ _ _ _ _ _ _ _ _ _ _ _ _ _ _ _ _ _ _ _ _ _ _ _ _ _ _ _ _ _ _ _ _ (fun _ _ _ _ _ h => h) ?_
  intro u0 u1 u2 u3 u4 u5 u6 u7 B5 B6 w13 b50 b51 b60 b61 g
  refine NoPanic.normal ?_
  have HS := Lib.hid (HS.out.later g)
  have HS1 := Lib.hid (HS1.out.later g)
  have HR := Lib.hid (HR.out.later g)
  have b10 := g.keeps b10
  have b11 := g.keeps b11
  have b20 := g.keeps b20
  have b21 := g.keeps b21
  have b30 := g.keeps b30
  have b31 := g.keeps b31
  have b40 := g.keeps b40
  have b41 := g.keeps b41
  have HG := Lib.hid (HG.out.trans g)
  clear g
  obtain ⟨bo, hbo⟩ : ∃ bo : Int, bo = mo / q := ⟨_, rfl⟩
  rw [← hbo] at b50 b51
  have Ebo := Lib.hid hbo
  clear hbo
  have HBO := Lib.hid (show 0 ≤ bo ∧ 3 * bo ≤ mo by rw [Ebo.out]; exact ⟨HMO.out.2.1, HMO.out.2.2⟩)
  go_wp2_with fail
  refine (rwadd_any bo bo _ (HFIT.out bo (by have := HBO.out; have := HMO.out.1; omega)) (HFIT.out bo (by have := HBO.out; have := HMO.out.1; omega)) (HFIT.out (bo + bo) (by have := HBO.out; have := HMO.out.1; omega))).mono ?_
  rintro e w14 ⟨rfl, g⟩
  have HS := Lib.hid (HS.out.later g)
  have HS1 := Lib.hid (HS1.out.later g)
  have HR := Lib.hid (HR.out.later g)
  have b10 := g.keeps b10
  have b11 := g.keeps b11
  have b20 := g.keeps b20
  have b21 := g.keeps b21
  have b30 := g.keeps b30
  have b31 := g.keeps b31
  have b40 := g.keeps b40
  have b41 := g.keeps b41
  have b50 := g.keeps b50
  have b51 := g.keeps b51
  have b60 := g.keeps b60
  have b61 := g.keeps b61
  have HG := Lib.hid (HG.out.trans g)
  clear g
  obtain ⟨db, hdb⟩ : ∃ db : Int, db = bo + bo := ⟨_, rfl⟩
  rw [← hdb]
  have Edb := Lib.hid hdb
  clear hdb
  have g := Gr.new w14 (.cells #[.bool (decide (db < 0)), .string (bstr (db).natAbs)] 36)
  have b70 : (w14.alloc (.cells #[.bool (decide (db < 0)), .string (bstr (db).natAbs)] 36)).cell? ⟨w14.heap.size, 0, none⟩ = some (.bool (decide (db < 0))) := by simp [go_sem]
  have b71 : (w14.alloc (.cells #[.bool (decide (db < 0)), .string (bstr (db).natAbs)] 36)).cell? ⟨w14.heap.size, 1, none⟩ = some (.string (bstr (db).natAbs)) := by simp [go_sem]
  have HS := Lib.hid (HS.out.later g)
  have HS1 := Lib.hid (HS1.out.later g)
  have HR := Lib.hid (HR.out.later g)
  have b10 := g.keeps b10
  have b11 := g.keeps b11
  have b20 := g.keeps b20
  have b21 := g.keeps b21
  have b30 := g.keeps b30
  have b31 := g.keeps b31
  have b40 := g.keeps b40
  have b41 := g.keeps b41
  have b50 := g.keeps b50
  have b51 := g.keeps b51
  have b60 := g.keeps b60
  have b61 := g.keeps b61
  have HG := Lib.hid (HG.out.trans g)
  clear g
  unfold wv
  go_wp2_with fail
  generalize w14.alloc (.cells #[.bool (decide (db < 0)), .string (bstr (db).natAbs)] 36) = w15 at *
  generalize w14.heap.size = B7 at *
  have HI3 := Lib.hid (HFIT.out db (by have := HBO.out; have := HMO.out.1; have := Edb.out; omega))
  refine wp_region_noPanic ?_
  refine bd_wraps db (Or.pr (l.take m)) (wsgn db (Or.pr (l.take m))) S1 B7 w15 _ b70 b71 (Gr.refl _) (fun w g => product_any S1 (l.take m) w (HS1.out.later g) HDL.out.sys) (fun w => rwcmp_any db (Or.pr (l.take m)) w HI3.out (inR_pr HDL.out.sys.1 HDL.out.sys.2.2.2.2)) _ _ _ _ _ _ _ _ _ _ _ _ _ _ _ _ _ _ _ _ _ _ _ _ _ _ _ _ _ _ _ _ _ _ _ _ _ _ _ _ _ _ _ _ _ _ _ _ _ _ _ _ _ _ _ _ _ _ _ _ _ _ _ _ _ _ _ _ _ _ _ _ _ _ _ _ _ _ _ _ _ _ _ _ _ _ _ _ _ _ _ _ _ _ _ _ _ _ _ _ _ _ _ _ _ _ _ _ _ _ _ _ _ _ _ _ _ _ _ _ _ _ _ _ _ _ _ _ _ _ _ _ _ _ _ _ _ _ _ _ _ _ _ _ _ _ _ _ _ _ _ _ _ _ _ _ _ _ _ _ _ _ _ _ _ _ _ _ _ _ _ _ _ _ _ _ _ _ _ _ _ _ _ _ _ _ _ _ _ _ _ _ _ _ _ _ _ _ _ _ _ _ _ _ _ _ _ _ _ _ _ _ _ _ _ _ _ _ _ _ _ _ _ _ _ _ _ _ _ _ _ _ _ _ _ _ _ _ _ _ _ _ _ _ _ _ _ _ _ _ _ _ _ _ _ _ _ _ _ _ _ _ _ _ _ _ _ _ _ _ _ _ _ _ _ _ _ _ _ (fun _ _ _ _ _ h => h) ?_
  intro u0 u1 u2 u3 u4 u5 u6  w16  g
  refine NoPanic.normal ?_
  have HS := Lib.hid (HS.out.later g)
  have HS1 := Lib.hid (HS1.out.later g)
  have HR := Lib.hid (HR.out.later g)
  have b10 := g.keeps b10
  have b11 := g.keeps b11
  have b20 := g.keeps b20
  have b21 := g.keeps b21
  have b30 := g.keeps b30
  have b31 := g.keeps b31
  have b40 := g.keeps b40
  have b41 := g.keeps b41
  have b50 := g.keeps b50
  have b51 := g.keeps b51
  have b60 := g.keeps b60
  have b61 := g.keeps b61
  have b70 := g.keeps b70
  have b71 := g.keeps b71
  have HG := Lib.hid (HG.out.trans g)
  clear g
  have HSG := Lib.hid (show ¬ wsgn db (Or.pr (l.take m)) ≥ 0 → db < Or.pr (l.take m) from wsgn_ge)
  generalize wsgn db (Or.pr (l.take m)) = G0 at *
  by_cases hG0 : G0 ≥ 0
  · have HG := HG
    go_wp2_with fail
    refine (shown_any _).mono ?_
    rintro e wz ⟨rfl, g⟩
    have HG := Lib.hid (HG.out.trans g)
    clear g
    go_wp2_with fail
    go_ret
    exact ⟨rfl, HG.out⟩
  have HLT := Lib.hid (HSG.out hG0)
  have hYq := quot_le HQB.out.1 HY1.out HY4.out
  rw [← HMO.out.1.2, ← Ebo.out] at hYq
  have HYB := Lib.hid hYq
  have hX1 : X1 = Y := by
    have h7 := HJ1.out
    rw [HY2.out] at h7
    exact h7.unique HDL.out.sys (resL_in (by have := HLT.out; have := Edb.out; omega))
  subst hX1
  clear hYq
  go_wp2_with fail
  refine (rwabs_any X1 _ (HFIT.out X1 (by have := HYB.out; have := HBO.out; have := HMO.out.1; omega))).mono ?_
  rintro e w17 ⟨rfl, g⟩
  have HS := Lib.hid (HS.out.later g)
  have HS1 := Lib.hid (HS1.out.later g)
  have HR := Lib.hid (HR.out.later g)
  have b10 := g.keeps b10
  have b11 := g.keeps b11
  have b20 := g.keeps b20
  have b21 := g.keeps b21
  have b30 := g.keeps b30
  have b31 := g.keeps b31
  have b40 := g.keeps b40
  have b41 := g.keeps b41
  have b50 := g.keeps b50
  have b51 := g.keeps b51
  have b60 := g.keeps b60
  have b61 := g.keeps b61
  have b70 := g.keeps b70
  have b71 := g.keeps b71
  have HG := Lib.hid (HG.out.trans g)
  clear g
  obtain ⟨fo, hfo⟩ : ∃ fo : Int, fo = X1.natAbs := ⟨_, rfl⟩
  rw [← hfo]
  have Efo := Lib.hid hfo
  clear hfo
  have g := Gr.new w17 (.cells #[.bool (decide (fo < 0)), .string (bstr (fo).natAbs)] 36)
  have b80 : (w17.alloc (.cells #[.bool (decide (fo < 0)), .string (bstr (fo).natAbs)] 36)).cell? ⟨w17.heap.size, 0, none⟩ = some (.bool (decide (fo < 0))) := by simp [go_sem]
  have b81 : (w17.alloc (.cells #[.bool (decide (fo < 0)), .string (bstr (fo).natAbs)] 36)).cell? ⟨w17.heap.size, 1, none⟩ = some (.string (bstr (fo).natAbs)) := by simp [go_sem]
  have HS := Lib.hid (HS.out.later g)
  have HS1 := Lib.hid (HS1.out.later g)
  have HR := Lib.hid (HR.out.later g)
  have b10 := g.keeps b10
  have b11 := g.keeps b11
  have b20 := g.keeps b20
  have b21 := g.keeps b21
  have b30 := g.keeps b30
  have b31 := g.keeps b31
  have b40 := g.keeps b40
  have b41 := g.keeps b41
  have b50 := g.keeps b50
  have b51 := g.keeps b51
  have b60 := g.keeps b60
  have b61 := g.keeps b61
  have b70 := g.keeps b70
  have b71 := g.keeps b71
  have HG := Lib.hid (HG.out.trans g)
  clear g
  unfold wv
  go_wp2_with fail
  generalize w17.alloc (.cells #[.bool (decide (fo < 0)), .string (bstr (fo).natAbs)] 36) = w18 at *
  generalize w17.heap.size = B8 at *
  refine (rwcmp_any fo bo _ (HFIT.out fo (by have := HYB.out; have := HBO.out; have := HMO.out.1; have := Efo.out; omega)) (HFIT.out bo (by have := HBO.out; have := HMO.out.1; omega))).mono ?_
  rintro e w19 ⟨rfl, g⟩
  have HS := Lib.hid (HS.out.later g)
  have HS1 := Lib.hid (HS1.out.later g)
  have HR := Lib.hid (HR.out.later g)
  have b10 := g.keeps b10
  have b11 := g.keeps b11
  have b20 := g.keeps b20
  have b21 := g.keeps b21
  have b30 := g.keeps b30
  have b31 := g.keeps b31
  have b40 := g.keeps b40
  have b41 := g.keeps b41
  have b50 := g.keeps b50
  have b51 := g.keeps b51
  have b60 := g.keeps b60
  have b61 := g.keeps b61
  have b70 := g.keeps b70
  have b71 := g.keeps b71
  have b80 := g.keeps b80
  have b81 := g.keeps b81
  have HG := Lib.hid (HG.out.trans g)
  clear g
  have hG1 : ¬ wsgn fo bo > 0 := wsgn_le (by rw [Efo.out]; exact HYB.out)
  generalize wsgn fo bo = G1 at *
  have HYM := Lib.hid (show X1 * q = X2 - d from HY1.out.symm)
  have HI4 := Lib.hid (show InR (X1 * q) from by rw [HYM.out]; exact HFIT.out _ (by have := HY4.out; omega))
  have HI5 := Lib.hid (HFIT.out X1 (by have := HYB.out; have := HBO.out; have := HMO.out.1; omega))
  go_wp2_with fail
  refine wp_region_noPanic ?_
  refine bd_times X1 q B1 w19 _ b10 b11 (Gr.refl _) (fun w _ => rwof_any q w HQW.out) (fun w => rwmul_any X1 q w HI5.out (inR_small HQW.out) HI4.out) _ _ _ _ _ _ _ _ _ _ _ _ _ _ _ _ _ _ _ _ _ _ _ _ _ _ _ _ _ _ _ _ _ _ _ _ _ _ _ _ _ _ _ _ _ _ _ _ _ _ _ _ _ _ _ _ _ _ _ _ _ _ _ _ _ _ _ _ _ _ _ _ _ _ _ _ _ _ _ _ _ _ _ _ _ _ _ _ _ _ _ _ _ _ _ _ _ _ _ _ _ _ _ _ _ _ _ _ _ _ _ _ _ _ _ _ _ _ _ _ _ _ _ _ _ _ _ _ _ _ _ _ _ _ _ _ _ _ _ _ _ _ _ _ _ _ _ _ _ _ _ _ _ _ _ _ _ _ _ _ _ _ _ _ _ _ _ _ _ _ _ _ _ _ _ _ _ _ _ _ _ _ _ _ _ _ _ _ _ _ _ _ _ _ _ _ _ _ _ _ _ _ _ _ _ _ _ _ _ _ _ _ _ _ _ _ _ _ _ _ _ _ _ _ _ _ _ _ _ _ _ _ _ _ _ _ _ _ _ _ _ _ _ _ _ _ _ _ _ _ _ _ _ _ _ _ _ _ _ _ _ _ _ _ _ _ _ _ _ _ _ _ _ _ _ _ _ _ _ (fun _ _ _ _ _ h => h) ?_
  intro u0 u1 u2 u3 u4 u5 u6 B9 w20 b90 b91 g
  refine NoPanic.normal ?_
  have HS := Lib.hid (HS.out.later g)
  have HS1 := Lib.hid (HS1.out.later g)
  have HR := Lib.hid (HR.out.later g)
  have b10 := g.keeps b10
  have b11 := g.keeps b11
  have b20 := g.keeps b20
  have b21 := g.keeps b21
  have b30 := g.keeps b30
  have b31 := g.keeps b31
  have b40 := g.keeps b40
  have b41 := g.keeps b41
  have b50 := g.keeps b50
  have b51 := g.keeps b51
  have b60 := g.keeps b60
  have b61 := g.keeps b61
  have b70 := g.keeps b70
  have b71 := g.keeps b71
  have b80 := g.keeps b80
  have b81 := g.keeps b81
  have HG := Lib.hid (HG.out.trans g)
  clear g
  obtain ⟨tm, htm⟩ : ∃ tm : Int, tm = X1 * q := ⟨_, rfl⟩
  rw [← htm] at b90 b91
  have Etm := Lib.hid htm
  clear htm
  have HTM := Lib.hid (show X2 - tm = d by rw [Etm.out, HYM.out]; omega)
  go_wp2_with fail
  refine (rwsub_any X2 tm _ (HFIT.out X2 (by have := HKB.out; omega)) (by rw [Etm.out]; exact HI4.out) (by rw [HTM.out]; exact HFIT.out d (by have := HY4.out; omega))).mono ?_
  rintro e w21 ⟨rfl, g⟩
  rw [HTM.out]
  have HS := Lib.hid (HS.out.later g)
  have HS1 := Lib.hid (HS1.out.later g)
  have HR := Lib.hid (HR.out.later g)
  have b10 := g.keeps b10
  have b11 := g.keeps b11
  have b20 := g.keeps b20
  have b21 := g.keeps b21
  have b30 := g.keeps b30
  have b31 := g.keeps b31
  have b40 := g.keeps b40
  have b41 := g.keeps b41
  have b50 := g.keeps b50
  have b51 := g.keeps b51
  have b60 := g.keeps b60
  have b61 := g.keeps b61
  have b70 := g.keeps b70
  have b71 := g.keeps b71
  have b80 := g.keeps b80
  have b81 := g.keeps b81
  have b90 := g.keeps b90
  have b91 := g.keeps b91
  have HG := Lib.hid (HG.out.trans g)
  clear g
  have g := Gr.new w21 (.cells #[.bool (decide (d < 0)), .string (bstr (d).natAbs)] 36)
  have c10 : (w21.alloc (.cells #[.bool (decide (d < 0)), .string (bstr (d).natAbs)] 36)).cell? ⟨w21.heap.size, 0, none⟩ = some (.bool (decide (d < 0))) := by simp [go_sem]
  have c11 : (w21.alloc (.cells #[.bool (decide (d < 0)), .string (bstr (d).natAbs)] 36)).cell? ⟨w21.heap.size, 1, none⟩ = some (.string (bstr (d).natAbs)) := by simp [go_sem]
  have HS := Lib.hid (HS.out.later g)
  have HS1 := Lib.hid (HS1.out.later g)
  have HR := Lib.hid (HR.out.later g)
  have b10 := g.keeps b10
  have b11 := g.keeps b11
  have b20 := g.keeps b20
  have b21 := g.keeps b21
  have b30 := g.keeps b30
  have b31 := g.keeps b31
  have b40 := g.keeps b40
  have b41 := g.keeps b41
  have b50 := g.keeps b50
  have b51 := g.keeps b51
  have b60 := g.keeps b60
  have b61 := g.keeps b61
  have b70 := g.keeps b70
  have b71 := g.keeps b71
  have b80 := g.keeps b80
  have b81 := g.keeps b81
  have b90 := g.keeps b90
  have b91 := g.keeps b91
  have HG := Lib.hid (HG.out.trans g)
  clear g
  unfold wv
  go_wp2_with fail
  generalize w21.alloc (.cells #[.bool (decide (d < 0)), .string (bstr (d).natAbs)] 36) = w22 at *
  generalize w21.heap.size = C1 at *
  have hrest : d % t = 0 := Int.emod_eq_zero_of_dvd HY3.out
  have hdq : InR (d / t) := by
    obtain ⟨f, hf⟩ := HY3.out
    have h1 : d / t = f := by rw [hf]; exact Int.mul_ediv_cancel_left _ (by have := HTB.out; omega)
    rw [h1]
    refine HFIT.out f ?_
    have hb := HY4.out
    have h2 : f.natAbs ≤ d.natAbs := by
      rw [hf, Int.natAbs_mul]
      exact Nat.le_mul_of_pos_left _ (by have := HTB.out; omega)
    omega
  have HRS := Lib.hid hrest
  have HDQ := Lib.hid hdq
  have HTW := Lib.hid (show isW t from ⟨by have := HTB.out; omega, by have := HTB.out; omega⟩)
  have HT0 := Lib.hid (show t ≠ 0 by have := HTB.out; omega)
  clear hrest hdq
  refine wp_region_noPanic ?_
  refine bd_rest d t C1 w22 _ c10 c11 (Gr.refl _) HW0.out (fun w _ => rwof_any t w HTW.out) (fun w => rwdiv_any d t w (HFIT.out d (by have := HY4.out; omega)) (inR_small HTW.out) HT0.out HDQ.out (by rw [HRS.out]; exact inR_small ⟨by omega, by omega⟩)) _ _ _ _ _ _ _ _ _ _ _ _ _ _ _ _ _ _ _ _ _ _ _ _ _ _ _ _ _ _ _ _ _ _ _ _ _ _ _ _ _ _ _ _ _ _ _ _ _ _ _ _ _ _ _ _ _ _ _ _ _ _ _ _ _ _ _ _ _ _ _ _ _ _ _ _ _ _ _ _ _ _ _ _ _ _ _ _ _ _ _ _ _ _ _ _ _ _ _ _ _ _ _ _ _ _ _ _ _ _ _ _ _ _ _ _ _ _ _ _ _ _ _ _ _ _ _ _ _ _ _ _ _ _ _ _ _ _ _ _ _ _ _ _ _ _ _ _ _ _ _ _ _ _ _ _ _ _ _ _ _ _ _ _ _ _ _ _ _ _ _ _ _ _ _ _ _ _ _ _ _ _ _ _ _ _ _ _ _ _ _ _ _ _ _ _ _ _ _ _ _ _ _ _ _ _ _ _ _ _ _ _ _ _ _ _ _ _ _ _ _ _ _ _ _ _ _ _ _ _ _ _ _ _ _ _ _ _ _ _ _ _ _ _ _ _ _ _ _ _ _ _ _ _ _ _ _ _ _ _ _ _ _ _ _ _ _ _ _ _ _ _ _ _ _ _ _ _ _ (fun _ _ _ _ _ h => h) ?_
  intro u0 u1 u2 u3 u4 u5 u6 u7 u8 C2 C3 w23 c20 c21 c30 c31 g
  refine NoPanic.normal ?_
  have HS := Lib.hid (HS.out.later g)
  have HS1 := Lib.hid (HS1.out.later g)
  have HR := Lib.hid (HR.out.later g)
  have b10 := g.keeps b10
  have b11 := g.keeps b11
  have b20 := g.keeps b20
  have b21 := g.keeps b21
  have b30 := g.keeps b30
  have b31 := g.keeps b31
  have b40 := g.keeps b40
  have b41 := g.keeps b41
  have b50 := g.keeps b50
  have b51 := g.keeps b51
  have b60 := g.keeps b60
  have b61 := g.keeps b61
  have b70 := g.keeps b70
  have b71 := g.keeps b71
  have b80 := g.keeps b80
  have b81 := g.keeps b81
  have b90 := g.keeps b90
  have b91 := g.keeps b91
  have c10 := g.keeps c10
  have c11 := g.keeps c11
  have HG := Lib.hid (HG.out.trans g)
  clear g
  rw [HRS.out, bstr_zero] at c31
  go_wp2_with fail
  refine (rwabs_any d _ (HFIT.out d (by have := HY4.out; omega))).mono ?_
  rintro e w24 ⟨rfl, g⟩
  have HS := Lib.hid (HS.out.later g)
  have HS1 := Lib.hid (HS1.out.later g)
  have HR := Lib.hid (HR.out.later g)
  have b10 := g.keeps b10
  have b11 := g.keeps b11
  have b20 := g.keeps b20
  have b21 := g.keeps b21
  have b30 := g.keeps b30
  have b31 := g.keeps b31
  have b40 := g.keeps b40
  have b41 := g.keeps b41
  have b50 := g.keeps b50
  have b51 := g.keeps b51
  have b60 := g.keeps b60
  have b61 := g.keeps b61
  have b70 := g.keeps b70
  have b71 := g.keeps b71
  have b80 := g.keeps b80
  have b81 := g.keeps b81
  have b90 := g.keeps b90
  have b91 := g.keeps b91
  have c10 := g.keeps c10
  have c11 := g.keeps c11
  have c20 := g.keeps c20
  have c21 := g.keeps c21
  have c30 := g.keeps c30
  have c31 := g.keeps c31
  have HG := Lib.hid (HG.out.trans g)
  clear g
  obtain ⟨wd, hwd⟩ : ∃ wd : Int, wd = d.natAbs := ⟨_, rfl⟩
  rw [← hwd]
  have Ewd := Lib.hid hwd
  clear hwd
  have g := Gr.new w24 (.cells #[.bool (decide (wd < 0)), .string (bstr (wd).natAbs)] 36)
  have c40 : (w24.alloc (.cells #[.bool (decide (wd < 0)), .string (bstr (wd).natAbs)] 36)).cell? ⟨w24.heap.size, 0, none⟩ = some (.bool (decide (wd < 0))) := by simp [go_sem]
  have c41 : (w24.alloc (.cells #[.bool (decide (wd < 0)), .string (bstr (wd).natAbs)] 36)).cell? ⟨w24.heap.size, 1, none⟩ = some (.string (bstr (wd).natAbs)) := by simp [go_sem]
  have HS := Lib.hid (HS.out.later g)
  have HS1 := Lib.hid (HS1.out.later g)
  have HR := Lib.hid (HR.out.later g)
  have b10 := g.keeps b10
  have b11 := g.keeps b11
  have b20 := g.keeps b20
  have b21 := g.keeps b21
  have b30 := g.keeps b30
  have b31 := g.keeps b31
  have b40 := g.keeps b40
  have b41 := g.keeps b41
  have b50 := g.keeps b50
  have b51 := g.keeps b51
  have b60 := g.keeps b60
  have b61 := g.keeps b61
  have b70 := g.keeps b70
  have b71 := g.keeps b71
  have b80 := g.keeps b80
  have b81 := g.keeps b81
  have b90 := g.keeps b90
  have b91 := g.keeps b91
  have c10 := g.keeps c10
  have c11 := g.keeps c11
  have c20 := g.keeps c20
  have c21 := g.keeps c21
  have c30 := g.keeps c30
  have c31 := g.keeps c31
  have HG := Lib.hid (HG.out.trans g)
  clear g
  unfold wv
  go_wp2_with fail
  generalize w24.alloc (.cells #[.bool (decide (wd < 0)), .string (bstr (wd).natAbs)] 36) = w25 at *
  generalize w24.heap.size = C4 at *
  refine wp_region_noPanic ?_
  refine bd_high wd t q H K0 (wsgn wd K0) C4 w25 _ c40 c41 (Gr.refl _) HW0.out HW1.out HW2.out HW3.out (fun w _ => rwof_any K0 w ⟨by have := HKB.out; omega, by have := HKB.out; omega⟩) (fun w => rwcmp_any wd K0 w (HFIT.out wd (by have := HY4.out; have := Ewd.out; omega)) (HFIT.out K0 (by have := HKB.out; omega))) _ _ _ _ _ _ _ _ _ _ _ _ _ _ _ _ _ _ _ _ _ _ _ _ _ _ _ _ _ _ _ _ _ _ _ _ _ _ _ _ _ _ _ _ _ _ _ _ _ _ _ _ _ _ _ _ _ _ _ _ _ _ _ _ _ _ _ _ _ _ _ _ _ _ _ _ _ _ _ _ _ _ _ _ _ _ _ _ _ _ _ _ _ _ _ _ _ _ _ _ _ _ _ _ _ _ _ _ _ _ _ _ _ _ _ _ _ _ _ _ _ _ _ _ _ _ _ _ _ _ _ _ _ _ _ _ _ _ _ _ _ _ _ _ _ _ _ _ _ _ _ _ _ _ _ _ _ _ _ _ _ _ _ _ _ _ _ _ _ _ _ _ _ _ _ _ _ _ _ _ _ _ _ _ _ _ _ _ _ _ _ _ _ _ _ _ _ _ _ _ _ _ _ _ _ _ _ _ _ _ _ _ _ _ _ _ _ _ _ _ _ _ _ _ _ _ _ _ _ _ _ _ _ _ _ _ _ _ _ _ _ _ _ _ _ _ _ _ _ _ _ _ _ _ _ _ _ _ _ _ _ _ _ _ _ _ _ _ _ _ _ _ _ _ _ _ _ _ (fun _ _ _ _ _ h => h) ?_
  intro u0 u1 u2 u3 u4 u5 u6 u7 u8 u9 u10 u11  w26  g
  refine NoPanic.normal ?_
  have HS := Lib.hid (HS.out.later g)
  have HS1 := Lib.hid (HS1.out.later g)
  have HR := Lib.hid (HR.out.later g)
  have b10 := g.keeps b10
  have b11 := g.keeps b11
  have b20 := g.keeps b20
  have b21 := g.keeps b21
  have b30 := g.keeps b30
  have b31 := g.keeps b31
  have b40 := g.keeps b40
  have b41 := g.keeps b41
  have b50 := g.keeps b50
  have b51 := g.keeps b51
  have b60 := g.keeps b60
  have b61 := g.keeps b61
  have b70 := g.keeps b70
  have b71 := g.keeps b71
  have b80 := g.keeps b80
  have b81 := g.keeps b81
  have b90 := g.keeps b90
  have b91 := g.keeps b91
  have c10 := g.keeps c10
  have c11 := g.keeps c11
  have c20 := g.keeps c20
  have c21 := g.keeps c21
  have c30 := g.keeps c30
  have c31 := g.keeps c31
  have c40 := g.keeps c40
  have c41 := g.keeps c41
  have HG := Lib.hid (HG.out.trans g)
  clear g
  have hG2 : ¬ wsgn wd K0 > 0 := wsgn_le (by have := HY4.out; have := Ewd.out; omega)
  generalize wsgn wd K0 = G2 at *
  go_wp2_with fail
  refine (drop_any S l (resL l z) _ _ HS.out HD.out HR.out).mono ?_
  rintro e w27 ⟨a7, n7, c7, row7, d7, E7, rfl, hp, hr, g⟩
  rcases hr with ⟨hnr, -, -, -⟩ | ⟨-, hbad, -, -, -⟩ | ⟨-, -, rfl, hdiv⟩
  · exact absurd (resL_row HD.out z) hnr
  · have := HN.out
    exfalso; omega
  have HDV7 := Lib.hid hdiv
  clear hdiv
  have HS := Lib.hid (HS.out.later g)
  have HS1 := Lib.hid (HS1.out.later g)
  have HR := Lib.hid (HR.out.later g)
  have b10 := g.keeps b10
  have b11 := g.keeps b11
  have b20 := g.keeps b20
  have b21 := g.keeps b21
  have b30 := g.keeps b30
  have b31 := g.keeps b31
  have b40 := g.keeps b40
  have b41 := g.keeps b41
  have b50 := g.keeps b50
  have b51 := g.keeps b51
  have b60 := g.keeps b60
  have b61 := g.keeps b61
  have b70 := g.keeps b70
  have b71 := g.keeps b71
  have b80 := g.keeps b80
  have b81 := g.keeps b81
  have b90 := g.keeps b90
  have b91 := g.keeps b91
  have c10 := g.keeps c10
  have c11 := g.keeps c11
  have c20 := g.keeps c20
  have c21 := g.keeps c21
  have c30 := g.keeps c30
  have c31 := g.keeps c31
  have c40 := g.keeps c40
  have c41 := g.keeps c41
  have HG := Lib.hid (HG.out.trans g)
  clear g
  have HP7 := Lib.hid hp
  clear hp
  go_wp2_with fail
  refine (scale_any S l (resL l z) 1 _ _ HS.out HD.out HD0.out.primeL HR.out ⟨by omega, by omega⟩).mono ?_
  rintro e w28 ⟨a8, n8, c8, row8, E8, rfl, hp, hr, g⟩
  rcases hr with ⟨hnr, -, -⟩ | ⟨-, hbad, -, -⟩ | ⟨-, -, hbad, -, -⟩ | ⟨-, -, -, rfl, d8, hdiv⟩
  · exact absurd (resL_row HD.out z) hnr
  · rw [HQ.out] at hbad
    have := HQB.out
    have h1 : (1 : Int) % q = 1 := Int.emod_eq_of_lt (by omega) (by omega)
    exfalso; omega
  · have := HN.out
    exfalso; omega
  have hrr : row8 = row7 := hdiv.unique HDV7.out
  subst hrr
  clear hdiv
  have HS := Lib.hid (HS.out.later g)
  have HS1 := Lib.hid (HS1.out.later g)
  have HR := Lib.hid (HR.out.later g)
  have b10 := g.keeps b10
  have b11 := g.keeps b11
  have b20 := g.keeps b20
  have b21 := g.keeps b21
  have b30 := g.keeps b30
  have b31 := g.keeps b31
  have b40 := g.keeps b40
  have b41 := g.keeps b41
  have b50 := g.keeps b50
  have b51 := g.keeps b51
  have b60 := g.keeps b60
  have b61 := g.keeps b61
  have b70 := g.keeps b70
  have b71 := g.keeps b71
  have b80 := g.keeps b80
  have b81 := g.keeps b81
  have b90 := g.keeps b90
  have b91 := g.keeps b91
  have c10 := g.keeps c10
  have c11 := g.keeps c11
  have c20 := g.keeps c20
  have c21 := g.keeps c21
  have c30 := g.keeps c30
  have c31 := g.keeps c31
  have c40 := g.keeps c40
  have c41 := g.keeps c41
  have HP7 := Lib.hid (HP7.out.later g)
  have HG := Lib.hid (HG.out.trans g)
  clear g
  have HP8 := Lib.hid hp
  clear hp
  have HLN := Lib.hid (show row8.length ≤ 1000000 by
    obtain ⟨b, -, -, h7⟩ := HDV7.out
    rw [h7, rowL_len]; have := HD.out.2.2.2.2; omega)
  go_wp2_with fail
  refine (same_any row8 row8 _ _ _ HP7.out HP8.out HLN.out HLN.out).mono ?_
  rintro e w29 ⟨rfl, g⟩
  rw [decide_eq_true (rfl : row8 = row8)]
  have HS := Lib.hid (HS.out.later g)
  have HS1 := Lib.hid (HS1.out.later g)
  have HR := Lib.hid (HR.out.later g)
  have b10 := g.keeps b10
  have b11 := g.keeps b11
  have b20 := g.keeps b20
  have b21 := g.keeps b21
  have b30 := g.keeps b30
  have b31 := g.keeps b31
  have b40 := g.keeps b40
  have b41 := g.keeps b41
  have b50 := g.keeps b50
  have b51 := g.keeps b51
  have b60 := g.keeps b60
  have b61 := g.keeps b61
  have b70 := g.keeps b70
  have b71 := g.keeps b71
  have b80 := g.keeps b80
  have b81 := g.keeps b81
  have b90 := g.keeps b90
  have b91 := g.keeps b91
  have c10 := g.keeps c10
  have c11 := g.keeps c11
  have c20 := g.keeps c20
  have c21 := g.keeps c21
  have c30 := g.keeps c30
  have c31 := g.keeps c31
  have c40 := g.keeps c40
  have c41 := g.keeps c41
  have HP7 := Lib.hid (HP7.out.later g)
  have HP8 := Lib.hid (HP8.out.later g)
  have HG := Lib.hid (HG.out.trans g)
  clear g
  go_wp2_with fail
  refine (shown_any _).mono ?_
  rintro e wz ⟨rfl, g⟩
  have HG := Lib.hid (HG.out.trans g)
  clear g
  go_wp2_with fail
  go_ret
  exact ⟨rfl, HG.out⟩
end Go.Proofs.Ytfpdemmdkiohhaa.Mo
