import Derived.Test.YtfpdemmdkiohhaaSer
import Derived.Test.YtfpdemmdkiohhaaZF
/- The law ResidueBack. -/
namespace Go.Proofs.Ytfpdemmdkiohhaa.Mo
open Go.RowKit
set_option linter.unusedVariables false

set_option maxRecDepth 100000 in
set_option maxHeartbeats 8000000 in
theorem residueBack_all (l l' : List Int) (v v' : Value) (neg : Bool) (s : ByteArray) (w : World) (hv : HasP w v l) (hv' : HasP w v' l') (hlm : l.length ≤ 9223372036854775807) (hlm' : l'.length ≤ 9223372036854775807) (hs : s.size ≤ 9223372036854775807) :
    Calls Try.prog 4 #[v, v', .agg #[.bool neg, .string s]] w (Tru w) := by
  obtain ⟨-, xa, ca, rfl, -, -, -⟩ := id hv
  obtain ⟨-, xb, cb, rfl, -, -, -⟩ := id hv'
  obtain ⟨n, hn⟩ : ∃ n, n = l.length := ⟨_, rfl⟩
  obtain ⟨m, hm⟩ : ∃ m, m = l'.length := ⟨_, rfl⟩
  rw [← hn] at hv hlm ⊢
  rw [← hm] at hv' hlm' ⊢
  have HV := Lib.hid hv
  have HV' := Lib.hid hv'
  have HN := Lib.hid hn
  have HM := Lib.hid hm
  have HG0 := Lib.hid (Gr.new w (.cells #[.bool neg, .string s] 36))
  clear hv hn hv' hm
  have hc : 40 < n ∨ (¬ 40 < n ∧ 40 < m) ∨ (¬ 40 < n ∧ ¬ 40 < m ∧ 300 < s.size) ∨ (¬ 40 < n ∧ ¬ 40 < m ∧ ¬ 300 < s.size) := by omega
  rcases hc with h1 | ⟨h1, h2⟩ | ⟨h1, h2, h3⟩ | ⟨h1, h2, h3⟩
  · have i1 : (n : Int) > 40 := by omega
    go_enter Try.func4, Try.ntmps4
    go_wp2_with fail
    refine (shown_any _).mono ?_
    rintro e w2 ⟨rfl, hg⟩
    have HG := Lib.hid (HG0.out.trans hg)
    clear hg
    go_wp2_with fail
    go_ret
    exact ⟨rfl, HG.out⟩
  · have i1 : ¬ (n : Int) > 40 := by omega
    have i2 : (m : Int) > 40 := by omega
    go_enter Try.func4, Try.ntmps4
    go_wp2_with fail
    refine (shown_any _).mono ?_
    rintro e w2 ⟨rfl, hg⟩
    have HG := Lib.hid (HG0.out.trans hg)
    clear hg
    go_wp2_with fail
    go_ret
    exact ⟨rfl, HG.out⟩
  · have i1 : ¬ (n : Int) > 40 := by omega
    have i2 : ¬ (m : Int) > 40 := by omega
    have i3 : (s.size : Int) > 300 := by omega
    go_enter Try.func4, Try.ntmps4
    go_wp2_with fail
    refine (shown_any _).mono ?_
    rintro e w2 ⟨rfl, hg⟩
    have HG := Lib.hid (HG0.out.trans hg)
    clear hg
    go_wp2_with fail
    go_ret
    exact ⟨rfl, HG.out⟩
  have i1 : ¬ (n : Int) > 40 := by omega
  have i2 : ¬ (m : Int) > 40 := by omega
  have i3 : ¬ (s.size : Int) > 300 := by omega
  go_enter Try.func4, Try.ntmps4
  go_wp2_with fail
  have x0 : (w.alloc (.cells #[.bool neg, .string s] 36)).cell? ⟨w.heap.size, 0, none⟩ = some (.bool neg) := by simp [go_sem]
  have x1 : (w.alloc (.cells #[.bool neg, .string s] 36)).cell? ⟨w.heap.size, 1, none⟩ = some (.string s) := by simp [go_sem]
  generalize w.alloc (.cells #[.bool neg, .string s] 36) = w0 at *
  generalize w.heap.size = X0 at *
  refine (rvalid_any neg s _ hs).mono ?_
  rintro e w1 ⟨b, rfl, hb, g⟩
  have x0 := g.keeps x0
  have x1 := g.keeps x1
  have HG1 := Lib.hid (HG0.out.trans g)
  have HB := Lib.hid hb
  clear g hb
  cases b with
  | false =>
    go_wp2_with fail
    refine (shown_any _).mono ?_
    rintro e w2 ⟨rfl, hg⟩
    have HG := Lib.hid (HG1.out.trans hg)
    clear hg
    go_wp2_with fail
    go_ret
    exact ⟨rfl, HG.out⟩
  | true =>
  have HF := Lib.hid (HB.out.1 (by simp))
  go_wp2_with fail
  refine (new_any l _ _ (HV.out.later HG1.out)).mono ?_
  rintro e w2 ⟨g, hcase⟩
  have x0 := g.keeps x0
  have x1 := g.keeps x1
  have HG2 := Lib.hid (HG1.out.trans g)
  clear g
  rcases hcase with ⟨hd, S, rfl, hsy, -⟩ | ⟨hnd, rfl⟩
  rotate_left
  · go_wp2_with fail
    refine (shown_any _).mono ?_
    rintro e w3 ⟨rfl, hg⟩
    have HG := Lib.hid (HG2.out.trans hg)
    clear hg
    go_wp2_with fail
    go_ret
    exact ⟨rfl, HG.out⟩
  have HD := Lib.hid hd.sys
  have HS := Lib.hid hsy
  clear hd hsy
  obtain ⟨z, hz⟩ : ∃ z, z = zOf neg s := ⟨_, rfl⟩
  have HZ := Lib.hid hz
  clear hz
  go_wp2_with fail
  refine (split_any S l neg s _ HS.out HD.out hs).mono ?_
  rintro e w3 ⟨ar, nr, cr, row, E, rfl, hp, hr, g⟩
  rcases hr with ⟨hnf, -, -⟩ | ⟨-, rfl, hrow⟩
  · exact absurd HF.out hnf
  change row = rowL l.length (fun i => zOf neg s % Op.cf l i) at hrow
  rw [← HZ.out] at hrow
  change row = resL l z at hrow
  subst hrow
  have x0 := g.keeps x0
  have x1 := g.keeps x1
  have HG3 := Lib.hid (HG2.out.trans g)
  have HS3 := Lib.hid (HS.out.later g)
  have HR3 := Lib.hid hp
  clear g hp
  go_wp2_with fail
  refine (join_any S l (resL l z) _ _ HS3.out HD.out HR3.out).mono ?_
  rintro e w4 ⟨X, c, rfl, hj, g⟩
  rcases hj with ⟨hnr, -, -⟩ | ⟨-, rfl, hj⟩
  · exact absurd (resL_row HD.out z) hnr
  have hX : X = wbal z (Or.pr l) := hj.unique HD.out (resL_join HD.out z)
  have HJ := Lib.hid (resL_join HD.out z)
  subst hX
  have x0 := g.keeps x0
  have x1 := g.keeps x1
  have HG4 := Lib.hid (HG3.out.trans g)
  have HS4 := Lib.hid (HS3.out.later g)
  have HR4 := Lib.hid (HR3.out.later g)
  clear g hj
  obtain ⟨y, hy⟩ : ∃ y, y = wbal z (Or.pr l) := ⟨_, rfl⟩
  rw [← hy] at HJ ⊢
  have HY := Lib.hid hy
  clear hy
  unfold wv
  go_wp2_with fail
  have g := Gr.new w4 (.cells #[.bool (decide (y < 0)), .string (bstr y.natAbs)] 36)
  have y0 : (w4.alloc (.cells #[.bool (decide (y < 0)), .string (bstr y.natAbs)] 36)).cell? ⟨w4.heap.size, 0, none⟩ = some (.bool (decide (y < 0))) := by simp [go_sem]
  have y1 : (w4.alloc (.cells #[.bool (decide (y < 0)), .string (bstr y.natAbs)] 36)).cell? ⟨w4.heap.size, 1, none⟩ = some (.string (bstr y.natAbs)) := by simp [go_sem]
  generalize w4.alloc (.cells #[.bool (decide (y < 0)), .string (bstr y.natAbs)] 36) = w5 at *
  generalize w4.heap.size = Y at *
  have x0 := g.keeps x0
  have x1 := g.keeps x1
  have HG5 := Lib.hid (HG4.out.trans g)
  have HS5 := Lib.hid (HS4.out.later g)
  have HR5 := Lib.hid (HR4.out.later g)
  clear g
  have HBAL := Lib.hid (show ∀ w, Calls Try.prog 18 #[.agg #[.bool neg, .string s], wv (Or.pr l)] w (fun e w' => e = .returned (.tuple #[wv y, .int .i64 0]) ∧ Gr w w') from fun w => by
    rw [HY.out, HZ.out]
    exact rwbal_any neg s (Or.pr l) w HF.out (inR_pr HD.out.1 HD.out.2.2.2.2) (pr_le HD.out.1).1 (inR_wbal HD.out _))
  refine wp_region_noPanic ?_
  refine back_region neg s (Or.pr l) y X0 S w5 _ x0 x1 (Gr.refl _) (fun w g => product_any S l w (HS5.out.later g) HD.out) HBAL.out _ _ _ _ _ _ _ _ _ _ _ _ _ _ _ _ _ _ _ _ _ _ _ _ _ _ _ _ _ _ _ _ _ _ _ _ _ _ _ _ _ _ _ _ _ _ _ _ _ _ _ _ _ _ _ _ _ _ _ _ _ _ _ _ _ _ _ _ _ _ _ _ _ _ _ _ _ _ _ _ _ _ _ _ _ _ _ _ _ _ _ _ _ _ _ _ _ _ _ _ _ _ _ _ _ _ _ _ _ _ _ _ _ _ _ _ _ _ _ _ _ _ _ _ _ (fun _ _ _ _ _ h => h) ?_
  intro u1 u2 u3 u4 u5 u6 u7 A w6 b0 b1 g
  refine NoPanic.normal ?_
  have y0 := g.keeps y0
  have y1 := g.keeps y1
  have HG6 := Lib.hid (HG5.out.trans g)
  have HS6 := Lib.hid (HS5.out.later g)
  have HR6 := Lib.hid (HR5.out.later g)
  clear g HBAL
  go_wp2_with fail
  refine (new_any l' _ _ (HV'.out.later HG6.out)).mono ?_
  rintro e w7 ⟨g, hcase⟩
  have HG7 := Lib.hid (HG6.out.trans g)
  have HS7 := Lib.hid (HS6.out.later g)
  have HR7 := Lib.hid (HR6.out.later g)
  clear g y0 y1 b0 b1
  rcases hcase with ⟨hd, T, rfl, hsy, -⟩ | ⟨hnd, rfl⟩
  rotate_left
  · go_wp2_with fail
    refine (shown_any _).mono ?_
    rintro e w3 ⟨rfl, hg⟩
    have HG := Lib.hid (HG7.out.trans hg)
    clear hg
    go_wp2_with fail
    go_ret
    exact ⟨rfl, HG.out⟩
  have HD' := Lib.hid hd.sys
  have HT7 := Lib.hid hsy
  clear hd hsy
  go_wp2_with fail
  refine (convert_any S T l l' (resL l z) _ _ HS7.out HT7.out HD.out HD'.out HR7.out).mono ?_
  rintro e w8 ⟨a8, n8, c8, row, E, rfl, hp, hr, g⟩
  rcases hr with ⟨hnr, -, -⟩ | ⟨-, rfl, X, hj, hrow⟩
  · exact absurd (resL_row HD.out z) hnr
  obtain rfl : X = y := hj.unique HD.out HJ.out
  change row = resL l' X at hrow
  subst hrow
  have HG8 := Lib.hid (HG7.out.trans g)
  have HS8 := Lib.hid (HS7.out.later g)
  have HT8 := Lib.hid (HT7.out.later g)
  have HR8 := Lib.hid (HR7.out.later g)
  have HC8 := Lib.hid hp
  clear g hp hj
  go_wp2_with fail
  refine (product_any T l' _ HT8.out HD'.out).mono ?_
  rintro e w9 ⟨rfl, g⟩
  have HG9 := Lib.hid (HG8.out.trans g)
  have HS9 := Lib.hid (HS8.out.later g)
  have HT9 := Lib.hid (HT8.out.later g)
  have HR9 := Lib.hid (HR8.out.later g)
  have HC9 := Lib.hid (HC8.out.later g)
  clear g
  go_wp2_with fail
  refine (product_any S l _ HS9.out HD.out).mono ?_
  rintro e w10 ⟨rfl, g⟩
  have HG10 := Lib.hid (HG9.out.trans g)
  have HS10 := Lib.hid (HS9.out.later g)
  have HT10 := Lib.hid (HT9.out.later g)
  have HR10 := Lib.hid (HR9.out.later g)
  have HC10 := Lib.hid (HC9.out.later g)
  clear g
  go_wp2_with fail
  refine (rwcmp_any (Or.pr l') (Or.pr l) _ (inR_pr HD'.out.1 HD'.out.2.2.2.2) (inR_pr HD.out.1 HD.out.2.2.2.2)).mono ?_
  rintro e w11 ⟨rfl, g⟩
  have HG11 := Lib.hid (HG10.out.trans g)
  have HS11 := Lib.hid (HS10.out.later g)
  have HT11 := Lib.hid (HT10.out.later g)
  have HR11 := Lib.hid (HR10.out.later g)
  have HC11 := Lib.hid (HC10.out.later g)
  clear g
  have hsg : (wsgn (Or.pr l') (Or.pr l) < 0 ∧ Or.pr l' < Or.pr l) ∨ (¬ wsgn (Or.pr l') (Or.pr l) < 0 ∧ Or.pr l ≤ Or.pr l') := by
    unfold wsgn Go.Proofs.Ytfpdemmdkiohhaa.sgn
    split
    · left; omega
    · split <;> right <;> omega
  generalize wsgn (Or.pr l') (Or.pr l) = G at *
  rcases hsg with ⟨hG, hlt⟩ | ⟨hG, hge⟩
  · go_wp2_with fail
    refine (shown_any _).mono ?_
    rintro e w3 ⟨rfl, hg⟩
    have HG := Lib.hid (HG11.out.trans hg)
    clear hg
    go_wp2_with fail
    go_ret
    exact ⟨rfl, HG.out⟩
  have HGE := Lib.hid hge
  clear hge
  go_wp2_with fail
  refine (convert_any T S l' l (resL l' X) _ _ HT11.out HS11.out HD'.out HD.out HC11.out).mono ?_
  rintro e w12 ⟨a12, n12, c12, row, E, rfl, hp, hr, g⟩
  rcases hr with ⟨hnr, -, -⟩ | ⟨-, rfl, Y', hj, hrow⟩
  · exact absurd (resL_row HD'.out X) hnr
  have hyy : Y' = X := hj.unique HD'.out (resL_in (by have := HJ.out.1; have := HGE.out; omega))
  subst hyy
  change row = resL l Y' at hrow
  rw [resL_of_join HD.out (resL_row HD.out z) HJ.out] at hrow
  subst hrow
  have HG12 := Lib.hid (HG11.out.trans g)
  have HR12 := Lib.hid (HR11.out.later g)
  have HC12 := Lib.hid hp
  have HLN := Lib.hid (show (resL l z).length ≤ 1000000 by rw [resL_len]; have := HD.out.2.2.2.2; omega)
  clear g hp hj
  go_wp2_with fail
  refine (same_any (resL l z) (resL l z) _ _ _ HC12.out HR12.out HLN.out HLN.out).mono ?_
  rintro e w13 ⟨rfl, g⟩
  rw [decide_eq_true (rfl : resL l z = resL l z)]
  have HG13 := Lib.hid (HG12.out.trans g)
  clear g
  go_wp2_with fail
  refine (shown_any _).mono ?_
  rintro e w14 ⟨rfl, g⟩
  have HG14 := Lib.hid (HG13.out.trans g)
  clear g
  go_wp2_with fail
  go_ret
  exact ⟨rfl, HG14.out⟩
end Go.Proofs.Ytfpdemmdkiohhaa.Mo
