import Derived.Test.YtaenjbemkeghgaaIti
import Derived.Test.YtaenjbemkeghgaaPlr
import Derived.Test.YtaenjbemkeghgaaPg
/- The examples of the document, as facts on lists. -/
namespace Go.Proofs.Ytaenjbemkeghgaa
open Go.RowKit
set_option linter.unusedVariables false
theorem pr17 : Ob.Pr (17 : Int).toNat := by
  show Ob.Pr 17
  refine ⟨by omega, fun d h1 h2 h3 => ?_⟩
  obtain ⟨k, hk⟩ := h3
  have hd : d = 2 ∨ d = 3 ∨ d = 4 ∨ d = 5 ∨ d = 6 ∨ d = 7 ∨ d = 8 ∨ d = 9 ∨ d = 10 ∨ d = 11 ∨ d = 12 ∨ d = 13 ∨ d = 14 ∨ d = 15 ∨ d = 16 := by omega
  rcases hd with rfl | rfl | rfl | rfl | rfl | rfl | rfl | rfl | rfl | rfl | rfl | rfl | rfl | rfl | rfl <;> omega
theorem kn_add : checkE 17 [[1, 16], [3, 1]] = 0 ∧ addL 17 [1, 16] [3, 1] = [4] := by decide +kernel
theorem kn_sub : checkE 17 [[0, 1], [0, 1]] = 0 ∧ subL 17 [0, 1] [0, 1] = [] := by decide +kernel
theorem kn_mul : mulE 6 [0, 2] [0, 3] = 0 ∧ mulL 6 [0, 2] [0, 3] = [] := by decide +kernel
theorem kn_gcd : GcdR 17 [16, 0, 1] [1, 15, 1] [16, 1] 0 :=
  .inr (.inr ⟨pr17, by decide +kernel, rfl, ⟨[15, 2], .step (q := [1]) (r := [15, 2]) (by simp) ⟨nf_dec (by decide +kernel) (by decide +kernel), nf_dec (by decide +kernel) (by decide +kernel), by decide, Op.cg_nf (by decide +kernel)⟩ (.step (q := [8, 9]) (r := []) (by simp) ⟨nf_dec (by decide +kernel) (by decide +kernel), nf_dec (by decide +kernel) (by decide +kernel), by decide, Op.cg_nf (by decide +kernel)⟩ (.done _)), .inr ⟨by simp, 9, ⟨1, by decide +kernel⟩, by decide +kernel⟩⟩, nf_dec (by decide +kernel) (by decide +kernel)⟩)
theorem kn_pow : PowR 17 [0, 1] [1, 0, 1] 4 [1] 0 :=
  .inr (.inr ⟨by decide +kernel, ⟨by simp, 1, ⟨0, by decide +kernel⟩⟩, rfl, nf_dec (by decide +kernel) (by decide +kernel), by decide, [16, 0, 1], Op.cg_nf (by decide +kernel)⟩)
theorem kn_pow0 : PowR 17 [] [1, 0, 1] 0 [1] 0 :=
  .inr (.inr ⟨by decide +kernel, ⟨by simp, 1, ⟨0, by decide +kernel⟩⟩, rfl, nf_dec (by decide +kernel) (by decide +kernel), by decide, [], Op.cg_nf (by decide +kernel)⟩)
theorem kn_wrap : Op.Wr 17 2 [1, 2, 3, 4, 5] [3, 15] := ⟨[15, 4, 5], Op.cg_nf (by decide +kernel)⟩
theorem kn_div : DivR 6 [0, 1] [0, 2] [] [] 7 :=
  .inr (.inl ⟨by decide +kernel, fun h => by
    obtain ⟨_, v, k, hk⟩ := h
    have e : Op.ld [0, 2] = (2 : Int) := by decide +kernel
    rw [e] at hk; omega, rfl, rfl, rfl⟩)
theorem kn_au : Op.Au 17 [0, 1, 2] := fun i hi j hj => by
  have h : (i = 1 ∧ j = 0) ∨ (i = 2 ∧ j = 0) ∨ (i = 2 ∧ j = 1) := by simp at hi; omega
  rcases h with ⟨rfl, rfl⟩ | ⟨rfl, rfl⟩ | ⟨rfl, rfl⟩
  · exact ⟨1, ⟨0, by decide +kernel⟩⟩
  · exact ⟨9, ⟨1, by decide +kernel⟩⟩
  · exact ⟨1, ⟨0, by decide +kernel⟩⟩
theorem rs_dec {m : Int} {l : List Int} (h : l.all (fun x => decide (0 ≤ x) && decide (x < m)) = true) : Op.Rs m l := fun x hx => by
  have := List.all_eq_true.1 h x hx
  simpa using this
theorem kn_it : ItR 17 [0, 1, 2] [1, 2, 5] [1, 0, 1] 0 :=
  ⟨(itE_ok (xs := [0, 1, 2]) (ys := [1, 2, 5]) ⟨⟨by omega, by omega⟩, rfl⟩ (by decide) ⟨rs_dec (by decide +kernel), rs_dec (by decide +kernel)⟩ kn_au).symm, fun h => absurd rfl h, fun _ => ⟨nf_dec (by decide +kernel) (by decide +kernel), by decide, fun i hi => by
    have h : i = 0 ∨ i = 1 ∨ i = 2 := by simp at hi; omega
    rcases h with rfl | rfl | rfl
    · exact ⟨0, by decide +kernel⟩
    · exact ⟨0, by decide +kernel⟩
    · exact ⟨0, by decide +kernel⟩⟩⟩
theorem kn_it7 : ItR 17 [0, 0] [1, 1] [] 7 :=
  itR_err (itE_none ⟨⟨by omega, by omega⟩, rfl⟩ (by decide) ⟨rs_dec (by decide +kernel), rs_dec (by decide +kernel)⟩ (fun h => by
    obtain ⟨v, k, hk⟩ := h 1 (by simp) 0 (by omega)
    have e : Op.cf [0, 0] 1 - Op.cf [0, 0] 0 = (0 : Int) := by decide +kernel
    rw [e] at hk; omega)) (by omega)
end Go.Proofs.Ytaenjbemkeghgaa
/- The law PolyKnown. -/
namespace Go.Proofs.Ytaenjbemkeghgaa
open Go.RowKit
set_option linter.unusedVariables false
theorem five_hasP' (W : World) (x y z t s : Int) (g : Nat) (hg : g = W.heap.size) (hx : U32 [x, y, z, t, s]) : HasP (W.alloc (.cells #[.int .u32 x, .int .u32 y, .int .u32 z, .int .u32 t, .int .u32 s] 22)) (.slice (some ⟨g, 0, none⟩) 5 5) [x, y, z, t, s] := by
  subst hg
  refine ⟨hx, _, 5, rfl, Nat.le_refl _, by omega, fun i hi => ⟨_, 0, rfl, ?_⟩⟩
  have : i = 0 ∨ i = 1 ∨ i = 2 ∨ i = 3 ∨ i = 4 := by simp at hi; omega
  rcases this with rfl | rfl | rfl | rfl | rfl <;> simp [go_sem]
theorem wrap_list {m : Int} {n : Nat} {a l k : List Int} (hm : 0 < m) (hn : 1 ≤ n) (h : Op.Wr m n a l) (h1 : l.length = n) (h2 : Op.Rs m l) (k0 : Op.Wr m n a k) (k1 : k.length = n) (k2 : Op.Rs m k) : l = k :=
  Op.ext_cf (h1.trans k1.symm) (Op.rs_eq hm h2 k2 (Op.Wr.unique hn (Nat.le_of_eq h1) (Nat.le_of_eq k1) (Op.Cg.refl m a) h k0))
set_option maxRecDepth 100000 in
set_option maxHeartbeats 4000000 in
theorem polyKnown_all (w : World) : Calls Try.prog 14 #[] w (Truth w) := by
  have HADD := Lib.hid kn_add
  have HSUB := Lib.hid kn_sub
  have HMUL := Lib.hid kn_mul
  have HGR0 := Lib.hid (Gr.refl w)
  go_enter Try.func14, Try.ntmps14
  go_wp2_with fail
  refine (pAdd_any 17 [1, 16] [3, 1] _ _ _ ((two_hasP' w 1 16 _ rfl (by omega) (by omega)).later (Gr.new _ _)) (two_hasP' _ 3 1 _ (by simp) (by omega) (by omega)) (by decide) (by decide)).mono ?_
  rintro e wk1 ⟨xA, nA, cA, rfl, hx, hfr, hg⟩
  rw [HADD.out.1]
  rw [HADD.out.2] at hx
  have HS1 := Lib.hid (((Gr.new w _).alloc _).trans hg)
  have HGR1 := Lib.hid (HGR0.out.trans HS1.out)
  have LA_1 := Lib.hid hx
  clear hg hx hfr
  go_wp2_with fail
  refine (pSub_any 17 [0, 1] [0, 1] _ _ _ ((two_hasP' wk1 0 1 _ rfl (by omega) (by omega)).later (Gr.new _ _)) (two_hasP' _ 0 1 _ (by simp) (by omega) (by omega)) (by decide) (by decide)).mono ?_
  rintro e wk2 ⟨xB, nB, cB, rfl, hx, hfr, hg⟩
  rw [HSUB.out.1]
  rw [HSUB.out.2] at hx
  obtain rfl : nB = 0 := hx.len.1
  have HS2 := Lib.hid (((Gr.new wk1 _).alloc _).trans hg)
  have HGR2 := Lib.hid (HGR1.out.trans HS2.out)
  have LA_2 := Lib.hid (LA_1.out.later HS2.out)
  clear hg  hx hfr
  go_wp2_with fail
  refine (pGcd_any 17 [16, 0, 1] [1, 15, 1] _ _ _ (by omega) ((three_hasP' wk2 16 0 1 _ rfl (u32_dec (by decide))).later (Gr.new _ _)) (three_hasP' _ 1 15 1 _ (by simp) (u32_dec (by decide))) (by decide) (by decide)).mono ?_
  rintro e wk3 ⟨xC, nC, cC, lC, EC, rfl, hx, hr, hfr, hg⟩
  obtain ⟨rfl, rfl⟩ := GcdR.unique (u32_dec (by decide)) (u32_dec (by decide)) hr kn_gcd
  have HS3 := Lib.hid (((Gr.new wk2 _).alloc _).trans hg)
  have HGR3 := Lib.hid (HGR2.out.trans HS3.out)
  have LA_3 := Lib.hid (LA_2.out.later HS3.out)
  have LC_3 := Lib.hid hx
  clear hg hx hr hfr
  go_wp2_with fail
  refine (pPowMod_any 17 [0, 1] [1, 0, 1] 4 _ _ _ ((two_hasP' wk3 0 1 _ rfl (by omega) (by omega)).later (Gr.new _ _)) (three_hasP' _ 1 0 1 _ (by simp) (u32_dec (by decide))) (by decide) (by decide) (by omega)).mono ?_
  rintro e wk4 ⟨xD, nD, cD, lD, ED, rfl, hx, hr, hfr, hg⟩
  obtain ⟨rfl, rfl⟩ := PowR.unique (u32_dec (by decide)) (u32_dec (by decide)) hr kn_pow
  have HS4 := Lib.hid (((Gr.new wk3 _).alloc _).trans hg)
  have HGR4 := Lib.hid (HGR3.out.trans HS4.out)
  have LA_4 := Lib.hid (LA_3.out.later HS4.out)
  have LC_4 := Lib.hid (LC_3.out.later HS4.out)
  have LD_4 := Lib.hid hx
  clear hg hx hr hfr
  go_wp2_with fail
  refine (pPowMod_any 17 [] [1, 0, 1] 0 _ _ _ (HasP.nil _) (three_hasP' wk4 1 0 1 _ rfl (u32_dec (by decide))) (by decide) (by decide) (by omega)).mono ?_
  rintro e wk5 ⟨xX, nX, cX, lX, EX, rfl, hx, hr, hfr, hg⟩
  obtain ⟨rfl, rfl⟩ := PowR.unique (u32_dec (by decide)) (u32_dec (by decide)) hr kn_pow0
  have HS5 := Lib.hid ((Gr.new wk4 _).trans hg)
  have HGR5 := Lib.hid (HGR4.out.trans HS5.out)
  have LA_5 := Lib.hid (LA_4.out.later HS5.out)
  have LC_5 := Lib.hid (LC_4.out.later HS5.out)
  have LD_5 := Lib.hid (LD_4.out.later HS5.out)
  have LX_5 := Lib.hid hx
  clear hg hx hr hfr
  go_wp2_with fail
  refine (gWrap 17 2 [1, 2, 3, 4, 5] _ _ ⟨by omega, by omega⟩ (by omega) ⟨by decide, nf_dec (by decide +kernel) (by decide +kernel)⟩ (five_hasP' wk5 1 2 3 4 5 _ rfl (u32_dec (by decide)))).mono ?_
  rintro e wk6 ⟨xW, nW, cW, lW, rfl, hx, hl, hr, hf, hg⟩
  obtain rfl : lW = [3, 15] := wrap_list (by omega) (by omega) hf hl hr kn_wrap rfl (rs_dec (by decide +kernel))
  have HS6 := Lib.hid ((Gr.new wk5 _).trans hg)
  have HGR6 := Lib.hid (HGR5.out.trans HS6.out)
  have LA_6 := Lib.hid (LA_5.out.later HS6.out)
  have LC_6 := Lib.hid (LC_5.out.later HS6.out)
  have LD_6 := Lib.hid (LD_5.out.later HS6.out)
  have LX_6 := Lib.hid (LX_5.out.later HS6.out)
  have LW_6 := Lib.hid hx
  clear hg hx hl hr hf
  go_wp2_with fail
  refine (pInterp_any 17 [0, 1, 2] [1, 2, 5] _ _ _ ((three_hasP' wk6 0 1 2 _ rfl (u32_dec (by decide))).later (Gr.new _ _)) (three_hasP' _ 1 2 5 _ (by simp) (u32_dec (by decide))) (by decide) (by decide)).mono ?_
  rintro e wk7 ⟨xY, nY, cY, lY, EY, rfl, hx, hr, hfr, hg⟩
  obtain ⟨rfl, rfl⟩ := ItR.unique hr kn_it
  have HS7 := Lib.hid (((Gr.new wk6 _).alloc _).trans hg)
  have HGR7 := Lib.hid (HGR6.out.trans HS7.out)
  have LA_7 := Lib.hid (LA_6.out.later HS7.out)
  have LC_7 := Lib.hid (LC_6.out.later HS7.out)
  have LD_7 := Lib.hid (LD_6.out.later HS7.out)
  have LX_7 := Lib.hid (LX_6.out.later HS7.out)
  have LW_7 := Lib.hid (LW_6.out.later HS7.out)
  have LY_7 := Lib.hid hx
  clear hg hx hr hfr
  go_wp2_with fail
  refine (pInterp_any 17 [0, 0] [1, 1] _ _ _ ((two_hasP' wk7 0 0 _ rfl (by omega) (by omega)).later (Gr.new _ _)) (two_hasP' _ 1 1 _ (by simp) (by omega) (by omega)) (by decide) (by decide)).mono ?_
  rintro e wk8 ⟨xZ, nZ, cZ, lZ, EZ, rfl, hx, hr, hfr, hg⟩
  obtain ⟨rfl, rfl⟩ := ItR.unique hr kn_it7
  have HS8 := Lib.hid (((Gr.new wk7 _).alloc _).trans hg)
  have HGR8 := Lib.hid (HGR7.out.trans HS8.out)
  have LA_8 := Lib.hid (LA_7.out.later HS8.out)
  have LC_8 := Lib.hid (LC_7.out.later HS8.out)
  have LD_8 := Lib.hid (LD_7.out.later HS8.out)
  have LX_8 := Lib.hid (LX_7.out.later HS8.out)
  have LW_8 := Lib.hid (LW_7.out.later HS8.out)
  have LY_8 := Lib.hid (LY_7.out.later HS8.out)
  clear hg  hx hr hfr
  go_wp2_with fail
  refine (pDivMod_any 6 [0, 1] [0, 2] _ _ _ ((two_hasP' wk8 0 1 _ rfl (by omega) (by omega)).later (Gr.new _ _)) (two_hasP' _ 0 2 _ (by simp) (by omega) (by omega)) (by decide) (by decide)).mono ?_
  rintro e wk9 ⟨x1, n1, c1, x2, n2, c2, q, r, EV, rfl, hq, hr, hdr, hf1, hf2, hg⟩
  obtain ⟨rfl, rfl, rfl⟩ := DivR.unique (u32_dec (by decide)) (u32_dec (by decide)) hdr kn_div
  have HS9 := Lib.hid (((Gr.new wk8 _).alloc _).trans hg)
  have HGR9 := Lib.hid (HGR8.out.trans HS9.out)
  have LA_9 := Lib.hid (LA_8.out.later HS9.out)
  have LC_9 := Lib.hid (LC_8.out.later HS9.out)
  have LD_9 := Lib.hid (LD_8.out.later HS9.out)
  have LX_9 := Lib.hid (LX_8.out.later HS9.out)
  have LW_9 := Lib.hid (LW_8.out.later HS9.out)
  have LY_9 := Lib.hid (LY_8.out.later HS9.out)
  clear hg  hq hr hdr hf1 hf2
  go_wp2_with fail
  refine (pMul_any 6 [0, 2] [0, 3] _ _ _ ((two_hasP' wk9 0 2 _ rfl (by omega) (by omega)).later (Gr.new _ _)) (two_hasP' _ 0 3 _ (by simp) (by omega) (by omega)) (by decide) (by decide)).mono ?_
  rintro e wk10 ⟨xM, nM, cM, rfl, hx, hfr, hg⟩
  rw [HMUL.out.1]
  rw [HMUL.out.2] at hx
  obtain rfl : nM = 0 := hx.len.1
  have HS10 := Lib.hid (((Gr.new wk9 _).alloc _).trans hg)
  have HGR10 := Lib.hid (HGR9.out.trans HS10.out)
  have LA_10 := Lib.hid (LA_9.out.later HS10.out)
  have LC_10 := Lib.hid (LC_9.out.later HS10.out)
  have LD_10 := Lib.hid (LD_9.out.later HS10.out)
  have LX_10 := Lib.hid (LX_9.out.later HS10.out)
  have LW_10 := Lib.hid (LW_9.out.later HS10.out)
  have LY_10 := Lib.hid (LY_9.out.later HS10.out)
  clear hg  hx hfr
  go_wp2_with fail
  refine (lsame_any [4] [4] _ _ _ (LA_10.out.later (Gr.new _ _)) (one_hasP' _ 4 _ rfl (by omega)) (by decide) (by decide)).mono ?_
  rintro e wk11 ⟨rfl, hg⟩
  rw [show decide (([4] : List Int) = [4]) = true from by simp]
  have HS11 := Lib.hid ((Gr.new wk10 _).trans hg)
  have HGR11 := Lib.hid (HGR10.out.trans HS11.out)
  have LA_11 := Lib.hid (LA_10.out.later HS11.out)
  have LC_11 := Lib.hid (LC_10.out.later HS11.out)
  have LD_11 := Lib.hid (LD_10.out.later HS11.out)
  have LX_11 := Lib.hid (LX_10.out.later HS11.out)
  have LW_11 := Lib.hid (LW_10.out.later HS11.out)
  have LY_11 := Lib.hid (LY_10.out.later HS11.out)
  clear hg 
  go_wp2_with fail
  refine (lsame_any [16, 1] [16, 1] _ _ _ (LC_11.out.later (Gr.new _ _)) (two_hasP' _ 16 1 _ rfl (by omega) (by omega)) (by decide) (by decide)).mono ?_
  rintro e wk12 ⟨rfl, hg⟩
  rw [show decide (([16, 1] : List Int) = [16, 1]) = true from by simp]
  have HS12 := Lib.hid ((Gr.new wk11 _).trans hg)
  have HGR12 := Lib.hid (HGR11.out.trans HS12.out)
  have LA_12 := Lib.hid (LA_11.out.later HS12.out)
  have LC_12 := Lib.hid (LC_11.out.later HS12.out)
  have LD_12 := Lib.hid (LD_11.out.later HS12.out)
  have LX_12 := Lib.hid (LX_11.out.later HS12.out)
  have LW_12 := Lib.hid (LW_11.out.later HS12.out)
  have LY_12 := Lib.hid (LY_11.out.later HS12.out)
  clear hg 
  go_wp2_with fail
  refine (lsame_any [1] [1] _ _ _ (LD_12.out.later (Gr.new _ _)) (one_hasP' _ 1 _ rfl (by omega)) (by decide) (by decide)).mono ?_
  rintro e wk13 ⟨rfl, hg⟩
  rw [show decide (([1] : List Int) = [1]) = true from by simp]
  have HS13 := Lib.hid ((Gr.new wk12 _).trans hg)
  have HGR13 := Lib.hid (HGR12.out.trans HS13.out)
  have LA_13 := Lib.hid (LA_12.out.later HS13.out)
  have LC_13 := Lib.hid (LC_12.out.later HS13.out)
  have LD_13 := Lib.hid (LD_12.out.later HS13.out)
  have LX_13 := Lib.hid (LX_12.out.later HS13.out)
  have LW_13 := Lib.hid (LW_12.out.later HS13.out)
  have LY_13 := Lib.hid (LY_12.out.later HS13.out)
  clear hg 
  go_wp2_with fail
  refine (lsame_any [1] [1] _ _ _ (LX_13.out.later (Gr.new _ _)) (one_hasP' _ 1 _ rfl (by omega)) (by decide) (by decide)).mono ?_
  rintro e wk14 ⟨rfl, hg⟩
  rw [show decide (([1] : List Int) = [1]) = true from by simp]
  have HS14 := Lib.hid ((Gr.new wk13 _).trans hg)
  have HGR14 := Lib.hid (HGR13.out.trans HS14.out)
  have LA_14 := Lib.hid (LA_13.out.later HS14.out)
  have LC_14 := Lib.hid (LC_13.out.later HS14.out)
  have LD_14 := Lib.hid (LD_13.out.later HS14.out)
  have LX_14 := Lib.hid (LX_13.out.later HS14.out)
  have LW_14 := Lib.hid (LW_13.out.later HS14.out)
  have LY_14 := Lib.hid (LY_13.out.later HS14.out)
  clear hg 
  go_wp2_with fail
  refine (lsame_any [3, 15] [3, 15] _ _ _ (LW_14.out.later (Gr.new _ _)) (two_hasP' _ 3 15 _ rfl (by omega) (by omega)) (by decide) (by decide)).mono ?_
  rintro e wk15 ⟨rfl, hg⟩
  rw [show decide (([3, 15] : List Int) = [3, 15]) = true from by simp]
  have HS15 := Lib.hid ((Gr.new wk14 _).trans hg)
  have HGR15 := Lib.hid (HGR14.out.trans HS15.out)
  have LA_15 := Lib.hid (LA_14.out.later HS15.out)
  have LC_15 := Lib.hid (LC_14.out.later HS15.out)
  have LD_15 := Lib.hid (LD_14.out.later HS15.out)
  have LX_15 := Lib.hid (LX_14.out.later HS15.out)
  have LW_15 := Lib.hid (LW_14.out.later HS15.out)
  have LY_15 := Lib.hid (LY_14.out.later HS15.out)
  clear hg 
  go_wp2_with fail
  refine (lsame_any [1, 0, 1] [1, 0, 1] _ _ _ (LY_15.out.later (Gr.new _ _)) (three_hasP' _ 1 0 1 _ rfl (u32_dec (by decide))) (by decide) (by decide)).mono ?_
  rintro e wk16 ⟨rfl, hg⟩
  rw [show decide (([1, 0, 1] : List Int) = [1, 0, 1]) = true from by simp]
  have HS16 := Lib.hid ((Gr.new wk15 _).trans hg)
  have HGR16 := Lib.hid (HGR15.out.trans HS16.out)
  have LA_16 := Lib.hid (LA_15.out.later HS16.out)
  have LC_16 := Lib.hid (LC_15.out.later HS16.out)
  have LD_16 := Lib.hid (LD_15.out.later HS16.out)
  have LX_16 := Lib.hid (LX_15.out.later HS16.out)
  have LW_16 := Lib.hid (LW_15.out.later HS16.out)
  have LY_16 := Lib.hid (LY_15.out.later HS16.out)
  clear hg 
  go_wp2_with fail
  refine (awake_any _).mono ?_
  rintro e wz ⟨rfl, hg⟩
  have HGZ := Lib.hid (HGR16.out.trans hg)
  clear hg
  go_wp2_with fail
  go_ret
  exact ⟨rfl, HGZ.out⟩
end Go.Proofs.Ytaenjbemkeghgaa
