import Derived.Test.YtlfiakpmnkhcdaaGreatLJs
/- The law RingKnown. (made by mkjt.py) -/
namespace Go.Proofs.YtlfiakpmnkhcdaaGreat.Mo
open Go.RowKit Go.Shelf
set_option linter.unusedVariables false

theorem resE_to {c lv : Int} {sp : Bool} {ls rows : List (List Int)} {w w' : World} {e : Ending} (h : ResE c lv sp ls w e w') (h0 : c = 0) (h1 : ls = rows) : ResE 0 lv sp rows w e w' := by subst h0 h1; exact h
theorem resE_okn {lv : Int} {sp : Bool} {ls : List (List Int)} {w w' : World} {e : Ending} (n : Nat) (hn : ls.length = n) (h : ResE 0 lv sp ls w e w') : ∃ x c, e = .returned (.tuple #[.agg #[.int .i64 lv, .bool sp, .slice x n c], .int .i64 0]) ∧ HasR w' (.slice x n c) ls ∧ Gr w w' := by
  obtain ⟨x, c, rfl, h1, h2⟩ := resE_ok h
  subst hn
  exact ⟨x, c, rfl, h1.hasR, h2⟩
theorem resE_no {c lv : Int} {sp : Bool} {ls : List (List Int)} {w w' : World} {e : Ending} (h : ResE c lv sp ls w e w') (h0 : c = 2) : ∃ x c, e = .returned (.tuple #[.agg #[.int .i64 0, .bool false, .slice x 0 c], .int .i64 2]) ∧ HasR w' (.slice x 0 c) [] ∧ Gr w w' := by
  subst h0
  obtain ⟨lv', sp', ls', u, rfl, h1, h2, h3⟩ := h
  rcases h1 with ⟨h, _⟩ | ⟨_, rfl, rfl, rfl⟩
  · exact absurd h (by decide)
  · obtain ⟨x, c, rfl⟩ := h2.form
    exact ⟨x, c, rfl, h2.hasR, h3⟩
theorem one_hasR (W : World) (g : Nat) (hg : g = W.heap.size) (x y z t : Int) (h1 : U32 [x, y, z, t]) :
    HasR ((W.alloc (.cells #[.int .u32 x, .int .u32 y, .int .u32 z, .int .u32 t] 22)).alloc (.cells #[.slice (some ⟨g, 0, none⟩) 4 4] 23)) (.slice (some ⟨g + 1, 0, none⟩) 1 1) [[x, y, z, t]] := by
  refine ⟨_, _, rfl, Nat.le_refl _, by omega, fun i hi => ?_⟩
  obtain rfl : i = 0 := by simp at hi; omega
  refine ⟨g + 1, 0, some ⟨g, 0, none⟩, 4, rfl, Nat.zero_le _, by subst hg; simp, by subst hg; simp [go_sem, rw_], (four_hasP W x y z t g hg h1).later (Gr.new _ _), fun _ p hp => by cases hp; exact ⟨Nat.zero_le _, by subst hg; simp; omega⟩⟩

theorem kf0 (xC : Option Addr) (uL : Value) (w : World) (hC : HasP w (.slice xC 2 2) [17, 97]) (hL : Lo.HasQ w uL [0, 1, 0, 0]) : Calls Tryz.prog 15 #[.agg #[.int .i64 4, .int .u32 0, .int .i64 0, .slice xC 2 2, .int .u32 41, .int .i64 0, .int .u32 0], .int .i64 1, .bool false, uL] w (ResE 0 1 false [[0, 1, 0, 0]] w) :=
  (rFromInts_any 4 0 0 xC 2 2 41 0 0 1 false [17, 97] uL [0, 1, 0, 0] w (by decide) hC (by decide) hL).mono fun e w' h => resE_to h (by decide +kernel) (by decide +kernel)

theorem kf1 (xC : Option Addr) (uL : Value) (w : World) (hC : HasP w (.slice xC 2 2) [17, 97]) (hL : Lo.HasQ w uL [0, 0, 0, 1]) : Calls Tryz.prog 15 #[.agg #[.int .i64 4, .int .u32 0, .int .i64 0, .slice xC 2 2, .int .u32 41, .int .i64 0, .int .u32 0], .int .i64 1, .bool false, uL] w (ResE 0 1 false [[0, 0, 0, 1]] w) :=
  (rFromInts_any 4 0 0 xC 2 2 41 0 0 1 false [17, 97] uL [0, 0, 0, 1] w (by decide) hC (by decide) hL).mono fun e w' h => resE_to h (by decide +kernel) (by decide +kernel)

theorem kf2 (xC : Option Addr) (uL : Value) (w : World) (hC : HasP w (.slice xC 2 2) [17, 97]) (hL : Lo.HasQ w uL [0, 1, 2, 3]) : Calls Tryz.prog 15 #[.agg #[.int .i64 4, .int .u32 0, .int .i64 0, .slice xC 2 2, .int .u32 41, .int .i64 0, .int .u32 0], .int .i64 1, .bool false, uL] w (ResE 0 1 false [[0, 1, 2, 3]] w) :=
  (rFromInts_any 4 0 0 xC 2 2 41 0 0 1 false [17, 97] uL [0, 1, 2, 3] w (by decide) hC (by decide) hL).mono fun e w' h => resE_to h (by decide +kernel) (by decide +kernel)

theorem kf3 (xC : Option Addr) (uL : Value) (w : World) (hC : HasP w (.slice xC 2 2) [17, 97]) (hL : Lo.HasQ w uL [1, -1, 20, 0]) : Calls Tryz.prog 15 #[.agg #[.int .i64 4, .int .u32 0, .int .i64 0, .slice xC 2 2, .int .u32 41, .int .i64 0, .int .u32 0], .int .i64 2, .bool false, uL] w (ResE 0 2 false [[1, 16, 3, 0], [1, 96, 20, 0]] w) :=
  (rFromInts_any 4 0 0 xC 2 2 41 0 0 2 false [17, 97] uL [1, -1, 20, 0] w (by decide) hC (by decide) hL).mono fun e w' h => resE_to h (by decide +kernel) (by decide +kernel)

theorem kmul (xC : Option Addr) (uA uB : Value) (w : World) (hC : HasP w (.slice xC 2 2) [17, 97]) (hA : HasR w uA [[0, 1, 0, 0]]) (hB : HasR w uB [[0, 0, 0, 1]]) : Calls Tryz.prog 30 #[.agg #[.int .i64 4, .int .u32 0, .int .i64 0, .slice xC 2 2, .int .u32 41, .int .i64 0, .int .u32 0], .agg #[.int .i64 1, .bool false, uA], .agg #[.int .i64 1, .bool false, uB]] w (ResE 0 1 false [[16, 0, 0, 0]] w) :=
  (rMul_any 4 0 0 xC 2 2 41 0 0 1 false 1 false [17, 97] uA uB _ _ w (by decide) hC (by decide) hA hB).mono fun e w' h => resE_to h (by decide +kernel) (by decide +kernel)
theorem kauto (xC : Option Addr) (uA : Value) (w : World) (hC : HasP w (.slice xC 2 2) [17, 97]) (hA : HasR w uA [[0, 1, 2, 3]]) : Calls Tryz.prog 18 #[.agg #[.int .i64 4, .int .u32 0, .int .i64 0, .slice xC 2 2, .int .u32 41, .int .i64 0, .int .u32 0], .agg #[.int .i64 1, .bool false, uA], .int .i64 3] w (ResE 0 1 false [[0, 3, 15, 1]] w) :=
  (rAuto_any 4 0 0 xC 2 2 41 0 0 1 false [17, 97] uA _ 3 w (by unfold isW; decide) (by decide) hC (by decide) hA).mono fun e w' h => resE_to h (by decide +kernel) (by decide +kernel)
theorem kres (xC : Option Addr) (uA : Value) (w : World) (hC : HasP w (.slice xC 2 2) [17, 97]) (hA : HasR w uA [[1, 16, 3, 0], [1, 96, 20, 0]]) : Calls Tryz.prog 19 #[.agg #[.int .i64 4, .int .u32 0, .int .i64 0, .slice xC 2 2, .int .u32 41, .int .i64 0, .int .u32 0], .agg #[.int .i64 2, .bool false, uA], .int .i64 1, .bool false] w (ResE 0 1 false [[1, 16, 3, 0]] w) :=
  (rRestrict_any 4 0 0 xC 2 2 41 0 0 2 false [17, 97] uA _ 1 false w (by decide) hC (by decide) hA).mono fun e w' h => resE_to h (by decide +kernel) (by decide +kernel)
theorem kresn (xC : Option Addr) (uA : Value) (w : World) (hC : HasP w (.slice xC 2 2) [17, 97]) (hA : HasR w uA [[1, 16, 3, 0], [1, 96, 20, 0]]) : Calls Tryz.prog 19 #[.agg #[.int .i64 4, .int .u32 0, .int .i64 0, .slice xC 2 2, .int .u32 41, .int .i64 0, .int .u32 0], .agg #[.int .i64 2, .bool false, uA], .int .i64 1, .bool true] w (fun e w' => ∃ x c, e = .returned (.tuple #[.agg #[.int .i64 0, .bool false, .slice x 0 c], .int .i64 2]) ∧ HasR w' (.slice x 0 c) [] ∧ Gr w w') :=
  (rRestrict_any 4 0 0 xC 2 2 41 0 0 2 false [17, 97] uA _ 1 true w (by decide) hC (by decide) hA).mono fun e w' h => resE_no h (by decide +kernel)
theorem kwides (xC : Option Addr) (uA : Value) (w : World) (hC : HasP w (.slice xC 2 2) [17, 97]) (hA : HasR w uA [[1, 16, 3, 0], [1, 96, 20, 0]]) : Calls Tryz.prog 35 #[.agg #[.int .i64 4, .int .u32 0, .int .i64 0, .slice xC 2 2, .int .u32 41, .int .i64 0, .int .u32 0], .agg #[.int .i64 2, .bool false, uA]] w (fun e w' => ∃ x c, e = .returned (.tuple #[.slice x 4 c, .int .i64 0]) ∧ HasW w' (.slice x 4 c) [1, -1, 20, 0] ∧ Gr w w') := by
  refine (wides_any 4 0 0 xC 2 2 41 0 0 2 false [17, 97] uA _ w (by decide) hC (by decide) hA).mono ?_
  rintro e w' ⟨v, zs, c, rfl, hg, hw, ⟨-, rfl, hz⟩ | ⟨h, -⟩⟩
  · obtain rfl := wdZ17 hz
    obtain ⟨a, c, rfl, -⟩ := id hw
    exact ⟨a, c, rfl, hw, hg⟩
  · exact absurd wdOK17 h

theorem ksz (u v : Value) (w : World) (hu : HasR w u [[16, 0, 0, 0]]) (hv : HasR w v [[16, 0, 0, 0]]) : Calls Tryz.prog 20 #[.agg #[.int .i64 1, .bool false, u], .agg #[.int .i64 1, .bool false, v]] w (Truth w) := by
  refine (lsame_any 1 false 1 false _ _ u v w hu hv ⟨by decide, by decide⟩ ⟨by decide, by decide⟩).mono ?_
  rintro e w' ⟨rfl, hg⟩
  exact ⟨by rw [show decide (SameE 1 false [[16, 0, 0, 0]] 1 false [[16, 0, 0, 0]]) = true from by decide], hg⟩

theorem ksv (u v : Value) (w : World) (hu : HasR w u [[0, 3, 15, 1]]) (hv : HasR w v [[0, 3, 15, 1]]) : Calls Tryz.prog 20 #[.agg #[.int .i64 1, .bool false, u], .agg #[.int .i64 1, .bool false, v]] w (Truth w) := by
  refine (lsame_any 1 false 1 false _ _ u v w hu hv ⟨by decide, by decide⟩ ⟨by decide, by decide⟩).mono ?_
  rintro e w' ⟨rfl, hg⟩
  exact ⟨by rw [show decide (SameE 1 false [[0, 3, 15, 1]] 1 false [[0, 3, 15, 1]]) = true from by decide], hg⟩

theorem kss (u v : Value) (w : World) (hu : HasR w u [[1, 16, 3, 0]]) (hv : HasR w v [[1, 16, 3, 0]]) : Calls Tryz.prog 20 #[.agg #[.int .i64 1, .bool false, u], .agg #[.int .i64 1, .bool false, v]] w (Truth w) := by
  refine (lsame_any 1 false 1 false _ _ u v w hu hv ⟨by decide, by decide⟩ ⟨by decide, by decide⟩).mono ?_
  rintro e w' ⟨rfl, hg⟩
  exact ⟨by rw [show decide (SameE 1 false [[1, 16, 3, 0]] 1 false [[1, 16, 3, 0]]) = true from by decide], hg⟩

set_option maxRecDepth 100000 in
set_option maxHeartbeats 8000000 in
theorem known9_all (w : World) : Calls Tryz.prog 10 #[] w (Truth w) := by
  have HU2 := Lib.hid (u32_dec (l := [17, 97]) (by decide))
  obtain ⟨W3, hW3⟩ : ∃ W3, W3 = (w.alloc (.cells #[.int .u32 17, .int .u32 97] 22)).alloc (.cells #[.int .i64 4, .int .u32 0, .int .i64 0, .slice (some ⟨w.heap.size, 0, none⟩) 2 2, .int .u32 41, .int .i64 0, .int .u32 0] 25) := ⟨_, rfl⟩
  have HG := Lib.hid (show Gr w W3 by rw [hW3]; exact (Gr.new w _).alloc _)
  have HC := Lib.hid (show HasP W3 (.slice (some ⟨w.heap.size, 0, none⟩) 2 2) [17, 97] by rw [hW3]; exact (two_hasP w 17 97 _ rfl HU2.out).later (Gr.new _ _))
  have HP := Lib.hid (show Blk W3 (w.heap.size + 1) 25 #[.int .i64 4, .int .u32 0, .int .i64 0, .slice (some ⟨w.heap.size, 0, none⟩) 2 2, .int .u32 41, .int .i64 0, .int .u32 0] by rw [hW3]; exact Blk.newk _ _ (by simp))
  go_enter Tryz.func10, Tryz.ntmps10
  go_wp2_with fail
  rw [← hW3]
  have HSZ := Lib.hid (show w.heap.size + 1 + 1 = W3.heap.size by rw [hW3]; simp)
  clear hW3
  refine (kf0 _ _ _ (HC.out.later (Gr.new _ _)) (four_hasQ _ (0) (1) (0) (0) _ (by first | rfl | exact HSZ.out | simp) (i64_dec (by decide)))).mono ?_
  intro e w2 hres
  obtain ⟨x2, c2, rfl, hb, hg0⟩ := resE_okn 1 rfl hres
  have hgn := Gr.new w2 (.cells #[.int .i64 1, .bool false, .slice x2 1 c2] 28)
  have hgg := Gr.trans (Gr.trans (Gr.new _ _) hg0) hgn
  have HG := Lib.hid (HG.out.trans hgg)
  have HC := Lib.hid (HC.out.later hgg)
  have HP := Lib.hid (HP.out.gr hgg)
  have HE2 := Lib.hid (Blk.new w2 28 #[.int .i64 1, .bool false, .slice x2 1 c2])
  have HA2 := Lib.hid (hb.later hgn)
  clear hb hg0 hgn hgg hres
  obtain ⟨q0, q1, q2, q3, q4, q5, q6⟩ := HP.out.p7
  go_wp2_with fail
  refine (kf1 _ _ _ (HC.out.later (Gr.new _ _)) (four_hasQ _ (0) (0) (0) (1) _ (by first | rfl | exact HSZ.out | simp) (i64_dec (by decide)))).mono ?_
  intro e w4 hres
  obtain ⟨x4, c4, rfl, hb, hg0⟩ := resE_okn 1 rfl hres
  have hgn := Gr.new w4 (.cells #[.int .i64 1, .bool false, .slice x4 1 c4] 28)
  have hgg := Gr.trans (Gr.trans (Gr.new _ _) hg0) hgn
  have HG := Lib.hid (HG.out.trans hgg)
  have HC := Lib.hid (HC.out.later hgg)
  have HP := Lib.hid (HP.out.gr hgg)
  have HE2 := Lib.hid (HE2.out.gr hgg)
  have HA2 := Lib.hid (HA2.out.later hgg)
  have HE4 := Lib.hid (Blk.new w4 28 #[.int .i64 1, .bool false, .slice x4 1 c4])
  have HA4 := Lib.hid (hb.later hgn)
  clear hb hg0 hgn hgg hres q0 q1 q2 q3 q4 q5 q6
  obtain ⟨q0, q1, q2, q3, q4, q5, q6⟩ := HP.out.p7
  obtain ⟨ka2, kb2, kc2⟩ := HE2.out.p3
  obtain ⟨ka4, kb4, kc4⟩ := HE4.out.p3
  go_wp2_with fail
  refine (kmul _ _ _ _ HC.out HA2.out HA4.out).mono ?_
  intro e w6 hres
  obtain ⟨x6, c6, rfl, hb, hg0⟩ := resE_okn 1 rfl hres
  have hgn := Gr.new w6 (.cells #[.int .i64 1, .bool false, .slice x6 1 c6] 28)
  have hgg := Gr.trans hg0 hgn
  have HG := Lib.hid (HG.out.trans hgg)
  have HC := Lib.hid (HC.out.later hgg)
  have HP := Lib.hid (HP.out.gr hgg)
  have HE2 := Lib.hid (HE2.out.gr hgg)
  have HA2 := Lib.hid (HA2.out.later hgg)
  have HE4 := Lib.hid (HE4.out.gr hgg)
  have HA4 := Lib.hid (HA4.out.later hgg)
  have HE6 := Lib.hid (Blk.new w6 28 #[.int .i64 1, .bool false, .slice x6 1 c6])
  have HA6 := Lib.hid (hb.later hgn)
  clear hb hg0 hgn hgg hres q0 q1 q2 q3 q4 q5 q6 ka2 kb2 kc2 ka4 kb4 kc4
  obtain ⟨q0, q1, q2, q3, q4, q5, q6⟩ := HP.out.p7
  go_wp2_with fail
  refine (kf2 _ _ _ (HC.out.later (Gr.new _ _)) (four_hasQ _ (0) (1) (2) (3) _ (by first | rfl | exact HSZ.out | simp) (i64_dec (by decide)))).mono ?_
  intro e w8 hres
  obtain ⟨x8, c8, rfl, hb, hg0⟩ := resE_okn 1 rfl hres
  have hgn := Gr.new w8 (.cells #[.int .i64 1, .bool false, .slice x8 1 c8] 28)
  have hgg := Gr.trans (Gr.trans (Gr.new _ _) hg0) hgn
  have HG := Lib.hid (HG.out.trans hgg)
  have HC := Lib.hid (HC.out.later hgg)
  have HP := Lib.hid (HP.out.gr hgg)
  have HE6 := Lib.hid (HE6.out.gr hgg)
  have HA6 := Lib.hid (HA6.out.later hgg)
  have HE8 := Lib.hid (Blk.new w8 28 #[.int .i64 1, .bool false, .slice x8 1 c8])
  have HA8 := Lib.hid (hb.later hgn)
  clear hb hg0 hgn hgg hres q0 q1 q2 q3 q4 q5 q6
  obtain ⟨q0, q1, q2, q3, q4, q5, q6⟩ := HP.out.p7
  obtain ⟨ka8, kb8, kc8⟩ := HE8.out.p3
  go_wp2_with fail
  refine (kauto _ _ _ HC.out HA8.out).mono ?_
  intro e w10 hres
  obtain ⟨x10, c10, rfl, hb, hg0⟩ := resE_okn 1 rfl hres
  have hgn := Gr.new w10 (.cells #[.int .i64 1, .bool false, .slice x10 1 c10] 28)
  have hgg := Gr.trans hg0 hgn
  have HG := Lib.hid (HG.out.trans hgg)
  have HC := Lib.hid (HC.out.later hgg)
  have HP := Lib.hid (HP.out.gr hgg)
  have HE6 := Lib.hid (HE6.out.gr hgg)
  have HA6 := Lib.hid (HA6.out.later hgg)
  have HE8 := Lib.hid (HE8.out.gr hgg)
  have HA8 := Lib.hid (HA8.out.later hgg)
  have HE10 := Lib.hid (Blk.new w10 28 #[.int .i64 1, .bool false, .slice x10 1 c10])
  have HA10 := Lib.hid (hb.later hgn)
  clear hb hg0 hgn hgg hres q0 q1 q2 q3 q4 q5 q6 ka8 kb8 kc8
  obtain ⟨q0, q1, q2, q3, q4, q5, q6⟩ := HP.out.p7
  go_wp2_with fail
  refine (kf3 _ _ _ (HC.out.later (Gr.new _ _)) (four_hasQ _ (1) (-1) (20) (0) _ (by first | rfl | exact HSZ.out | simp) (i64_dec (by decide)))).mono ?_
  intro e w12 hres
  obtain ⟨x12, c12, rfl, hb, hg0⟩ := resE_okn 2 rfl hres
  have hgn := Gr.new w12 (.cells #[.int .i64 2, .bool false, .slice x12 2 c12] 28)
  have hgg := Gr.trans (Gr.trans (Gr.new _ _) hg0) hgn
  have HG := Lib.hid (HG.out.trans hgg)
  have HC := Lib.hid (HC.out.later hgg)
  have HP := Lib.hid (HP.out.gr hgg)
  have HE6 := Lib.hid (HE6.out.gr hgg)
  have HA6 := Lib.hid (HA6.out.later hgg)
  have HE10 := Lib.hid (HE10.out.gr hgg)
  have HA10 := Lib.hid (HA10.out.later hgg)
  have HE12 := Lib.hid (Blk.new w12 28 #[.int .i64 2, .bool false, .slice x12 2 c12])
  have HA12 := Lib.hid (hb.later hgn)
  clear hb hg0 hgn hgg hres q0 q1 q2 q3 q4 q5 q6
  obtain ⟨q0, q1, q2, q3, q4, q5, q6⟩ := HP.out.p7
  obtain ⟨ka12, kb12, kc12⟩ := HE12.out.p3
  go_wp2_with fail
  refine (kres _ _ _ HC.out HA12.out).mono ?_
  intro e w14 hres
  obtain ⟨x14, c14, rfl, hb, hg0⟩ := resE_okn 1 rfl hres
  have hgn := Gr.new w14 (.cells #[.int .i64 1, .bool false, .slice x14 1 c14] 28)
  have hgg := Gr.trans hg0 hgn
  have HG := Lib.hid (HG.out.trans hgg)
  have HC := Lib.hid (HC.out.later hgg)
  have HP := Lib.hid (HP.out.gr hgg)
  have HE6 := Lib.hid (HE6.out.gr hgg)
  have HA6 := Lib.hid (HA6.out.later hgg)
  have HE10 := Lib.hid (HE10.out.gr hgg)
  have HA10 := Lib.hid (HA10.out.later hgg)
  have HE12 := Lib.hid (HE12.out.gr hgg)
  have HA12 := Lib.hid (HA12.out.later hgg)
  have HE14 := Lib.hid (Blk.new w14 28 #[.int .i64 1, .bool false, .slice x14 1 c14])
  have HA14 := Lib.hid (hb.later hgn)
  clear hb hg0 hgn hgg hres q0 q1 q2 q3 q4 q5 q6 ka12 kb12 kc12
  obtain ⟨q0, q1, q2, q3, q4, q5, q6⟩ := HP.out.p7
  obtain ⟨ka12, kb12, kc12⟩ := HE12.out.p3
  go_wp2_with fail
  refine (kresn _ _ _ HC.out HA12.out).mono ?_
  rintro e w16 ⟨x16, c16, rfl, hb, hg0⟩
  have hgn := Gr.new w16 (.cells #[.int .i64 0, .bool false, .slice x16 0 c16] 28)
  have hgg := Gr.trans hg0 hgn
  have HG := Lib.hid (HG.out.trans hgg)
  have HC := Lib.hid (HC.out.later hgg)
  have HP := Lib.hid (HP.out.gr hgg)
  have HE6 := Lib.hid (HE6.out.gr hgg)
  have HA6 := Lib.hid (HA6.out.later hgg)
  have HE10 := Lib.hid (HE10.out.gr hgg)
  have HA10 := Lib.hid (HA10.out.later hgg)
  have HE12 := Lib.hid (HE12.out.gr hgg)
  have HA12 := Lib.hid (HA12.out.later hgg)
  have HE14 := Lib.hid (HE14.out.gr hgg)
  have HA14 := Lib.hid (HA14.out.later hgg)
  have HE16 := Lib.hid (Blk.new w16 28 #[.int .i64 0, .bool false, .slice x16 0 c16])
  have HA16 := Lib.hid (hb.later hgn)
  clear hb hg0 hgn hgg q0 q1 q2 q3 q4 q5 q6 ka12 kb12 kc12
  obtain ⟨q0, q1, q2, q3, q4, q5, q6⟩ := HP.out.p7
  obtain ⟨ka6, kb6, kc6⟩ := HE6.out.p3
  go_wp2_with fail
  refine (ksz _ _ _ (HA6.out.later ((Gr.new _ _).alloc _)) (one_hasR _ _ (by first | rfl | simp) 16 0 0 0 (u32_dec (by decide)))).mono ?_
  rintro e w17 ⟨rfl, hg0⟩
  have hgg := Gr.trans ((Gr.new _ _).alloc _) hg0
  have HG := Lib.hid (HG.out.trans hgg)
  have HC := Lib.hid (HC.out.later hgg)
  have HP := Lib.hid (HP.out.gr hgg)
  have HE6 := Lib.hid (HE6.out.gr hgg)
  have HA6 := Lib.hid (HA6.out.later hgg)
  have HE10 := Lib.hid (HE10.out.gr hgg)
  have HA10 := Lib.hid (HA10.out.later hgg)
  have HE12 := Lib.hid (HE12.out.gr hgg)
  have HA12 := Lib.hid (HA12.out.later hgg)
  have HE14 := Lib.hid (HE14.out.gr hgg)
  have HA14 := Lib.hid (HA14.out.later hgg)
  clear hg0 hgg q0 q1 q2 q3 q4 q5 q6 ka6 kb6 kc6
  obtain ⟨q0, q1, q2, q3, q4, q5, q6⟩ := HP.out.p7
  obtain ⟨ka10, kb10, kc10⟩ := HE10.out.p3
  go_wp2_with fail
  refine (ksv _ _ _ (HA10.out.later ((Gr.new _ _).alloc _)) (one_hasR _ _ (by first | rfl | simp) 0 3 15 1 (u32_dec (by decide)))).mono ?_
  rintro e w18 ⟨rfl, hg0⟩
  have hgg := Gr.trans ((Gr.new _ _).alloc _) hg0
  have HG := Lib.hid (HG.out.trans hgg)
  have HC := Lib.hid (HC.out.later hgg)
  have HP := Lib.hid (HP.out.gr hgg)
  have HE6 := Lib.hid (HE6.out.gr hgg)
  have HA6 := Lib.hid (HA6.out.later hgg)
  have HE10 := Lib.hid (HE10.out.gr hgg)
  have HA10 := Lib.hid (HA10.out.later hgg)
  have HE12 := Lib.hid (HE12.out.gr hgg)
  have HA12 := Lib.hid (HA12.out.later hgg)
  have HE14 := Lib.hid (HE14.out.gr hgg)
  have HA14 := Lib.hid (HA14.out.later hgg)
  clear hg0 hgg q0 q1 q2 q3 q4 q5 q6 ka10 kb10 kc10
  obtain ⟨q0, q1, q2, q3, q4, q5, q6⟩ := HP.out.p7
  obtain ⟨ka12, kb12, kc12⟩ := HE12.out.p3
  go_wp2_with fail
  refine (kwides _ _ _ HC.out HA12.out).mono ?_
  rintro e w19 ⟨xw, cw, rfl, hw, hgg⟩
  have HG := Lib.hid (HG.out.trans hgg)
  have HC := Lib.hid (HC.out.later hgg)
  have HP := Lib.hid (HP.out.gr hgg)
  have HE6 := Lib.hid (HE6.out.gr hgg)
  have HA6 := Lib.hid (HA6.out.later hgg)
  have HE10 := Lib.hid (HE10.out.gr hgg)
  have HA10 := Lib.hid (HA10.out.later hgg)
  have HE12 := Lib.hid (HE12.out.gr hgg)
  have HA12 := Lib.hid (HA12.out.later hgg)
  have HE14 := Lib.hid (HE14.out.gr hgg)
  have HA14 := Lib.hid (HA14.out.later hgg)
  have HW := Lib.hid hw
  clear hw hgg q0 q1 q2 q3 q4 q5 q6 ka12 kb12 kc12
  obtain ⟨s1, hs1⟩ : ∃ s, s = bstr (Op.cf [1, -1, 20, 0] 1).natAbs := ⟨_, rfl⟩
  obtain ⟨s2, hs2⟩ : ∃ s, s = bstr (Op.cf [1, -1, 20, 0] 2).natAbs := ⟨_, rfl⟩
  have HL := Lib.hid (show ∃ g, xw = some ⟨g, 0, none⟩ ∧ ∀ W, Gr w19 W → W.cell? ⟨g, 2, none⟩ = some (.bool true) ∧ W.cell? ⟨g, 3, none⟩ = some (.string s1) ∧ W.cell? ⟨g, 4, none⟩ = some (.bool false) ∧ W.cell? ⟨g, 5, none⟩ = some (.string s2) by
    obtain ⟨g, e, a1, a2⟩ := HW.out.at_ (i := 1) (by decide)
    obtain ⟨g', e', b1, b2⟩ := HW.out.at_ (i := 2) (by decide)
    rw [e] at e'
    cases e'
    exact ⟨g, e, fun W hg => ⟨hg.keeps a1, by rw [hs1]; exact hg.keeps a2, hg.keeps b1, by rw [hs2]; exact hg.keeps b2⟩⟩)
  have HOF1 := Lib.hid (show ∀ W, Calls Tryz.prog 44 #[.int .i64 (-1)] W (fun e w' => e = .returned (.agg #[.bool true, .string s1]) ∧ Gr W w') from fun W => (rof_any (-1) W (by decide) (by decide)).mono (by rintro e w' ⟨rfl, hg⟩; exact ⟨by rw [hs1]; rfl, hg⟩))
  have HOF2 := Lib.hid (show ∀ W, Calls Tryz.prog 44 #[.int .i64 20] W (fun e w' => e = .returned (.agg #[.bool false, .string s2]) ∧ Gr W w') from fun W => (rof_any 20 W (by decide) (by decide)).mono (by rintro e w' ⟨rfl, hg⟩; exact ⟨by rw [hs2]; rfl, hg⟩))
  have HU := Lib.hid (u32_dec (l := [1, 16, 3, 0]) (by decide))
  clear hs1 hs2
  obtain ⟨g, rfl, hcs⟩ := HL.out
  have HCS := Lib.hid hcs
  clear hcs HL
  obtain ⟨ka, kb, kc⟩ := HE14.out.p3
  obtain ⟨ka2, kb2, kc2⟩ := (HE14.out.gr (Gr.new w19 (.cells #[.int .u32 1, .int .u32 16, .int .u32 3, .int .u32 0] 22))).p3
  obtain ⟨ka3, kb3, kc3⟩ := (HE14.out.gr ((Gr.new w19 (.cells #[.int .u32 1, .int .u32 16, .int .u32 3, .int .u32 0] 22)).alloc (.cells #[.slice (some ⟨w19.heap.size, 0, none⟩) 4 4] 23))).p3
  obtain ⟨n0, n1, n2, n3⟩ := HCS.out _ (Gr.refl _)
  go_wp2_with fail
  go_region_held3 (fun wz => wz.cell? ⟨w14.heap.size, 0, none⟩ = some (.int .i64 1) ∧ wz.cell? ⟨w14.heap.size, 1, none⟩ = some (.bool false) ∧ wz.cell? ⟨w14.heap.size, 2, none⟩ = some (.slice x14 1 c14) ∧ wz.cell? ⟨g, 2, none⟩ = some (.bool true) ∧ wz.cell? ⟨g, 3, none⟩ = some (.string s1) ∧ wz.cell? ⟨g, 4, none⟩ = some (.bool false) ∧ wz.cell? ⟨g, 5, none⟩ = some (.string s2)) (go_keep)
    ((first
    | (go_at_call 44; with_reducible refine (HOF1.out _).mono ?_; rintro e w6 ⟨rfl, g⟩; have HX := Lib.hid (Gr.trans HX.out g); clear g; obtain ⟨ka, kb, kc⟩ := (HE14.out.gr HX.out).p3; obtain ⟨n0, n1, n2, n3⟩ := HCS.out _ HX.out)
    | (go_at_call 44; with_reducible refine (HOF2.out _).mono ?_; rintro e w6 ⟨rfl, g⟩; have HX := Lib.hid (Gr.trans HX.out g); clear g; obtain ⟨ka, kb, kc⟩ := (HE14.out.gr HX.out).p3; obtain ⟨n0, n1, n2, n3⟩ := HCS.out _ HX.out)
    | (go_at_call 12; refine (awake9_any _).mono ?_; rintro e w6 ⟨rfl, g⟩; have HX := Lib.hid (Gr.trans HX.out g); clear g; obtain ⟨ka, kb, kc⟩ := (HE14.out.gr HX.out).p3; obtain ⟨n0, n1, n2, n3⟩ := HCS.out _ HX.out)
    | (go_at_call 20; refine (kss _ _ _ (HA14.out.later (Below.drew ((Gr.new _ _).alloc _))) ((one_hasR _ _ rfl 1 16 3 0 HU.out).later (Below.drew (Gr.refl _)))).mono ?_; rintro e w5 ⟨rfl, g⟩; have HX := Lib.hid (Gr.trans (Below.drew ((Gr.new w19 _).alloc _)) g); clear g; obtain ⟨ka, kb, kc⟩ := (HE14.out.gr HX.out).p3; obtain ⟨n0, n1, n2, n3⟩ := HCS.out _ HX.out)))
  all_goals go_wp2_with fail
  all_goals go_ret
  all_goals exact ⟨rfl, HG.out.trans HX.out⟩
end Go.Proofs.YtlfiakpmnkhcdaaGreat.Mo
