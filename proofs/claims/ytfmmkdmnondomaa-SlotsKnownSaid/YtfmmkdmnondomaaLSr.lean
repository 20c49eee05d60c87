import Derived.Test.YtfmmkdmnondomaaLSD
/- The law SlotsKnown. -/
namespace Go.Proofs.Ytfmmkdmnondomaa
open Go.RowKit
set_option linter.unusedVariables false

theorem four_has (ty : TypeId) (W : World) (x y z t : Int) (g : Nat) (hg : g = W.heap.size) (hx : Lo.I64 [x, y, z, t]) : Lo.HasQ (W.alloc (.cells #[.int .i64 x, .int .i64 y, .int .i64 z, .int .i64 t] ty)) (.slice (some ⟨g, 0, none⟩) 4 4) [x, y, z, t] := by
  subst hg
  refine ⟨hx, _, 4, rfl, Nat.le_refl _, by omega, fun i hi => ⟨_, 0, rfl, ?_⟩⟩
  have : i = 0 ∨ i = 1 ∨ i = 2 ∨ i = 3 := by simp at hi; omega
  rcases this with rfl | rfl | rfl | rfl <;> simp [go_sem]
/-- No slots are returned. -/
def NewNo (w : World) (e : Ending) (w' : World) : Prop := Gr w w' ∧ e = .returned (.tuple #[.pointer none, .int .i64 2])
theorem newNo_any (n : Int) (p : Nat) (r : Int) (w : World) (hp : p ≤ 4294967295) (hr : -9223372036854775808 ≤ r ∧ r ≤ 9223372036854775807) (h : ¬ Fits n p r) :
    Calls Try.prog 26 #[.int .i64 n, .int .u32 p, .int .i64 r] w (NewNo w) := by
  refine (snew_any n p r w hp hr).mono ?_
  rintro e w' ⟨hg, ⟨m, k, q, x, s, T, rfl, rfl, h3, _⟩ | ⟨_, rfl⟩⟩
  · exact absurd h3.fits h
  · exact ⟨hg, rfl⟩
theorem mov3 {l : List Int} (h : MovR 4 3 l) : l = [1, 0, 3, 2] := h.unique (.inl rfl) (.inl ⟨by decide, by decide +kernel, by decide +kernel⟩)
theorem mov7 {l : List Int} (h : MovR 4 7 l) : l = [2, 3, 0, 1] := h.unique (.inl rfl) (.inl ⟨by decide, by decide +kernel, by decide +kernel⟩)
theorem enc1111 {s : Nat} (hN : SN 4 17 1 17 2 s) {l : List Int} (h : EncR 4 17 1 2 1 [1, 1, 1, 1] l) : l = [1, 0, 0, 0] := h.unique hN (.inl ⟨by decide, by decide +kernel⟩)
set_option maxRecDepth 100000 in
set_option maxHeartbeats 4000000 in
theorem known8_all (w : World) : Calls Try.prog 11 #[] w (Truth w) := by
  have HU1 := Lib.hid (i64_dec (l := [1, 1, 1, 1]) (by decide))
  have HU2 := Lib.hid (i64_dec (l := [1, 0, 0, 0]) (by decide))
  have HU3 := Lib.hid (i64_dec (l := [1, 0, 3, 2]) (by decide))
  have HU4 := Lib.hid (i64_dec (l := [2, 3, 0, 1]) (by decide))
  have HK1 := Lib.hid (show chkE 4 17 1 1 [1, 1, 1, 1] = 0 by decide)
  have HP1 := Lib.hid (show Os.pk 4 (trn 4 0) true = 7 by decide)
  have HP2 := Lib.hid (show Os.pk 4 (trn 4 (-1)) true = 5 by decide)
  have HM1 := Lib.hid (show kE 4 3 = 0 by decide)
  have HM2 := Lib.hid (show kE 4 7 = 0 by decide)
  have HM3 := Lib.hid (show kE 4 2 = 2 by decide)
  have HN1 := Lib.hid (show ¬ Fits 4 13 1 from fun h => absurd h.2.2 (by decide))
  have HN2 := Lib.hid (show ¬ Fits 2 5 1 from fun h => absurd h.1 (by decide))
  have HN3 := Lib.hid (show ¬ Fits 4 17 8 from fun h => absurd h.2.1.2.2 (by decide))
  go_enter Try.func11, Try.ntmps11
  go_wp2_with fail
  refine (new17_any _).mono ?_
  rintro e w1 ⟨hg, s, T, hN, rfl, hT⟩
  have HG := Lib.hid hg
  have HN := Lib.hid hN
  have HT := Lib.hid hT
  clear hg hN hT
  go_wp2_with fail
  refine (newNo_any 4 13 1 _ (by decide) (by decide) HN1.out).mono ?_
  rintro e w2 ⟨hg, rfl⟩
  have HG := Lib.hid (HG.out.trans hg)
  have HT := Lib.hid (HT.out.later hg)
  clear hg
  go_wp2_with fail
  refine (newNo_any 2 5 1 _ (by decide) (by decide) HN2.out).mono ?_
  rintro e w3 ⟨hg, rfl⟩
  have HG := Lib.hid (HG.out.trans hg)
  have HT := Lib.hid (HT.out.later hg)
  clear hg
  go_wp2_with fail
  refine (newNo_any 4 17 8 _ (by decide) (by decide) HN3.out).mono ?_
  rintro e w4 ⟨hg, rfl⟩
  have HG := Lib.hid (HG.out.trans hg)
  have HT := Lib.hid (HT.out.later hg)
  clear hg
  go_wp2_with fail
  refine (sEncode_any 4 17 1 17 2 s T 1 [1, 1, 1, 1] _ _ HN.out (HT.out.later (Gr.new _ _)) (four_has _ _ 1 1 1 1 _ rfl HU1.out) (by decide)).mono ?_
  rintro e w5 ⟨g5, m5, c5, l5, rfl, hq, hd, hf, hg⟩
  obtain rfl := enc1111 HN.out hd
  rw [HK1.out]
  have HG := Lib.hid (HG.out.trans ((Gr.new _ _).trans hg))
  have HT := Lib.hid (HT.out.later ((Gr.new _ _).trans hg))
  have HQ5 := Lib.hid hq
  clear hq hd hf hg
  go_wp2_with fail
  refine (sPower_any 4 17 1 17 2 s T 0 true _ HN.out HT.out (by decide)).mono ?_
  rintro e w6 ⟨rfl, hg⟩
  rw [HP1.out]
  have HG := Lib.hid (HG.out.trans hg)
  have HT := Lib.hid (HT.out.later hg)
  have HQ5 := Lib.hid (HQ5.out.later hg)
  clear hg
  go_wp2_with fail
  refine (sPower_any 4 17 1 17 2 s T (-1) true _ HN.out HT.out (by decide)).mono ?_
  rintro e w7 ⟨rfl, hg⟩
  rw [HP2.out]
  have HG := Lib.hid (HG.out.trans hg)
  have HT := Lib.hid (HT.out.later hg)
  have HQ5 := Lib.hid (HQ5.out.later hg)
  clear hg
  go_wp2_with fail
  refine (sMoves_any 4 17 1 17 2 s T 3 _ HN.out HT.out (by decide)).mono ?_
  rintro e w8 ⟨g8, m8, c8, l8, rfl, hq, hd, hf, hg⟩
  obtain rfl := mov3 hd
  rw [HM1.out]
  have HG := Lib.hid (HG.out.trans hg)
  have HT := Lib.hid (HT.out.later hg)
  have HQ5 := Lib.hid (HQ5.out.later hg)
  have HQ8 := Lib.hid hq
  clear hq hd hf hg
  go_wp2_with fail
  refine (sMoves_any 4 17 1 17 2 s T 7 _ HN.out HT.out (by decide)).mono ?_
  rintro e w9 ⟨g9, m9, c9, l9, rfl, hq, hd, hf, hg⟩
  obtain rfl := mov7 hd
  rw [HM2.out]
  have HG := Lib.hid (HG.out.trans hg)
  have HT := Lib.hid (HT.out.later hg)
  have HQ5 := Lib.hid (HQ5.out.later hg)
  have HQ8 := Lib.hid (HQ8.out.later hg)
  have HQ9 := Lib.hid hq
  clear hq hd hf hg
  go_wp2_with fail
  refine (sMoves_any 4 17 1 17 2 s T 2 _ HN.out HT.out (by decide)).mono ?_
  rintro e w10 ⟨g10, m10, c10, l10, rfl, hq, hd, hf, hg⟩
  rw [HM3.out]
  have HG := Lib.hid (HG.out.trans hg)
  have HQ5 := Lib.hid (HQ5.out.later hg)
  have HQ8 := Lib.hid (HQ8.out.later hg)
  have HQ9 := Lib.hid (HQ9.out.later hg)
  clear hq hd hf hg
  go_wp2_with fail
  refine (lsame8_true [1, 0, 0, 0] _ _ _ (HQ5.out.later (Gr.new _ _)) (four_has _ _ 1 0 0 0 _ rfl HU2.out) (by decide)).mono ?_
  rintro e w11 ⟨rfl, hg⟩
  have HG := Lib.hid (HG.out.trans ((Gr.new _ _).trans hg))
  have HQ8 := Lib.hid (HQ8.out.later ((Gr.new _ _).trans hg))
  have HQ9 := Lib.hid (HQ9.out.later ((Gr.new _ _).trans hg))
  clear hg
  go_wp2_with fail
  refine (sameInts_true [1, 0, 3, 2] _ _ _ (HQ8.out.later (Gr.new _ _)) (four_has _ _ 1 0 3 2 _ rfl HU3.out) (by decide)).mono ?_
  rintro e w12 ⟨rfl, hg⟩
  have HG := Lib.hid (HG.out.trans ((Gr.new _ _).trans hg))
  have HQ9 := Lib.hid (HQ9.out.later ((Gr.new _ _).trans hg))
  clear hg
  go_wp2_with fail
  refine (sameInts_true [2, 3, 0, 1] _ _ _ (HQ9.out.later (Gr.new _ _)) (four_has _ _ 2 3 0 1 _ rfl HU4.out) (by decide)).mono ?_
  rintro e w13 ⟨rfl, hg⟩
  have HG := Lib.hid (HG.out.trans ((Gr.new _ _).trans hg))
  clear hg
  go_wp2_with fail
  refine (awake8_any _).mono ?_
  rintro e w14 ⟨rfl, hg⟩
  have HG := Lib.hid (HG.out.trans hg)
  clear hg
  go_wp2_with fail
  go_ret
  exact ⟨rfl, HG.out⟩
end Go.Proofs.Ytfmmkdmnondomaa
