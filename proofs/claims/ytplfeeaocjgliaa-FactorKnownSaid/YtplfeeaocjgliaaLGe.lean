import Derived.Test.YtplfeeaocjgliaaLFG
/- The law Known. -/
namespace Oq
theorem pow3_64 : ∀ d, d < 16 → 1 ≤ d → 3 ^ d % (2 * 32) ≠ 1 := by decide
theorem pd_sixteen {d : Nat} (h : PD 32 3 d) : d = 16 := by
  rcases Nat.lt_trichotomy d 16 with h3 | h3 | h3
  · exact absurd h.one (pow3_64 d h3 h.d1)
  · exact h3
  · exact absurd (by decide) (h.min 16 h3 (by omega))
end Oq
namespace Go.Proofs.Ytplfeeaocjgliaa
open Go.RowKit
set_option linter.unusedVariables false

theorem Lo.three_hasQ' (W : World) (x y z : Int) (g : Nat) (hg : g = W.heap.size) (hx : Lo.I64 [x, y, z]) : Lo.HasQ (W.alloc (.cells #[.int .i64 x, .int .i64 y, .int .i64 z] 2)) (.slice (some ⟨g, 0, none⟩) 3 3) [x, y, z] := by
  subst hg
  refine ⟨hx, _, 3, rfl, Nat.le_refl _, by omega, fun i hi => ⟨_, 0, rfl, ?_⟩⟩
  have : i = 0 ∨ i = 1 ∨ i = 2 := by simp at hi; omega
  rcases this with rfl | rfl | rfl <;> simp [go_sem]
theorem Lo.i64_dec {l : List Int} (h : l.all (fun x => decide (-9223372036854775808 ≤ x) && decide (x < 9223372036854775808)) = true) : Lo.I64 l := fun x hx => by
  have := List.all_eq_true.1 h x hx
  simpa using this
theorem root17b : RtR 4 17 1 2 0 := by
  have hok : MdOk 17 1 := ⟨plp17, by omega, by decide⟩
  refine .inr (.inr ⟨⟨by decide, hok⟩, by decide, rfl, 2, lroot17, .inr (.inr (.inr ⟨⟨hok, by omega⟩, by decide, simple17, rfl, by decide, ⟨0, by decide⟩, ?_⟩))⟩)
  show (17 : Int) ^ 1 ∣ Op.ev (Op.xn 4) 2
  rw [Oh7.ev_xn]
  exact ⟨1, by decide⟩
theorem root3b : RtR 4 3 1 0 4 := .inr (.inl ⟨⟨by decide, plp3, by omega, by decide⟩, by decide, rfl, rfl⟩)
theorem lift10 : LiftR [-2, 0, 1] 7 2 3 10 0 :=
  .inr (.inr (.inr ⟨⟨⟨plp7, by omega, by decide⟩, by omega⟩, by decide, ⟨⟨1, by decide⟩, by decide⟩, rfl, by decide, ⟨1, by decide⟩, ⟨2, by decide⟩⟩))
theorem lift0 : LiftR [0, 0, 1] 7 2 0 0 4 :=
  .inr (.inr (.inl ⟨⟨⟨plp7, by omega, by decide⟩, by omega⟩, by decide, fun h => h.2 (by decide), rfl, rfl⟩))

set_option maxRecDepth 100000 in
set_option maxHeartbeats 2000000 in
theorem known7_all (w : World) : Calls Try.prog 9 #[] w (Truth w) := by
  go_enter Try.func9, Try.ntmps9
  go_wp2_with fail
  refine (fdegree_any 4 17 _ (by omega) (by omega)).mono ?_
  rintro e w1 ⟨d, E, rfl, hr, hg⟩
  obtain ⟨rfl, rfl⟩ : d = 1 ∧ E = 0 := by
    rcases hr with ⟨_, _, h3, h4⟩ | ⟨h, _⟩
    · exact ⟨Oq.pd_one h4 (by decide), h3⟩
    · exact absurd ⟨by decide, plp17⟩ h
  have G1 := Lib.hid hg
  clear hr hg
  go_wp2_with fail
  refine (fdegree_any 4 3 _ (by omega) (by omega)).mono ?_
  rintro e w2 ⟨d, E, rfl, hr, hg⟩
  obtain ⟨rfl, rfl⟩ : d = 2 ∧ E = 0 := by
    rcases hr with ⟨_, _, h3, h4⟩ | ⟨h, _⟩
    · exact ⟨Oq.pd_two h4, h3⟩
    · exact absurd ⟨by decide, plp3⟩ h
  have G2 := Lib.hid (G1.out.trans hg)
  clear hr hg
  go_wp2_with fail
  refine (fdegree_any 32 3 _ (by omega) (by omega)).mono ?_
  rintro e w3 ⟨d, E, rfl, hr, hg⟩
  obtain ⟨rfl, rfl⟩ : d = 16 ∧ E = 0 := by
    rcases hr with ⟨_, _, h3, h4⟩ | ⟨h, _⟩
    · exact ⟨Oq.pd_sixteen h4, h3⟩
    · exact absurd ⟨by decide, plp3⟩ h
  have G3 := Lib.hid (G2.out.trans hg)
  clear hr hg
  go_wp2_with fail
  refine (ffactors_any 2 5 _ (by omega) (by omega)).mono ?_
  rintro e w4 (⟨hno, _⟩ | ⟨-, -, d, g, c, vs, ts, rfl, hc1, hc2, hll, hpd, hlv, hsrt, hg⟩)
  · exact absurd ⟨by decide, plp5⟩ hno
  obtain rfl := Oq.pd_one hpd (by decide)
  have hcount := hlv.count (by omega) (Oq.dz_whole (n := 2) plp5.2.2 plp5.1 (by decide)).nor
  have hl2 : ts.length = 2 := by
    rw [Oq.xn_len] at hcount; omega
  obtain rfl := Oq.fac25 hlv hl2 hsrt
  obtain ⟨x0, k0, d0, e0, p0⟩ := hll.2.2 0 (by simp)
  obtain ⟨x1, k1, d1, e1, p1⟩ := hll.2.2 1 (by simp)
  have HP := Lib.hid (And.intro p0 p1)
  have E0 := Lib.hid e0
  have E1 := Lib.hid e1
  have G4 := Lib.hid (G3.out.trans hg)
  clear hll hlv hsrt hpd hcount hl2 p0 p1 hg hc1 e0 e1
  go_wp2_with fail
  refine (froot_any 4 17 1 _ (by omega) (by omega) (by omega)).mono ?_
  rintro e w5 ⟨x, E, rfl, hrt, hg⟩
  obtain ⟨rfl, rfl⟩ := hrt.unique root17b
  have H5 := Lib.hid hg
  clear hrt hg
  go_wp2_with fail
  refine (froot_any 4 3 1 _ (by omega) (by omega) (by omega)).mono ?_
  rintro e w6 ⟨x, E, rfl, hrt, hg⟩
  obtain ⟨rfl, rfl⟩ := hrt.unique root3b
  have H6 := Lib.hid (H5.out.trans hg)
  clear hrt hg
  go_wp2_with fail
  refine (lift_any [-2, 0, 1] _ 7 2 3 _ (Lo.three_hasQ' _ (-2) 0 1 _ rfl (Lo.i64_dec (by decide))) (by decide) (by omega) (by omega) (by omega)).mono ?_
  rintro e w7 ⟨x, E, rfl, hrt, hg⟩
  obtain ⟨rfl, rfl⟩ := hrt.unique lift10
  have H7 := Lib.hid (H6.out.trans ((Gr.new _ _).trans hg))
  clear hrt hg
  go_wp2_with fail
  refine (lift_any [0, 0, 1] _ 7 2 0 _ (Lo.three_hasQ' _ 0 0 1 _ rfl (Lo.i64_dec (by decide))) (by decide) (by omega) (by omega) (by omega)).mono ?_
  rintro e w8 ⟨x, E, rfl, hrt, hg⟩
  obtain ⟨rfl, rfl⟩ := hrt.unique lift0
  have H8 := Lib.hid (H7.out.trans ((Gr.new _ _).trans hg))
  clear hrt hg
  have c0 := H8.out.keeps E0.out
  have c1 := H8.out.keeps E1.out
  go_wp2_with fail
  refine (lsame_any [2, 1] [2, 1] _ _ _ ((HP.out.1.later H8.out).later (Gr.new _ _)) (two_hasP' _ 2 1 _ rfl (by omega) (by omega)) (by decide) (by decide)).mono ?_
  rintro e w9 ⟨rfl, hg⟩
  have H9 := Lib.hid (show Gr w8 w9 from (Gr.new _ _).trans hg)
  clear hg
  have c1 := H9.out.keeps c1
  go_wp2_with fail
  refine (lsame_any [3, 1] [3, 1] _ _ _ (((HP.out.2.later H8.out).later H9.out).later (Gr.new _ _)) (two_hasP' _ 3 1 _ rfl (by omega) (by omega)) (by decide) (by decide)).mono ?_
  rintro e w10 ⟨rfl, hg⟩
  have H10 := Lib.hid (show Gr w9 w10 from (Gr.new _ _).trans hg)
  clear hg
  go_wp2_with fail
  refine (awake7_any _).mono ?_
  rintro e w11 ⟨rfl, hg⟩
  have H11 := Lib.hid hg
  clear hg
  go_wp2_with fail
  go_ret
  exact ⟨rfl, (((G4.out.trans H8.out).trans H9.out).trans H10.out).trans H11.out⟩
end Go.Proofs.Ytplfeeaocjgliaa
