/- The law PolyWraps. -/
import Derived.Test.YtaenjbemkeghgaaPrw
import Derived.Test.YtaenjbemkeghgaaPlc
namespace Go.Proofs.Ytaenjbemkeghgaa
open Go.RowKit
set_option linter.unusedVariables false

theorem wrap_len {m n : Int} {a l : List Int} {E : Int} (h : WrapR m a n l E) : l.length ≤ 256 := by
  rcases h with ⟨_, _, rfl⟩ | ⟨_, _, _, rfl⟩ | ⟨_, h2, _, h3, _⟩
  · simp
  · simp
  · omega

set_option maxRecDepth 100000 in
set_option maxHeartbeats 4000000 in
theorem polyWraps_all (m : Int) (a : List Int) (u v t : Value) (N K X : Int) (w : World) (hK : -9223372036854775808 ≤ K ∧ K ≤ 9223372036854775807) (hX : 0 ≤ X ∧ X < 4294967296) (hu : HasP w u a) (hla : a.length ≤ 9223372036854775807) :
    Calls Try.prog 7 #[.agg #[.int .u32 m, u, v, t, .int .u64 N, .int .i64 K, .int .u32 X]] w (Truth w) := by
  obtain ⟨-, xa, ca, rfl, -, -, -⟩ := id hu
  obtain ⟨na, hna⟩ : ∃ na, na = a.length := ⟨_, rfl⟩
  rw [← hna] at hu ⊢
  have HU := Lib.hid hu
  have HNA := Lib.hid hna
  have HKB := Lib.hid hK
  have HXB := Lib.hid hX
  have HLL := Lib.hid (show ∀ l ∈ [a], l.length ≤ 9223372036854775807 from fun l hl => by simp at hl; subst hl; exact hla)
  clear hu hna hla hK hX
  cases hbig : bigB [a] with
  | true =>
    have HBIG := Lib.hid hbig
    clear hbig
    go_enter Try.func7, Try.ntmps7
    go_wp2_with fail
    go_quiet (fail)
    go_wp2_with fail
    refine (large_any _ 1 _ [a] _ (ll_one (HU.out.later ((Gr.new w _).drewN _)) _ (by simp)) (by omega) HLL.out).mono ?_
    rintro e w1 ⟨rfl, rfl⟩
    rw [HBIG.out]
    go_wp2_with fail
    refine (awake_any _).mono ?_
    rintro e w2 ⟨rfl, hg⟩
    have HG := Lib.hid ((((Gr.new w _).drewN _).alloc _).trans hg)
    clear hg
    go_wp2_with fail
    go_ret
    exact ⟨rfl, HG.out⟩
  | false =>
    have HBIG := Lib.hid hbig
    have HLA := Lib.hid (show a.length ≤ 300 from not_big hbig a (by simp))
    clear hbig
    go_enter Try.func7, Try.ntmps7
    go_wp2_with fail
    go_quiet (fail)
    go_wp2_with fail
    refine (large_any _ 1 _ [a] _ (ll_one (HU.out.later ((Gr.new w _).drewN _)) _ (by simp)) (by omega) HLL.out).mono ?_
    rintro e w1 ⟨rfl, rfl⟩
    rw [HBIG.out]
    go_wp2_with fail
    refine (lent_any a _ _ (HU.out.later (((Gr.new w _).drewN _).alloc _)) (by have := HLA.out; omega)).mono ?_
    rintro e w2 ⟨gx, cx, rfl, hcx1, hcx2, hgx, hrx, hg⟩
    rw [← HNA.out] at hcx1 ⊢
    have HRX2 := Lib.hid hrx
    have HG2 := Lib.hid ((((Gr.new w _).drewN _).alloc _).trans hg)
    have HX2 := Lib.hid (lent_hasP HRX2.out HNA.out hcx1 hcx2)
    clear hrx hg hgx
    go_wp2_with fail
    refine (pWrap_any m K a _ _ HKB.out HX2.out (by have := HLA.out; omega)).mono ?_
    rintro e w3 ⟨xl, nl, cl, l, E, rfl, hl, hwr, hfr, hg⟩
    have HSl := Lib.hid hl
    have HWR := Lib.hid hwr
    have HG3 := Lib.hid (HG2.out.trans hg)
    have HX3 := Lib.hid (HX2.out.later hg)
    have HRX3 := Lib.hid (HRX2.out.later hg)
    clear hl hwr hfr hg
    go_wp2_with fail
    refine (pEval_any m X a _ _ HXB.out HX3.out (by have := HLA.out; omega)).mono ?_
    rintro e w4 ⟨rfl, hg⟩
    have HG4 := Lib.hid (HG3.out.trans hg)
    have HSl4 := Lib.hid (HSl.out.later hg)
    have HRX4 := Lib.hid (HRX3.out.later hg)
    clear hg
    go_wp2_with fail
    refine (kept_any gx na cx a _ _ HNA.out hcx1 hcx2 HRX4.out (HU.out.later HG4.out) (by have := HLA.out; omega)).mono ?_
    rintro e w5 ⟨rfl, hg⟩
    have HG5 := Lib.hid (HG4.out.trans hg)
    have HSl5 := Lib.hid (HSl4.out.later hg)
    clear hg
    go_wp2_with fail
    refine (rWrap_any m K a _ _ HKB.out (HU.out.later HG5.out) (by have := HLA.out; omega)).mono ?_
    rintro e w6 ⟨xk, nk, ck, k, E2, rfl, hk, hwr, hfr, hg⟩
    obtain ⟨rfl, rfl⟩ := WrapR.unique HU.out.1 HWR.out hwr
    have HSk := Lib.hid hk
    have HG6 := Lib.hid (HG5.out.trans hg)
    have HSl6 := Lib.hid (HSl5.out.later hg)
    have HLl := Lib.hid (show l.length ≤ 1000000 from by have := wrap_len HWR.out; omega)
    clear hk hwr hfr hg
    go_wp2_with fail
    refine (rEval_any m X a _ _ HXB.out (HU.out.later HG6.out) (by have := HLA.out; omega)).mono ?_
    rintro e w7 ⟨rfl, hg⟩
    have HG7 := Lib.hid (HG6.out.trans hg)
    have HSl7 := Lib.hid (HSl6.out.later hg)
    have HSk7 := Lib.hid (HSk.out.later hg)
    clear hg
    go_wp2_with fail
    refine (lsame_any l l _ _ _ HSl7.out HSk7.out HLl.out HLl.out).mono ?_
    rintro e wt1 ⟨rfl, hg⟩
    rw [show decide (l = l) = true from by simp]
    have HTt1 := Lib.hid hg
    have HGt1 := Lib.hid (HG7.out.trans hg)
    clear hg
    go_wp2_with fail
    refine (awake_any _).mono ?_
    rintro e wz ⟨rfl, hg⟩
    have HGZ := Lib.hid (HGt1.out.trans hg)
    clear hg
    go_wp2_with fail
    go_ret
    exact ⟨rfl, HGZ.out⟩
end Go.Proofs.Ytaenjbemkeghgaa
