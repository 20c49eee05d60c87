/- The law PolyPoints. -/
import Derived.Test.YtaenjbemkeghgaaIlp
import Derived.Test.YtaenjbemkeghgaaPlb
namespace Go.Proofs.Ytaenjbemkeghgaa
open Go.RowKit
set_option linter.unusedVariables false

theorem point_len {m : Int} {xs ys r : List Int} {E : Int} (h : ItR m xs ys r E) : r.length ≤ xs.length := by
  by_cases h0 : E = 0
  · exact (h.2.2 h0).2.1
  · rw [h.2.1 h0]; simp

set_option maxRecDepth 100000 in
set_option maxHeartbeats 4000000 in
theorem polyPoints_all (m : Int) (a b : List Int) (u v : Value) (w : World) (hm : 0 ≤ m ∧ m ≤ 4294967295) (hu : HasP w u a) (hv : HasP w v b) (hla : a.length ≤ 9223372036854775807) (hlb : b.length ≤ 9223372036854775807) :
    Calls Try.prog 8 #[.int .u32 m, u, v] w (Truth w) := by
  obtain ⟨-, xa, ca, rfl, -, -, -⟩ := id hu
  obtain ⟨-, xb, cb, rfl, -, -, -⟩ := id hv
  obtain ⟨na, hna⟩ : ∃ na, na = a.length := ⟨_, rfl⟩
  obtain ⟨nb, hnb⟩ : ∃ nb, nb = b.length := ⟨_, rfl⟩
  rw [← hna] at hu ⊢
  rw [← hnb] at hv ⊢
  have HU := Lib.hid hu
  have HV := Lib.hid hv
  have HNA := Lib.hid hna
  have HNB := Lib.hid hnb
  have HLL := Lib.hid (show ∀ l ∈ [a, b], l.length ≤ 9223372036854775807 from fun l hl => by simp at hl; rcases hl with rfl | rfl <;> assumption)
  have HM := Lib.hid hm
  have hlb2 : nb ≤ 9223372036854775807 := by omega
  have hla2 : na ≤ 9223372036854775807 := by omega
  clear hu hv hna hnb hla hlb hm
  have HCA : ((30 : Int) < (na : Int) ∧ (na : Int) ≤ 256) ∨ (¬ (30 : Int) < (na : Int)) ∨ ((30 : Int) < (na : Int) ∧ ¬ (na : Int) ≤ 256) := by omega
  rcases HCA with ⟨h40, h256⟩ | HCA
  · go_enter Try.func8, Try.ntmps8
    go_wp2_with fail
    refine (awake_any _).mono ?_
    rintro e w2 ⟨rfl, hg⟩
    have HG := Lib.hid hg
    clear hg
    go_wp2_with fail
    go_ret
    exact ⟨rfl, HG.out⟩
  have HFA := Lib.hid HCA
  clear HCA
  cases hbig : bigB [a, b] with
  | true =>
    have HBIG := Lib.hid hbig
    clear hbig
    rcases HFA.out with h40 | ⟨h40, h256⟩
    all_goals
      go_enter Try.func8, Try.ntmps8
      go_wp2_with fail
      refine (large_any w.heap.size 2 _ [a, b] _ (ll_two HU.out HV.out _ rfl) (by omega) HLL.out).mono ?_
      rintro e w1 ⟨rfl, rfl⟩
      rw [HBIG.out]
      go_wp2_with fail
      refine (awake_any _).mono ?_
      rintro e w2 ⟨rfl, hg⟩
      have HG := Lib.hid ((Gr.new w _).trans hg)
      clear hg
      go_wp2_with fail
      go_ret
      exact ⟨rfl, HG.out⟩
  | false =>
    have HBIG := Lib.hid hbig
    have HLA := Lib.hid (show a.length ≤ 300 from not_big hbig a (by simp))
    have HLB := Lib.hid (show b.length ≤ 300 from not_big hbig b (by simp))
    clear hbig
    rcases HFA.out with h40 | ⟨h40, h256⟩
    all_goals
      go_enter Try.func8, Try.ntmps8
      go_wp2_with fail
      refine (large_any w.heap.size 2 _ [a, b] _ (ll_two HU.out HV.out _ rfl) (by omega) HLL.out).mono ?_
      rintro e w1 ⟨rfl, rfl⟩
      rw [HBIG.out]
      go_wp2_with fail
      refine (lent_any a _ _ (HU.out.later (Gr.new w _)) (by have := HLA.out; omega)).mono ?_
      rintro e w2 ⟨gx, cx, rfl, hcx1, hcx2, hgx, hrx, hg⟩
      rw [← HNA.out] at hcx1 ⊢
      have HRX2 := Lib.hid hrx
      have HG2 := Lib.hid ((Gr.new w _).trans hg)
      have hgx0 : w.heap.size ≤ gx := Nat.le_trans ((Gr.new w _)).size hgx
      have hgx1 := hrx.lt
      clear hrx hg hgx
      go_wp2_with fail
      refine (lent_any b _ _ (HV.out.later HG2.out) (by have := HLB.out; omega)).mono ?_
      rintro e w3 ⟨gy, cy, rfl, hcy1, hcy2, hgy, hry, hg⟩
      rw [← HNB.out] at hcy1 ⊢
      have HRX3 := Lib.hid (HRX2.out.later hg)
      have HRY3 := Lib.hid hry
      have HG3 := Lib.hid (HG2.out.trans hg)
      have hgy0 : w.heap.size ≤ gy := Nat.le_trans HG2.out.size hgy
      have hgy1 := hry.lt
      have hgx3 : gx < w3.heap.size := Nat.lt_of_lt_of_le hgx1 hg.size
      have HX3 := Lib.hid (lent_hasP HRX3.out HNA.out hcx1 hcx2)
      have HY3 := Lib.hid (lent_hasP HRY3.out HNB.out hcy1 hcy2)
      have hxy : gy ≠ gx := by omega
      clear hry hg hgy hgx1
      have hgy3 := hgy1
      go_wp2_with fail
      refine (pInterp_any m a b _ _ _ HX3.out HY3.out (by have := HLA.out; omega) (by have := HLB.out; omega)).mono ?_
      rintro e w4 ⟨xr, nr, cr, r, E, rfl, hr, hdr, hf1, hg⟩
      have HSr := Lib.hid hr
      have HDR := Lib.hid hdr
      have HFXr := Lib.hid (show (Value.slice xr nr cr).ownBlock ≠ some gx from fresh_ne hf1 hgx3)
      have HFYr := Lib.hid (show (Value.slice xr nr cr).ownBlock ≠ some gy from fresh_ne hf1 hgy3)
      have HG4 := Lib.hid (HG3.out.trans hg)
      have HRX4 := Lib.hid (HRX3.out.later hg)
      have HRY4 := Lib.hid (HRY3.out.later hg)
      clear hr hdr hf1 hg
      go_wp2_with fail
      refine (kept_any gx na cx a _ _ HNA.out hcx1 hcx2 HRX4.out (HU.out.later HG4.out) (by have := HLA.out; omega)).mono ?_
      rintro e wk1 ⟨rfl, hg⟩
      have HK1 := Lib.hid hg
      clear hg
      go_wp2_with fail
      refine (kept_any gy nb cy b _ _ HNB.out hcy1 hcy2 (HRY4.out.later HK1.out) (HV.out.later (HG4.out.trans HK1.out)) (by have := HLB.out; omega)).mono ?_
      rintro e wk2 ⟨rfl, hg⟩
      have HK2 := Lib.hid (HK1.out.trans hg)
      clear hg
      go_wp2_with fail
      refine (spoil_any gx na cx _ _ (by omega) hcx2 (HRX4.out.later HK2.out) (by rw [List.length_append, ← HNA.out]; omega)).mono ?_
      rintro e ws1 ⟨rfl, px, hux⟩
      have HUX := Lib.hid hux
      have HGS1 := Lib.hid (show Gr w ws1 from hux.gr (HG4.out.trans HK2.out) hgx0)
      have HRYS := Lib.hid (show Row ws1 gy (b ++ [4294967295]) from (HRY4.out.later HK2.out).far hux hxy)
      clear hux
      go_wp2_with fail
      refine (spoil_any gy nb cy _ _ (by omega) hcy2 HRYS.out (by rw [List.length_append, ← HNB.out]; omega)).mono ?_
      rintro e ws2 ⟨rfl, py, huy⟩
      have HUY := Lib.hid huy
      have HGS2 := Lib.hid (show Gr w ws2 from huy.gr HGS1.out hgy0)
      clear huy
      go_wp2_with fail
      have HSr7 := Lib.hid (((HSr.out.later HK2.out).upd HUX.out (fun _ => HFXr.out)).upd HUY.out (fun _ => HFYr.out))
      have HGs := Lib.hid HGS2.out
      refine (rInterp_any m a b _ _ _ HM.out (HU.out.later HGs.out) (HV.out.later HGs.out) (by have := HLA.out; omega) (by have := HLB.out; omega)).mono ?_
      rintro e w8 ⟨xR, nR, cR, r2, E2, rfl, hr, hdr, hf1, hg⟩
      obtain ⟨rfl, rfl⟩ := ItR.unique HDR.out hdr
      have HSR := Lib.hid hr
      have HD := Lib.hid hg
      have HG8 := Lib.hid (HGs.out.trans hg)
      have HLr := Lib.hid (show r.length ≤ 1000000 from by have := point_len HDR.out; have := HLA.out; omega)
      clear hr hdr hf1 hg
      go_wp2_with fail
      refine (lsame_any r r _ _ _ (HSr7.out.later HD.out) HSR.out HLr.out HLr.out).mono ?_
      rintro e wt1 ⟨rfl, hg⟩
      rw [show decide (r = r) = true from by simp]
      have HTt1 := Lib.hid hg
      have HGt1 := Lib.hid (HG8.out.trans hg)
      clear hg
      go_wp2_with fail
      refine (awake_any _).mono ?_
      rintro e wz ⟨rfl, hg⟩
      have HGZ := Lib.hid (HGt1.out.trans hg)
      clear hg
      go_wp2_with fail
      go_ret
      exact ⟨rfl, HGZ.out⟩
end Go.Proofs.Ytaenjbemkeghgaa
