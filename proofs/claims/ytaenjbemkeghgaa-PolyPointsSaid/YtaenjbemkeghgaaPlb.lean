/- The law PolyAdds. -/
import Derived.Test.YtaenjbemkeghgaaPla
namespace Go.Proofs.Ytaenjbemkeghgaa
open Go.RowKit
set_option linter.unusedVariables false

theorem lent_hasP {W : World} {g n c : Nat} {l : List Int} (h : Row W g (l ++ [4294967295])) (hn : n = l.length) (hc : n + 1 ≤ c) (hc2 : c ≤ 9223372036854775807) : HasP W (.slice (some ⟨g, 0, none⟩) n c) l := by
  have h1 := h.hasP (cap := c) (by rw [List.length_append]; simp; omega) hc2
  have h2 := h1.take (k := n) (by rw [List.length_append]; simp; omega)
  rw [hn, List.take_left] at h2
  rw [hn]; exact h2
theorem fresh_ne {x : Option Addr} {n c B g : Nat} (h : ∀ p, x = some p → B ≤ p.block) (hg : g < B) : (Value.slice x n c).ownBlock ≠ some g := by
  cases x with
  | none => simp [Value.ownBlock]
  | some p => intro e; have := h p rfl; have h2 : p.block = g := Option.some.inj e; omega
theorem not_big {ls : List (List Int)} (h : bigB ls = false) (a : List Int) (ha : a ∈ ls) : a.length ≤ 300 := by
  obtain ⟨i, hi, rfl⟩ := List.mem_iff_getElem.1 ha
  apply Classical.byContradiction
  intro hn
  rw [bigB_yes hi (by omega)] at h
  cases h
theorem addL_len (m : Int) (a b : List Int) : (addL m a b).length ≤ max a.length b.length := by
  unfold addL; split
  · exact Nat.le_trans (Op.nf_len m _) (by rw [Op.add_len]; omega)
  · simp
theorem subL_len (m : Int) (a b : List Int) : (subL m a b).length ≤ max a.length b.length := by
  unfold subL; split
  · exact Nat.le_trans (Op.nf_len m _) (by rw [Op.add_len, Op.sc_len]; omega)
  · simp
theorem mulL_len (m : Int) (a b : List Int) : (mulL m a b).length ≤ a.length + b.length := by
  unfold mulL; split
  · exact Nat.le_trans (Op.nf_len m _) (Op.mul_len a b)
  · simp

set_option maxRecDepth 100000 in
set_option maxHeartbeats 4000000 in
theorem polyAdds_all (m : Int) (a b : List Int) (u v : Value) (w : World) (hu : HasP w u a) (hv : HasP w v b) (hla : a.length ≤ 9223372036854775807) (hlb : b.length ≤ 9223372036854775807) :
    Calls Try.prog 3 #[.int .u32 m, u, v] w (Truth w) := by
  obtain ⟨-, xa, ca, rfl, -, -, -⟩ := id hu
  obtain ⟨-, xb, cb, rfl, -, -, -⟩ := id hv
  obtain ⟨na, hna⟩ : ∃ na, na = a.length := ⟨_, rfl⟩
  obtain ⟨nb, hnb⟩ : ∃ nb, nb = b.length := ⟨_, rfl⟩
  rw [← hna] at hu ⊢
  rw [← hnb] at hv ⊢
  have HU := Lib.hid hu
  have HV := Lib.hid hv
  have HNA := Lib.hid hna
  have HNB := Lib.hid hnb
  have HLL := Lib.hid (show ∀ l ∈ [a, b], l.length ≤ 9223372036854775807 from fun l hl => by simp at hl; rcases hl with rfl | rfl <;> assumption)
  clear hu hv hna hnb hla hlb
  cases hbig : bigB [a, b] with
  | true =>
    have HBIG := Lib.hid hbig
    clear hbig
    go_enter Try.func3, Try.ntmps3
    go_wp2_with fail
    refine (large_any w.heap.size 2 _ [a, b] _ (ll_two HU.out HV.out _ rfl) (by omega) HLL.out).mono ?_
    rintro e w1 ⟨rfl, rfl⟩
    rw [HBIG.out]
    go_wp2_with fail
    refine (awake_any _).mono ?_
    rintro e w2 ⟨rfl, hg⟩
    have HG := Lib.hid ((Gr.new w _).trans hg)
    clear hg
    go_wp2_with fail
    go_ret
    exact ⟨rfl, HG.out⟩
  | false =>
    have HBIG := Lib.hid hbig
    have HLA := Lib.hid (show a.length ≤ 300 from not_big hbig a (by simp))
    have HLB := Lib.hid (show b.length ≤ 300 from not_big hbig b (by simp))
    clear hbig
    go_enter Try.func3, Try.ntmps3
    go_wp2_with fail
    refine (large_any w.heap.size 2 _ [a, b] _ (ll_two HU.out HV.out _ rfl) (by omega) HLL.out).mono ?_
    rintro e w1 ⟨rfl, rfl⟩
    rw [HBIG.out]
    go_wp2_with fail
    refine (lent_any a _ _ (HU.out.later (Gr.new w _)) (by have := HLA.out; omega)).mono ?_
    rintro e w2 ⟨gx, cx, rfl, hcx1, hcx2, hgx, hrx, hg⟩
    rw [← HNA.out] at hcx1 ⊢
    have HRX2 := Lib.hid hrx
    have HG2 := Lib.hid ((Gr.new w _).trans hg)
    have hgx0 : w.heap.size ≤ gx := Nat.le_trans ((Gr.new w _)).size hgx
    have hgx1 := hrx.lt
    clear hrx hg hgx
    go_wp2_with fail
    refine (lent_any b _ _ (HV.out.later HG2.out) (by have := HLB.out; omega)).mono ?_
    rintro e w3 ⟨gy, cy, rfl, hcy1, hcy2, hgy, hry, hg⟩
    rw [← HNB.out] at hcy1 ⊢
    have HRX3 := Lib.hid (HRX2.out.later hg)
    have HRY3 := Lib.hid hry
    have HG3 := Lib.hid (HG2.out.trans hg)
    have hgy0 : w.heap.size ≤ gy := Nat.le_trans HG2.out.size hgy
    have hgy1 := hry.lt
    have hgx3 : gx < w3.heap.size := Nat.lt_of_lt_of_le hgx1 hg.size
    have HX3 := Lib.hid (lent_hasP HRX3.out HNA.out hcx1 hcx2)
    have HY3 := Lib.hid (lent_hasP HRY3.out HNB.out hcy1 hcy2)
    have hxy : gy ≠ gx := by omega
    clear hry hg hgy hgx1
    have hgy3 := hgy1
    go_wp2_with fail
    refine (pCheck_any m a _ _ HX3.out (by have := HLA.out; omega)).mono ?_
    rintro e w4 ⟨rfl, hg⟩
    have HG4 := Lib.hid (HG3.out.trans hg)
    have HX4 := Lib.hid (HX3.out.later hg)
    have HY4 := Lib.hid (HY3.out.later hg)
    have HRX4 := Lib.hid (HRX3.out.later hg)
    have HRY4 := Lib.hid (HRY3.out.later hg)
    have hgx4 : gx < w4.heap.size := Nat.lt_of_lt_of_le hgx3 hg.size
    have hgy4 : gy < w4.heap.size := Nat.lt_of_lt_of_le hgy3 hg.size
    clear hg
    go_wp2_with fail
    refine (check5_any m a _ _ (HU.out.later HG4.out) (by have := HLA.out; omega)).mono ?_
    rintro e w1 ⟨rfl, rfl⟩
    go_wp2_with fail
    refine (pAdd_any m a b _ _ _ HX4.out HY4.out (by have := HLA.out; omega) (by have := HLB.out; omega)).mono ?_
    rintro e w5 ⟨xp, np, cp, rfl, hx, hfr, hg⟩
    have HSp := Lib.hid hx
    have HFXp := Lib.hid (show (Value.slice xp np cp).ownBlock ≠ some gx from fresh_ne hfr hgx4)
    have HFYp := Lib.hid (show (Value.slice xp np cp).ownBlock ≠ some gy from fresh_ne hfr hgy4)
    have HDp := Lib.hid hg
    have HG5 := Lib.hid (HG4.out.trans hg)
    have HX5 := Lib.hid (HX4.out.later hg)
    have HY5 := Lib.hid (HY4.out.later hg)
    have HRX5 := Lib.hid (HRX4.out.later hg)
    have HRY5 := Lib.hid (HRY4.out.later hg)
    have hgx5 : gx < w5.heap.size := Nat.lt_of_lt_of_le hgx4 hg.size
    have hgy5 : gy < w5.heap.size := Nat.lt_of_lt_of_le hgy4 hg.size
    clear hx hfr hg
    go_wp2_with fail
    refine (pSub_any m a b _ _ _ HX5.out HY5.out (by have := HLA.out; omega) (by have := HLB.out; omega)).mono ?_
    rintro e w6 ⟨xq, nq, cq, rfl, hx, hfr, hg⟩
    have HSq := Lib.hid hx
    have HFXq := Lib.hid (show (Value.slice xq nq cq).ownBlock ≠ some gx from fresh_ne hfr hgx5)
    have HFYq := Lib.hid (show (Value.slice xq nq cq).ownBlock ≠ some gy from fresh_ne hfr hgy5)
    have HDq := Lib.hid hg
    have HG6 := Lib.hid (HG5.out.trans hg)
    have HX6 := Lib.hid (HX5.out.later hg)
    have HY6 := Lib.hid (HY5.out.later hg)
    have HRX6 := Lib.hid (HRX5.out.later hg)
    have HRY6 := Lib.hid (HRY5.out.later hg)
    have hgx6 : gx < w6.heap.size := Nat.lt_of_lt_of_le hgx5 hg.size
    have hgy6 : gy < w6.heap.size := Nat.lt_of_lt_of_le hgy5 hg.size
    clear hx hfr hg
    go_wp2_with fail
    refine (pMul_any m a b _ _ _ HX6.out HY6.out (by have := HLA.out; omega) (by have := HLB.out; omega)).mono ?_
    rintro e w7 ⟨xr, nr, cr, rfl, hx, hfr, hg⟩
    have HSr := Lib.hid hx
    have HFXr := Lib.hid (show (Value.slice xr nr cr).ownBlock ≠ some gx from fresh_ne hfr hgx6)
    have HFYr := Lib.hid (show (Value.slice xr nr cr).ownBlock ≠ some gy from fresh_ne hfr hgy6)
    have HDr := Lib.hid hg
    have HG7 := Lib.hid (HG6.out.trans hg)
    have HX7 := Lib.hid (HX6.out.later hg)
    have HY7 := Lib.hid (HY6.out.later hg)
    have HRX7 := Lib.hid (HRX6.out.later hg)
    have HRY7 := Lib.hid (HRY6.out.later hg)
    have hgx7 : gx < w7.heap.size := Nat.lt_of_lt_of_le hgx6 hg.size
    have hgy7 : gy < w7.heap.size := Nat.lt_of_lt_of_le hgy6 hg.size
    clear hx hfr hg
    go_wp2_with fail
    refine (kept_any gx na cx a _ _ HNA.out hcx1 hcx2 HRX7.out (HU.out.later HG7.out) (by have := HLA.out; omega)).mono ?_
    rintro e wk1 ⟨rfl, hg⟩
    have HK1 := Lib.hid hg
    clear hg
    go_wp2_with fail
    refine (kept_any gy nb cy b _ _ HNB.out hcy1 hcy2 (HRY7.out.later HK1.out) (HV.out.later (HG7.out.trans HK1.out)) (by have := HLB.out; omega)).mono ?_
    rintro e wk2 ⟨rfl, hg⟩
    have HK2 := Lib.hid (HK1.out.trans hg)
    clear hg
    go_wp2_with fail
    refine (spoil_any gx na cx _ _ (by omega) hcx2 (HRX7.out.later HK2.out) (by rw [List.length_append, ← HNA.out]; omega)).mono ?_
    rintro e ws1 ⟨rfl, px, hux⟩
    have HUX := Lib.hid hux
    have HGS1 := Lib.hid (show Gr w ws1 from hux.gr (HG7.out.trans HK2.out) hgx0)
    have HRYS := Lib.hid (show Row ws1 gy (b ++ [4294967295]) from (HRY7.out.later HK2.out).far hux hxy)
    clear hux
    go_wp2_with fail
    refine (spoil_any gy nb cy _ _ (by omega) hcy2 HRYS.out (by rw [List.length_append, ← HNB.out]; omega)).mono ?_
    rintro e ws2 ⟨rfl, py, huy⟩
    have HUY := Lib.hid huy
    have HGS2 := Lib.hid (show Gr w ws2 from huy.gr HGS1.out hgy0)
    clear huy
    go_wp2_with fail
    have HSp7 := Lib.hid (((HSp.out.later ((HDq.out.trans HDr.out).trans HK2.out)).upd HUX.out (fun _ => HFXp.out)).upd HUY.out (fun _ => HFYp.out))
    have HSq7 := Lib.hid (((HSq.out.later (HDr.out.trans HK2.out)).upd HUX.out (fun _ => HFXq.out)).upd HUY.out (fun _ => HFYq.out))
    have HSr7 := Lib.hid (((HSr.out.later HK2.out).upd HUX.out (fun _ => HFXr.out)).upd HUY.out (fun _ => HFYr.out))
    have HGs := Lib.hid HGS2.out
    refine (rAdd_any m a b _ _ _ (HU.out.later HGs.out) (HV.out.later HGs.out) (by have := HLA.out; omega) (by have := HLB.out; omega)).mono ?_
    rintro e ws3 ⟨xP, nP, cP, rfl, hx, hfr, hg⟩
    have HSP := Lib.hid hx
    have HDP := Lib.hid hg
    have HGs3 := Lib.hid (HGs.out.trans hg)
    clear hx hfr hg
    go_wp2_with fail
    refine (rSub_any m a b _ _ _ (HU.out.later HGs3.out) (HV.out.later HGs3.out) (by have := HLA.out; omega) (by have := HLB.out; omega)).mono ?_
    rintro e ws4 ⟨xQ, nQ, cQ, rfl, hx, hfr, hg⟩
    have HSQ := Lib.hid hx
    have HDQ := Lib.hid hg
    have HGs4 := Lib.hid (HGs3.out.trans hg)
    clear hx hfr hg
    go_wp2_with fail
    refine (rMul_any m a b _ _ _ (HU.out.later HGs4.out) (HV.out.later HGs4.out) (by have := HLA.out; omega) (by have := HLB.out; omega)).mono ?_
    rintro e ws5 ⟨xR, nR, cR, rfl, hx, hfr, hg⟩
    have HSR := Lib.hid hx
    have HDR := Lib.hid hg
    have HGs5 := Lib.hid (HGs4.out.trans hg)
    clear hx hfr hg
    go_wp2_with fail
    have HDPQ := Lib.hid (HDQ.out.trans HDR.out)
    have HDA := Lib.hid ((HDP.out.trans HDQ.out).trans HDR.out)
    have HLp := Lib.hid (show (addL m a b).length ≤ 1000000 from by have := addL_len m a b; have := HLA.out; have := HLB.out; omega)
    have HLq := Lib.hid (show (subL m a b).length ≤ 1000000 from by have := subL_len m a b; have := HLA.out; have := HLB.out; omega)
    have HLr := Lib.hid (show (mulL m a b).length ≤ 1000000 from by have := mulL_len m a b; have := HLA.out; have := HLB.out; omega)
    refine (lsame_any (addL m a b) (addL m a b) _ _ _ (HSp7.out.later HDA.out) (HSP.out.later HDPQ.out) HLp.out HLp.out).mono ?_
    rintro e wt1 ⟨rfl, hg⟩
    rw [show decide ((addL m a b) = (addL m a b)) = true from by simp]
    have HTt1 := Lib.hid hg
    have HGt1 := Lib.hid (HGs5.out.trans hg)
    clear hg
    go_wp2_with fail
    refine (lsame_any (subL m a b) (subL m a b) _ _ _ (HSq7.out.later (HDA.out.trans HTt1.out)) (HSQ.out.later (HDR.out.trans HTt1.out)) HLq.out HLq.out).mono ?_
    rintro e wt2 ⟨rfl, hg⟩
    rw [show decide ((subL m a b) = (subL m a b)) = true from by simp]
    have HTt2 := Lib.hid hg
    have HGt2 := Lib.hid (HGt1.out.trans hg)
    clear hg
    go_wp2_with fail
    refine (lsame_any (mulL m a b) (mulL m a b) _ _ _ (HSr7.out.later ((HDA.out.trans HTt1.out).trans HTt2.out)) (HSR.out.later (HTt1.out.trans HTt2.out)) HLr.out HLr.out).mono ?_
    rintro e wt3 ⟨rfl, hg⟩
    rw [show decide ((mulL m a b) = (mulL m a b)) = true from by simp]
    have HTt3 := Lib.hid hg
    have HGt3 := Lib.hid (HGt2.out.trans hg)
    clear hg
    go_wp2_with fail
    refine (awake_any _).mono ?_
    rintro e wz ⟨rfl, hg⟩
    have HGZ := Lib.hid (HGt3.out.trans hg)
    clear hg
    go_wp2_with fail
    go_ret
    exact ⟨rfl, HGZ.out⟩
end Go.Proofs.Ytaenjbemkeghgaa
