import Derived.Test.YtlfiakpmnkhcdaaGreatLSa
import Derived.Test.YtlfiakpmnkhcdaaGreatLDp
namespace Go.Proofs.YtlfiakpmnkhcdaaGreat.Mo
open Go.RowKit
set_option linter.unusedVariables false
def RefSys (b : Nat) (W : World) (R : Nat) (l : List Int) : Prop := b ≤ R ∧ ∃ v, W.cell? ⟨R, 0, none⟩ = some v ∧ HasP W v l ∧ (∀ B, some B = v.ownBlock → b ≤ B) ∧ W.cell? ⟨R, 1, none⟩ = some (.bool (decide (Or.pr l < 0))) ∧ W.cell? ⟨R, 2, none⟩ = some (.string (bstr (Or.pr l).natAbs))
def NewRef (l : List Int) (w : World) (e : Ending) (w' : World) : Prop := Gr w w' ∧ ((Dis l ∧ ∃ R, e = .returned (.tuple #[.pointer (some ⟨R, 0, none⟩), .int .i64 0]) ∧ RefSys w.heap.size w' R l) ∨ (¬ Dis l ∧ e = .returned (.tuple #[.pointer none, .int .i64 2])))
theorem not_take {l : List Int} {k : Nat} {q : Int} (hk : k ≤ l.length) (h : ∀ i, i < k → Op.cf l i ≠ q) : ¬ q ∈ l.take k := by
 intro hm
 obtain ⟨j, hj, e⟩ := List.getElem_of_mem hm
 have hj' : j < k := by rw [List.length_take] at hj; omega
 have h1 := h j hj'
 rw [cf_get (by omega)] at h1
 rw [List.getElem_take] at e
 exact h1 e
theorem in_take {l : List Int} {k j : Nat} {q : Int} (hj : j < k) (hk : k ≤ l.length) (h : Op.cf l j = q) : q ∈ l.take k := by
 have h1 : j < (l.take k).length := by rw [List.length_take]; omega
 have h2 := Op.cf_mem h1
 rwa [Op.cf_take, if_pos hj, h] at h2
set_option maxRecDepth 100000 in
set_option maxHeartbeats 8000000 in
theorem rnew_any (l : List Int) (v : Value) (w : World) (hv : HasP w v l) : Calls Tryz.prog 82 #[v] w (NewRef l w) := by
 obtain ⟨-, xa, ca, rfl, -, hcap, -⟩ := id hv
 obtain ⟨n, hn⟩ : ∃ n, n = l.length := ⟨_, rfl⟩
 have hlen := hv.len
 rw [← hn] at hv hlen ⊢
 have HV := Lib.hid hv
 have HN := Lib.hid hn
 have hnb : n ≤ 9223372036854775807 := by omega
 clear hv hn hlen hcap
 have hc : n < 1 ∨ (¬ n < 1 ∧ 25 < n) ∨ (¬ n < 1 ∧ n ≤ 25) := by omega
 rcases hc with h1 | ⟨h1, h2⟩ | ⟨h1, h2⟩
 ·have i1 : (n : Int) < 1 := by omega
  go_enter Tryz.func82, Tryz.ntmps82
  go_wp2_with fail
  go_ret2
  exact ⟨Gr.refl w, .inr ⟨fun h => by have := h.1; have := HN.out; omega, rfl⟩⟩
 ·have i1 : ¬ (n : Int) < 1 := by omega
  have i2 : (n : Int) > 25 := by omega
  go_enter Tryz.func82, Tryz.ntmps82
  go_wp2_with fail
  go_ret2
  exact ⟨Gr.refl w, .inr ⟨fun h => by have := h.2.1; have := HN.out; omega, rfl⟩⟩
 ·have i1 : ¬ (n : Int) < 1 := by omega
  have i2 : ¬ (n : Int) > 25 := by omega
  go_enter Tryz.func82, Tryz.ntmps82
  go_wp2_with fail
  refine (rwof_any 1 _ ⟨by omega, by omega⟩).mono ?_
  rintro e w0 ⟨rfl, hg⟩
  have HG0 := Lib.hid hg
  clear hg
  unfold wv
  go_wp2_with fail
  obtain ⟨W, hW⟩ : ∃ W : World, W = (w0.alloc (.cells #[.slice none 0 0, .bool false, .string (bstr 1)] 131)) := ⟨_, rfl⟩
  rw [← hW]
  have HG := Lib.hid (show Gr w0 W by rw [hW]; exact Gr.new w0 _)
  have HRS := Lib.hid (show RS w0 w0.heap.size (w0.heap.size + 1) (.slice none 0 0) [] 1 W from ⟨Nat.le_refl _, by rw [hW]; simp [go_sem], by rw [hW]; simp [go_sem], by rw [hW]; simp [go_sem], ⟨by rw [hW]; simp [go_sem], by rw [hW]; simp [go_sem], by rw [hW]; simp [go_sem]⟩, Own1.nil _ _, by omega, by rw [hW]; simp [go_sem]⟩)
  clear hW
  obtain ⟨R, hR⟩ : ∃ R, R = w0.heap.size := ⟨_, rfl⟩
  rw [← hR] at HRS ⊢
  have HRR := Lib.hid hR
  clear hR
  go_loopw [5] (fun t wr => ∃ (k : Nat) (vs : Value), t = .int .i64 k ∧ k ≤ n ∧ (∀ i, i < k → 3 ≤ Op.cf l i ∧ Op.cf l i ≤ 2147483647 ∧ Prm (Op.cf l i).toNat ∧ ¬ Op.cf l i ∈ l.take i) ∧ RS w0 R (R + 1) vs (l.take k) (Or.pr (l.take k)) wr ∧ Gr w0 wr) (fun t _ => n - (intOf t).toNat)
  case atStart => exact ⟨0, _, rfl, by omega, fun j hj => by omega, HRS.out, HG.out⟩
  case round =>
   obtain ⟨k, vs, rfl, hk, hlow, hrs, hg⟩ := hrel
   have HLOW := Lib.hid hlow
   have HGR := Lib.hid hg
   have HRSK := Lib.hid hrs
   clear hlow hg hrs
   by_cases hlt : k < n
   ·have hk0 : (0 : Int) ≤ (k : Int) := by omega
    have hk1 : (k : Int) < (n : Int) := by omega
    have hkl : k < l.length := by have := HN.out; omega
    have HKL := Lib.hid hkl
    obtain ⟨gx, ox, rfl, hcx⟩ : ∃ gx ox, xa = some ⟨gx, ox, none⟩ ∧ wr.cell? ⟨gx, ox + k, none⟩ = some (.int .u32 (Op.cf l k)) := by
     obtain ⟨_, a, c', e, _, _, h3⟩ := (HV.out.later HG0.out).later HGR.out
     cases e
     obtain ⟨gx, ox, e, hc⟩ := h3 k hkl
     exact ⟨gx, ox, e, hc⟩
    have hqb := HV.out.1.at_ k
    obtain ⟨q, hq⟩ : ∃ q : Nat, (q : Int) = Op.cf l k := ⟨(Op.cf l k).toNat, Int.toNat_of_nonneg hqb.1⟩
    rw [← hq] at hcx hqb
    have HQ := Lib.hid hq
    clear hq hkl
    obtain ⟨m2, hm2⟩ : ∃ m : Int, m = (q : Int) % 2 := ⟨_, rfl⟩
    have hmt : Int.tmod (q : Int) 2 = m2 := by rw [hm2, Int.tmod_eq_emod_of_nonneg (by omega)]
    have hmb : 0 ≤ m2 ∧ m2 < 2 := by omega
    have HM2 := Lib.hid hm2
    clear hm2
    have hcase : m2 = 0 ∨ (m2 = 1 ∧ (q : Int) > 2147483647) ∨ (m2 = 1 ∧ ¬ (q : Int) > 2147483647) := by omega
    rcases hcase with rfl | ⟨rfl, h4⟩ | ⟨rfl, h4⟩
    ·have HOD := Lib.hid (show ¬ Dis l from fun h => by
      have h5 := h.at_pr HKL.out
      have h6 := (h.2.2 k HKL.out).1
      have h7 := pr_odd h5 h6
      have := HQ.out
      have := HM2.out
      omega)
     go_wp2_with fail
     go_ret2
     exact ⟨HG0.out.trans HGR.out, .inr ⟨HOD.out, rfl⟩⟩
    ·go_wp2_with fail
     go_ret2
     exact ⟨HG0.out.trans HGR.out, .inr ⟨fun h => by have := (h.2.2 k HKL.out).2.1; have := HQ.out; omega, rfl⟩⟩
    ·go_wp2_with fail
     refine (rprime_any q _ (by omega)).mono ?_
     rintro e w1 ⟨b, rfl, hb, hg⟩
     have HB := Lib.hid (hb.trans (prm_iff q).symm)
     have hcx := hg.keeps hcx
     have HG1 := Lib.hid (HGR.out.trans hg)
     have HRS1 := Lib.hid (HRSK.out.later hg)
     clear hb hg
     cases b with
     | false =>
      go_wp2_with fail
      go_ret2
      refine ⟨HG0.out.trans HG1.out, .inr ⟨fun h => ?_, rfl⟩⟩
      have h5 := (h.2.2 k HKL.out).2.2.1
      rw [← HQ.out, Int.toNat_natCast] at h5
      exact absurd (HB.out.2 h5) (by simp)
     | true =>
      go_wp2_with fail
      go_loopw [7] (fun t wi => ∃ j : Nat, t = .int .i64 j ∧ j ≤ k ∧ (∀ i, i < j → Op.cf l i ≠ q) ∧ wi = w1) (fun t _ => k - (intOf t).toNat)
      case atStart => exact ⟨0, rfl, by omega, fun i hi => by omega, rfl⟩
      case round =>
       obtain ⟨j, rfl, hj, hne, rfl⟩ := hrel
       have HNE := Lib.hid hne
       clear hne
       by_cases hjk : j < k
       ·have j0 : (0 : Int) ≤ (j : Int) := by omega
        have j1 : (j : Int) < (k : Int) := by omega
        have j2 : (j : Int) < (n : Int) := by omega
        have hcj : wr.cell? ⟨gx, ox + j, none⟩ = some (.int .u32 (Op.cf l j)) := by
         obtain ⟨_, a, c', e, _, _, h3⟩ := (HV.out.later HG0.out).later HG1.out
         cases e
         obtain ⟨gx', ox', e, hc⟩ := h3 j (by have := HN.out; omega)
         cases e
         exact hc
        obtain ⟨p, hp⟩ : ∃ p, p = Op.cf l j := ⟨_, rfl⟩
        rw [← hp] at hcj
        have HP := Lib.hid hp
        clear hp
        by_cases hpq : p = (q : Int)
        ·have hb : (p == (q : Int)) = true := by simp [hpq]
         have HD := Lib.hid (show ¬ Dis l from fun h => by
          have h5 := (h.2.2 k HKL.out).2.2.2
          rw [← HQ.out] at h5
          exact h5 (in_take hjk (by have := HKL.out; omega) (by rw [← HP.out]; exact hpq)))
         clear hpq
         go_wp2_with fail
         go_ret2
         exact ⟨HG0.out.trans HG1.out, .inr ⟨HD.out, rfl⟩⟩
        ·have hb : (p == (q : Int)) = false := by simpa using hpq
         have HPQ := Lib.hid hpq
         clear hpq
         go_wp2_with fail
         go_roundw
         case rel =>
          refine ⟨j + 1, by simp, by omega, fun i hi => ?_, by first | rfl | trivial⟩
          by_cases hij : i = j
          ·subst hij; rw [← HP.out]; exact HPQ.out
          ·exact HNE.out i (by omega)
         case measure => simp [intOf]; omega
       ·obtain rfl : j = k := by omega
        have j1 : ¬ (j : Int) < (j : Int) := by omega
        have hkl := HKL.out
        have hln : (l.take j).length = j := by rw [List.length_take]; omega
        have hst := Or.pr_take_succ hkl
        rw [at_cf, ← HQ.out] at hst
        have hts := Or.take_succ hkl
        rw [at_cf, ← HQ.out] at hts
        have HST := Lib.hid hst
        have HTS := Lib.hid hts
        have HQN := Lib.hid (not_take (by omega) HNE.out)
        have HOKL := Lib.hid (show okL (l.take (j + 1)) from fun y hy => by
         obtain ⟨i, hi, rfl⟩ := List.getElem_of_mem hy
         rw [List.length_take] at hi
         have e : (l.take (j + 1))[i] = Op.cf l i := by rw [List.getElem_take, cf_get (by omega)]
         rw [e]
         by_cases hij : i = j
         ·subst hij
          have hpp := HB.out.1 (by simp)
          rw [← HQ.out]
          have h3 : ¬ q = 2 := fun e => by have := HM2.out; omega
          rcases hpp with hpp | hpp <;> omega
         ·have := HLOW.out i (by omega); omega)
        have HK1 := Lib.hid (show InR (Or.pr (l.take j)) from by
         have h5 : okL (l.take j) := fun y hy => HOKL.out y (by rw [hts]; exact List.mem_append_left _ hy)
         exact inR_pr h5 (by omega))
        have HK2 := Lib.hid (show InR (Or.pr (l.take j) * (q : Int)) from by rw [← hst]; exact inR_pr HOKL.out (by rw [List.length_take]; omega))
        have HQW := Lib.hid (show isW (q : Int) from ⟨by omega, by omega⟩)
        clear hst hts hkl hcx
        obtain ⟨va, vc, e, -, -⟩ := HRS1.out.2.2.2.2.2.1.form
        rw [hln] at e
        subst e
        have c0 := HRS1.out.2.2.2.1
        have gz := Gr.new wr (.cells #[.int .u32 (q : Int)] 22)
        have HRS2 := Lib.hid (HRS1.out.later gz)
        have HG2 := Lib.hid (HG1.out.trans gz)
        have HONE := Lib.hid (one_hasP wr (q : Int) ⟨by omega, by omega⟩)
        have HLE := Lib.hid (show (l.take j).length + [(q : Int)].length ≤ 1000000 by rw [hln]; simp; omega)
        clear gz
        go_wp2_with (at_builtin; refine wpList_app rfl (.tmp 56) (.tmp 58) rfl rfl (R + 1) _ (l.take j) rfl HRS2.out.2.2.2.2.2.1 _ [(q : Int)] rfl HONE.out HLE.out HRS2.out.2.2.2.2.2.2.2 ?_; intro v' w3 hown hgrow; obtain ⟨an, cn, e, -, -⟩ := hown.form; rw [List.length_append, hln] at e; change v' = .slice an (j + 1) cn at e; subst e; have c0 := (HRS2.out.grow_cell hgrow).1; have f0 := (HRS2.out.grow_cell hgrow).2; have HRS3 := Lib.hid (HRS2.out.grow hown hgrow); have HG3 := Lib.hid ((grown_own HG2.out HRS2.out.2.2.2.2.2.1 hgrow (by have := HRR.out; omega)).setCell (p := ⟨R, 0, none⟩) (by have := HRR.out; show w0.heap.size ≤ R; omega) (.slice an (j + 1) cn)); clear hown hgrow)
        refine wp_region_noPanic ?_
        refine rnew_region (Or.pr (l.take j)) q w0 _ R (R + 1) _ (l.take j ++ [(q : Int)]) HQW.out HK1.out (inR_small HQW.out) HK2.out HG3.out HRS3.out _ _ _ _ _ _ _ _ _ _ _ _ _ _ _ _ _ _ _ _ _ _ _ _ _ _ _ _ _ _ _ _ _ _ _ _ _ _ _ _ _ _ _ _ _ _ _ _ _ _ _ _ _ _ _ _ _ _ _ _ _ _ _ _ _ _ _ _ _ _ _ _ _ _ _ _ (fun _ _ _ _ _ h => h) ?_
        intro u1 u2 u3 u4 u5 u6 u7 u8 u9 u10 u11 u12 u13 u14 wx hx hgx
        refine NoPanic.normal ?_
        have HXN := Lib.hid hx
        have HGN := Lib.hid hgx
        clear hx hgx
        go_wp2_with fail
        refine ⟨⟨j + 1, _, by simp, by omega, fun i hi => ?_, by rw [HST.out, HTS.out]; exact HXN.out, HGN.out⟩, by simp [intOf]; omega⟩
        by_cases hij : i = j
        ·subst hij
         have hpp := HB.out.1 (by simp)
         have h3 : ¬ q = 2 := fun e => by have := HM2.out; omega
         have hqn := HQN.out
         rw [← HQ.out, Int.toNat_natCast]
         refine ⟨?_, by omega, hpp, hqn⟩
         rcases hpp with hpp | hpp <;> omega
        ·exact HLOW.out i (by omega)
   ·obtain rfl : k = n := by omega
    have hk1 : ¬ (k : Int) < (k : Int) := by omega
    have HF := Lib.hid HRSK.out
    clear HRSK
    go_wp2_with fail
    go_ret2
    have hx := HF.out
    rw [show l.take k = l by rw [HN.out, List.take_length]] at hx
    refine ⟨HG0.out.trans HGR.out, .inl ⟨⟨by have := HN.out; omega, by have := HN.out; omega, fun i hi => HLOW.out i (by have := HN.out; omega)⟩, R, rfl, ?_⟩⟩
    have hsz := HG0.out.size
    refine ⟨by have := HRR.out; omega, vs, hx.2.2.2.1, hx.2.2.2.2.2.1.hasP, fun B hB => ?_, hx.2.1, hx.2.2.1⟩
    have := hx.2.2.2.2.2.1.fresh' B hB
    have := HRR.out
    omega
end Go.Proofs.YtlfiakpmnkhcdaaGreat.Mo
