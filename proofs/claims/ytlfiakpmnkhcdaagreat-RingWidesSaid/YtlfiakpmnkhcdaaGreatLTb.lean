import Derived.Test.YtlfiakpmnkhcdaaGreatLSwb
import Derived.Test.YtlfiakpmnkhcdaaGreatLZE
import Derived.Test.YtlfiakpmnkhcdaaGreatLDp
import Derived.Test.YtlfiakpmnkhcdaaGreatLSa
import Derived.Test.YtlfiakpmnkhcdaaGreatLModu
namespace Go.Proofs.YtlfiakpmnkhcdaaGreat.Mo
open Go.RowKit
set_option linter.unusedVariables false
theorem pr_is_odd {l : List Int} (h : ∀ q ∈ l, q % 2 = 1) : Or.pr l % 2 = 1 := by
 induction l with
 | nil => rfl
 | cons p l ih =>
  have h1 := h p (by simp)
  have h2 := ih (fun q hq => h q (by simp [hq]))
  show (p * Or.pr l) % 2 = 1
  rw [Int.mul_emod, h1, h2]; rfl
theorem at_dvd_pr {l : List Int} {j : Nat} (hj : j < l.length) : Op.cf l j ∣ Or.pr l := by
 have := Or.dvd_pr hj (Nat.le_refl _)
 rwa [List.take_length, at_cf] at this
theorem dvd_sub_mod (z q : Int) : q ∣ z - z % q := ⟨z / q, by have := Int.emod_add_mul_ediv z q; omega⟩
theorem inR_wbal {l : List Int} (hs : Sys l) (z : Int) : InR (wbal z (Or.pr l)) := by
 have hp := pr_le hs.1
 have hb := wbal_in (x := z) hp.1
 have h1 : Or.pr l ≤ 2147483647 ^ l.length := hp.2
 generalize hM : (2147483647 : Int) ^ l.length = M at h1
 exact inR_of hs.2.2.2.2 (by rw [hM]; omega) (by rw [hM]; omega)
end Go.Proofs.YtlfiakpmnkhcdaaGreat.Mo
namespace Go.Proofs.YtlfiakpmnkhcdaaGreat.Mo
open Go.RowKit
set_option linter.unusedVariables false
def RJ (l r : List Int) (k : Nat) (X : Int) : Prop := 0 ≤ X ∧ X < Or.pr (l.take k) ∧ ∀ j, j < k → Op.cf l j ∣ X - Op.cf r j
theorem RJ.start (l r : List Int) : RJ l r 0 0 := ⟨by omega, by simp [Or.pr], fun j hj => by omega⟩
theorem dvd_self_sub_mod (x p : Int) : p ∣ x % p - x := by
 have h := dvd_sub_mod x p
 have e : x % p - x = -(x - x % p) := by omega
 rw [e]; exact Int.dvd_neg.2 h
theorem rj_cong {p P X r inv step have' miss many : Int} (h1 : step = P % p) (h2 : have' = X % p) (h3 : step * inv % p = 1) (h4 : miss = (r + p - have') % p) (h5 : many = miss * inv % p) : p ∣ X + P * many - r := by
 have d1 : p ∣ P - step := by rw [h1]; exact dvd_sub_mod P p
 have d2 : p ∣ X - have' := by rw [h2]; exact dvd_sub_mod X p
 have d3 : p ∣ step * inv - 1 := by
  have := dvd_sub_mod (step * inv) p
  rwa [h3] at this
 have d4 : p ∣ miss - (r + p - have') := by rw [h4]; exact dvd_self_sub_mod _ p
 have d5 : p ∣ many - miss * inv := by rw [h5]; exact dvd_self_sub_mod _ p
 have e1 : P * (many - miss * inv) = P * many - P * (miss * inv) := Int.mul_sub _ _ _
 have e2 : (P - step) * (miss * inv) = P * (miss * inv) - step * (miss * inv) := Int.sub_mul _ _ _
 have e3 : miss * (step * inv - 1) = step * (miss * inv) - miss := by rw [Int.mul_sub, Int.mul_one, Int.mul_left_comm]
 have e : X + P * many - r = (X - have') + P * (many - miss * inv) + (P - step) * (miss * inv) + miss * (step * inv - 1) + (miss - (r + p - have')) + p := by
  rw [e1, e2, e3]; omega
 rw [e]
 exact Int.dvd_add (Int.dvd_add (Int.dvd_add (Int.dvd_add (Int.dvd_add d2 (Int.dvd_mul_of_dvd_right d5)) (Int.dvd_mul_of_dvd_left d1)) (Int.dvd_mul_of_dvd_right d3)) d4) (Int.dvd_refl p)
theorem RJ.next {l r : List Int} {k : Nat} {X many : Int} (h : RJ l r k X) (hk : k < l.length) (hl : okL l) (h0 : 0 ≤ many ∧ many < Op.cf l k) (hd : Op.cf l k ∣ X + Or.pr (l.take k) * many - Op.cf r k) : RJ l r (k + 1) (X + Or.pr (l.take k) * many) := by
 have hp : 0 < Or.pr (l.take k) := (pr_le (hl.take k)).1
 have h1 : Or.pr (l.take k) * many ≤ Or.pr (l.take k) * (Op.cf l k - 1) := Int.mul_le_mul_of_nonneg_left (by omega) (by omega)
 rw [Int.mul_sub, Int.mul_one] at h1
 have h2 : 0 ≤ Or.pr (l.take k) * many := Int.mul_nonneg (by omega) h0.1
 refine ⟨by have := h.1; omega, ?_, fun j hj => ?_⟩
 ·rw [Or.pr_take_succ hk, at_cf]
  have := h.2.1; omega
 ·by_cases hjk : j = k
  ·subst hjk; exact hd
  ·have h3 := h.2.2 j (by omega)
   have h4 : Op.cf l j ∣ Or.pr (l.take k) := by
    have := Or.dvd_pr (l := l) (j := j) (i := k) (by omega) (by omega)
    rwa [at_cf] at this
   have e : X + Or.pr (l.take k) * many - Op.cf r j = (X - Op.cf r j) + Or.pr (l.take k) * many := by omega
   rw [e]
   exact Int.dvd_add h3 (Int.dvd_mul_of_dvd_left h4)
theorem RJ.join {l r : List Int} {X : Int} (hs : Sys l) (h : RJ l r l.length X) : JoinV l r (wbal X (Or.pr l)) := by
 have hp : 0 < Or.pr l := (pr_le hs.1).1
 have ho := pr_is_odd hs.2.1
 have hb := wbal_in (x := X) hp
 refine ⟨by omega, fun j hj => ?_⟩
 have e : wbal X (Or.pr l) - Op.cf r j = (wbal X (Or.pr l) - X) + (X - Op.cf r j) := by omega
 rw [e]
 exact Int.dvd_add (Int.dvd_trans (at_dvd_pr hj) (wbal_dvd X (Or.pr l))) (h.2.2 j hj)
theorem RJ.inR {l r : List Int} {k : Nat} {X : Int} (h : RJ l r k X) (hs : Sys l) (hk : k ≤ l.length) : InR X := by
 have hp := pr_le (hs.1.take k)
 have hb := h.2.1
 have h0 := h.1
 have hlen : (l.take k).length ≤ 25 := by rw [List.length_take]; have := hs.2.2.2.2; omega
 have h1 := hp.2
 generalize hM : (2147483647 : Int) ^ (l.take k).length = M at h1
 exact inR_of hlen (by rw [hM]; omega) (by rw [hM]; omega)
end Go.Proofs.YtlfiakpmnkhcdaaGreat.Mo
namespace Go.Proofs.YtlfiakpmnkhcdaaGreat.Mo
open Go.RowKit
set_option linter.unusedVariables false
theorem rwmod_any (neg : Bool) (s : ByteArray) (p : Int) (w : World) (h : Form neg s) (hp : okP p) : Calls Tryz.prog 117 #[.agg #[.bool neg, .string s], .int .u32 p] w (fun e w' => e = .returned (.tuple #[.int .u32 (zOf neg s % p), .int .i64 0]) ∧ Gr w w') := by
 obtain ⟨n, rfl⟩ := Int.eq_ofNat_of_zero_le (show 0 ≤ p by have := hp.1; omega)
 have h1 := hp.1
 have h2 := hp.2
 have hn : n ≠ 0 := by omega
 refine (Go.Proofs.YtlfiakpmnkhcdaaGreat.rmod_ok neg s n w h (by omega) hn).mono ?_
 rintro e w' ⟨rfl, hg⟩
 rw [resU_mod neg s h hn]
 exact ⟨rfl, hg⟩
def RefPr (W : World) (R : Nat) (l : List Int) : Prop := ∃ v, W.cell? ⟨R, 0, none⟩ = some v ∧ HasP W v l
theorem RefPr.later {W W' : World} {R : Nat} {l : List Int} (h : RefPr W R l) (g : Gr W W') : RefPr W' R l := by
 obtain ⟨v, h1, h2⟩ := h
 exact ⟨v, g.keeps h1, h2.later g⟩
set_option maxRecDepth 100000 in
set_option maxHeartbeats 4000000 in
theorem rrow_any (R : Nat) (l r : List Int) (vr : Value) (w : World) (h : RefPr w R l) (hu : HasP w vr r) (hl : l.length ≤ 25) : Calls Tryz.prog 116 #[.pointer (some ⟨R, 0, none⟩), vr] w (BoolPost (RowOf l r) w) := by
 obtain ⟨v, h0, hv⟩ := h
 obtain ⟨-, xa, ca, rfl, -, -, -⟩ := id hv
 obtain ⟨-, xb, cb, rfl, -, -, -⟩ := id hu
 obtain ⟨n, hn⟩ : ∃ n, n = l.length := ⟨_, rfl⟩
 obtain ⟨m, hm⟩ : ∃ m, m = r.length := ⟨_, rfl⟩
 rw [← hn] at hv h0 hl
 rw [← hm] at hu ⊢
 have HV := Lib.hid hv
 have HU := Lib.hid hu
 have HN := Lib.hid hn
 have HM := Lib.hid hm
 clear hv hu hn hm
 by_cases hnm : m = n
 ·subst hnm
  go_enter Tryz.func116, Tryz.ntmps116
  go_wp2_with fail
  have H0 := Lib.hid h0
  clear h0
  go_loopw [5] (fun t wr => ∃ k : Nat, t = .int .i64 k ∧ k ≤ m ∧ (∀ i, i < k → Op.cf r i < Op.cf l i) ∧ Gr w wr) (fun t _ => m - (intOf t).toNat)
  case atStart => exact ⟨0, rfl, by omega, fun i hi => by omega, Gr.refl w⟩
  case round =>
   obtain ⟨k, rfl, hk, hlow, hg⟩ := hrel
   have HLOW := Lib.hid hlow
   have HG := Lib.hid hg
   have h0 := hg.keeps H0.out
   clear hlow hg
   by_cases hlt : k < m
   ·have hk0 : (0 : Int) ≤ (k : Int) := by omega
    have hk1 : (k : Int) < (m : Int) := by omega
    obtain ⟨gx, ox, rfl, hcx⟩ : ∃ gx ox, xa = some ⟨gx, ox, none⟩ ∧ wr.cell? ⟨gx, ox + k, none⟩ = some (.int .u32 (Op.cf l k)) := by
     obtain ⟨_, a, c', e, _, _, h3⟩ := HV.out.later HG.out
     cases e
     obtain ⟨gx, ox, e, hc⟩ := h3 k (by have := HN.out; omega)
     exact ⟨gx, ox, e, hc⟩
    obtain ⟨gy, oy, rfl, hcy⟩ : ∃ gy oy, xb = some ⟨gy, oy, none⟩ ∧ wr.cell? ⟨gy, oy + k, none⟩ = some (.int .u32 (Op.cf r k)) := by
     obtain ⟨_, a, c', e, _, _, h3⟩ := HU.out.later HG.out
     cases e
     obtain ⟨gx, ox, e, hc⟩ := h3 k (by have := HM.out; omega)
     exact ⟨gx, ox, e, hc⟩
    obtain ⟨q, hq⟩ : ∃ q, q = Op.cf l k := ⟨_, rfl⟩
    obtain ⟨a, ha⟩ : ∃ a, a = Op.cf r k := ⟨_, rfl⟩
    rw [← hq] at hcx
    rw [← ha] at hcy
    have HQ := Lib.hid hq
    have HA := Lib.hid ha
    clear hq ha
    by_cases haq : a ≥ q
    ·have HAQ := Lib.hid haq
     go_wp2_with fail
     go_region
     go_wp2_with fail
     go_ret
     exact ⟨false, rfl, ⟨fun h => (by cases h), fun h => by have := (h.2 k (by have := HN.out; omega)).2; have := HQ.out; have := HA.out; have := HAQ.out; omega⟩, HG.out.trans (Gr.refl _).drew⟩
    ·have HAQ := Lib.hid haq
     go_wp2_with fail
     go_region
     go_wp2_with fail
     refine ⟨⟨k + 1, by simp, by omega, fun j hj => ?_, HG.out.trans (Gr.refl _).drew⟩, by simp [intOf]; omega⟩
     by_cases hjk : j = k
     ·subst hjk; have := HQ.out; have := HA.out; have := HAQ.out; omega
     ·exact HLOW.out j (by omega)
   ·obtain rfl : k = m := by omega
    have hk1 : ¬ (k : Int) < (k : Int) := by omega
    go_wp2_with fail
    go_ret
    exact ⟨true, rfl, ⟨fun _ => ⟨by have := HN.out; have := HM.out; omega, fun i hi => ⟨(HU.out.1.at_ i).1, HLOW.out i (by have := HN.out; omega)⟩⟩, fun _ => rfl⟩, HG.out⟩
 ·have hb : ¬ (m : Int) = (n : Int) := by omega
  have HNM := Lib.hid hnm
  go_enter Tryz.func116, Tryz.ntmps116
  go_wp2_with fail
  go_ret
  exact ⟨false, rfl, ⟨fun h => (by cases h), fun h => absurd h.1 (by have := HN.out; have := HM.out; have := HNM.out; omega)⟩, Gr.refl w⟩
end Go.Proofs.YtlfiakpmnkhcdaaGreat.Mo
