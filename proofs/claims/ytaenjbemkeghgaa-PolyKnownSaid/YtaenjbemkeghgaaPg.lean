/- Gcd, of both sides; what is prime is a field. -/
import Derived.Test.YtaenjbemkeghgaaPrd
import Derived.Test.YtaenjbemkeghgaaTrials
namespace Go.Proofs.Ytaenjbemkeghgaa
open Go.RowKit
set_option linter.unusedVariables false

theorem pprime_pr (n : Nat) (w : World) (hn : n ≤ 4294967295) : Calls Try.prog 56 #[.int .u32 n] w (BoolPost (Ob.Pr n) w) :=
  (prime_any n w hn).mono fun _ _ ⟨r, he, hr, hg⟩ => ⟨r, he, hr.trans (prm_pr hn), hg⟩
theorem pprime_r (n : Nat) (w : World) (hn : n ≤ 4294967295) : Calls Try.prog 65 #[.int .u32 n] w (BoolPost (Ob.Pr n) w) :=
  (rprime_any n w hn).mono fun _ _ ⟨r, he, hr, hg⟩ => ⟨r, he, hr.trans ((prm_iff n).symm.trans (prm_pr hn)), hg⟩
theorem rprime5 (n : Nat) (w : World) (hn : n ≤ 4294967295) : Calls Try.prog 43 #[.int .u32 n] w (BoolPost (Ob.Pr n) w) := by
  go_enter Try.func43, Try.ntmps43
  go_wp2_with fail
  refine (pprime_r n _ hn).mono ?_
  rintro e w1 ⟨r, rfl, hr, hg⟩
  have H := Lib.hid (And.intro hr hg)
  clear hr hg
  go_wp2_with fail
  go_ret
  exact ⟨r, rfl, H.out.1, H.out.2⟩
/-- Modulo a prime each residue but 0 is a unit. -/
theorem fld_pr {p : Nat} (h : Ob.Pr p) : Op.Fld p := by
  intro u h0 h1
  obtain ⟨u', rfl⟩ := Int.eq_ofNat_of_zero_le (show 0 ≤ u from by omega)
  have hg : Nat.gcd u' p = 1 := by
    apply Classical.byContradiction
    intro hn
    have hd1 := Nat.gcd_dvd_left u' p
    have hd2 := Nat.gcd_dvd_right u' p
    have hle := Nat.le_of_dvd (by omega) hd1
    have hpos : 0 < Nat.gcd u' p := Nat.gcd_pos_of_pos_left p (by omega)
    exact h.2 (Nat.gcd u' p) (by omega) (by omega) hd2
  exact gcd_un (by have := h.1; omega) hg

/-- Result and error of Gcd. -/
def GcdR (p : Int) (a b g : List Int) (E : Int) : Prop :=
  (¬ Ob.Pr p.toNat ∧ E = 2 ∧ g = []) ∨ (Ob.Pr p.toNat ∧ E = checkE p [a, b] ∧ E ≠ 0 ∧ g = []) ∨ (Ob.Pr p.toNat ∧ checkE p [a, b] = 0 ∧ E = 0 ∧ Op.Gd p a b g ∧ Op.Nf p g)
theorem GcdR.unique {p : Int} {a b g h : List Int} {E F : Int} (hU : U32 a) (hU' : U32 b) (k : GcdR p a b g E) (l : GcdR p a b h F) : g = h ∧ E = F := by
  rcases k with ⟨h1, h2, h3⟩ | ⟨h1, h2, h3, h4⟩ | ⟨h1, h2, h3, h4, h5⟩ <;> rcases l with ⟨k1, k2, k3⟩ | ⟨k1, k2, k3, k4⟩ | ⟨k1, k2, k3, k4, k5⟩
  · exact ⟨h3.trans k3.symm, h2.trans k2.symm⟩
  · exact absurd k1 h1
  · exact absurd k1 h1
  · exact absurd h1 k1
  · exact ⟨h4.trans k4.symm, h2.trans k2.symm⟩
  · omega
  · exact absurd h1 k1
  · omega
  · have hc := (checkE_two hU hU').1 h2
    have hm := hc.1
    unfold okM at hm
    have hF := fld_pr h1
    rw [Int.toNat_of_nonneg (by omega)] at hF
    exact ⟨Op.Gd.unique hF (by omega) hc.2.2.2 h4 k4, h3.trans k3.symm⟩

set_option maxRecDepth 100000 in
set_option maxHeartbeats 2000000 in
theorem pGcd_any (m : Int) (a b : List Int) (u v : Value) (w : World) (hmr : 0 ≤ m ∧ m ≤ 4294967295) (hu : HasP w u a) (hv : HasP w v b) (hla : a.length ≤ 1000) (hlb : b.length ≤ 1000) :
    Calls Try.prog 31 #[.int .u32 m, u, v] w (NewE (GcdR m a b) w) := by
  obtain ⟨-, xa, ca, rfl, -, -, -⟩ := id hu
  obtain ⟨-, xb, cb, rfl, -, -, -⟩ := id hv
  obtain ⟨na, hna⟩ : ∃ na, na = a.length := ⟨_, rfl⟩
  obtain ⟨nb, hnb⟩ : ∃ nb, nb = b.length := ⟨_, rfl⟩
  rw [← hna] at hu ⊢
  rw [← hnb] at hv ⊢
  have HU := Lib.hid hu
  have HV := Lib.hid hv
  have HNA := Lib.hid hna
  have HNB := Lib.hid hnb
  have HLA := Lib.hid hla
  have HLB := Lib.hid hlb
  have HIFF := Lib.hid (checkE_two (m := m) hu.1 hv.1)
  obtain ⟨E, hE⟩ : ∃ E, E = checkE m [a, b] := ⟨_, rfl⟩
  try rw [← hE]
  have HE := Lib.hid hE
  have HLL := Lib.hid (show ∀ l ∈ [a, b], l.length ≤ 9223372036854775807 from fun l hl => by simp at hl; rcases hl with rfl | rfl <;> omega)
  obtain ⟨p, hp⟩ := Int.eq_ofNat_of_zero_le hmr.1
  have hpb : p ≤ 4294967295 := by omega
  have htn : m.toNat = p := by omega
  have HTN := Lib.hid htn
  subst hp
  clear hu hv hla hlb hna hnb hE hmr htn
  by_cases hpr : Ob.Pr p
  · have HPR := Lib.hid hpr
    have HPR2 := Lib.hid (show Ob.Pr ((p : Int)).toNat from by rw [HTN.out]; exact hpr)
    clear hpr
    by_cases h0 : E = 0
    · subst h0
      have HOK := Lib.hid (HIFF.out.1 HE.out.symm)
      have HM2 := Lib.hid (show 2 ≤ (p : Int) ∧ (p : Int) ≤ 2147483647 from HOK.out.1)
      have HMB := Lib.hid (show 1 ≤ (p : Int) ∧ (p : Int) ≤ 4294967295 from by have := HM2.out; omega)
      have HM0 := Lib.hid (show 0 < (p : Int) from by have := HM2.out; omega)
      have HF := Lib.hid (fld_pr HPR.out)
      go_enter Try.func31, Try.ntmps31
      go_wp2_with fail
      refine (pprime_pr p _ hpb).mono ?_
      rintro e wp ⟨r, rfl, hr, hg⟩
      have HGP := Lib.hid hg
      obtain rfl : r = true := by exact hr.2 HPR.out
      clear hr hg
      go_wp2_with fail
      refine (check_any p _ 2 _ [a, b] _ (ll_two (HU.out.later HGP.out) (HV.out.later HGP.out) _ rfl) (by omega) HLL.out).mono ?_
      rintro e w1 ⟨rfl, rfl⟩
      rw [← HE.out]
      go_wp2_with fail
      refine (common_any p a b _ _ _ HM2.out HF.out HOK.out.2.1.2 HOK.out.2.2.2 (HU.out.later (HGP.out.alloc _)) (HV.out.later (HGP.out.alloc _)) HLA.out HLB.out).mono ?_
      rintro e w2 ⟨x, n, c, g, rfl, hx, hgd, hnf, hfr, hg⟩
      have H := Lib.hid (And.intro hx (And.intro hgd (And.intro hnf (And.intro hfr hg))))
      clear hx hgd hnf hfr hg
      go_wp2_with fail
      go_ret2
      obtain ⟨hx, hgd, hnf, hfr, hg⟩ := H.out
      exact ⟨_, _, _, g, 0, rfl, hx, .inr (.inr ⟨HPR2.out, HE.out.symm, rfl, hgd, hnf⟩), (fun p hp => Nat.le_trans (HGP.out.alloc _).size (hfr p hp)), (HGP.out.alloc _).trans hg⟩
    · have hf : (E != 0) = true := by simp [h0]
      have H0 := Lib.hid h0
      clear h0
      go_enter Try.func31, Try.ntmps31
      go_wp2_with fail
      refine (pprime_pr p _ hpb).mono ?_
      rintro e wp ⟨r, rfl, hr, hg⟩
      have HGP := Lib.hid hg
      obtain rfl : r = true := by exact hr.2 HPR.out
      clear hr hg
      go_wp2_with fail
      refine (check_any p _ 2 _ [a, b] _ (ll_two (HU.out.later HGP.out) (HV.out.later HGP.out) _ rfl) (by omega) HLL.out).mono ?_
      rintro e w1 ⟨rfl, rfl⟩
      rw [← HE.out]
      go_wp2_with fail
      go_ret2
      exact ⟨_, _, _, [], E, rfl, HasP.nil _, .inr (.inl ⟨HPR2.out, HE.out, H0.out, rfl⟩), (fun p hp => by cases hp), HGP.out.alloc _⟩
  · have HPR := Lib.hid hpr
    have HPR2 := Lib.hid (show ¬ Ob.Pr ((p : Int)).toNat from by rw [HTN.out]; exact hpr)
    clear hpr
    go_enter Try.func31, Try.ntmps31
    go_wp2_with fail
    refine (pprime_pr p _ hpb).mono ?_
    rintro e wp ⟨r, rfl, hr, hg⟩
    have HGP := Lib.hid hg
    obtain rfl : r = false := by cases r with | false => rfl | true => exact absurd (hr.1 rfl) HPR.out
    clear hr hg
    go_wp2_with fail
    go_ret2
    exact ⟨_, _, _, [], 2, rfl, HasP.nil _, .inl ⟨HPR2.out, rfl, rfl⟩, (fun p hp => by cases hp), HGP.out⟩

set_option maxRecDepth 100000 in
set_option maxHeartbeats 2000000 in
theorem rGcd_any (m : Int) (a b : List Int) (u v : Value) (w : World) (hmr : 0 ≤ m ∧ m ≤ 4294967295) (hu : HasP w u a) (hv : HasP w v b) (hla : a.length ≤ 1000) (hlb : b.length ≤ 1000) :
    Calls Try.prog 32 #[.int .u32 m, u, v] w (NewE (GcdR m a b) w) := by
  obtain ⟨-, xa, ca, rfl, -, -, -⟩ := id hu
  obtain ⟨-, xb, cb, rfl, -, -, -⟩ := id hv
  obtain ⟨na, hna⟩ : ∃ na, na = a.length := ⟨_, rfl⟩
  obtain ⟨nb, hnb⟩ : ∃ nb, nb = b.length := ⟨_, rfl⟩
  rw [← hna] at hu ⊢
  rw [← hnb] at hv ⊢
  have HU := Lib.hid hu
  have HV := Lib.hid hv
  have HNA := Lib.hid hna
  have HNB := Lib.hid hnb
  have HLA := Lib.hid hla
  have HLB := Lib.hid hlb
  have HIFF := Lib.hid (checkE_two (m := m) hu.1 hv.1)
  obtain ⟨E, hE⟩ : ∃ E, E = checkE m [a, b] := ⟨_, rfl⟩
  try rw [← hE]
  have HE := Lib.hid hE
  have HLL := Lib.hid (show ∀ l ∈ [a, b], l.length ≤ 9223372036854775807 from fun l hl => by simp at hl; rcases hl with rfl | rfl <;> omega)
  obtain ⟨p, hp⟩ := Int.eq_ofNat_of_zero_le hmr.1
  have hpb : p ≤ 4294967295 := by omega
  have htn : m.toNat = p := by omega
  have HTN := Lib.hid htn
  subst hp
  clear hu hv hla hlb hna hnb hE hmr htn
  by_cases hpr : Ob.Pr p
  · have HPR := Lib.hid hpr
    have HPR2 := Lib.hid (show Ob.Pr ((p : Int)).toNat from by rw [HTN.out]; exact hpr)
    clear hpr
    by_cases h0 : E = 0
    · subst h0
      have HOK := Lib.hid (HIFF.out.1 HE.out.symm)
      have HM2 := Lib.hid (show 2 ≤ (p : Int) ∧ (p : Int) ≤ 2147483647 from HOK.out.1)
      have HMB := Lib.hid (show 1 ≤ (p : Int) ∧ (p : Int) ≤ 4294967295 from by have := HM2.out; omega)
      have HM0 := Lib.hid (show 0 < (p : Int) from by have := HM2.out; omega)
      have HF := Lib.hid (fld_pr HPR.out)
      go_enter Try.func32, Try.ntmps32
      go_wp2_with fail
      refine (rprime5 p _ hpb).mono ?_
      rintro e wp ⟨r, rfl, hr, hg⟩
      have HGP := Lib.hid hg
      obtain rfl : r = true := by exact hr.2 HPR.out
      clear hr hg
      go_wp2_with fail
      refine (both5_any p a b _ _ _ (HU.out.later HGP.out) (HV.out.later HGP.out) HLA.out HLB.out).mono ?_
      rintro e w1 ⟨rfl, rfl⟩
      rw [← HE.out]
      go_wp2_with fail
      go_loopw [9, 10] (fun s t wr => ∃ x y xa xn xc ya yn yc, s = .slice xa xn xc ∧ t = .slice ya yn yc ∧ HasP wr (.slice xa xn xc) x ∧ HasP wr (.slice ya yn yc) y ∧ Op.Nf p x ∧ Op.Nf p y ∧ x.length ≤ 1000 ∧ y.length ≤ 1000 ∧ (∀ g, Op.Eu p x y g → Op.Eu p a b g) ∧ Gr w wr) (fun _ t _ => match t with | .slice _ n _ => n | _ => 0)
      case atStart => exact ⟨a, b, _, _, _, _, _, _, rfl, rfl, HU.out.later HGP.out, HV.out.later HGP.out, HOK.out.2.1.2, HOK.out.2.2.2, HLA.out, HLB.out, (fun g h => h), HGP.out⟩
      case round =>
        obtain ⟨x, y, xa, xn, xc, ya, yn, yc, rfl, rfl, hx, hy, hnx, hny, hlx, hly, heu, hg⟩ := hrel
        have hxl := hx.len
        have hyl := hy.len
        have HX := Lib.hid hx
        have HY := Lib.hid hy
        have HNX := Lib.hid hnx
        have HNY := Lib.hid hny
        have HLX := Lib.hid hlx
        have HLY := Lib.hid hly
        have HEU := Lib.hid heu
        have HG := Lib.hid hg
        have HXL := Lib.hid hxl.1
        have HYL := Lib.hid hyl.1
        clear hx hy hnx hny hlx hly heu hg hxl hyl
        rcases Nat.eq_zero_or_pos yn with h0 | h0
        · subst h0
          have hy0 : y = [] := List.eq_nil_of_length_eq_zero HYL.out.symm
          have HEN := Lib.hid (show Op.Eu p a b x from HEU.out x (by rw [hy0]; exact Op.Eu.done x))
          clear hy0
          go_wp2_with fail
          refine (leads5_any p x _ _ HM2.out HNX.out.1 HX.out (by have := HLX.out; omega)).mono ?_
          rintro e w3 (⟨iv, rfl, hu, hr0, hr1, hr2, rfl⟩ | ⟨rfl, hu, rfl⟩)
          · have HDU := Lib.hid hu
            have HR2 := Lib.hid hr2
            have HIB := Lib.hid (show 0 ≤ iv ∧ iv < 4294967296 from by have := HM2.out; omega)
            clear hu hr2
            go_wp2_with fail
            refine (times5_any p x [iv] _ _ _ HMB.out (HX.out.later (Gr.new _ _)) (one_hasP' _ iv _ rfl HIB.out) (by have := HLX.out; omega) (by simp)).mono ?_
            rintro e w4 ⟨z, zn, zc, rfl, hz, hzf, hzg⟩
            have HZ := Lib.hid hz
            have HZF := Lib.hid hzf
            have HZG := Lib.hid ((HG.out.alloc _).trans hzg)
            have hsz := HG.out.size
            clear hz hzf hzg
            go_wp2_with fail
            go_ret2
            exact ⟨_, _, _, Op.nf p (Op.mul x [iv]), 0, rfl, HZ.out, .inr (.inr ⟨HPR2.out, HE.out.symm, rfl, ⟨x, HEN.out, .inr ⟨HDU.out.1, iv, HR2.out, Op.nf_iff HM0.out (Op.cg_scn p iv x)⟩⟩, Op.nf_nf HM0.out _⟩), (fun q hq => by have := HZF.out q hq; rw [World.size_alloc] at this; omega), HZG.out⟩
          · have HX0 := Lib.hid (show x = [] from Classical.byContradiction (fun h => hu ⟨h, Op.ld_unit HF.out HM0.out HNX.out h⟩))
            clear hu
            go_wp2_with fail
            go_ret2
            exact ⟨_, _, _, [], 0, rfl, HasP.nil _, .inr (.inr ⟨HPR2.out, HE.out.symm, rfl, ⟨x, HEN.out, .inl ⟨HX0.out, rfl⟩⟩, Op.Nf.nil p⟩), (fun q hq => by cases hq), HG.out⟩
        · have hyne : y ≠ [] := by intro e; have := HYL.out; rw [e] at this; simp at this; omega
          have HYNE := Lib.hid hyne
          have HUN := Lib.hid (Op.ld_unit HF.out HM0.out HNY.out hyne)
          have hp0 : (0 : Int) < (yn : Int) := by omega
          clear hyne
          go_wp2_with fail
          refine (leads5_any p y _ _ HM2.out HNY.out.1 HY.out (by have := HLY.out; omega)).mono ?_
          rintro e w3 (⟨rc, rfl, hu, hr0, hr1, hr2, rfl⟩ | ⟨rfl, hu, rfl⟩)
          · have HD := Lib.hid (show DvsOK p rc y from ⟨HM2.out, HNY.out.1, by rw [← HYL.out]; exact h0, ⟨hr0, hr1⟩, hr2⟩)
            clear hu hr0 hr1 hr2
            go_wp2_with fail
            refine (split5_any p rc x y _ _ _ HD.out HNX.out HX.out HY.out (by have := HLX.out; omega) (by have := HLY.out; omega)).mono ?_
            rintro e w4 ⟨x1, n1, c1, x2, n2, c2, q, r, rfl, hq, hr, hdv, hf1, hf2, hg2⟩
            have HR := Lib.hid hr
            have HDV := Lib.hid hdv
            have HG2 := Lib.hid hg2
            have HY2 := Lib.hid (HY.out.later hg2)
            have hrl := hr.len
            have HLR := Lib.hid (show r.length ≤ 1000 from by have := HLY.out; have := hdv.2.2.1; omega)
            have HLT := Lib.hid (show n2 < yn from by have := HYL.out; have := hdv.2.2.1; have := hrl.1; omega)
            clear hq hr hdv hf1 hf2 hg2 hrl
            go_wp2_with fail
            go_roundw
            case rel => exact ⟨y, r, _, _, _, _, _, _, rfl, rfl, HY2.out, HR.out, HNY.out, HDV.out.2.1, HLY.out, HLR.out, (fun g h => HEU.out g (Op.Eu.step HYNE.out HDV.out h)), HG.out.trans HG2.out⟩
            case measure => exact HLT.out
          · exact absurd ⟨HYNE.out, HUN.out⟩ hu
    · have hf : (E != 0) = true := by simp [h0]
      have H0 := Lib.hid h0
      clear h0
      go_enter Try.func32, Try.ntmps32
      go_wp2_with fail
      refine (rprime5 p _ hpb).mono ?_
      rintro e wp ⟨r, rfl, hr, hg⟩
      have HGP := Lib.hid hg
      obtain rfl : r = true := by exact hr.2 HPR.out
      clear hr hg
      go_wp2_with fail
      refine (both5_any p a b _ _ _ (HU.out.later HGP.out) (HV.out.later HGP.out) HLA.out HLB.out).mono ?_
      rintro e w1 ⟨rfl, rfl⟩
      rw [← HE.out]
      go_wp2_with fail
      go_ret2
      exact ⟨_, _, _, [], E, rfl, HasP.nil _, .inr (.inl ⟨HPR2.out, HE.out, H0.out, rfl⟩), (fun p hp => by cases hp), HGP.out⟩
  · have HPR := Lib.hid hpr
    have HPR2 := Lib.hid (show ¬ Ob.Pr ((p : Int)).toNat from by rw [HTN.out]; exact hpr)
    clear hpr
    go_enter Try.func32, Try.ntmps32
    go_wp2_with fail
    refine (rprime5 p _ hpb).mono ?_
    rintro e wp ⟨r, rfl, hr, hg⟩
    have HGP := Lib.hid hg
    obtain rfl : r = false := by cases r with | false => rfl | true => exact absurd (hr.1 rfl) HPR.out
    clear hr hg
    go_wp2_with fail
    go_ret2
    exact ⟨_, _, _, [], 2, rfl, HasP.nil _, .inl ⟨HPR2.out, rfl, rfl⟩, (fun p hp => by cases hp), HGP.out⟩
end Go.Proofs.Ytaenjbemkeghgaa
