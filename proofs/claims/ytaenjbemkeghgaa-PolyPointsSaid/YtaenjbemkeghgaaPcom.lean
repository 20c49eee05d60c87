/- common: the greatest common divisor. -/
import Derived.Test.YtaenjbemkeghgaaPpow
namespace Go.Proofs.Ytaenjbemkeghgaa
open Go.RowKit
set_option linter.unusedVariables false

/-- The greatest common divisor is returned, as new memory. -/
def ComP (m : Int) (a b : List Int) (w : World) (e : Ending) (w' : World) : Prop :=
  ∃ x n c g, e = .returned (.slice x n c) ∧ HasP w' (.slice x n c) g ∧ Op.Gd m a b g ∧ Op.Nf m g ∧ (∀ p, x = some p → w.heap.size ≤ p.block) ∧ Gr w w'

set_option maxRecDepth 100000 in
set_option maxHeartbeats 2000000 in
theorem common_any (m : Int) (a b : List Int) (u v : Value) (w : World) (hm : 2 ≤ m ∧ m ≤ 2147483647) (hF : Op.Fld m) (ha : Op.Nf m a) (hb : Op.Nf m b) (hu : HasP w u a) (hv : HasP w v b) (hla : a.length ≤ 1000) (hlb : b.length ≤ 1000) :
    Calls Try.prog 57 #[.int .u32 m, u, v] w (ComP m a b w) := by
  have HM := Lib.hid hm
  have HF := Lib.hid hF
  have HA := Lib.hid ha
  have HB := Lib.hid hb
  have HLA := Lib.hid hla
  have HLB := Lib.hid hlb
  have HU := Lib.hid hu
  have HV := Lib.hid hv
  obtain ⟨-, ua, uc, rfl, -, -, -⟩ := hu
  obtain ⟨-, va, vc, rfl, -, -, -⟩ := hv
  obtain ⟨la, hla'⟩ : ∃ la, la = a.length := ⟨_, rfl⟩
  obtain ⟨lb, hlb'⟩ : ∃ lb, lb = b.length := ⟨_, rfl⟩
  rw [← hla'] at HU ⊢
  rw [← hlb'] at HV ⊢
  have HMB := Lib.hid (show 1 ≤ m ∧ m ≤ 4294967295 from by omega)
  have HM0 := Lib.hid (show 0 < m from by omega)
  clear hm hF ha hb hla hlb hla' hlb'
  go_enter Try.func57, Try.ntmps57
  go_wp2_with fail
  go_loopw [1, 2] (fun s t wr => ∃ x y xa xn xc ya yn yc, s = .slice xa xn xc ∧ t = .slice ya yn yc ∧ HasP wr (.slice xa xn xc) x ∧ HasP wr (.slice ya yn yc) y ∧ Op.Nf m x ∧ Op.Nf m y ∧ x.length ≤ 1000 ∧ y.length ≤ 1000 ∧ (∀ g, Op.Eu m x y g → Op.Eu m a b g) ∧ Gr w wr) (fun _ t _ => match t with | .slice _ n _ => n | _ => 0)
  case atStart => exact ⟨a, b, _, _, _, _, _, _, rfl, rfl, HU.out, HV.out, HA.out, HB.out, HLA.out, HLB.out, fun g h => h, Gr.refl w⟩
  case round =>
    obtain ⟨x, y, xa, xn, xc, ya, yn, yc, rfl, rfl, hx, hy, hnx, hny, hlx, hly, heu, hg⟩ := hrel
    have hxl := hx.len
    have hyl := hy.len
    have HX := Lib.hid hx
    have HY := Lib.hid hy
    have HNX := Lib.hid hnx
    have HNY := Lib.hid hny
    have HLX := Lib.hid hlx
    have HLY := Lib.hid hly
    have HEU := Lib.hid heu
    have HG := Lib.hid hg
    have HXL := Lib.hid hxl.1
    have HYL := Lib.hid hyl.1
    clear hx hy hnx hny hlx hly heu hg hxl hyl
    rcases Nat.eq_zero_or_pos yn with h0 | h0
    · subst h0
      have hy0 : y = [] := List.eq_nil_of_length_eq_zero HYL.out.symm
      have HEN := Lib.hid (show Op.Eu m a b x from HEU.out x (by rw [hy0]; exact Op.Eu.done x))
      clear hy0
      rcases Nat.eq_zero_or_pos xn with h1 | h1
      · subst h1
        have hx0 : x = [] := List.eq_nil_of_length_eq_zero HXL.out.symm
        have HX0 := Lib.hid hx0
        clear hx0
        go_wp2_with fail
        go_ret
        exact ⟨_, _, _, [], rfl, HasP.nil _, ⟨x, HEN.out, .inl ⟨HX0.out, rfl⟩⟩, Op.Nf.nil m, (fun p hp => by cases hp), HG.out⟩
      · have hxne : x ≠ [] := by intro e; have := HXL.out; rw [e] at this; simp at this; omega
        have HXNE := Lib.hid hxne
        have HUN := Lib.hid (Op.ld_unit HF.out HM0.out HNX.out hxne)
        obtain ⟨g, o, rfl, hcell⟩ := HX.out.cells0 h1
        rw [HXL.out, Op.ld_cf rfl] at hcell
        have hrange := Op.rs_cf HM0.out HNX.out.1 (x.length - 1)
        obtain ⟨c, hc⟩ : ∃ c, c = Op.ld x := ⟨_, rfl⟩
        rw [← hc] at hcell HUN
        rw [← HXL.out] at hcell
        have HCR := Lib.hid (show 0 ≤ c ∧ c < m from by rw [hc]; exact hrange)
        have HCE := Lib.hid hc
        have e1 : ((xn - 1 : Nat) : Int) = (xn : Int) - 1 := by omega
        have e2 : ((xn : Int) - 1).toNat = xn - 1 := by omega
        have hp0 : (0 : Int) < (xn : Int) := by omega
        have hb0 : ((xn : Int) == 0) = false := by simp; omega
        have hxb : xn ≤ 1000 := by have := HLX.out; have := HXL.out; omega
        clear hxne hrange hc
        go_wp2_with fail
        refine (inv_ok m c _ HM.out HCR.out HUN.out).mono ?_
        rintro e w1 ⟨iv, rfl, hr0, hr1, hr2, hg1⟩
        have HR2 := Lib.hid hr2
        have HG1 := Lib.hid hg1
        clear hr2 hg1
        go_wp2_with fail
        refine (sum_any m iv [] x _ _ _ HMB.out (by have := HMB.out; omega) (by intro y hy; cases hy) (HasP.nil _) (HX.out.later HG1.out) (by simp) (by have := HLX.out; omega)).mono ?_
        rintro e w2 ⟨za, zn, zc, rfl, hz, hzf, hzg⟩
        have HZ := Lib.hid hz
        have HZF := Lib.hid hzf
        have HZG := Lib.hid hzg
        clear hz hzf hzg
        go_wp2_with fail
        go_ret
        have e3 : Op.nf m (Op.add [] (Op.sc iv x)) = Op.nf m (Op.sc iv x) := rfl
        exact ⟨_, _, _, Op.nf m (Op.sc iv x), rfl, HZ.out, ⟨x, HEN.out, .inr ⟨HXNE.out, iv, by rw [← HCE.out]; exact HR2.out, rfl⟩⟩, Op.nf_nf HM0.out _, (fun p hp => Nat.le_trans (HG.out.trans HG1.out).size (HZF.out p hp)), (HG.out.trans HG1.out).trans HZG.out⟩
    · have hyne : y ≠ [] := by intro e; have := HYL.out; rw [e] at this; simp at this; omega
      have HYNE := Lib.hid hyne
      have HUN := Lib.hid (Op.ld_unit HF.out HM0.out HNY.out hyne)
      have hp0 : (0 : Int) < (yn : Int) := by omega
      clear hyne
      go_wp2_with fail
      refine (divisor_ok m y _ _ HM.out HNY.out.1 HYNE.out HY.out HUN.out).mono ?_
      rintro e w1 ⟨rc, rfl, hr0, hr1, hr2, hg1⟩
      have HD := Lib.hid (show DvsOK m rc y from ⟨HM.out, HNY.out.1, by rw [← HYL.out]; exact h0, ⟨hr0, hr1⟩, hr2⟩)
      have HG1 := Lib.hid hg1
      clear hr2 hg1
      go_wp2_with fail
      refine (divide_any m rc x y _ _ _ HD.out HNX.out (HX.out.later (HG1.out.alloc _)) (HY.out.later (HG1.out.alloc _)) (by have := HLX.out; omega)).mono ?_
      rintro e w2 ⟨x1, n1, c1, x2, n2, c2, q, r, rfl, hq, hr, hdv, hf1, hf2, hg2⟩
      have HR := Lib.hid hr
      have HDV := Lib.hid hdv
      have HG2 := Lib.hid ((HG1.out.alloc _).trans hg2)
      have HY2 := Lib.hid (HY.out.later HG2.out)
      have hrl := hr.len
      have HRL := Lib.hid hrl.1
      have HLR := Lib.hid (show r.length ≤ 1000 from by have := HLY.out; have := hdv.2.2.1; omega)
      have HLT := Lib.hid (show n2 < yn from by have := HYL.out; have := hdv.2.2.1; have := hrl.1; omega)
      clear hq hr hdv hf1 hf2 hg2 hrl
      go_wp2_with fail
      go_roundw
      case rel => exact ⟨y, r, _, _, _, _, _, _, rfl, rfl, HY2.out, HR.out, HNY.out, HDV.out.2.1, HLY.out, HLR.out, (fun g h => HEU.out g (Op.Eu.step HYNE.out HDV.out h)), HG.out.trans HG2.out⟩
      case measure => exact HLT.out
end Go.Proofs.Ytaenjbemkeghgaa
