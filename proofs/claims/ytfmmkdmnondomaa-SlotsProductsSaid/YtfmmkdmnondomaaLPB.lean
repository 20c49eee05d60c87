import Derived.Test.YtfmmkdmnondomaaLPA
import Derived.Deep.RegionHeld3
import Derived.Deep.QuietTactic
import Derived.BigQuiet
import Derived.StillTailTactics
import Derived.Deep.DeepCutAuto
import Derived.Test.YtfmmkdmnondomaaLMB
import Derived.Test.YtfmmkdmnondomaaLMF
/- wrapped. -/
namespace Go.Proofs.Ytfmmkdmnondomaa
open Go.RowKit
set_option linter.unusedVariables false

end Go.Proofs.Ytfmmkdmnondomaa
/- divisor, divide, rest. -/
namespace Op
set_option linter.unusedVariables false
end Op
namespace Go.Proofs.Ytfmmkdmnondomaa
open Go.RowKit
set_option linter.unusedVariables false

end Go.Proofs.Ytfmmkdmnondomaa
/- divide. -/
namespace Go.Proofs.Ytfmmkdmnondomaa
open Go.RowKit
set_option linter.unusedVariables false

end Go.Proofs.Ytfmmkdmnondomaa
/- divide, rest, power, common. -/
namespace Go.Proofs.Ytfmmkdmnondomaa
open Go.RowKit
set_option linter.unusedVariables false

end Go.Proofs.Ytfmmkdmnondomaa
/- common: the greatest common divisor. -/
namespace Go.Proofs.Ytfmmkdmnondomaa
open Go.RowKit
set_option linter.unusedVariables false

end Go.Proofs.Ytfmmkdmnondomaa
/- check, Check. -/
namespace Go.Proofs.Ytfmmkdmnondomaa
open Go.RowKit
set_option linter.unusedVariables false

/-- The error of a polynomial. -/
def chk1 (m : Int) (a : List Int) : Int := if 256 < a.length then 3 else if lowB m a = true ∧ (Op.tz a).length = a.length then 0 else 2
/-- The first error of polynomials. -/
def chk (m : Int) : List (List Int) → Int
  | [] => 0
  | a :: l => if chk1 m a = 0 then chk m l else chk1 m a
/-- The modulus is one. -/
def okM (m : Int) : Prop := 2 ≤ m ∧ m ≤ 2147483647
instance (m : Int) : Decidable (okM m) := by unfold okM; infer_instance
def checkE (m : Int) (l : List (List Int)) : Int := if okM m then chk m l else 2
theorem chk1_iff {m : Int} {a : List Int} (ha : U32 a) : chk1 m a = 0 ↔ a.length ≤ 256 ∧ Op.Nf m a := by
  unfold chk1
  by_cases h : 256 < a.length
  · rw [if_pos h]; constructor
    · intro h; cases h
    · intro h'; omega
  · rw [if_neg h]
    have e : (Op.tz a).length = a.length ↔ Op.tz a = a := by
      constructor
      · intro h; rw [tz_take a, h, List.take_length]
      · intro h; rw [h]
    constructor
    · intro h'
      split at h'
      · rename_i hh
        refine ⟨by omega, ?_, e.1 hh.2⟩
        exact Op.rs_of (fun j hj => ⟨(ha.at_ j).1, lowB_true.1 hh.1 j hj⟩)
      · cases h'
    · rintro ⟨_, h1, h2⟩
      rw [if_pos ⟨lowB_true.2 (fun i hi => (h1 _ (Op.cf_mem hi)).2), e.2 h2⟩]
theorem checkE_one {m : Int} {a : List Int} (ha : U32 a) : checkE m [a] = 0 ↔ okM m ∧ a.length ≤ 256 ∧ Op.Nf m a := by
  unfold checkE
  by_cases h : okM m
  · rw [if_pos h]
    have e : chk m [a] = chk1 m a := by unfold chk; split <;> simp_all [chk]
    rw [e, chk1_iff ha]; simp [h]
  · rw [if_neg h]; simp [h]
theorem checkE_two {m : Int} {a b : List Int} (ha : U32 a) (hb : U32 b) : checkE m [a, b] = 0 ↔ okM m ∧ (a.length ≤ 256 ∧ Op.Nf m a) ∧ (b.length ≤ 256 ∧ Op.Nf m b) := by
  unfold checkE
  by_cases h : okM m
  · rw [if_pos h]
    have e : chk m [a, b] = if chk1 m a = 0 then chk1 m b else chk1 m a := by
      show (if chk1 m a = 0 then chk m [b] else chk1 m a) = _
      have e : chk m [b] = chk1 m b := by unfold chk; split <;> simp_all [chk]
      rw [e]
    rw [e, ← chk1_iff ha, ← chk1_iff hb]
    by_cases h1 : chk1 m a = 0
    · rw [if_pos h1]; simp [h, h1]
    · rw [if_neg h1]; simp [h, h1]
  · rw [if_neg h]; simp [h]

end Go.Proofs.Ytfmmkdmnondomaa
/- Check, Add, Sub, Mul. -/
namespace Go.Proofs.Ytfmmkdmnondomaa
open Go.RowKit
set_option linter.unusedVariables false

end Go.Proofs.Ytfmmkdmnondomaa
/- DivMod, PowMod, Wrap, Eval. -/
namespace Go.Proofs.Ytfmmkdmnondomaa
open Go.RowKit
set_option linter.unusedVariables false

/-- The last element is a unit. -/
def divU (m : Int) (b : List Int) : Prop := b ≠ [] ∧ Op.Un m (Op.ld b)
/-- Quotient, rest and error of DivMod. -/
def DivR (m : Int) (a b q r : List Int) (E : Int) : Prop :=
  (E = checkE m [a, b] ∧ E ≠ 0 ∧ q = [] ∧ r = []) ∨ (checkE m [a, b] = 0 ∧ ¬ divU m b ∧ E = 7 ∧ q = [] ∧ r = []) ∨ (checkE m [a, b] = 0 ∧ divU m b ∧ E = 0 ∧ Op.Dv m a b q r)
theorem DivR.unique {m : Int} {a b q r q' r' : List Int} {E E' : Int} (hU : U32 a) (hU' : U32 b) (h : DivR m a b q r E) (k : DivR m a b q' r' E') : q = q' ∧ r = r' ∧ E = E' := by
  rcases h with ⟨h1, h2, h3, h4⟩ | ⟨h1, h2, h3, h4, h5⟩ | ⟨h1, h2, h3, h4⟩ <;> rcases k with ⟨k1, k2, k3, k4⟩ | ⟨k1, k2, k3, k4, k5⟩ | ⟨k1, k2, k3, k4⟩
  · exact ⟨h3.trans k3.symm, h4.trans k4.symm, h1.trans k1.symm⟩
  · omega
  · omega
  · omega
  · exact ⟨h4.trans k4.symm, h5.trans k5.symm, h3.trans k3.symm⟩
  · exact absurd k2 h2
  · omega
  · exact absurd h2 k2
  · have hm := ((checkE_two hU hU').1 h1).1
    unfold okM at hm
    have := Op.Dv.unique (by omega) h2.2 (Op.Cg.refl m a) h4 k4
    exact ⟨this.1, this.2, h3.trans k3.symm⟩
/-- Result and error of PowMod. -/
def PowR (m : Int) (a f : List Int) (N : Nat) (r : List Int) (E : Int) : Prop :=
  (E = checkE m [a, f] ∧ E ≠ 0 ∧ r = []) ∨ (checkE m [a, f] = 0 ∧ ¬ divU m f ∧ E = 7 ∧ r = []) ∨ (checkE m [a, f] = 0 ∧ divU m f ∧ E = 0 ∧ Op.Rem m f (Op.pw a N) r)
theorem PowR.unique {m : Int} {a f r r' : List Int} {N : Nat} {E E' : Int} (hU : U32 a) (hU' : U32 f) (h : PowR m a f N r E) (k : PowR m a f N r' E') : r = r' ∧ E = E' := by
  rcases h with ⟨h1, h2, h3⟩ | ⟨h1, h2, h3, h4⟩ | ⟨h1, h2, h3, h4⟩ <;> rcases k with ⟨k1, k2, k3⟩ | ⟨k1, k2, k3, k4⟩ | ⟨k1, k2, k3, k4⟩
  · exact ⟨h3.trans k3.symm, h1.trans k1.symm⟩
  · omega
  · omega
  · omega
  · exact ⟨h4.trans k4.symm, h3.trans k3.symm⟩
  · exact absurd k2 h2
  · omega
  · exact absurd h2 k2
  · have hm := ((checkE_two hU hU').1 h1).1
    unfold okM at hm
    exact ⟨Op.Rem.unique (by omega) h2.2 h4 k4, h3.trans k3.symm⟩
/-- Result and error of Wrap. -/
def WrapR (m : Int) (a : List Int) (n : Int) (l : List Int) (E : Int) : Prop :=
  (E = checkE m [a] ∧ E ≠ 0 ∧ l = []) ∨ (checkE m [a] = 0 ∧ ¬ (1 ≤ n ∧ n ≤ 256) ∧ E = 2 ∧ l = []) ∨ (checkE m [a] = 0 ∧ (1 ≤ n ∧ n ≤ 256) ∧ E = 0 ∧ l.length = n.toNat ∧ Op.Rs m l ∧ Op.Wr m n.toNat a l)
theorem WrapR.unique {m n : Int} {a l l' : List Int} {E E' : Int} (hU : U32 a) (h : WrapR m a n l E) (k : WrapR m a n l' E') : l = l' ∧ E = E' := by
  rcases h with ⟨h1, h2, h3⟩ | ⟨h1, h2, h3, h4⟩ | ⟨h1, h2, h3, h4, h5, h6⟩ <;> rcases k with ⟨k1, k2, k3⟩ | ⟨k1, k2, k3, k4⟩ | ⟨k1, k2, k3, k4, k5, k6⟩
  · exact ⟨h3.trans k3.symm, h1.trans k1.symm⟩
  · omega
  · omega
  · omega
  · exact ⟨h4.trans k4.symm, h3.trans k3.symm⟩
  · omega
  · omega
  · omega
  · have hm := ((checkE_one hU).1 h1).1
    unfold okM at hm
    refine ⟨Op.ext_cf (h4.trans k4.symm) (Op.rs_eq (by omega) h5 k5 (Op.Wr.unique (n := n.toNat) (by omega) (by omega) (by omega) (Op.Cg.refl m a) h6 k6)), h3.trans k3.symm⟩

end Go.Proofs.Ytfmmkdmnondomaa
/- The reference: at, Same, Trim, minus, Check, both, Inverse. -/
namespace Go.Proofs.Ytfmmkdmnondomaa
open Go.RowKit
set_option linter.unusedVariables false
end Go.Proofs.Ytfmmkdmnondomaa
/- The reference: minus, times, power. -/
namespace Go.Proofs.Ytfmmkdmnondomaa
open Go.RowKit
set_option linter.unusedVariables false

end Go.Proofs.Ytfmmkdmnondomaa
/- The reference: Check, both, Inverse, leads, split. -/
namespace Go.Proofs.Ytfmmkdmnondomaa
open Go.RowKit
set_option linter.unusedVariables false
end Go.Proofs.Ytfmmkdmnondomaa
/- The reference: split. -/
namespace Go.Proofs.Ytfmmkdmnondomaa
open Go.RowKit
set_option linter.unusedVariables false

end Go.Proofs.Ytfmmkdmnondomaa
/- The reference: Add, Sub, Mul, DivMod, PowMod. -/
namespace Go.Proofs.Ytfmmkdmnondomaa
open Go.RowKit
set_option linter.unusedVariables false
end Go.Proofs.Ytfmmkdmnondomaa
/- Gcd, of both sides; what is prime is a field. -/
namespace Go.Proofs.Ytfmmkdmnondomaa
open Go.RowKit
set_option linter.unusedVariables false

theorem pprime_pr (n : Nat) (w : World) (hn : n ≤ 4294967295) : Calls Try.prog 83 #[.int .u32 n] w (BoolPost (Ob.Pr n) w) :=
  (prime_any n w hn).mono fun _ _ ⟨r, he, hr, hg⟩ => ⟨r, he, hr.trans (prm_pr hn), hg⟩
/-- Modulo a prime each residue but 0 is a unit. -/
theorem fld_pr {p : Nat} (h : Ob.Pr p) : Op.Fld p := by
  intro u h0 h1
  obtain ⟨u', rfl⟩ := Int.eq_ofNat_of_zero_le (show 0 ≤ u from by omega)
  have hg : Nat.gcd u' p = 1 := by
    apply Classical.byContradiction
    intro hn
    have hd1 := Nat.gcd_dvd_left u' p
    have hd2 := Nat.gcd_dvd_right u' p
    have hle := Nat.le_of_dvd (by omega) hd1
    have hpos : 0 < Nat.gcd u' p := Nat.gcd_pos_of_pos_left p (by omega)
    exact h.2 (Nat.gcd u' p) (by omega) (by omega) hd2
  exact gcd_un (by have := h.1; omega) hg

/-- Result and error of Gcd. -/
def GcdR (p : Int) (a b g : List Int) (E : Int) : Prop :=
  (¬ Ob.Pr p.toNat ∧ E = 2 ∧ g = []) ∨ (Ob.Pr p.toNat ∧ E = checkE p [a, b] ∧ E ≠ 0 ∧ g = []) ∨ (Ob.Pr p.toNat ∧ checkE p [a, b] = 0 ∧ E = 0 ∧ Op.Gd p a b g ∧ Op.Nf p g)
theorem GcdR.unique {p : Int} {a b g h : List Int} {E F : Int} (hU : U32 a) (hU' : U32 b) (k : GcdR p a b g E) (l : GcdR p a b h F) : g = h ∧ E = F := by
  rcases k with ⟨h1, h2, h3⟩ | ⟨h1, h2, h3, h4⟩ | ⟨h1, h2, h3, h4, h5⟩ <;> rcases l with ⟨k1, k2, k3⟩ | ⟨k1, k2, k3, k4⟩ | ⟨k1, k2, k3, k4, k5⟩
  · exact ⟨h3.trans k3.symm, h2.trans k2.symm⟩
  · exact absurd k1 h1
  · exact absurd k1 h1
  · exact absurd h1 k1
  · exact ⟨h4.trans k4.symm, h2.trans k2.symm⟩
  · omega
  · exact absurd h1 k1
  · omega
  · have hc := (checkE_two hU hU').1 h2
    have hm := hc.1
    unfold okM at hm
    have hF := fld_pr h1
    rw [Int.toNat_of_nonneg (by omega)] at hF
    exact ⟨Op.Gd.unique hF (by omega) hc.2.2.2 h4 k4, h3.trans k3.symm⟩

end Go.Proofs.Ytfmmkdmnondomaa
