import Derived.Test.YtjbfghnihnmpjaaLPA
import Derived.Deep.RegionHeld3
import Derived.Deep.QuietTactic
import Derived.BigQuiet
import Derived.StillTailTactics
import Derived.Deep.DeepCutAuto
import Derived.Test.YtjbfghnihnmpjaaLMB
import Derived.ProofKit
import Derived.OpenShut
import Derived.Lib.SmallJoins
import Derived.Deep.Fields
import Derived.ChangeSlices
/- wrapped. -/
namespace Go.Proofs.Ytjbfghnihnmpjaa
open Go.RowKit
set_option linter.unusedVariables false

end Go.Proofs.Ytjbfghnihnmpjaa
/- divisor, divide, rest. -/
namespace Op
set_option linter.unusedVariables false
end Op
namespace Go.Proofs.Ytjbfghnihnmpjaa
open Go.RowKit
set_option linter.unusedVariables false

end Go.Proofs.Ytjbfghnihnmpjaa
/- divide. -/
namespace Go.Proofs.Ytjbfghnihnmpjaa
open Go.RowKit
set_option linter.unusedVariables false

end Go.Proofs.Ytjbfghnihnmpjaa
/- divide, rest, power, common. -/
namespace Go.Proofs.Ytjbfghnihnmpjaa
open Go.RowKit
set_option linter.unusedVariables false

end Go.Proofs.Ytjbfghnihnmpjaa
/- common: the greatest common divisor. -/
namespace Go.Proofs.Ytjbfghnihnmpjaa
open Go.RowKit
set_option linter.unusedVariables false

end Go.Proofs.Ytjbfghnihnmpjaa
/- check, Check. -/
namespace Go.Proofs.Ytjbfghnihnmpjaa
open Go.RowKit
set_option linter.unusedVariables false

/-- The error of a polynomial. -/
def chk1 (m : Int) (a : List Int) : Int := if 256 < a.length then 3 else if lowB m a = true ∧ (Op.tz a).length = a.length then 0 else 2
/-- The first error of polynomials. -/
def chk (m : Int) : List (List Int) → Int
  | [] => 0
  | a :: l => if chk1 m a = 0 then chk m l else chk1 m a
/-- The modulus is one. -/
def okM (m : Int) : Prop := 2 ≤ m ∧ m ≤ 2147483647
instance (m : Int) : Decidable (okM m) := by unfold okM; infer_instance
def checkE (m : Int) (l : List (List Int)) : Int := if okM m then chk m l else 2
theorem chk1_iff {m : Int} {a : List Int} (ha : U32 a) : chk1 m a = 0 ↔ a.length ≤ 256 ∧ Op.Nf m a := by
  unfold chk1
  by_cases h : 256 < a.length
  · rw [if_pos h]; constructor
    · intro h; cases h
    · intro h'; omega
  · rw [if_neg h]
    have e : (Op.tz a).length = a.length ↔ Op.tz a = a := by
      constructor
      · intro h; rw [tz_take a, h, List.take_length]
      · intro h; rw [h]
    constructor
    · intro h'
      split at h'
      · rename_i hh
        refine ⟨by omega, ?_, e.1 hh.2⟩
        exact Op.rs_of (fun j hj => ⟨(ha.at_ j).1, lowB_true.1 hh.1 j hj⟩)
      · cases h'
    · rintro ⟨_, h1, h2⟩
      rw [if_pos ⟨lowB_true.2 (fun i hi => (h1 _ (Op.cf_mem hi)).2), e.2 h2⟩]
theorem checkE_one {m : Int} {a : List Int} (ha : U32 a) : checkE m [a] = 0 ↔ okM m ∧ a.length ≤ 256 ∧ Op.Nf m a := by
  unfold checkE
  by_cases h : okM m
  · rw [if_pos h]
    have e : chk m [a] = chk1 m a := by unfold chk; split <;> simp_all [chk]
    rw [e, chk1_iff ha]; simp [h]
  · rw [if_neg h]; simp [h]
theorem checkE_two {m : Int} {a b : List Int} (ha : U32 a) (hb : U32 b) : checkE m [a, b] = 0 ↔ okM m ∧ (a.length ≤ 256 ∧ Op.Nf m a) ∧ (b.length ≤ 256 ∧ Op.Nf m b) := by
  unfold checkE
  by_cases h : okM m
  · rw [if_pos h]
    have e : chk m [a, b] = if chk1 m a = 0 then chk1 m b else chk1 m a := by
      show (if chk1 m a = 0 then chk m [b] else chk1 m a) = _
      have e : chk m [b] = chk1 m b := by unfold chk; split <;> simp_all [chk]
      rw [e]
    rw [e, ← chk1_iff ha, ← chk1_iff hb]
    by_cases h1 : chk1 m a = 0
    · rw [if_pos h1]; simp [h, h1]
    · rw [if_neg h1]; simp [h, h1]
  · rw [if_neg h]; simp [h]

/-- A slice of slices. -/
def HasLL (W : World) (g n : Nat) (vs : List Value) (ls : List (List Int)) : Prop :=
  n = ls.length ∧ vs.length = ls.length ∧ ∀ i (hi : i < ls.length), ∃ x k c, W.cell? ⟨g, i, none⟩ = some (.slice x k c) ∧ HasP W (.slice x k c) ls[i]

end Go.Proofs.Ytjbfghnihnmpjaa
/- Check, Add, Sub, Mul. -/
namespace Go.Proofs.Ytjbfghnihnmpjaa
open Go.RowKit
set_option linter.unusedVariables false

theorem ll_one {w : World} {xa : Option Addr} {na ca : Nat} {a : List Int} (ha : HasP w (.slice xa na ca) a) (g : Nat) (hg : g = w.heap.size) : HasLL (w.alloc (.cells #[.slice xa na ca] 27)) g 1 [.slice xa na ca] [a] := by
  subst hg
  refine ⟨rfl, rfl, fun i hi => ?_⟩
  obtain rfl : i = 0 := by simpa using hi
  exact ⟨xa, na, ca, by simp [go_sem], ha.later (Gr.new w _)⟩
theorem ll_two {w : World} {xa xb : Option Addr} {na ca nb cb : Nat} {a b : List Int} (ha : HasP w (.slice xa na ca) a) (hb : HasP w (.slice xb nb cb) b) (g : Nat) (hg : g = w.heap.size) : HasLL (w.alloc (.cells #[.slice xa na ca, .slice xb nb cb] 27)) g 2 [.slice xa na ca, .slice xb nb cb] [a, b] := by
  subst hg
  refine ⟨rfl, rfl, fun i hi => ?_⟩
  have : i = 0 ∨ i = 1 := by simp at hi; omega
  rcases this with rfl | rfl
  · exact ⟨xa, na, ca, by simp [go_sem], ha.later (Gr.new w _)⟩
  · exact ⟨xb, nb, cb, by simp [go_sem], hb.later (Gr.new w _)⟩

end Go.Proofs.Ytjbfghnihnmpjaa
/- DivMod, PowMod, Wrap, Eval. -/
namespace Go.Proofs.Ytjbfghnihnmpjaa
open Go.RowKit
set_option linter.unusedVariables false

/-- The last element is a unit. -/
def divU (m : Int) (b : List Int) : Prop := b ≠ [] ∧ Op.Un m (Op.ld b)
/-- Quotient, rest and error of DivMod. -/
def DivR (m : Int) (a b q r : List Int) (E : Int) : Prop :=
  (E = checkE m [a, b] ∧ E ≠ 0 ∧ q = [] ∧ r = []) ∨ (checkE m [a, b] = 0 ∧ ¬ divU m b ∧ E = 7 ∧ q = [] ∧ r = []) ∨ (checkE m [a, b] = 0 ∧ divU m b ∧ E = 0 ∧ Op.Dv m a b q r)
theorem DivR.unique {m : Int} {a b q r q' r' : List Int} {E E' : Int} (hU : U32 a) (hU' : U32 b) (h : DivR m a b q r E) (k : DivR m a b q' r' E') : q = q' ∧ r = r' ∧ E = E' := by
  rcases h with ⟨h1, h2, h3, h4⟩ | ⟨h1, h2, h3, h4, h5⟩ | ⟨h1, h2, h3, h4⟩ <;> rcases k with ⟨k1, k2, k3, k4⟩ | ⟨k1, k2, k3, k4, k5⟩ | ⟨k1, k2, k3, k4⟩
  · exact ⟨h3.trans k3.symm, h4.trans k4.symm, h1.trans k1.symm⟩
  · omega
  · omega
  · omega
  · exact ⟨h4.trans k4.symm, h5.trans k5.symm, h3.trans k3.symm⟩
  · exact absurd k2 h2
  · omega
  · exact absurd h2 k2
  · have hm := ((checkE_two hU hU').1 h1).1
    unfold okM at hm
    have := Op.Dv.unique (by omega) h2.2 (Op.Cg.refl m a) h4 k4
    exact ⟨this.1, this.2, h3.trans k3.symm⟩
/-- Result and error of PowMod. -/
def PowR (m : Int) (a f : List Int) (N : Nat) (r : List Int) (E : Int) : Prop :=
  (E = checkE m [a, f] ∧ E ≠ 0 ∧ r = []) ∨ (checkE m [a, f] = 0 ∧ ¬ divU m f ∧ E = 7 ∧ r = []) ∨ (checkE m [a, f] = 0 ∧ divU m f ∧ E = 0 ∧ Op.Rem m f (Op.pw a N) r)
theorem PowR.unique {m : Int} {a f r r' : List Int} {N : Nat} {E E' : Int} (hU : U32 a) (hU' : U32 f) (h : PowR m a f N r E) (k : PowR m a f N r' E') : r = r' ∧ E = E' := by
  rcases h with ⟨h1, h2, h3⟩ | ⟨h1, h2, h3, h4⟩ | ⟨h1, h2, h3, h4⟩ <;> rcases k with ⟨k1, k2, k3⟩ | ⟨k1, k2, k3, k4⟩ | ⟨k1, k2, k3, k4⟩
  · exact ⟨h3.trans k3.symm, h1.trans k1.symm⟩
  · omega
  · omega
  · omega
  · exact ⟨h4.trans k4.symm, h3.trans k3.symm⟩
  · exact absurd k2 h2
  · omega
  · exact absurd h2 k2
  · have hm := ((checkE_two hU hU').1 h1).1
    unfold okM at hm
    exact ⟨Op.Rem.unique (by omega) h2.2 h4 k4, h3.trans k3.symm⟩
/-- Result and error of Wrap. -/
def WrapR (m : Int) (a : List Int) (n : Int) (l : List Int) (E : Int) : Prop :=
  (E = checkE m [a] ∧ E ≠ 0 ∧ l = []) ∨ (checkE m [a] = 0 ∧ ¬ (1 ≤ n ∧ n ≤ 256) ∧ E = 2 ∧ l = []) ∨ (checkE m [a] = 0 ∧ (1 ≤ n ∧ n ≤ 256) ∧ E = 0 ∧ l.length = n.toNat ∧ Op.Rs m l ∧ Op.Wr m n.toNat a l)
theorem WrapR.unique {m n : Int} {a l l' : List Int} {E E' : Int} (hU : U32 a) (h : WrapR m a n l E) (k : WrapR m a n l' E') : l = l' ∧ E = E' := by
  rcases h with ⟨h1, h2, h3⟩ | ⟨h1, h2, h3, h4⟩ | ⟨h1, h2, h3, h4, h5, h6⟩ <;> rcases k with ⟨k1, k2, k3⟩ | ⟨k1, k2, k3, k4⟩ | ⟨k1, k2, k3, k4, k5, k6⟩
  · exact ⟨h3.trans k3.symm, h1.trans k1.symm⟩
  · omega
  · omega
  · omega
  · exact ⟨h4.trans k4.symm, h3.trans k3.symm⟩
  · omega
  · omega
  · omega
  · have hm := ((checkE_one hU).1 h1).1
    unfold okM at hm
    refine ⟨Op.ext_cf (h4.trans k4.symm) (Op.rs_eq (by omega) h5 k5 (Op.Wr.unique (n := n.toNat) (by omega) (by omega) (by omega) (Op.Cg.refl m a) h6 k6)), h3.trans k3.symm⟩

end Go.Proofs.Ytjbfghnihnmpjaa
/- The reference: at, Same, Trim, minus, Check, both, Inverse. -/
namespace Go.Proofs.Ytjbfghnihnmpjaa
open Go.RowKit
set_option linter.unusedVariables false
set_option maxRecDepth 100000 in
set_option maxHeartbeats 1000000 in
theorem same_any (a b : List Int) (u v : Value) (w : World) (hu : HasP w u a) (hv : HasP w v b) (hla : a.length ≤ 1000000) (hlb : b.length ≤ 1000000) :
    Calls Try.prog 32 #[u, v] w (fun e w' => e = .returned (.bool (decide (a = b))) ∧ Gr w w') := by
  obtain ⟨da, xa, ca, rfl, a1, a2, hca⟩ := hu
  obtain ⟨db, xb, cb, rfl, b1, b2, hcb⟩ := hv
  obtain ⟨na, hna⟩ : ∃ na, na = a.length := ⟨_, rfl⟩
  obtain ⟨nb, hnb⟩ : ∃ nb, nb = b.length := ⟨_, rfl⟩
  rw [← hna] at hla a1 ⊢
  rw [← hnb] at hlb b1 ⊢
  have HNA := Lib.hid hna
  have HNB := Lib.hid hnb
  have HCA := Lib.hid hca
  have HCB := Lib.hid hcb
  have HDA := Lib.hid da
  have HDB := Lib.hid db
  clear hna hnb hca hcb da db
  by_cases hl : na = nb
  · subst hl
    go_enter Try.func32, Try.ntmps32
    go_wp2_with fail
    go_loopw [5] (fun t wr => ∃ k : Nat, t = .int .i64 k ∧ k ≤ na ∧ (∀ i, i < k → Op.cf a i = Op.cf b i) ∧ Gr w wr) (fun t _ => na - (intOf t).toNat)
    case atStart => exact ⟨0, rfl, by omega, fun i hi => by omega, Gr.refl w⟩
    case round =>
      obtain ⟨k, rfl, hk, ht, hg⟩ := hrel
      have HT := Lib.hid ht
      have HG := Lib.hid hg
      clear ht hg
      by_cases hlt : k < na
      · obtain ⟨g, o, rfl, c1⟩ := HCA.out k (by rw [← HNA.out]; exact hlt)
        obtain ⟨g', o', rfl, c2⟩ := HCB.out k (by rw [← HNB.out]; exact hlt)
        have c1 := HG.out.keeps c1
        have c2 := HG.out.keeps c2
        have hx := HDA.out.at_ k
        have hy := HDB.out.at_ k
        obtain ⟨x, hxe⟩ : ∃ x, x = Op.cf a k := ⟨_, rfl⟩
        obtain ⟨y, hye⟩ : ∃ y, y = Op.cf b k := ⟨_, rfl⟩
        rw [← hxe] at c1 hx
        rw [← hye] at c2 hy
        have HX := Lib.hid hxe
        have HY := Lib.hid hye
        have i1 : (k : Int) < (na : Int) := by omega
        have i2 : (0 : Int) ≤ (k : Int) := by omega
        clear hxe hye hx hy
        by_cases he : x = y
        · have hb : (x != y) = false := by simp [he]
          have HE := Lib.hid he
          clear he
          go_wp2_with fail
          go_quiet (fail)
          go_wp2_with fail
          go_roundw
          case rel => exact ⟨k + 1, by go_num, by omega, (fun i hi => by
            by_cases h : i < k
            · exact HT.out i h
            · obtain rfl : i = k := by omega
              rw [← HX.out, ← HY.out, HE.out]), HG.out.drewN _⟩
          case measure => simp [intOf]; omega
        · have hb : (x != y) = true := by simp [he]
          have HE := Lib.hid he
          clear he
          have HF := Lib.hid (show decide (a = b) = false from by simp; intro h; apply HE.out; rw [HX.out, HY.out, h])
          go_wp2_with fail
          go_quiet (fail)
          go_wp2_with fail
          go_ret
          exact ⟨by rw [HF.out]; rfl, HG.out.drewN _⟩
      · have HF := Lib.hid (show decide (a = b) = true from by
          simp
          exact Op.ext_cf (by rw [← HNA.out, ← HNB.out]) (fun i => by
            by_cases h : i < k
            · exact HT.out i h
            · rw [Op.cf_out (by rw [← HNA.out]; omega), Op.cf_out (by rw [← HNB.out]; omega)]))
        go_wp2_with fail
        go_ret
        exact ⟨by rw [HF.out]; rfl, HG.out⟩
  · have HF := Lib.hid (show decide (a = b) = false from by simp; intro h; apply hl; rw [HNA.out, HNB.out, h])
    have hb : ((na : Int) != (nb : Int)) = true := by simp; omega
    have HL := Lib.hid hl
    clear hl
    go_enter Try.func32, Try.ntmps32
    go_wp2_with fail
    go_ret
    exact ⟨by rw [HF.out]; rfl, Gr.refl w⟩

end Go.Proofs.Ytjbfghnihnmpjaa
/- The reference: minus, times, power. -/
namespace Go.Proofs.Ytjbfghnihnmpjaa
open Go.RowKit
set_option linter.unusedVariables false

end Go.Proofs.Ytjbfghnihnmpjaa
/- The reference: Check, both, Inverse, leads, split. -/
namespace Go.Proofs.Ytjbfghnihnmpjaa
open Go.RowKit
set_option linter.unusedVariables false
/-- The reference's inverse: the inverse and true, or 0 and false. -/
def Inv5 (m a : Int) (w : World) (e : Ending) (w' : World) : Prop :=
  (∃ b, e = .returned (.tuple #[.int .u32 b, .bool true]) ∧ Op.Un m a ∧ 0 ≤ b ∧ b < m ∧ m ∣ a * b - 1 ∧ w = w') ∨ (e = .returned (.tuple #[.int .u32 0, .bool false]) ∧ ¬ Op.Un m a ∧ w = w')
theorem inv_range {m a x : Int} (hm : 2 ≤ m) (h : m ∣ a * x - 1) (h1 : -m ≤ x) (h2 : x ≤ m) : ¬ x = m ∧ ¬ x = -m := by
  constructor
  · rintro rfl
    have := Int.dvd_sub (Int.dvd_mul_left a x) h
    have e : a * x - (a * x - 1) = 1 := by omega
    rw [e] at this
    have := Int.le_of_dvd (by omega) this
    omega
  · rintro rfl
    have h3 : m ∣ a * -m := ⟨-a, by rw [Int.mul_neg, Int.mul_neg, Int.mul_comm]⟩
    have := Int.dvd_sub h3 h
    have e : a * -m - (a * -m - 1) = 1 := by omega
    rw [e] at this
    have := Int.le_of_dvd (by omega) this
    omega

set_option maxHeartbeats 1000000 in
theorem inverse5_nat (a0 n0 : Nat) (w : World) (h : 2 ≤ n0) (h' : n0 ≤ 2147483647) (ha : a0 < n0) :
    Calls Try.prog 31 #[.int .u32 a0, .int .u32 n0] w (Inv5 n0 a0 w) := by
  go_enter Try.func31, Try.ntmps31
  go_wp2_with fail
  go_loop [6, 7, 8, 9] (fun a n x y => ∃ α ν : Nat, ∃ ξ η : Int, a = .int .i64 α ∧ n = .int .i64 ν ∧ x = .int .i64 ξ ∧ y = .int .i64 η ∧ α ≤ 4294967295 ∧ ν ≤ 4294967295 ∧ Bez a0 n0 α ν ξ η) (fun _ n _ _ => (intOf n).toNat)
  case atStart => exact ⟨n0, a0, 0, 1, rfl, rfl, rfl, rfl, by omega, by omega, Bez.start' a0 n0 (by omega)⟩
  case round =>
    obtain ⟨a, n, x, y, rfl, rfl, rfl, rfl, h1, h2, hb⟩ := hrel
    have hx1 := hb.x1
    have hx2 := hb.x2
    have hy1 := hb.y1
    have hy2 := hb.y2
    by_cases h0 : 1 ≤ n
    · have hne : ((n : Int) != 0) = true := by simp; omega
      obtain ⟨hb2, hp1, hp2⟩ := hb.step h0
      have hz1 := hb2.y1
      have hz2 := hb2.y2
      have hq0 : 0 ≤ (a : Int) / n := Int.ediv_nonneg (by omega) (by omega)
      have hq1 : (a : Int) / n ≤ a := Int.ediv_le_self _ (by omega)
      have hr := nat_sub_div a n
      have hlt : a % n < n := Nat.mod_lt _ (by omega)
      have hm1 : 0 ≤ (a : Int) / n * n := Int.mul_nonneg hq0 (by omega)
      have hm2 : (a : Int) / n * n ≤ a := by omega
      have HR := Lib.hid hr
      clear hr
      have HB := Lib.hid hb2
      clear hb2 hb
      go_wp2
      refine ⟨⟨n, a % n, y, _, rfl, congrArg _ HR.out, rfl, rfl, h2, by omega, HB.out⟩, ?_⟩
      simp only [intOf]
      rw [HR.out]; omega
    · obtain rfl : n = 0 := by omega
      have hg := hb.g
      rw [Nat.gcd_zero_right] at hg
      have HG := Lib.hid hg
      clear hg
      have HM := Lib.hid hb.ma
      clear hb
      by_cases h1' : a = 1
      · have ht : ((a : Int) != 1) = false := by simp; omega
        have HD := Lib.hid (show (n0 : Int) ∣ (a0 : Int) * x - 1 from by have := HM.out; rw [h1'] at this; exact this)
        obtain ⟨r1, r2⟩ := inv_range (show (2 : Int) ≤ n0 by omega) HD.out (by omega) (by omega)
        clear h1'
        by_cases hx : x < 0
        · go_wp2_with fail
          go_ret2
          exact .inl ⟨x + n0, rfl, ⟨x, HD.out⟩, by omega, by omega, (by
            have e : (a0 : Int) * (x + n0) - 1 = ((a0 : Int) * x - 1) + n0 * a0 := by rw [Int.mul_add, Int.mul_comm (a0 : Int) (n0 : Int)]; omega
            rw [e]; exact Int.dvd_add HD.out (Int.dvd_mul_right _ _)), rfl⟩
        · go_wp2_with fail
          go_ret2
          exact .inl ⟨x, rfl, ⟨x, HD.out⟩, by omega, by omega, HD.out, rfl⟩
      · have ht : ((a : Int) != 1) = true := by simp; omega
        have HN := Lib.hid h1'
        clear h1'
        go_wp2_with fail
        go_ret2
        exact .inr ⟨rfl, fun hu => HN.out (HG.out.trans (Op.un_gcd hu)), rfl⟩
theorem inverse5_any (m a : Int) (w : World) (hm : 2 ≤ m ∧ m ≤ 2147483647) (ha : 0 ≤ a ∧ a < m) :
    Calls Try.prog 31 #[.int .u32 a, .int .u32 m] w (Inv5 m a w) := by
  obtain ⟨m', rfl⟩ := Int.eq_ofNat_of_zero_le (show 0 ≤ m from by omega)
  obtain ⟨a', rfl⟩ := Int.eq_ofNat_of_zero_le ha.1
  exact inverse5_nat a' m' w (by omega) (by omega) (by omega)

end Go.Proofs.Ytjbfghnihnmpjaa
/- The reference: split. -/
namespace Go.Proofs.Ytjbfghnihnmpjaa
open Go.RowKit
set_option linter.unusedVariables false

end Go.Proofs.Ytjbfghnihnmpjaa
/- The reference: Add, Sub, Mul, DivMod, PowMod. -/
namespace Go.Proofs.Ytjbfghnihnmpjaa
open Go.RowKit
set_option linter.unusedVariables false
end Go.Proofs.Ytjbfghnihnmpjaa
/- The law's own functions: same, large, lent, kept, spoil, awake. -/
namespace Op
set_option linter.unusedVariables false
end Op
namespace Go.Proofs.Ytjbfghnihnmpjaa
open Go.RowKit
set_option linter.unusedVariables false

theorem lsame_any (a b : List Int) (u v : Value) (w : World) (hu : HasP w u a) (hv : HasP w v b) (hla : a.length ≤ 1000000) (hlb : b.length ≤ 1000000) :
    Calls Try.prog 19 #[u, v] w (fun e w' => e = .returned (.bool (decide (a = b))) ∧ Gr w w') := by
  have HU := Lib.hid hu
  have HV := Lib.hid hv
  clear hu hv
  obtain ⟨B, hB⟩ : ∃ B, B = decide (a = b) := ⟨_, rfl⟩
  rw [← hB]
  have HB := Lib.hid hB
  clear hB
  go_enter Try.func19, Try.ntmps19
  go_wp2_with fail
  refine (same_any a b _ _ _ HU.out HV.out hla hlb).mono ?_
  rintro e w1 ⟨rfl, hg⟩
  have HG := Lib.hid hg
  clear hg
  rw [← HB.out]
  go_wp2_with fail
  go_ret
  exact ⟨rfl, HG.out⟩

/-- A copy with a mark behind it. -/
def LentP (l : List Int) (w : World) (e : Ending) (w' : World) : Prop :=
  ∃ g c, e = .returned (.slice (some ⟨g, 0, none⟩) l.length c) ∧ l.length + 1 ≤ c ∧ c ≤ 9223372036854775807 ∧ w.heap.size ≤ g ∧ Row w' g (l ++ [4294967295]) ∧ Gr w w'
theorem mk_cap (n : Nat) (L : Int) (hL : L = n) (hn : n ≤ 1000000) (w : World) : (Instr.makeSlice 27 (.int .i64 0) (.int .i64 L)).run Try.prog w = .ok (.slice (some ⟨w.heap.size, 0, none⟩) 0 n) (w.alloc (.cells (zrow n) 22)) := by
  obtain ⟨i0, hi, hz0, hz1, hz2⟩ := info_parts infoU32
  subst hL
  have := run_make (P := Try.prog) w 27 22 i0 (.int .u32 0) Try.underlying27 hi hz0 .i64 .i64 0 (n : Int) (by omega) (by omega) (by rw [hz2]; omega) (by omega)
  rw [this, hz1, Int.toNat_natCast, Nat.mul_one]
  rfl
theorem own_cap (w : World) (n base : Nat) (hb : base ≤ w.heap.size) (hn : n ≤ 1000000) : Own1 (w.alloc (.cells (zrow n) 22)) base (.slice (some ⟨w.heap.size, 0, none⟩) 0 n) [] :=
  ⟨U32.nil, rfl, .inr ⟨w.heap.size, n, zrow n, rfl, hb, heap_alloc_new w _, Nat.zero_le _, by unfold maxLen; omega, by rw [zrow_size, Nat.mul_one], rfl⟩⟩

set_option maxRecDepth 100000 in
set_option maxHeartbeats 1000000 in
theorem lent_any (l : List Int) (v : Value) (w : World) (h : HasP w v l) (hl : l.length ≤ 1000) :
    Calls Try.prog 13 #[v] w (LentP l w) := by
  have HV := Lib.hid h
  obtain ⟨-, a, cap, rfl, h1, h2, -⟩ := h
  obtain ⟨n, hn⟩ : ∃ n, n = l.length := ⟨_, rfl⟩
  rw [← hn] at HV hl h1 ⊢
  have HN := Lib.hid hn
  have hmk := mk_cap (n + 1) ((n : Int) + 1) (by omega) (by omega)
  have HL1 := Lib.hid (show ([] : List Int).length + l.length ≤ 1000000 from by simp; omega)
  have HL2 := Lib.hid (show ([] ++ l : List Int).length + [(4294967295 : Int)].length ≤ 1000000 from by simp; omega)
  clear hn
  unfold LentP
  rw [← HN.out]
  go_enter Try.func13, Try.ntmps13
  go_wp2_with (first
    | (at_builtin; refine wpList_app rfl (.tmp 7) (.tmp 8) rfl rfl w.heap.size (.slice (some ⟨w.heap.size, 0, none⟩) 0 (n + 1)) [] rfl (own_cap w (n + 1) _ (Nat.le_refl _) (by omega)) (.slice a n cap) l rfl (HV.out.later (Gr.new w _)) HL1.out (Nat.le_of_lt (by simp)) ?_; intro v' w2 hown hgrow; rw [List.nil_append] at hown; have HO := Lib.hid hown; have HG := Lib.hid (show Gr w w2 from grown_own (Gr.new w _) (own_cap w (n + 1) w.heap.size (Nat.le_refl _) (by omega)) hgrow (Nat.le_refl _)); have hs2 := HG.out.size; obtain ⟨va, vc, rfl, -, -⟩ := hown.form; clear hown hgrow)
    | (at_builtin; refine wpList_app rfl (.tmp 10) (.tmp 11) rfl rfl w.heap.size (.slice va l.length vc) l rfl (HO.out.alloc _) (.slice (some ⟨w2.heap.size, 0, none⟩) 1 1) [4294967295] rfl (one_hasP' _ _ _ rfl (by omega)) HL2.out (Nat.le_trans hs2 (Nat.le_of_lt (by simp))) ?_; intro v' w3 hown hgrow; have HO3 := Lib.hid hown; have HG3 := Lib.hid (show Gr w w3 from grown_own (HG.out.alloc _) (HO.out.alloc _) hgrow (Nat.le_refl _)); obtain ⟨g3, c3, rfl, hg1, hg2, hg3, hrow⟩ := hown.row (by simp); have HR3 := Lib.hid hrow; have hc3 : n + 1 ≤ c3 := (by have h := HN.out; rw [List.length_append] at hg2; simp at hg2; omega); clear hown hgrow hg2 hrow))
  go_ret
  exact ⟨g3, c3, rfl, hc3, hg3, hg1, HR3.out, HG3.out⟩

set_option maxRecDepth 100000 in
set_option maxHeartbeats 1000000 in
theorem kept_any (g n c : Nat) (l : List Int) (v : Value) (w : World) (hn : n = l.length) (hc : n + 1 ≤ c) (hc2 : c ≤ 9223372036854775807) (hr : Row w g (l ++ [4294967295])) (h : HasP w v l) (hl : l.length ≤ 1000) :
    Calls Try.prog 16 #[.slice (some ⟨g, 0, none⟩) n c, v] w (fun e w' => e = .returned (.bool true) ∧ Gr w w') := by
  have HV := Lib.hid h
  obtain ⟨-, a, cap, rfl, h1, h2, -⟩ := h
  rw [← hn] at HV hl h1 ⊢
  have HN := Lib.hid hn
  have HR := Lib.hid hr
  have HF := Lib.hid (show HasP w (.slice (some ⟨g, 0, none⟩) n c) l from by
    have h := hr.hasP (cap := c) (by rw [List.length_append]; simp; omega) hc2
    have h2 := h.take (k := n) (by rw [List.length_append]; simp; omega)
    rw [hn, List.take_left] at h2
    rw [hn]; exact h2)
  have HCELL := Lib.hid (show w.cell? ⟨g, n, none⟩ = some (.int .u32 4294967295) from by
    have h := hr.cell (j := n) (by rw [List.length_append, hn]; simp)
    rw [Op.cf_append, if_neg (by omega), hn, Nat.sub_self] at h
    rw [hn]; exact h)
  clear hn hr
  go_enter Try.func16, Try.ntmps16
  go_wp2_with (go_at_call 19; refine (lsame_any l l _ _ _ HF.out HV.out (by rw [← HN.out]; omega) (by rw [← HN.out]; omega)).mono ?_; rintro e w1 ⟨rfl, hg⟩; have HG := Lib.hid hg; have hcell := hg.keeps HCELL.out; rw [show decide (l = l) = true from by simp]; clear hg)
  go_ret
  exact ⟨rfl, HG.out⟩

theorem four_hasP' (W : World) (x y z t : Int) (g : Nat) (hg : g = W.heap.size) (hx : U32 [x, y, z, t]) : HasP (W.alloc (.cells #[.int .u32 x, .int .u32 y, .int .u32 z, .int .u32 t] 22)) (.slice (some ⟨g, 0, none⟩) 4 4) [x, y, z, t] := by
  subst hg
  refine ⟨hx, _, 4, rfl, Nat.le_refl _, by omega, fun i hi => ⟨_, 0, rfl, ?_⟩⟩
  have : i = 0 ∨ i = 1 ∨ i = 2 ∨ i = 3 := by simp at hi; omega
  rcases this with rfl | rfl | rfl | rfl <;> simp [go_sem]
theorem u32_dec {l : List Int} (h : l.all (fun x => decide (0 ≤ x) && decide (x < 4294967296)) = true) : U32 l := fun x hx => by
  have := List.all_eq_true.1 h x hx
  simpa using this

end Go.Proofs.Ytjbfghnihnmpjaa
/- The law PolyAdds. -/
namespace Go.Proofs.Ytjbfghnihnmpjaa
open Go.RowKit
set_option linter.unusedVariables false

theorem lent_hasP {W : World} {g n c : Nat} {l : List Int} (h : Row W g (l ++ [4294967295])) (hn : n = l.length) (hc : n + 1 ≤ c) (hc2 : c ≤ 9223372036854775807) : HasP W (.slice (some ⟨g, 0, none⟩) n c) l := by
  have h1 := h.hasP (cap := c) (by rw [List.length_append]; simp; omega) hc2
  have h2 := h1.take (k := n) (by rw [List.length_append]; simp; omega)
  rw [hn, List.take_left] at h2
  rw [hn]; exact h2
theorem fresh_ne {x : Option Addr} {n c B g : Nat} (h : ∀ p, x = some p → B ≤ p.block) (hg : g < B) : (Value.slice x n c).ownBlock ≠ some g := by
  cases x with
  | none => simp [Value.ownBlock]
  | some p => intro e; have := h p rfl; have h2 : p.block = g := Option.some.inj e; omega
end Go.Proofs.Ytjbfghnihnmpjaa
/- The arguments of the laws: slices of numbers of 32 bits; the fields of a Case. -/
namespace Go.Proofs.Ytjbfghnihnmpjaa
open Go.ChangeShapes Go.WideShapes Go.ChangeAt Go.RowKit Go.Joins Go.Deep
set_option linter.unusedVariables false

/-- The cells of an argument hold numbers. -/
theorem cells_hasP {H : Type} {enc : TypeId × Value → H} {w : World} {base : Nat} {spare : Nat → Bool} {held : Bool} {fuel : Nat} {v : Value} {x : DataW H × List MemPlace}
    (h : DataW.trod enc Try.prog w base spare held fuel 27 [v] = some x) : ∃ l : List Int, HasP w v l ∧ l.length ≤ 9223372036854775807 := by
  rcases open_ints Try.underlying27 Try.underlying22 (by kernel_rfl) h with ⟨hv, _⟩ | ⟨a, len, cap, zs, hv, _, hl, hm, hz, _, hc, hw⟩
  · simp at hv
    subst hv
    exact ⟨[], HasP.nil w, by simp⟩
  · simp at hv
    subst hv
    have hlz : len ≤ zs.length := by rw [hz]; split <;> omega
    have hlen : (zs.take len).length = len := by rw [List.length_take]; omega
    unfold maxLen at hm
    refine ⟨zs.take len, ⟨fun y hy => ?_, some a, cap, by rw [hlen], by rw [hlen]; exact hl, by omega, fun i hi => ?_⟩, by rw [hlen]; omega⟩
    · have := bounds_u32 (hw y (List.mem_of_mem_take hy))
      omega
    · rw [hlen] at hi
      have h0 := hc 0 (by omega)
      obtain ⟨g, o, s⟩ := a
      have hs : s = none := by
        cases s with
        | none => rfl
        | some s =>
          have e : (⟨g, o, some s⟩ : Addr).add 0 = ⟨g, o, some s⟩ := rfl
          rw [e] at h0
          simp only [World.cell?] at h0
          split at h0 <;> simp_all
      subst hs
      refine ⟨g, o, rfl, ?_⟩
      have hci := hc i (by omega)
      have e2 : (⟨g, o, none⟩ : Addr).add i = ⟨g, o + i, none⟩ := addr_add rfl _ rfl
      rw [e2] at hci
      rw [hci, Op.cf_take, if_pos hi, ← Op.cf_at]; rfl
theorem open_p {H : Type} {enc : TypeId × Value → H} {w : World} {base : Nat} {spare : Nat → Bool} {held : Bool} {r : Reach} {b0 : Nat} {v : Value} {d : DataW H} {p : List MemPlace}
    (hv : Value.okWide Try.prog w r b0 27 v) (h : DataW.Trod enc Try.prog w base spare held 27 v d p) : ∃ l : List Int, HasP w v l ∧ l.length ≤ 9223372036854775807 := by
  obtain ⟨a, n, c, rfl⟩ := okWide_slice Try.underlying27 hv
  obtain ⟨fuel, hf⟩ := h
  exact cells_hasP hf
theorem own : ownKnob Try.prog.godebug = none := by kernel_rfl
theorem laidOut : laidOutB Try.prog = true := by kernel_rfl
end Go.Proofs.Ytjbfghnihnmpjaa
