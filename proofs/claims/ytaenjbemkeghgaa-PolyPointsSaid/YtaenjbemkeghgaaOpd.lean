/- Remainders, powers, the greatest common divisor with the last element 1. No Go here. -/
import Derived.Test.YtaenjbemkeghgaaOpc
namespace Op
set_option linter.unusedVariables false
/-- x and y differ by a multiple of f, modulo m. -/
def MC (m : Int) (f x y : List Int) : Prop := ∃ q, Cg m x (add (mul q f) y)
theorem MC.of {m : Int} {f x y : List Int} (h : Cg m x y) : MC m f x y := ⟨[], h.trans (Cg.of (fun i => by simp))⟩
theorem MC.refl (m : Int) (f x : List Int) : MC m f x x := MC.of (Cg.refl m x)
theorem MC.symm {m : Int} {f x y : List Int} (h : MC m f x y) : MC m f y x := by
  obtain ⟨q, hq⟩ := h
  refine ⟨sc (-1) q, fun i => ?_⟩
  have h0 := hq i
  rw [cf_add] at h0
  rw [cf_add, mul_sc_left]
  have e : cf y i - (-1 * cf (mul q f) i + cf x i) = -(cf x i - (cf (mul q f) i + cf y i)) := by omega
  rw [e]; exact Int.dvd_neg.2 h0
theorem MC.trans {m : Int} {f x y z : List Int} (h : MC m f x y) (k : MC m f y z) : MC m f x z := by
  obtain ⟨q, hq⟩ := h
  obtain ⟨p, hp⟩ := k
  refine ⟨add q p, (hq.trans ((Cg.refl m _).add hp)).trans (Cg.of (fun i => ?_))⟩
  rw [cf_add, cf_add, cf_add, mul_add_left]; omega
theorem MC.mul {m : Int} {f x y z w : List Int} (h : MC m f x y) (k : MC m f z w) : MC m f (mul x z) (mul y w) := by
  obtain ⟨q, hq⟩ := h
  obtain ⟨p, hp⟩ := k
  refine ⟨add (Op.mul q z) (Op.mul y p), ?_⟩
  refine (hq.mul (Cg.refl m z)).trans ?_
  refine (cg_distl m _ _ z).trans ?_
  have h1 : Cg m (Op.mul (Op.mul q f) z) (Op.mul (Op.mul q z) f) :=
    ((cg_assoc m q f z).trans ((Cg.refl m q).mul (cg_swap m f z))).trans (cg_assoc m q z f).symm
  have h2 : Cg m (Op.mul y z) (Op.add (Op.mul (Op.mul y p) f) (Op.mul y w)) :=
    (((Cg.refl m y).mul hp).trans (cg_distr m _ _ y)).trans ((cg_assoc m y p f).symm.add (Cg.refl m _))
  refine (h1.add h2).trans ?_
  refine Cg.trans ?_ ((cg_distl m (Op.mul q z) (Op.mul y p) f).symm.add (Cg.refl m _))
  exact Cg.of (fun i => by rw [cf_add, cf_add, cf_add, cf_add, Int.add_assoc])
/-- The remainder. -/
def Rem (m : Int) (f x r : List Int) : Prop := Nf m r ∧ r.length < f.length ∧ MC m f x r
theorem Rem.unique {m : Int} (hm : 0 < m) {f x r r' : List Int} (hu : Un m (ld f)) (h : Rem m f x r) (k : Rem m f x r') : r = r' := by
  obtain ⟨h1, h2, q, h3⟩ := h
  obtain ⟨k1, k2, p, k3⟩ := k
  have := div_cg (b := f) (n := f.length - 1) (fun i hi => by rw [cf_out (by omega)]; exact ⟨0, (Int.mul_zero m).symm⟩) hu (by omega) (by omega) (h3.symm.trans k3)
  exact nf_eq hm h1 k1 this.2
theorem Dv.rem {m : Int} {a b q r : List Int} (h : Dv m a b q r) : Rem m b a r := ⟨h.2.1, h.2.2.1, q, h.2.2.2⟩
/-- Powers. -/
def pw (a : List Int) : Nat → List Int
  | 0 => [1]
  | n + 1 => mul (pw a n) a
theorem pw_mc {m : Int} {f a b : List Int} (h : MC m f a b) : ∀ n, MC m f (pw a n) (pw b n)
  | 0 => MC.refl m f [1]
  | n + 1 => (pw_mc h n).mul h
theorem pw_sq (m : Int) (f a : List Int) : ∀ n, MC m f (pw a (2 * n)) (pw (mul a a) n)
  | 0 => MC.refl m f [1]
  | n + 1 => by
    have e : pw a (2 * (n + 1)) = mul (mul (pw a (2 * n)) a) a := rfl
    rw [e]
    exact (MC.of (cg_assoc m _ a a)).trans ((pw_sq m f a n).mul (MC.refl m f _))
/-- Powers by squaring. -/
def PwI (m : Int) (f a : List Int) (N : Nat) (res sq : List Int) (n : Nat) : Prop := MC m f (pw a N) (mul res (pw sq n))
theorem PwI.even {m : Int} {f a : List Int} {N : Nat} {res sq sq' : List Int} {n k : Nat} (hn : n = 2 * k) (hs : MC m f (mul sq sq) sq') (h : PwI m f a N res sq n) : PwI m f a N res sq' k := by
  subst hn
  exact MC.trans h ((MC.refl m f res).mul ((pw_sq m f sq k).trans (pw_mc hs k)))
theorem PwI.odd {m : Int} {f a : List Int} {N : Nat} {res res' sq sq' : List Int} {n k : Nat} (hn : n = 2 * k + 1) (hr : MC m f (mul res sq) res') (hs : MC m f (mul sq sq) sq') (h : PwI m f a N res sq n) : PwI m f a N res' sq' k := by
  subst hn
  refine MC.trans h ?_
  have e : pw sq (2 * k + 1) = mul (pw sq (2 * k)) sq := rfl
  rw [e]
  refine ((MC.refl m f res).mul (((pw_sq m f sq k).trans (pw_mc hs k)).mul (MC.refl m f sq))).trans ?_
  refine ((MC.refl m f res).mul (MC.of (cg_swap m _ sq))).trans ?_
  exact (MC.of (cg_assoc m res sq _).symm).trans (hr.mul (MC.refl m f _))
theorem PwI.start {m : Int} {f a : List Int} {N : Nat} {res sq : List Int} (hr : MC m f [1] res) (hs : MC m f a sq) : PwI m f a N res sq N :=
  ((pw_mc hs N).trans (MC.of (Cg.of (fun i => (mul_one _ i).symm)))).trans (hr.mul (MC.refl m f _))
theorem PwI.done {m : Int} {f a : List Int} {N : Nat} {res sq : List Int} (h : PwI m f a N res sq 0) : MC m f (pw a N) res :=
  MC.trans h (MC.of (Cg.of (fun i => by
    rw [mul_comm']; exact mul_one res i)))
/-- The greatest common divisor whose last element is 1. -/
def Gd (m : Int) (a b g : List Int) : Prop := ∃ x, Eu m a b x ∧ ((x = [] ∧ g = []) ∨ (x ≠ [] ∧ ∃ v, m ∣ ld x * v - 1 ∧ g = nf m (sc v x)))
theorem inv_cg {m u v w : Int} (h : m ∣ u * v - 1) (k : m ∣ u * w - 1) : m ∣ v - w := by
  have e : v - w = (u * v - 1) * w - (u * w - 1) * v := by
    rw [Int.sub_mul, Int.sub_mul, Int.mul_right_comm u v w]; omega
  rw [e]; exact Int.dvd_sub (Int.dvd_mul_of_dvd_left h) (Int.dvd_mul_of_dvd_left k)
theorem Gd.unique {m : Int} (hF : Fld m) (hm : 0 < m) {a b g h : List Int} (hb : Nf m b) (k : Gd m a b g) (l : Gd m a b h) : g = h := by
  obtain ⟨x, hx, hx'⟩ := k
  obtain ⟨y, hy, hy'⟩ := l
  obtain rfl := Eu.unique hF hm hb hx hy
  rcases hx' with ⟨h1, h2⟩ | ⟨h1, v, h2, h3⟩
  · rcases hy' with ⟨k1, k2⟩ | ⟨k1, _⟩
    · rw [h2, k2]
    · exact absurd h1 k1
  · rcases hy' with ⟨k1, _⟩ | ⟨k1, w, k2, k3⟩
    · exact absurd k1 h1
    · rw [h3, k3]; exact nf_iff hm (Cg.scm x (inv_cg h2 k2))
theorem nf_len_unit {m : Int} (hm : 2 ≤ m) {x : List Int} {v : Int} (hx : x ≠ []) (hv : m ∣ ld x * v - 1) : (nf m (sc v x)).length = x.length ∧ ld (nf m (sc v x)) = 1 := by
  have hl : x.length ≠ 0 := by cases x with
    | nil => exact absurd rfl hx
    | cons => simp
  have h1 : cf (red m (sc v x)) (x.length - 1) = 1 := by
    rw [cf_red, cf_sc, Int.mul_comm]
    have h2 : (ld x * v) % m = 1 % m := Int.emod_eq_emod_iff_emod_sub_eq_zero.2 (Int.emod_eq_zero_of_dvd hv)
    show (ld x * v) % m = 1
    rw [h2]; exact Int.emod_eq_of_lt (by omega) (by omega)
  have h3 : (red m (sc v x)).length = x.length := by rw [red_len, sc_len]
  have h4 : nf m (sc v x) = red m (sc v x) := tz_id (fun _ => by rw [h3, h1]; omega)
  rw [h4]
  exact ⟨h3, by unfold ld; rw [h3]; exact h1⟩
end Op
