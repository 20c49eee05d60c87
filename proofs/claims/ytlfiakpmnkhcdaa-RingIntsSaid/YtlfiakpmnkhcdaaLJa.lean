import Derived.Test.YtlfiakpmnkhcdaaLZA
namespace Op
set_option linter.unusedVariables false
def MC (m : Int) (f x y : List Int) : Prop := ∃ q, Cg m x (add (mul q f) y)
theorem MC.of {m : Int} {f x y : List Int} (h : Cg m x y) : MC m f x y := ⟨[], h.trans (Cg.of (fun i => by simp))⟩
theorem MC.refl (m : Int) (f x : List Int) : MC m f x x := MC.of (Cg.refl m x)
theorem MC.symm {m : Int} {f x y : List Int} (h : MC m f x y) : MC m f y x := by
  obtain ⟨q, hq⟩ := h
  refine ⟨sc (-1) q, fun i => ?_⟩
  have h0 := hq i
  rw [cf_add] at h0
  rw [cf_add, mul_sc_left]
  have e : cf y i - (-1 * cf (mul q f) i + cf x i) = -(cf x i - (cf (mul q f) i + cf y i)) := by omega
  rw [e]; exact Int.dvd_neg.2 h0
theorem MC.trans {m : Int} {f x y z : List Int} (h : MC m f x y) (k : MC m f y z) : MC m f x z := by
  obtain ⟨q, hq⟩ := h
  obtain ⟨p, hp⟩ := k
  refine ⟨add q p, (hq.trans ((Cg.refl m _).add hp)).trans (Cg.of (fun i => ?_))⟩
  rw [cf_add, cf_add, cf_add, mul_add_left]; omega
theorem MC.mul {m : Int} {f x y z w : List Int} (h : MC m f x y) (k : MC m f z w) : MC m f (mul x z) (mul y w) := by
  obtain ⟨q, hq⟩ := h
  obtain ⟨p, hp⟩ := k
  refine ⟨add (Op.mul q z) (Op.mul y p), ?_⟩
  refine (hq.mul (Cg.refl m z)).trans ?_
  refine (cg_distl m _ _ z).trans ?_
  have h1 : Cg m (Op.mul (Op.mul q f) z) (Op.mul (Op.mul q z) f) :=
    ((cg_assoc m q f z).trans ((Cg.refl m q).mul (cg_swap m f z))).trans (cg_assoc m q z f).symm
  have h2 : Cg m (Op.mul y z) (Op.add (Op.mul (Op.mul y p) f) (Op.mul y w)) :=
    (((Cg.refl m y).mul hp).trans (cg_distr m _ _ y)).trans ((cg_assoc m y p f).symm.add (Cg.refl m _))
  refine (h1.add h2).trans ?_
  refine Cg.trans ?_ ((cg_distl m (Op.mul q z) (Op.mul y p) f).symm.add (Cg.refl m _))
  exact Cg.of (fun i => by rw [cf_add, cf_add, cf_add, cf_add, Int.add_assoc])
theorem MC.add {m : Int} {f x y z w : List Int} (h : MC m f x y) (k : MC m f z w) : MC m f (Op.add x z) (Op.add y w) := by
  obtain ⟨q, hq⟩ := h
  obtain ⟨r, hr⟩ := k
  refine ⟨Op.add q r, fun i => ?_⟩
  have h1 := hq i
  have h2 := hr i
  simp only [cf_add, mul_add_left] at h1 h2 ⊢
  have e : cf x i + cf z i - (cf (Op.mul q f) i + cf (Op.mul r f) i + (cf y i + cf w i)) = (cf x i - (cf (Op.mul q f) i + cf y i)) + (cf z i - (cf (Op.mul r f) i + cf w i)) := by omega
  rw [e]; exact Int.dvd_add h1 h2
theorem MC.sc {m : Int} {f x y : List Int} (c : Int) (h : MC m f x y) : MC m f (Op.sc c x) (Op.sc c y) := by
  obtain ⟨q, hq⟩ := h
  refine ⟨Op.sc c q, fun i => ?_⟩
  have h1 := hq i
  simp only [cf_add, mul_sc_left, cf_sc] at h1 ⊢
  have e : c * cf x i - (c * cf (Op.mul q f) i + c * cf y i) = c * (cf x i - (cf (Op.mul q f) i + cf y i)) := by rw [Int.mul_sub, Int.mul_add]
  rw [e]; exact Int.dvd_mul_of_dvd_right h1
end Op
namespace Oq
open Op
set_option linter.unusedVariables false
set_option linter.unusedSectionVars false
section
variable {R : Type} [Add R] [Mul R] [Neg R] [Zero R] [One R]
structure Laws (R : Type) [Add R] [Mul R] [Neg R] [Zero R] [One R] (k : Int → R) : Prop where
  ac : ∀ a b : R, a + b = b + a
  aa : ∀ a b c : R, a + b + c = a + (b + c)
  az : ∀ a : R, a + 0 = a
  an : ∀ a : R, a + -a = 0
  mc : ∀ a b : R, a * b = b * a
  ma : ∀ a b c : R, a * b * c = a * (b * c)
  mo : ∀ a : R, a * 1 = a
  md : ∀ a b c : R, a * (b + c) = a * b + a * c
  ka : ∀ a b : Int, k (a + b) = k a + k b
  km : ∀ a b : Int, k (a * b) = k a * k b
  k1 : k 1 = 1
variable {k : Int → R}
def pw (a : R) : Nat → R
  | 0 => 1
  | n + 1 => pw a n * a
def Sm : Nat → (Nat → R) → R
  | 0, _ => 0
  | n + 1, f => Sm n f + f n
end
def st (m : Int) (f : List Int) : Setoid (List Int) := ⟨MC m f, ⟨MC.refl m f, MC.symm, MC.trans⟩⟩
def Q (m : Int) (f : List Int) : Type := Quotient (st m f)
def cl (m : Int) (f a : List Int) : Q m f := Quotient.mk (st m f) a
variable {m : Int} {f : List Int}
theorem cl_eq {a b : List Int} : cl m f a = cl m f b ↔ MC m f a b := ⟨fun h => Quotient.exact (s := st m f) h, fun h => Quotient.sound (s := st m f) h⟩
theorem cl_cg {a b : List Int} (h : Cg m a b) : cl m f a = cl m f b := cl_eq.2 (MC.of h)
theorem cl_cf {a b : List Int} (h : ∀ i, cf a i = cf b i) : cl m f a = cl m f b := cl_cg (Cg.of h)
instance : Add (Q m f) := ⟨Quotient.lift₂ (s₁ := st m f) (s₂ := st m f) (fun a b => cl m f (add a b)) (fun _ _ _ _ h k => cl_eq.2 (MC.add h k))⟩
instance : Mul (Q m f) := ⟨Quotient.lift₂ (s₁ := st m f) (s₂ := st m f) (fun a b => cl m f (mul a b)) (fun _ _ _ _ h k => cl_eq.2 (MC.mul h k))⟩
instance : Neg (Q m f) := ⟨Quotient.lift (s := st m f) (fun a => cl m f (sc (-1) a)) (fun _ _ h => cl_eq.2 (MC.sc _ h))⟩
instance : Zero (Q m f) := ⟨cl m f []⟩
instance : One (Q m f) := ⟨cl m f [1]⟩
theorem cl_ind {motive : Q m f → Prop} (h : ∀ a, motive (cl m f a)) (q : Q m f) : motive q := Quotient.ind (s := st m f) h q
def kk (m : Int) (f : List Int) (c : Int) : Q m f := cl m f [c]
theorem laws (m : Int) (f : List Int) : Laws (Q m f) (kk m f) where
  ac a b := by
    revert a b; refine cl_ind fun a => cl_ind fun b => ?_
    exact cl_cg (cg_addc m a b)
  aa a b c := by
    revert a b c; refine cl_ind fun a => cl_ind fun b => cl_ind fun c => ?_
    exact cl_cf fun i => by simp only [cf_add]; omega
  az a := by
    revert a; refine cl_ind fun a => ?_
    exact cl_cg (cg_addn m a)
  an a := by
    revert a; refine cl_ind fun a => ?_
    exact cl_cf fun i => by simp only [cf_add, cf_sc, cf_nil]; omega
  mc a b := by
    revert a b; refine cl_ind fun a => cl_ind fun b => ?_
    exact cl_cg (cg_swap m a b)
  ma a b c := by
    revert a b c; refine cl_ind fun a => cl_ind fun b => cl_ind fun c => ?_
    exact cl_cg (cg_assoc m a b c)
  mo a := by
    revert a; refine cl_ind fun a => ?_
    exact cl_cg ((cg_scn m 1 a).trans (Cg.of fun i => by rw [cf_sc, Int.one_mul]))
  md a b c := by
    revert a b c; refine cl_ind fun a => cl_ind fun b => cl_ind fun c => ?_
    exact cl_cg (cg_distr m b c a)
  ka a b := cl_cf fun i => by cases i <;> simp [Op.add]
  km a b := cl_cf fun i => by
    cases i with
    | zero => simp [Op.mul]
    | succ i => rw [cf_mul_succ]; simp
  k1 := rfl
def X (m : Int) (f : List Int) : Q m f := cl m f [0, 1]
end Oq
