import Derived.Test.YtlfiakpmnkhcdaaGreatLZA
/- Polynomials modulo m and f as a ring (from the texts of layers 5 and 7). No Go here. -/
namespace Op
set_option linter.unusedVariables false
/-- x and y differ by a multiple of f, modulo m. -/
def MC (m : Int) (f x y : List Int) : Prop := ∃ q, Cg m x (add (mul q f) y)
theorem MC.of {m : Int} {f x y : List Int} (h : Cg m x y) : MC m f x y := ⟨[], h.trans (Cg.of (fun i => by simp))⟩
theorem MC.refl (m : Int) (f x : List Int) : MC m f x x := MC.of (Cg.refl m x)
theorem MC.symm {m : Int} {f x y : List Int} (h : MC m f x y) : MC m f y x := by
  obtain ⟨q, hq⟩ := h
  refine ⟨sc (-1) q, fun i => ?_⟩
  have h0 := hq i
  rw [cf_add] at h0
  rw [cf_add, mul_sc_left]
  have e : cf y i - (-1 * cf (mul q f) i + cf x i) = -(cf x i - (cf (mul q f) i + cf y i)) := by omega
  rw [e]; exact Int.dvd_neg.2 h0
theorem MC.trans {m : Int} {f x y z : List Int} (h : MC m f x y) (k : MC m f y z) : MC m f x z := by
  obtain ⟨q, hq⟩ := h
  obtain ⟨p, hp⟩ := k
  refine ⟨add q p, (hq.trans ((Cg.refl m _).add hp)).trans (Cg.of (fun i => ?_))⟩
  rw [cf_add, cf_add, cf_add, mul_add_left]; omega
theorem MC.mul {m : Int} {f x y z w : List Int} (h : MC m f x y) (k : MC m f z w) : MC m f (mul x z) (mul y w) := by
  obtain ⟨q, hq⟩ := h
  obtain ⟨p, hp⟩ := k
  refine ⟨add (Op.mul q z) (Op.mul y p), ?_⟩
  refine (hq.mul (Cg.refl m z)).trans ?_
  refine (cg_distl m _ _ z).trans ?_
  have h1 : Cg m (Op.mul (Op.mul q f) z) (Op.mul (Op.mul q z) f) :=
    ((cg_assoc m q f z).trans ((Cg.refl m q).mul (cg_swap m f z))).trans (cg_assoc m q z f).symm
  have h2 : Cg m (Op.mul y z) (Op.add (Op.mul (Op.mul y p) f) (Op.mul y w)) :=
    (((Cg.refl m y).mul hp).trans (cg_distr m _ _ y)).trans ((cg_assoc m y p f).symm.add (Cg.refl m _))
  refine (h1.add h2).trans ?_
  refine Cg.trans ?_ ((cg_distl m (Op.mul q z) (Op.mul y p) f).symm.add (Cg.refl m _))
  exact Cg.of (fun i => by rw [cf_add, cf_add, cf_add, cf_add, Int.add_assoc])
/-- The remainder. -/
def Rem (m : Int) (f x r : List Int) : Prop := Nf m r ∧ r.length < f.length ∧ MC m f x r
theorem Rem.unique {m : Int} (hm : 0 < m) {f x r r' : List Int} (hu : Un m (ld f)) (h : Rem m f x r) (k : Rem m f x r') : r = r' := by
  obtain ⟨h1, h2, q, h3⟩ := h
  obtain ⟨k1, k2, p, k3⟩ := k
  have := div_cg (b := f) (n := f.length - 1) (fun i hi => by rw [cf_out (by omega)]; exact ⟨0, (Int.mul_zero m).symm⟩) hu (by omega) (by omega) (h3.symm.trans k3)
  exact nf_eq hm h1 k1 this.2
theorem MC.add {m : Int} {f x y z w : List Int} (h : MC m f x y) (k : MC m f z w) : MC m f (Op.add x z) (Op.add y w) := by
  obtain ⟨q, hq⟩ := h
  obtain ⟨r, hr⟩ := k
  refine ⟨Op.add q r, fun i => ?_⟩
  have h1 := hq i
  have h2 := hr i
  simp only [cf_add, mul_add_left] at h1 h2 ⊢
  have e : cf x i + cf z i - (cf (Op.mul q f) i + cf (Op.mul r f) i + (cf y i + cf w i)) = (cf x i - (cf (Op.mul q f) i + cf y i)) + (cf z i - (cf (Op.mul r f) i + cf w i)) := by omega
  rw [e]; exact Int.dvd_add h1 h2
theorem MC.sc {m : Int} {f x y : List Int} (c : Int) (h : MC m f x y) : MC m f (Op.sc c x) (Op.sc c y) := by
  obtain ⟨q, hq⟩ := h
  refine ⟨Op.sc c q, fun i => ?_⟩
  have h1 := hq i
  simp only [cf_add, mul_sc_left, cf_sc] at h1 ⊢
  have e : c * cf x i - (c * cf (Op.mul q f) i + c * cf y i) = c * (cf x i - (cf (Op.mul q f) i + cf y i)) := by rw [Int.mul_sub, Int.mul_add]
  rw [e]; exact Int.dvd_mul_of_dvd_right h1
end Op
namespace Oq
open Op
set_option linter.unusedVariables false
set_option linter.unusedSectionVars false
section
variable {R : Type} [Add R] [Mul R] [Neg R] [Zero R] [One R]

structure Laws (R : Type) [Add R] [Mul R] [Neg R] [Zero R] [One R] (k : Int → R) : Prop where
  ac : ∀ a b : R, a + b = b + a
  aa : ∀ a b c : R, a + b + c = a + (b + c)
  az : ∀ a : R, a + 0 = a
  an : ∀ a : R, a + -a = 0
  mc : ∀ a b : R, a * b = b * a
  ma : ∀ a b c : R, a * b * c = a * (b * c)
  mo : ∀ a : R, a * 1 = a
  md : ∀ a b c : R, a * (b + c) = a * b + a * c
  ka : ∀ a b : Int, k (a + b) = k a + k b
  km : ∀ a b : Int, k (a * b) = k a * k b
  k1 : k 1 = 1
variable {k : Int → R}

theorem Laws.za (L : Laws R k) (a : R) : 0 + a = a := by rw [L.ac, L.az]
theorem Laws.na (L : Laws R k) (a : R) : -a + a = 0 := by rw [L.ac, L.an]
theorem Laws.om (L : Laws R k) (a : R) : 1 * a = a := by rw [L.mc, L.mo]
theorem Laws.dm (L : Laws R k) (a b c : R) : (b + c) * a = b * a + c * a := by rw [L.mc, L.md, L.mc a b, L.mc a c]
theorem Laws.cancel (L : Laws R k) {a b c : R} (h : a + b = a + c) : b = c := by
  have e : -a + (a + b) = -a + (a + c) := by rw [h]
  rwa [← L.aa, ← L.aa, L.na, L.za, L.za] at e
theorem Laws.mz (L : Laws R k) (a : R) : a * 0 = 0 := by
  have h : a * 0 + a * 0 = a * 0 + 0 := by rw [← L.md, L.az, L.az]
  exact L.cancel h
theorem Laws.zm (L : Laws R k) (a : R) : 0 * a = 0 := by rw [L.mc, L.mz]
theorem Laws.neg_of (L : Laws R k) {a b : R} (h : a + b = 0) : b = -a := L.cancel (a := a) (by rw [h, L.an])
theorem Laws.nn (L : Laws R k) (a : R) : - -a = a := (L.neg_of (L.na a)).symm
theorem Laws.mn (L : Laws R k) (a b : R) : a * -b = -(a * b) := L.neg_of (by rw [← L.md, L.an, L.mz])
theorem Laws.nm (L : Laws R k) (a b : R) : -a * b = -(a * b) := by rw [L.mc, L.mn, L.mc]
theorem Laws.n0 (L : Laws R k) : -(0 : R) = 0 := (L.neg_of (L.az 0)).symm
theorem Laws.k0 (L : Laws R k) : k 0 = 0 := by
  have h : k 0 + k 0 = k 0 + 0 := by rw [← L.ka, L.az]; rfl
  exact L.cancel h
theorem Laws.kn (L : Laws R k) (a : Int) : k (-a) = -k a := L.neg_of (by rw [← L.ka, Int.add_right_neg, L.k0])
theorem Laws.ks (L : Laws R k) (a b : Int) : k (a - b) = k a + -k b := by rw [Int.sub_eq_add_neg, L.ka, L.kn]
theorem Laws.mul4 (L : Laws R k) (a b c d : R) : a * b * (c * d) = a * c * (b * d) := by
  rw [L.ma, L.ma, ← L.ma b, L.mc b, L.ma]
theorem Laws.add4 (L : Laws R k) (a b c d : R) : a + b + (c + d) = a + c + (b + d) := by
  rw [L.aa, L.aa, ← L.aa b, L.ac b, L.aa]
/-- Powers. -/
def pw (a : R) : Nat → R
  | 0 => 1
  | n + 1 => pw a n * a
theorem Laws.pw_add (L : Laws R k) (a : R) (m : Nat) : ∀ n, pw a (m + n) = pw a m * pw a n
  | 0 => by rw [pw, L.mo]; rfl
  | n + 1 => by rw [← Nat.add_assoc, pw, L.pw_add a m n, pw, L.ma]
/-- Sums. -/
def Sm : Nat → (Nat → R) → R
  | 0, _ => 0
  | n + 1, f => Sm n f + f n
theorem Sm_cong {f g : Nat → R} : ∀ {n : Nat}, (∀ j, j < n → f j = g j) → Sm n f = Sm n g
  | 0, _ => rfl
  | n + 1, h => by rw [Sm, Sm, Sm_cong (fun j hj => h j (by omega)), h n (by omega)]
theorem Laws.Sm_add (L : Laws R k) (f g : Nat → R) : ∀ n, Sm n (fun j => f j + g j) = Sm n f + Sm n g
  | 0 => by simp only [Sm]; rw [L.az]
  | n + 1 => by simp only [Sm]; rw [L.Sm_add f g n, L.add4]
theorem Laws.Sm_mul (L : Laws R k) (c : R) (f : Nat → R) : ∀ n, Sm n (fun j => f j * c) = Sm n f * c
  | 0 => by simp only [Sm]; rw [L.zm]
  | n + 1 => by simp only [Sm]; rw [L.Sm_mul c f n, L.dm]
theorem Laws.Sm_left (L : Laws R k) (f : Nat → R) : ∀ n, Sm (n + 1) f = f 0 + Sm n (fun j => f (j + 1))
  | 0 => by simp only [Sm]; rw [L.az, L.za]
  | n + 1 => by rw [Sm, L.Sm_left f n, Sm, L.aa]
theorem Laws.Sm_zero (L : Laws R k) {f : Nat → R} : ∀ {n : Nat}, (∀ j, j < n → f j = 0) → Sm n f = 0
  | 0, _ => rfl
  | n + 1, h => by rw [Sm, L.Sm_zero (fun j hj => h j (by omega)), h n (by omega), L.az]

/-- The value of a polynomial. -/
def evR (k : Int → R) : List Int → R → R
  | [], _ => 0
  | c :: l, x => k c + x * evR k l x
end
def st (m : Int) (f : List Int) : Setoid (List Int) := ⟨MC m f, ⟨MC.refl m f, MC.symm, MC.trans⟩⟩
/-- The polynomials modulo m and f. -/
def Q (m : Int) (f : List Int) : Type := Quotient (st m f)
def cl (m : Int) (f a : List Int) : Q m f := Quotient.mk (st m f) a
variable {m : Int} {f : List Int}
theorem cl_eq {a b : List Int} : cl m f a = cl m f b ↔ MC m f a b := ⟨fun h => Quotient.exact (s := st m f) h, fun h => Quotient.sound (s := st m f) h⟩
theorem cl_cg {a b : List Int} (h : Cg m a b) : cl m f a = cl m f b := cl_eq.2 (MC.of h)
theorem cl_cf {a b : List Int} (h : ∀ i, cf a i = cf b i) : cl m f a = cl m f b := cl_cg (Cg.of h)
instance : Add (Q m f) := ⟨Quotient.lift₂ (s₁ := st m f) (s₂ := st m f) (fun a b => cl m f (add a b)) (fun _ _ _ _ h k => cl_eq.2 (MC.add h k))⟩
instance : Mul (Q m f) := ⟨Quotient.lift₂ (s₁ := st m f) (s₂ := st m f) (fun a b => cl m f (mul a b)) (fun _ _ _ _ h k => cl_eq.2 (MC.mul h k))⟩
instance : Neg (Q m f) := ⟨Quotient.lift (s := st m f) (fun a => cl m f (sc (-1) a)) (fun _ _ h => cl_eq.2 (MC.sc _ h))⟩
instance : Zero (Q m f) := ⟨cl m f []⟩
instance : One (Q m f) := ⟨cl m f [1]⟩
theorem cl_add (a b : List Int) : cl m f a + cl m f b = cl m f (add a b) := rfl
theorem cl_neg (a : List Int) : -cl m f a = cl m f (sc (-1) a) := rfl
theorem cl_one : (1 : Q m f) = cl m f [1] := rfl
theorem cl_ind {motive : Q m f → Prop} (h : ∀ a, motive (cl m f a)) (q : Q m f) : motive q := Quotient.ind (s := st m f) h q
/-- The integers. -/
def kk (m : Int) (f : List Int) (c : Int) : Q m f := cl m f [c]

theorem laws (m : Int) (f : List Int) : Laws (Q m f) (kk m f) where
  ac a b := by
    revert a b; refine cl_ind fun a => cl_ind fun b => ?_
    exact cl_cg (cg_addc m a b)
  aa a b c := by
    revert a b c; refine cl_ind fun a => cl_ind fun b => cl_ind fun c => ?_
    exact cl_cf fun i => by simp only [cf_add]; omega
  az a := by
    revert a; refine cl_ind fun a => ?_
    exact cl_cg (cg_addn m a)
  an a := by
    revert a; refine cl_ind fun a => ?_
    exact cl_cf fun i => by simp only [cf_add, cf_sc, cf_nil]; omega
  mc a b := by
    revert a b; refine cl_ind fun a => cl_ind fun b => ?_
    exact cl_cg (cg_swap m a b)
  ma a b c := by
    revert a b c; refine cl_ind fun a => cl_ind fun b => cl_ind fun c => ?_
    exact cl_cg (cg_assoc m a b c)
  mo a := by
    revert a; refine cl_ind fun a => ?_
    exact cl_cg ((cg_scn m 1 a).trans (Cg.of fun i => by rw [cf_sc, Int.one_mul]))
  md a b c := by
    revert a b c; refine cl_ind fun a => cl_ind fun b => cl_ind fun c => ?_
    exact cl_cg (cg_distr m b c a)
  ka a b := cl_cf fun i => by cases i <;> simp [Op.add]
  km a b := cl_cf fun i => by
    cases i with
    | zero => simp [Op.mul]
    | succ i => rw [cf_mul_succ]; simp
  k1 := rfl
theorem k_m (m : Int) (f : List Int) : kk m f m = 0 := cl_cg fun i => by
  cases i with
  | zero => exact ⟨1, by simp⟩
  | succ i => exact ⟨0, by simp⟩
/-- x. -/
def X (m : Int) (f : List Int) : Q m f := cl m f [0, 1]
theorem cl_cons (c : Int) (l : List Int) : cl m f (c :: l) = kk m f c + X m f * cl m f l := by
  refine cl_cf fun i => ?_
  rw [cf_add]
  cases i with
  | zero => simp [cf_mul_zero]
  | succ i =>
    rw [cf_mul_succ, cf_succ]
    have := mul_one l i
    rw [this]; simp
theorem ev_X : ∀ l : List Int, evR (kk m f) l (X m f) = cl m f l
  | [] => rfl
  | c :: l => by rw [evR, ev_X l, cl_cons]
theorem cl_self : cl m f f = 0 := cl_eq.2 ⟨[1], Cg.of fun i => by rw [cf_add, cf_nil, Int.add_zero, mul_one]⟩
theorem cl_sh (a : List Int) : ∀ j, cl m f (sh j a) = pw (X m f) j * cl m f a
  | 0 => by rw [pw, (laws m f).om]; rfl
  | j + 1 => by
    have L := laws m f
    rw [sh_succ, cl_cons, show kk m f 0 = 0 from L.k0, L.za, cl_sh a j, pw, ← L.ma, L.mc (X m f)]
theorem cl_xn (n : Nat) : cl m f (xn n) = 1 + pw (X m f) n := by
  have L := laws m f
  rw [xn, ← cl_add, cl_sh, ← cl_one, L.mo]

/-- What is shorter than f is 0 only if it is 0 modulo m. -/
theorem short_zero {a : List Int} (hm : 2 ≤ m) (h1 : ld f = 1) (h : a.length < f.length) (h0 : cl m f a = 0) : Cg m a [] := by
  have hu : Un m (ld f) := ⟨1, 0, by rw [h1]; omega⟩
  have r1 : Rem m f a (nf m a) := ⟨nf_nf (by omega) a, Nat.lt_of_le_of_lt (nf_len m a) h, MC.of (nf_cg m a).symm⟩
  have r2 : Rem m f a [] := ⟨Nf.nil m, by simp; omega, cl_eq.1 h0⟩
  have e := Rem.unique (by omega) hu r1 r2
  have h3 := nf_cg m a
  rw [e] at h3
  exact h3.symm
end Oq
