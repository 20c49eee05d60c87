/- Division by what has a unit at its top, the greatest common divisor. No Go here. -/
import Derived.Test.YtaenjbemkeghgaaOpa
namespace Op
set_option linter.unusedVariables false
/-- A unit modulo m. -/
def Un (m u : Int) : Prop := ∃ v, m ∣ u * v - 1
theorem Un.cancel {m u d : Int} (h : Un m u) (k : m ∣ d * u) : m ∣ d := by
  obtain ⟨v, hv⟩ := h
  have e : d = d * u * v - d * (u * v - 1) := by rw [Int.mul_sub, Int.mul_assoc]; omega
  rw [e]; exact Int.dvd_sub (Int.dvd_mul_of_dvd_left k) (Int.dvd_mul_of_dvd_right hv)
/-- The last element. -/
def ld (l : List Int) : Int := cf l (l.length - 1)
/-- Quotients and rests of a division by what has a unit at its top are unique, modulo m. -/
theorem div_cg {m : Int} {b : List Int} {n : Nat} (hb : ∀ i, n < i → m ∣ cf b i) (hu : Un m (cf b n))
    {q q' r r' : List Int} (hr : r.length ≤ n) (hr' : r'.length ≤ n) (h : Cg m (add (mul q b) r) (add (mul q' b) r')) : Cg m q q' ∧ Cg m r r' := by
  have key : ∀ j t, t + j = q.length + q'.length → ∀ i, t ≤ i → m ∣ cf q i - cf q' i := by
    intro j
    induction j with
    | zero =>
      intro t ht i hi
      rw [cf_out (l := q) (by omega), cf_out (l := q') (by omega)]
      exact ⟨0, (Int.mul_zero m).symm⟩
    | succ j ih =>
      intro t ht i hi
      have hup := ih (t + 1) (by omega)
      by_cases e : t + 1 ≤ i
      · exact hup i e
      · have e : i = t := by omega
        subst e
        have h0 := h (i + n)
        rw [cf_add, cf_add, cf_out (l := r) (by omega), cf_out (l := r') (by omega), cf_mul, cf_mul] at h0
        have e1 : ∀ x y : Int, x + 0 - (y + 0) = x - y := by intros; omega
        rw [e1, ← S_sub] at h0
        have h1 : m ∣ S (i + n + 1) (fun k => cf q k * cf b (i + n - k) - cf q' k * cf b (i + n - k)) - (cf q i * cf b (i + n - i) - cf q' i * cf b (i + n - i)) := by
          apply S_one (s := i) (by omega)
          intro k hk hki
          rw [← Int.sub_mul]
          by_cases hlt : k < i
          · exact Int.dvd_mul_of_dvd_right (hb _ (by omega))
          · exact Int.dvd_mul_of_dvd_left (hup k (by omega))
        have e2 : i + n - i = n := by omega
        rw [e2] at h1
        have h2 : m ∣ (cf q i - cf q' i) * cf b n := by
          have e3 : (cf q i - cf q' i) * cf b n = S (i + n + 1) (fun k => cf q k * cf b (i + n - k) - cf q' k * cf b (i + n - k)) - (S (i + n + 1) (fun k => cf q k * cf b (i + n - k) - cf q' k * cf b (i + n - k)) - (cf q i * cf b n - cf q' i * cf b n)) := by
            rw [Int.sub_mul]; omega
          rw [e3]; exact Int.dvd_sub h0 h1
        exact hu.cancel h2
  have hq : Cg m q q' := fun i => key (q.length + q'.length) 0 (by omega) i (by omega)
  refine ⟨hq, fun i => ?_⟩
  have h0 := h i
  have h1 := (hq.mul (Cg.refl m b)) i
  rw [cf_add, cf_add] at h0
  have e : cf r i - cf r' i = (cf (mul q b) i + cf r i - (cf (mul q' b) i + cf r' i)) - (cf (mul q b) i - cf (mul q' b) i) := by omega
  rw [e]; exact Int.dvd_sub h0 h1

/-- Quotient and rest. -/
def Dv (m : Int) (a b q r : List Int) : Prop := Nf m q ∧ Nf m r ∧ r.length < b.length ∧ Cg m a (add (mul q b) r)
theorem Dv.unique {m : Int} (hm : 0 < m) {a a' b q r q' r' : List Int} (hu : Un m (ld b)) (ha : Cg m a a') (h : Dv m a b q r) (k : Dv m a' b q' r') : q = q' ∧ r = r' := by
  obtain ⟨h1, h2, h3, h4⟩ := h
  obtain ⟨k1, k2, k3, k4⟩ := k
  have := div_cg (n := b.length - 1) (fun i hi => by rw [cf_out (by omega)]; exact ⟨0, (Int.mul_zero m).symm⟩) hu (by omega) (by omega) ((h4.symm.trans ha).trans k4)
  exact ⟨nf_eq hm h1 k1 this.1, nf_eq hm h2 k2 this.2⟩
theorem cg_swap (m : Int) (a b : List Int) : Cg m (mul a b) (mul b a) := Cg.of (mul_comm' a b)
theorem cg_assoc (m : Int) (a b c : List Int) : Cg m (mul (mul a b) c) (mul a (mul b c)) := Cg.of (mul_assoc' b c a)
theorem cg_distl (m : Int) (a b c : List Int) : Cg m (mul (Op.add a b) c) (Op.add (mul a c) (mul b c)) := Cg.of (fun i => by rw [mul_add_left, cf_add])
theorem cg_distr (m : Int) (a b c : List Int) : Cg m (mul c (Op.add a b)) (Op.add (mul c a) (mul c b)) := Cg.of (fun i => by rw [mul_add_right, cf_add])
theorem cg_addc (m : Int) (a b : List Int) : Cg m (Op.add a b) (Op.add b a) := Cg.of (fun i => by rw [cf_add, cf_add, Int.add_comm])
theorem cg_addn (m : Int) (a : List Int) : Cg m (Op.add a []) a := Cg.of (fun i => by rw [cf_add, cf_nil, Int.add_zero])
theorem cg_muln (m : Int) (a : List Int) : Cg m (mul a []) [] := Cg.of (fun i => by rw [cf_mul_right_nil, cf_nil])
theorem cg_scn (m k : Int) (a : List Int) : Cg m (mul a [k]) (Op.sc k a) := Cg.of (fun i => by
  cases i with
  | zero => rw [cf_mul_right_zero, cf_sc, Int.mul_comm]
  | succ i => rw [cf_mul_right_succ, cf_mul_right_nil, cf_sc, Int.mul_comm]; simp)
theorem cg_scn' (m k : Int) (a : List Int) : Cg m (mul [k] a) (Op.sc k a) := (cg_swap m [k] a).trans (cg_scn m k a)
/-- Exact division: the rest is empty. -/
theorem Dv.exact {m : Int} (hm : 0 < m) {a b k q r : List Int} (hb : b ≠ []) (hu : Un m (ld b)) (hk : Cg m a (mul k b)) (h : Dv m a b q r) : r = [] := by
  refine ((Dv.unique hm hu (Cg.refl m a) h (q' := nf m k) (r' := []) ⟨nf_nf hm k, Nf.nil m, ?_, ?_⟩)).2
  · cases b with
    | nil => exact absurd rfl hb
    | cons => simp
  · exact (hk.trans (((nf_cg m k).symm).mul (Cg.refl m b))).trans (cg_addn m _).symm

/-- Euclid's algorithm: x is the last divisor. -/
inductive Eu (m : Int) : List Int → List Int → List Int → Prop
  | done (a : List Int) : Eu m a [] a
  | step {a b q r x : List Int} (hb : b ≠ []) (hd : Dv m a b q r) (h : Eu m b r x) : Eu m a b x
/-- Each residue but 0 is a unit. -/
def Fld (m : Int) : Prop := ∀ u, 0 < u → u < m → Un m u
theorem ld_unit {m : Int} (hF : Fld m) (hm : 0 < m) {b : List Int} (h : Nf m b) (hb : b ≠ []) : Un m (ld b) := by
  have h1 := rs_cf hm h.1 (b.length - 1)
  have h2 := tz_last h.2 hb
  exact hF _ (by show 0 < cf b _; omega) h1.2
theorem Eu.unique {m : Int} (hF : Fld m) (hm : 0 < m) {a b x y : List Int} (hb : Nf m b) (h : Eu m a b x) (k : Eu m a b y) : x = y := by
  induction h generalizing y with
  | done a => cases k with
    | done => rfl
    | step hb' _ _ => exact absurd rfl hb'
  | step hb' hd _ ih => cases k with
    | done => exact absurd rfl hb'
    | step hb'' hd' h' =>
      have hu := ld_unit hF hm hb hb'
      have e := (Dv.unique hm hu (Cg.refl m _) hd hd').2
      subst e
      exact ih hd.2.1 h'
/-- c divides a. -/
def Dd (m : Int) (c a : List Int) : Prop := ∃ k, Cg m a (mul k c)
theorem Dd.refl (m : Int) (a : List Int) : Dd m a a := ⟨[1], ((cg_scn' m 1 a).trans (Cg.of (fun i => by rw [cf_sc, Int.one_mul]))).symm⟩
theorem Dd.nil (m : Int) (a : List Int) : Dd m a [] := ⟨[], Cg.of (fun i => by simp)⟩
theorem Dd.comb {m : Int} {c a b : List Int} (q : List Int) (h : Dd m c a) (k : Dd m c b) : Dd m c (add (mul q a) b) := by
  obtain ⟨x, hx⟩ := h
  obtain ⟨y, hy⟩ := k
  refine ⟨add (mul q x) y, ?_⟩
  exact ((((Cg.refl m q).mul hx).add hy).trans (((cg_assoc m q x c).symm).add (Cg.refl m _))).trans (cg_distl m _ _ c).symm
theorem Dd.cg {m : Int} {c a b : List Int} (h : Dd m c a) (k : Cg m b a) : Dd m c b := by
  obtain ⟨x, hx⟩ := h; exact ⟨x, k.trans hx⟩
theorem rest_cg {m : Int} {a b q r : List Int} (h : Cg m a (add (mul q b) r)) : Cg m r (add (mul (sc (-1) q) b) a) := fun i => by
  have h0 := h i
  rw [cf_add] at h0
  rw [cf_add, mul_sc_left]
  have e : cf r i - (-1 * cf (mul q b) i + cf a i) = -(cf a i - (cf (mul q b) i + cf r i)) := by omega
  rw [e]; exact Int.dvd_neg.2 h0
theorem Eu.divides {m : Int} {a b x : List Int} (h : Eu m a b x) : Dd m x a ∧ Dd m x b := by
  induction h with
  | done a => exact ⟨Dd.refl m a, Dd.nil m a⟩
  | step hb hd _ ih => exact ⟨(Dd.comb _ ih.1 ih.2).cg hd.2.2.2, ih.1⟩
theorem Eu.greatest {m : Int} {a b c x : List Int} (h : Eu m a b x) (ha : Dd m c a) (hb : Dd m c b) : Dd m c x := by
  induction h with
  | done a => exact ha
  | step hb' hd _ ih => exact ih hb ((Dd.comb _ hb ha).cg (rest_cg hd.2.2.2))
theorem Eu.nf {m : Int} {a b x : List Int} (h : Eu m a b x) (ha : Nf m a) (hb : Nf m b) : Nf m x := by
  induction h with
  | done a => exact ha
  | step hb' hd _ ih => exact ih hb hd.2.1
theorem Dd.zero {m : Int} {a : List Int} (hm : 0 < m) (ha : Nf m a) (h : Dd m [] a) : a = [] := by
  obtain ⟨k, hk⟩ := h
  rw [nf_is hm ha (hk.trans (cg_muln m k))]; rfl
theorem Dd.trans {m : Int} {a b c : List Int} (h : Dd m a b) (k : Dd m b c) : Dd m a c := by
  obtain ⟨x, hx⟩ := h
  obtain ⟨y, hy⟩ := k
  exact ⟨mul y x, (hy.trans ((Cg.refl m y).mul hx)).trans (cg_assoc m y x a).symm⟩
theorem Un.mul {m u v : Int} (h : Un m u) (k : Un m v) : Un m (u * v) := by
  obtain ⟨x, hx⟩ := h
  obtain ⟨y, hy⟩ := k
  refine ⟨x * y, ?_⟩
  have e : u * v * (x * y) - 1 = (u * x - 1) * (v * y) + (v * y - 1) := by
    rw [Int.sub_mul, Int.one_mul]
    have : u * v * (x * y) = u * x * (v * y) := by
      rw [Int.mul_assoc, Int.mul_assoc, Int.mul_left_comm v x y]
    omega
  rw [e]; exact Int.dvd_add (Int.dvd_mul_of_dvd_left hx) hy
theorem Un.ne {m u : Int} (hm : 2 ≤ m) (h : Un m u) : ¬ m ∣ u := by
  intro hd
  obtain ⟨v, hv⟩ := h
  have h1 : m ∣ 1 := by
    have e : (1 : Int) = u * v - (u * v - 1) := by omega
    rw [e]; exact Int.dvd_sub (Int.dvd_mul_of_dvd_left hd) hv
  have := Int.le_of_dvd (by omega) h1
  omega
/-- The top of a product. -/
theorem top_mul (a b : List Int) (ha : a ≠ []) (hb : b ≠ []) : cf (mul a b) (a.length - 1 + (b.length - 1)) = ld a * ld b := by
  have hla : a.length ≠ 0 := by cases a with
    | nil => exact absurd rfl ha
    | cons => simp
  have h0 : (0 : Int) ∣ S (a.length - 1 + (b.length - 1) + 1) (fun k => cf a k * cf b (a.length - 1 + (b.length - 1) - k)) - cf a (a.length - 1) * cf b (a.length - 1 + (b.length - 1) - (a.length - 1)) := by
    apply S_one (s := a.length - 1) (by omega)
    intro k hk hne
    by_cases h : k < a.length - 1
    · rw [cf_out (l := b) (by omega), Int.mul_zero]; exact ⟨0, rfl⟩
    · rw [cf_out (l := a) (by omega), Int.zero_mul]; exact ⟨0, rfl⟩
  have h1 := Int.zero_dvd.1 h0
  rw [cf_mul]
  have e : a.length - 1 + (b.length - 1) - (a.length - 1) = b.length - 1 := by omega
  rw [e] at h1
  show _ = cf a (a.length - 1) * cf b (b.length - 1)
  omega
theorem mul_ne {m : Int} (hF : Fld m) (hm : 2 ≤ m) {a b : List Int} (ha : Nf m a) (hb : Nf m b) (h1 : a ≠ []) (h2 : b ≠ []) : nf m (mul a b) ≠ [] := by
  intro h
  have hu := (ld_unit hF (by omega) ha h1).mul (ld_unit hF (by omega) hb h2)
  rw [← top_mul a b h1 h2] at hu
  apply hu.ne hm
  have := (nf_cg m (mul a b)).symm (a.length - 1 + (b.length - 1))
  rw [h] at this
  simpa using this
end Op
