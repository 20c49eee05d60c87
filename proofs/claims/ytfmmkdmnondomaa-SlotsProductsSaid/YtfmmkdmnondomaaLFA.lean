import Derived.Test.YtfmmkdmnondomaaLMF
import Derived.Test.YtfmmkdmnondomaaLPA
/- Commutative rings with an image of the integers: powers, the binomial theorem, the p-th power, monic polynomials and their roots. No Go here. -/
namespace Oq
set_option linter.unusedVariables false
set_option linter.unusedSectionVars false
variable {R : Type} [Add R] [Mul R] [Neg R] [Zero R] [One R]

structure Laws (R : Type) [Add R] [Mul R] [Neg R] [Zero R] [One R] (k : Int → R) : Prop where
  ac : ∀ a b : R, a + b = b + a
  aa : ∀ a b c : R, a + b + c = a + (b + c)
  az : ∀ a : R, a + 0 = a
  an : ∀ a : R, a + -a = 0
  mc : ∀ a b : R, a * b = b * a
  ma : ∀ a b c : R, a * b * c = a * (b * c)
  mo : ∀ a : R, a * 1 = a
  md : ∀ a b c : R, a * (b + c) = a * b + a * c
  ka : ∀ a b : Int, k (a + b) = k a + k b
  km : ∀ a b : Int, k (a * b) = k a * k b
  k1 : k 1 = 1
variable {k : Int → R}

theorem Laws.za (L : Laws R k) (a : R) : 0 + a = a := by rw [L.ac, L.az]
theorem Laws.na (L : Laws R k) (a : R) : -a + a = 0 := by rw [L.ac, L.an]
theorem Laws.om (L : Laws R k) (a : R) : 1 * a = a := by rw [L.mc, L.mo]
theorem Laws.dm (L : Laws R k) (a b c : R) : (b + c) * a = b * a + c * a := by rw [L.mc, L.md, L.mc a b, L.mc a c]
theorem Laws.cancel (L : Laws R k) {a b c : R} (h : a + b = a + c) : b = c := by
  have e : -a + (a + b) = -a + (a + c) := by rw [h]
  rwa [← L.aa, ← L.aa, L.na, L.za, L.za] at e
theorem Laws.mz (L : Laws R k) (a : R) : a * 0 = 0 := by
  have h : a * 0 + a * 0 = a * 0 + 0 := by rw [← L.md, L.az, L.az]
  exact L.cancel h
theorem Laws.zm (L : Laws R k) (a : R) : 0 * a = 0 := by rw [L.mc, L.mz]
theorem Laws.neg_of (L : Laws R k) {a b : R} (h : a + b = 0) : b = -a := L.cancel (a := a) (by rw [h, L.an])
theorem Laws.eq_of (L : Laws R k) {a b : R} (h : a + -b = 0) : a = b := by
  have := L.neg_of (a := -b) (b := a) (by rw [L.ac]; exact h)
  rw [this]; exact (L.neg_of (L.na b)).symm
theorem Laws.nn (L : Laws R k) (a : R) : - -a = a := (L.neg_of (L.na a)).symm
theorem Laws.mn (L : Laws R k) (a b : R) : a * -b = -(a * b) := L.neg_of (by rw [← L.md, L.an, L.mz])
theorem Laws.nm (L : Laws R k) (a b : R) : -a * b = -(a * b) := by rw [L.mc, L.mn, L.mc]
theorem Laws.n0 (L : Laws R k) : -(0 : R) = 0 := (L.neg_of (L.az 0)).symm
theorem Laws.k0 (L : Laws R k) : k 0 = 0 := by
  have h : k 0 + k 0 = k 0 + 0 := by rw [← L.ka, L.az]; rfl
  exact L.cancel h
theorem Laws.kn (L : Laws R k) (a : Int) : k (-a) = -k a := L.neg_of (by rw [← L.ka, Int.add_right_neg, L.k0])
theorem Laws.ks (L : Laws R k) (a b : Int) : k (a - b) = k a + -k b := by rw [Int.sub_eq_add_neg, L.ka, L.kn]
theorem Laws.mul4 (L : Laws R k) (a b c d : R) : a * b * (c * d) = a * c * (b * d) := by
  rw [L.ma, L.ma, ← L.ma b, L.mc b, L.ma]
theorem Laws.add4 (L : Laws R k) (a b c d : R) : a + b + (c + d) = a + c + (b + d) := by
  rw [L.aa, L.aa, ← L.aa b, L.ac b, L.aa]
theorem Laws.sub_add (L : Laws R k) (a b : R) : a + -b + b = a := by rw [L.aa, L.na, L.az]
/-- Powers. -/
def pw (a : R) : Nat → R
  | 0 => 1
  | n + 1 => pw a n * a
theorem Laws.pw1 (L : Laws R k) (a : R) : pw a 1 = a := by rw [pw, pw, L.om]
theorem Laws.pw_add (L : Laws R k) (a : R) (m : Nat) : ∀ n, pw a (m + n) = pw a m * pw a n
  | 0 => by rw [pw, L.mo]; rfl
  | n + 1 => by rw [← Nat.add_assoc, pw, L.pw_add a m n, pw, L.ma]
theorem Laws.pw_mul (L : Laws R k) (a : R) (m : Nat) : ∀ n, pw a (m * n) = pw (pw a m) n
  | 0 => rfl
  | n + 1 => by rw [Nat.mul_succ, L.pw_add, L.pw_mul a m n, pw]
theorem Laws.mul_pw (L : Laws R k) (a b : R) : ∀ n, pw (a * b) n = pw a n * pw b n
  | 0 => by simp only [pw]; rw [L.mo]
  | n + 1 => by simp only [pw]; rw [L.mul_pw a b n, L.mul4]
theorem Laws.one_pw (L : Laws R k) : ∀ n, pw (1 : R) n = 1
  | 0 => rfl
  | n + 1 => by rw [pw, L.one_pw n, L.mo]
theorem Laws.zero_pw (L : Laws R k) {n : Nat} (h : 1 ≤ n) : pw (0 : R) n = 0 := by
  obtain ⟨m, rfl⟩ : ∃ m, n = m + 1 := ⟨n - 1, by omega⟩
  rw [pw, L.mz]
theorem Laws.k_pw (L : Laws R k) (c : Int) : ∀ n : Nat, k (c ^ n) = pw (k c) n
  | 0 => by rw [Int.pow_zero, L.k1]; rfl
  | n + 1 => by rw [Int.pow_succ, L.km, L.k_pw c n]; rfl
/-- Sums. -/
def Sm : Nat → (Nat → R) → R
  | 0, _ => 0
  | n + 1, f => Sm n f + f n
theorem Sm_cong {f g : Nat → R} : ∀ {n : Nat}, (∀ j, j < n → f j = g j) → Sm n f = Sm n g
  | 0, _ => rfl
  | n + 1, h => by rw [Sm, Sm, Sm_cong (fun j hj => h j (by omega)), h n (by omega)]
theorem Laws.Sm_add (L : Laws R k) (f g : Nat → R) : ∀ n, Sm n (fun j => f j + g j) = Sm n f + Sm n g
  | 0 => by simp only [Sm]; rw [L.az]
  | n + 1 => by simp only [Sm]; rw [L.Sm_add f g n, L.add4]
theorem Laws.Sm_mul (L : Laws R k) (c : R) (f : Nat → R) : ∀ n, Sm n (fun j => f j * c) = Sm n f * c
  | 0 => by simp only [Sm]; rw [L.zm]
  | n + 1 => by simp only [Sm]; rw [L.Sm_mul c f n, L.dm]
theorem Laws.Sm_left (L : Laws R k) (f : Nat → R) : ∀ n, Sm (n + 1) f = f 0 + Sm n (fun j => f (j + 1))
  | 0 => by simp only [Sm]; rw [L.az, L.za]
  | n + 1 => by rw [Sm, L.Sm_left f n, Sm, L.aa]
theorem Laws.Sm_zero (L : Laws R k) {f : Nat → R} : ∀ {n : Nat}, (∀ j, j < n → f j = 0) → Sm n f = 0
  | 0, _ => rfl
  | n + 1, h => by rw [Sm, L.Sm_zero (fun j hj => h j (by omega)), h n (by omega), L.az]

/-- Binomial coefficients. -/
def Ch : Nat → Nat → Nat
  | _, 0 => 1
  | 0, _ + 1 => 0
  | n + 1, j + 1 => Ch n j + Ch n (j + 1)
theorem Ch_zero (n : Nat) : Ch n 0 = 1 := by cases n <;> rfl
theorem Ch_out : ∀ {n j : Nat}, n < j → Ch n j = 0
  | 0, 0, h => by omega
  | 0, j + 1, _ => rfl
  | n + 1, 0, h => by omega
  | n + 1, j + 1, h => by rw [Ch, Ch_out (by omega), Ch_out (by omega)]
theorem Ch_self : ∀ n, Ch n n = 1
  | 0 => rfl
  | n + 1 => by rw [Ch, Ch_self n, Ch_out (by omega)]
theorem Ch_mul : ∀ n j : Nat, (j + 1) * Ch (n + 1) (j + 1) = (n + 1) * Ch n j
  | 0, 0 => by simp [Ch]
  | 0, j + 1 => by simp [Ch]
  | n + 1, 0 => by
    have h := Ch_mul n 0
    rw [Ch_zero] at h ⊢
    rw [Ch, Ch_zero]
    omega
  | n + 1, j + 1 => by
    have h1 := Ch_mul n j
    have h2 := Ch_mul n (j + 1)
    have e1 : Ch (n + 2) (j + 2) = Ch (n + 1) (j + 1) + Ch (n + 1) (j + 2) := by rw [Ch]
    have e2 : Ch (n + 1) (j + 1) = Ch n j + Ch n (j + 1) := by rw [Ch]
    show (j + 2) * Ch (n + 2) (j + 2) = (n + 2) * Ch (n + 1) (j + 1)
    rw [e1, Nat.mul_add, show (j + 2) * Ch (n + 1) (j + 2) = (n + 1) * Ch n (j + 1) from h2]
    have h3 : (j + 2) * Ch (n + 1) (j + 1) = (n + 1) * Ch n j + Ch (n + 1) (j + 1) := by
      rw [← h1, show j + 2 = j + 1 + 1 from rfl, Nat.add_mul (j + 1) 1, Nat.one_mul]
    rw [h3, show n + 2 = n + 1 + 1 from rfl, Nat.add_mul (n + 1) 1, Nat.one_mul, e2, Nat.mul_add]
    omega
theorem Ch_prime {p j : Nat} (hp : Ob.Pr p) (h0 : 0 < j) (h1 : j < p) : p ∣ Ch p j := by
  obtain ⟨i, rfl⟩ : ∃ i, j = i + 1 := ⟨j - 1, by omega⟩
  obtain ⟨q, rfl⟩ : ∃ q, p = q + 1 := ⟨p - 1, by omega⟩
  have h := Ch_mul q i
  rcases hp.mul (a := i + 1) (b := Ch (q + 1) (i + 1)) ⟨Ch q i, h⟩ with h2 | h2
  · have := Nat.le_of_dvd (by omega) h2
    omega
  · exact h2

theorem Laws.binom (L : Laws R k) (a b : R) : ∀ n : Nat, pw (a + b) n = Sm (n + 1) (fun j => k (Ch n j) * (pw a j * pw b (n - j)))
  | 0 => by
    simp only [Sm, pw, Ch, Nat.sub_self]
    rw [L.mo, L.mo, L.za, show ((1 : Nat) : Int) = 1 from rfl, L.k1]
  | n + 1 => by
    have ih := L.binom a b n
    rw [pw, ih, L.md]
    rw [← L.Sm_mul, ← L.Sm_mul, L.Sm_left (fun j => k (Ch (n + 1) j) * (pw a j * pw b (n + 1 - j))) (n + 1)]
    have hA : Sm (n + 1) (fun j => k (Ch n j) * (pw a j * pw b (n - j)) * a) = Sm (n + 1) (fun j => k (Ch n j) * (pw a (j + 1) * pw b (n - j))) :=
      Sm_cong fun j _ => by rw [pw, L.ma, L.ma, L.mc (pw b (n - j)) a, L.ma]
    have hB : Sm (n + 1) (fun j => k (Ch n j) * (pw a j * pw b (n - j)) * b) = Sm (n + 1) (fun j => k (Ch n j) * (pw a j * pw b (n + 1 - j))) :=
      Sm_cong fun j hj => by rw [show n + 1 - j = (n - j) + 1 from by omega, pw, L.ma, L.ma]
    have hC : Sm (n + 1) (fun j => k (Ch n j) * (pw a j * pw b (n + 1 - j))) = pw b (n + 1) + Sm (n + 1) (fun j => k (Ch n (j + 1)) * (pw a (j + 1) * pw b (n - j))) := by
      rw [L.Sm_left]
      have e : Sm (n + 1) (fun j => k (Ch n (j + 1)) * (pw a (j + 1) * pw b (n - j))) = Sm n (fun j => k (Ch n (j + 1)) * (pw a (j + 1) * pw b (n - j))) := by
        rw [Sm, Ch_out (show n < n + 1 from by omega), show ((0 : Nat) : Int) = 0 from rfl, L.k0, L.zm, L.az]
      rw [e, Ch_zero, show ((1 : Nat) : Int) = 1 from rfl, L.k1, L.om, show pw a 0 = 1 from rfl, L.om]
      congr 1
      exact Sm_cong fun j _ => by rw [show n + 1 - (j + 1) = n - j from by omega]
    have hD : Sm (n + 1) (fun j => k (Ch (n + 1) (j + 1)) * (pw a (j + 1) * pw b (n + 1 - (j + 1)))) = Sm (n + 1) (fun j => k (Ch n j) * (pw a (j + 1) * pw b (n - j))) + Sm (n + 1) (fun j => k (Ch n (j + 1)) * (pw a (j + 1) * pw b (n - j))) := by
      rw [← L.Sm_add]
      exact Sm_cong fun j _ => by rw [show n + 1 - (j + 1) = n - j from by omega, Ch, show ((Ch n j + Ch n (j + 1) : Nat) : Int) = (Ch n j : Int) + (Ch n (j + 1) : Int) from by omega, L.ka, L.dm]
    rw [hA, hB, hC, hD, Ch_zero, show ((1 : Nat) : Int) = 1 from rfl, L.k1, L.om, show pw a 0 = 1 from rfl, L.om, Nat.sub_zero]
    rw [← L.aa, L.ac (Sm _ _) (pw b (n + 1)), L.aa]

/-- In characteristic p the p-th power of a sum is the sum of the p-th powers. -/
theorem Laws.frob (L : Laws R k) {p : Nat} (hp : Ob.Pr p) (h0 : k p = 0) (a b : R) : pw (a + b) p = pw a p + pw b p := by
  have hp1 := hp.1
  rw [L.binom a b p, Sm, Ch_self, Nat.sub_self, show ((1 : Nat) : Int) = 1 from rfl, L.k1, L.om, show pw b 0 = 1 from rfl, L.mo]
  obtain ⟨q, hq⟩ : ∃ q, p = q + 1 := ⟨p - 1, by omega⟩
  have e : Sm p (fun j => k (Ch p j) * (pw a j * pw b (p - j))) = pw b p := by
    have e1 : Sm (q + 1) (fun j => k (Ch p j) * (pw a j * pw b (p - j))) = pw b p := by
      rw [L.Sm_left, L.Sm_zero (fun j hj => ?_), L.az, Ch_zero, show ((1 : Nat) : Int) = 1 from rfl, L.k1, L.om, show pw a 0 = 1 from rfl, L.om, Nat.sub_zero]
      obtain ⟨c, hc⟩ := Ch_prime hp (show 0 < j + 1 from by omega) (show j + 1 < p from by omega)
      rw [hc, show ((p * c : Nat) : Int) = (p : Int) * (c : Int) from by simp, L.km, h0, L.zm, L.zm]
    rw [hq] at e1 ⊢
    exact e1
  rw [e, L.ac]
theorem Laws.k_mod (L : Laws R k) {p : Nat} (h0 : k p = 0) {a b : Int} (h : (p : Int) ∣ a - b) : k a = k b := by
  obtain ⟨c, hc⟩ := h
  have e : k (a - b) = 0 := by rw [hc, L.km, h0, L.zm]
  rw [L.ks] at e
  exact L.eq_of e
theorem fermat_int {p : Nat} (hp : Ob.Pr p) (c : Int) : (p : Int) ∣ c ^ p - c := by
  have hp1 := hp.1
  have key : ∀ a : Nat, (p : Int) ∣ (a : Int) ^ p - a := fun a => by
    by_cases h : p ∣ a
    · obtain ⟨d, rfl⟩ := h
      obtain ⟨q, hq⟩ : ∃ q, p = q + 1 := ⟨p - 1, by omega⟩
      have h2 : ((p * d : Nat) : Int) ^ p = ((p : Int) * d) ^ q * ((p : Int) * d) := by
        rw [show ((p * d : Nat) : Int) = (p : Int) * d from by simp]
        conv => lhs; rw [hq, Int.pow_succ]
        rw [← hq]
      rw [h2]
      refine ⟨((p : Int) * d) ^ q * d - d, ?_⟩
      rw [Int.mul_sub, show ((p * d : Nat) : Int) = (p : Int) * d from by simp, Int.mul_left_comm]
    · have h1 := Ob.fermat hp h
      have h2 : p ∣ a ^ p - a := by
        rw [← Ob.mod_iff_dvd (by
          have := Nat.le_self_pow (show p ≠ 0 from by omega) a
          exact this)]
        obtain ⟨q, hq⟩ : ∃ q, p = q + 1 := ⟨p - 1, by omega⟩
        have e : a ^ p = a ^ (p - 1) * a := by rw [hq, Nat.pow_succ]; simp
        rw [e, Nat.mul_mod, h1, Nat.one_mul, Nat.mod_mod]
      obtain ⟨d, hd⟩ := h2
      have h3 : a ≤ a ^ p := Nat.le_self_pow (show p ≠ 0 from by omega) a
      refine ⟨d, ?_⟩
      have e2 : a ^ p = p * d + a := by omega
      have e3 : ((a ^ p : Nat) : Int) = (p : Int) * d + a := by rw [e2]; simp
      rw [← Int.natCast_pow, e3]; omega
  have h1 := key (c % p).toNat
  have hc : ((c % p).toNat : Int) = c % p := Int.toNat_of_nonneg (Int.emod_nonneg c (by omega))
  rw [hc] at h1
  have h2 : (p : Int) ∣ c % p - c := by
    have := Int.emod_add_mul_ediv c p
    exact ⟨-(c / p), by rw [Int.mul_neg]; omega⟩
  have h3 : (p : Int) ∣ (c % p) ^ p - c ^ p := by
    have pwd : ∀ n : Nat, (p : Int) ∣ (c % p) ^ n - c ^ n := fun n => by
      induction n with
      | zero => exact ⟨0, by simp⟩
      | succ n ih =>
        rw [Int.pow_succ, Int.pow_succ]
        have e : (c % p) ^ n * (c % p) - c ^ n * c = ((c % p) ^ n - c ^ n) * (c % p) + c ^ n * (c % p - c) := by
          rw [Int.sub_mul, Int.mul_sub]; omega
        rw [e]
        exact Int.dvd_add (Int.dvd_mul_of_dvd_left ih) (Int.dvd_mul_of_dvd_right h2)
    exact pwd p
  have e : c ^ p - c = ((c % p) ^ p - c % p) - ((c % p) ^ p - c ^ p) + (c % p - c) := by omega
  rw [e]
  exact Int.dvd_add (Int.dvd_sub h1 h3) h2
theorem Laws.k_fermat (L : Laws R k) {p : Nat} (hp : Ob.Pr p) (h0 : k p = 0) (c : Int) : pw (k c) p = k c := by
  rw [← L.k_pw]
  exact L.k_mod h0 (fermat_int hp c)

/-- Values of a polynomial with integer coefficients. -/
def evR (k : Int → R) : List Int → R → R
  | [], _ => 0
  | c :: l, x => k c + x * evR k l x
theorem Laws.ev_frob (L : Laws R k) {p : Nat} (hp : Ob.Pr p) (h0 : k p = 0) (x : R) : ∀ l, pw (evR k l x) p = evR k l (pw x p)
  | [] => L.zero_pw (by have := hp.1; omega)
  | c :: l => by rw [evR, L.frob hp h0, L.k_fermat hp h0, L.mul_pw, L.ev_frob hp h0 x l, evR]

/-- A monic polynomial of degree n, as a function. -/
inductive Mn : Nat → (R → R) → Prop
  | one : Mn 0 (fun _ => 1)
  | step (m : Nat) (g : R → R) (c : R) : Mn m g → Mn (m + 1) (fun x => x * g x + c)
theorem Mn.congr {m : Nat} {f g : R → R} (h : Mn m f) (e : ∀ x, f x = g x) : Mn m g := by
  have : f = g := funext e
  rwa [← this]
theorem Mn.factor (L : Laws R k) {m : Nat} {f : R → R} (h : Mn m f) : ∀ j, m = j + 1 → ∀ r, ∃ g, Mn j g ∧ ∀ x, f x = (x + -r) * g x + f r := by
  induction h with
  | one => intro j hj; omega
  | step m g c hg ih =>
    intro j hj r
    obtain rfl : m = j := by omega
    rcases m with _ | m
    · cases hg
      refine ⟨fun _ => 1, .one, fun x => ?_⟩
      show x * 1 + c = (x + -r) * 1 + (r * 1 + c)
      rw [L.mo, L.mo, L.mo, ← L.aa, L.sub_add]
    · obtain ⟨h, hh, e⟩ := ih m rfl r
      refine ⟨fun x => x * h x + g r, .step m h (g r) hh, fun x => ?_⟩
      show x * g x + c = (x + -r) * (x * h x + g r) + (r * g r + c)
      rw [e x, ← L.aa, L.md, L.md, ← L.ma, ← L.ma, L.mc x (x + -r), L.aa _ _ (r * g r), ← L.dm, L.sub_add]
/-- A unit. -/
def Ut (u : R) : Prop := ∃ v, u * v = 1
theorem Laws.cut (L : Laws R k) {u x : R} (h : Ut u) (e : u * x = 0) : x = 0 := by
  obtain ⟨v, hv⟩ := h
  rw [← L.om x, ← hv, L.mc u v, L.ma, e, L.mz]
/-- A monic polynomial of degree n with more than n zeros, whose differences are units, makes the ring zero. -/
theorem Mn.roots (L : Laws R k) : ∀ (m : Nat) (f : R → R), Mn m f → ∀ z : Nat → R, (∀ i j, i < j → j ≤ m → Ut (z j + -z i)) → (∀ i, i ≤ m → f (z i) = 0) → (1 : R) = 0
  | 0, f, hf, z, _, h => by
    cases hf
    exact h 0 (Nat.le_refl _)
  | m + 1, f, hf, z, hu, h => by
    obtain ⟨g, hg, e⟩ := hf.factor L m rfl (z 0)
    refine Mn.roots L m g hg (fun i => z (i + 1)) (fun i j hij hj => hu (i + 1) (j + 1) (by omega) (by omega)) (fun i hi => ?_)
    have e1 := e (z (i + 1))
    rw [h (i + 1) (by omega), h 0 (by omega), L.az] at e1
    exact L.cut (hu 0 (i + 1) (by omega) (by omega)) e1.symm
end Oq
/- Polynomials modulo p and f as a ring; what is monic and short is not 0 there. No Go here. -/
namespace Op
theorem MC.add {m : Int} {f x y z w : List Int} (h : MC m f x y) (k : MC m f z w) : MC m f (Op.add x z) (Op.add y w) := by
  obtain ⟨q, hq⟩ := h
  obtain ⟨r, hr⟩ := k
  refine ⟨Op.add q r, fun i => ?_⟩
  have h1 := hq i
  have h2 := hr i
  simp only [cf_add, mul_add_left] at h1 h2 ⊢
  have e : cf x i + cf z i - (cf (Op.mul q f) i + cf (Op.mul r f) i + (cf y i + cf w i)) = (cf x i - (cf (Op.mul q f) i + cf y i)) + (cf z i - (cf (Op.mul r f) i + cf w i)) := by omega
  rw [e]; exact Int.dvd_add h1 h2
theorem MC.sc {m : Int} {f x y : List Int} (c : Int) (h : MC m f x y) : MC m f (Op.sc c x) (Op.sc c y) := by
  obtain ⟨q, hq⟩ := h
  refine ⟨Op.sc c q, fun i => ?_⟩
  have h1 := hq i
  simp only [cf_add, mul_sc_left, cf_sc] at h1 ⊢
  have e : c * cf x i - (c * cf (Op.mul q f) i + c * cf y i) = c * (cf x i - (cf (Op.mul q f) i + cf y i)) := by rw [Int.mul_sub, Int.mul_add]
  rw [e]; exact Int.dvd_mul_of_dvd_right h1
end Op
namespace Oq
open Op
set_option linter.unusedVariables false
set_option linter.unusedSectionVars false

def st (m : Int) (f : List Int) : Setoid (List Int) := ⟨MC m f, ⟨MC.refl m f, MC.symm, MC.trans⟩⟩
/-- The polynomials modulo m and f. -/
def Q (m : Int) (f : List Int) : Type := Quotient (st m f)
def cl (m : Int) (f a : List Int) : Q m f := Quotient.mk (st m f) a
variable {m : Int} {f : List Int}
theorem cl_eq {a b : List Int} : cl m f a = cl m f b ↔ MC m f a b := ⟨fun h => Quotient.exact (s := st m f) h, fun h => Quotient.sound (s := st m f) h⟩
theorem cl_cg {a b : List Int} (h : Cg m a b) : cl m f a = cl m f b := cl_eq.2 (MC.of h)
theorem cl_cf {a b : List Int} (h : ∀ i, cf a i = cf b i) : cl m f a = cl m f b := cl_cg (Cg.of h)
instance : Add (Q m f) := ⟨Quotient.lift₂ (s₁ := st m f) (s₂ := st m f) (fun a b => cl m f (add a b)) (fun _ _ _ _ h k => cl_eq.2 (MC.add h k))⟩
instance : Mul (Q m f) := ⟨Quotient.lift₂ (s₁ := st m f) (s₂ := st m f) (fun a b => cl m f (mul a b)) (fun _ _ _ _ h k => cl_eq.2 (MC.mul h k))⟩
instance : Neg (Q m f) := ⟨Quotient.lift (s := st m f) (fun a => cl m f (sc (-1) a)) (fun _ _ h => cl_eq.2 (MC.sc _ h))⟩
instance : Zero (Q m f) := ⟨cl m f []⟩
instance : One (Q m f) := ⟨cl m f [1]⟩
theorem cl_add (a b : List Int) : cl m f a + cl m f b = cl m f (add a b) := rfl
theorem cl_mul (a b : List Int) : cl m f a * cl m f b = cl m f (mul a b) := rfl
theorem cl_zero : (0 : Q m f) = cl m f [] := rfl
theorem cl_one : (1 : Q m f) = cl m f [1] := rfl
theorem cl_ind {motive : Q m f → Prop} (h : ∀ a, motive (cl m f a)) (q : Q m f) : motive q := Quotient.ind (s := st m f) h q
/-- The integers. -/
def kk (m : Int) (f : List Int) (c : Int) : Q m f := cl m f [c]

theorem laws (m : Int) (f : List Int) : Laws (Q m f) (kk m f) where
  ac a b := by
    revert a b; refine cl_ind fun a => cl_ind fun b => ?_
    exact cl_cg (cg_addc m a b)
  aa a b c := by
    revert a b c; refine cl_ind fun a => cl_ind fun b => cl_ind fun c => ?_
    exact cl_cf fun i => by simp only [cf_add]; omega
  az a := by
    revert a; refine cl_ind fun a => ?_
    exact cl_cg (cg_addn m a)
  an a := by
    revert a; refine cl_ind fun a => ?_
    exact cl_cf fun i => by simp only [cf_add, cf_sc, cf_nil]; omega
  mc a b := by
    revert a b; refine cl_ind fun a => cl_ind fun b => ?_
    exact cl_cg (cg_swap m a b)
  ma a b c := by
    revert a b c; refine cl_ind fun a => cl_ind fun b => cl_ind fun c => ?_
    exact cl_cg (cg_assoc m a b c)
  mo a := by
    revert a; refine cl_ind fun a => ?_
    exact cl_cg ((cg_scn m 1 a).trans (Cg.of fun i => by rw [cf_sc, Int.one_mul]))
  md a b c := by
    revert a b c; refine cl_ind fun a => cl_ind fun b => cl_ind fun c => ?_
    exact cl_cg (cg_distr m b c a)
  ka a b := cl_cf fun i => by cases i <;> simp [Op.add]
  km a b := cl_cf fun i => by
    cases i with
    | zero => simp [Op.mul]
    | succ i => rw [cf_mul_succ]; simp
  k1 := rfl
theorem k_m (m : Int) (f : List Int) : kk m f m = 0 := cl_cg fun i => by
  cases i with
  | zero => exact ⟨1, by simp⟩
  | succ i => exact ⟨0, by simp⟩
/-- x. -/
def X (m : Int) (f : List Int) : Q m f := cl m f [0, 1]
theorem cl_cons (c : Int) (l : List Int) : cl m f (c :: l) = kk m f c + X m f * cl m f l := by
  refine cl_cf fun i => ?_
  rw [cf_add]
  cases i with
  | zero => simp [cf_mul_zero]
  | succ i =>
    rw [cf_mul_succ, cf_succ]
    have := mul_one l i
    rw [this]; simp
theorem ev_X : ∀ l : List Int, evR (kk m f) l (X m f) = cl m f l
  | [] => rfl
  | c :: l => by rw [evR, ev_X l, cl_cons]
theorem cl_self : cl m f f = 0 := cl_eq.2 ⟨[1], Cg.of fun i => by rw [cf_add, cf_nil, Int.add_zero, mul_one]⟩
theorem cl_sh (a : List Int) : ∀ j, cl m f (sh j a) = pw (X m f) j * cl m f a
  | 0 => by rw [pw, (laws m f).om]; rfl
  | j + 1 => by
    have L := laws m f
    rw [sh_succ, cl_cons, show kk m f 0 = 0 from L.k0, L.za, cl_sh a j, pw, ← L.ma, L.mc (X m f)]
theorem cl_zero_iff {a : List Int} : cl m f a = 0 ↔ Dd m f a := by
  rw [cl_zero, cl_eq]
  exact ⟨fun ⟨q, h⟩ => ⟨q, h.trans (cg_addn m _)⟩, fun ⟨q, h⟩ => ⟨q, h.trans (cg_addn m _).symm⟩⟩
theorem cl_xn (n : Nat) : cl m f (xn n) = 1 + pw (X m f) n := by
  have L := laws m f
  rw [xn, ← cl_add, cl_sh, ← cl_one, L.mo]

/-- What is shorter than f is 0 only if it is 0 modulo m. -/
theorem short_zero {a : List Int} (hm : 2 ≤ m) (h1 : ld f = 1) (h : a.length < f.length) (h0 : cl m f a = 0) : Cg m a [] := by
  have hu : Un m (ld f) := ⟨1, 0, by rw [h1]; omega⟩
  have r1 : Rem m f a (nf m a) := ⟨nf_nf (by omega) a, Nat.lt_of_le_of_lt (nf_len m a) h, MC.of (nf_cg m a).symm⟩
  have r2 : Rem m f a [] := ⟨Nf.nil m, by simp; omega, cl_eq.1 h0⟩
  have e := Rem.unique (by omega) hu r1 r2
  have h3 := nf_cg m a
  rw [e] at h3
  exact h3.symm
theorem monic_ne {a : List Int} (hm : 2 ≤ m) (h1 : ld f = 1) (h : a.length < f.length) (ha : ld a = 1) : cl m f a ≠ 0 := fun h0 => by
  have h2 := short_zero hm h1 h h0 (a.length - 1)
  rw [cf_nil, show cf a (a.length - 1) = 1 from ha] at h2
  have := Int.le_of_dvd (by omega) h2
  omega
theorem one_ne (hm : 2 ≤ m) (h1 : ld f = 1) (h : 2 ≤ f.length) : (1 : Q m f) ≠ 0 := monic_ne (a := [1]) hm h1 (by simp; omega) rfl

/-- Bezout. -/
theorem bezout {a b x : List Int} (h : Eu m a b x) : ∃ s t, Cg m x (add (mul s a) (mul t b)) := by
  induction h with
  | done a => exact ⟨[1], [], Cg.of fun i => by rw [cf_add, mul_one]; simp⟩
  | @step a b q r x hb hd _ ih =>
    obtain ⟨s, t, h⟩ := ih
    refine ⟨t, add s (mul (sc (-1) q) t), ?_⟩
    have hr := rest_cg hd.2.2.2
    refine h.trans ?_
    have h2 : Cg m (mul t r) (mul t (add (mul (sc (-1) q) b) a)) := (Cg.refl m t).mul hr
    refine ((Cg.refl m (mul s b)).add h2).trans ?_
    refine ((Cg.refl m (mul s b)).add (cg_distr m _ a t)).trans ?_
    refine Cg.trans ?_ ((Cg.refl m (mul t a)).add (cg_distl m s (mul (sc (-1) q) t) b).symm)
    have e : Cg m (mul t (mul (sc (-1) q) b)) (mul (mul (sc (-1) q) t) b) := ((cg_assoc m t (sc (-1) q) b).symm).trans ((cg_swap m t (sc (-1) q)).mul (Cg.refl m b))
    intro i
    have := e i
    simp only [cf_add]
    have e2 : cf (mul s b) i + (cf (mul t (mul (sc (-1) q) b)) i + cf (mul t a) i) - (cf (mul t a) i + (cf (mul s b) i + cf (mul (mul (sc (-1) q) t) b) i)) = cf (mul t (mul (sc (-1) q) b)) i - cf (mul (mul (sc (-1) q) t) b) i := by omega
    rw [e2]; exact this
end Oq
/- Factors of x^n + 1 modulo p: their degrees are at least the order d of p modulo 2 n, and one of a greater degree is split by the power of some polynomial. No Go here. -/
namespace Oq
open Op
set_option linter.unusedVariables false
set_option linter.unusedSectionVars false

def dims : List Nat := [2, 4, 8, 16, 32]
/-- Finite facts about an odd number r modulo 2 n and its order d. -/
def isOrd (n r d : Nat) : Prop := 1 ≤ d ∧ r ^ d % (2 * n) = 1 ∧ ∀ j, j < d → 1 ≤ j → r ^ j % (2 * n) ≠ 1
instance (n r d : Nat) : Decidable (isOrd n r d) := by unfold isOrd; infer_instance
def ordOf (n r : Nat) : Nat → Nat → Nat
  | 0, d => d
  | k + 1, d => if r ^ d % (2 * n) = 1 then d else ordOf n r k (d + 1)
def chk (n r : Nat) : Bool :=
  let d := ordOf n r 40 1
  decide (isOrd n r d) && decide (n % d = 0) &&
  (List.range d).all (fun b => (List.range b).all fun a => r ^ a % (2 * n) != r ^ b % (2 * n)) &&
  ((d * r % (2 * n) == d % (2 * n)) || (d % 2 == 0 && (d / 2 * r * r % (2 * n) == d / 2 % (2 * n)) && (d / 2 * (r + 1) % (2 * n) == 0 || d / 2 * (r + 1) % (2 * n) == n))) &&
  (d == 1 || (r ^ d / 2 % (2 * n) == n) || (d == 2 && r % 4 == 3))
/-- What holds of an odd number p and its order modulo 2 n. -/
structure PD (n p d : Nat) : Prop where
  d1 : 1 ≤ d
  one : p ^ d % (2 * n) = 1
  dvd : n % d = 0
  min : ∀ j, j < d → 1 ≤ j → p ^ j % (2 * n) ≠ 1
  inj : ∀ a b, a < b → b < d → p ^ a % (2 * n) ≠ p ^ b % (2 * n)
  fixed : d * p % (2 * n) = d % (2 * n) ∨ (d % 2 = 0 ∧ d / 2 * p * p % (2 * n) = d / 2 % (2 * n) ∧ (d / 2 * (p + 1) % (2 * n) = 0 ∨ d / 2 * (p + 1) % (2 * n) = n))
  half : d = 1 ∨ p ^ d / 2 % (2 * n) = n ∨ (d = 2 ∧ p % 4 = 3)
theorem PD.unique {n p d d' : Nat} (h : PD n p d) (h' : PD n p d') : d = d' := by
  rcases Nat.lt_trichotomy d d' with h1 | h1 | h1
  · exact absurd h.one (h'.min d h1 h.d1)
  · exact h1
  · exact absurd h'.one (h.min d' h1 h'.d1)

/-- f is a monic divisor of x^n + 1 modulo p, of degree at least 1. -/
structure Dz (p n : Nat) (f : List Int) : Prop where
  hp : Ob.Pr p
  h2 : 2 < p
  hn : n ∈ dims
  nor : Nf p f
  mon : Op.ld f = 1
  len : 2 ≤ f.length
  dd : Dd p f (xn n)

section
variable {p n : Nat} {f : List Int}
theorem Dz.n2 (D : Dz p n f) : 2 ≤ n ∧ n % 2 = 0 ∧ n ≤ 32 := by have := D.hn; simp [dims] at this; omega
theorem Dz.odd (D : Dz p n f) : p % 2 = 1 := by
  rcases Nat.mod_two_eq_zero_or_one p with h | h
  · exact absurd (Nat.dvd_of_mod_eq_zero h) (D.hp.2 2 (Nat.le_refl _) D.h2)
  · exact h
theorem Dz.p2 (D : Dz p n f) : (2 : Int) ≤ p := by have := D.h2; omega
theorem Dz.one (D : Dz p n f) : (1 : Q p f) ≠ 0 := one_ne D.p2 D.mon D.len
theorem Dz.neg (D : Dz p n f) : pw (X p f) n = -1 := by
  have h := cl_zero_iff.2 D.dd
  rw [cl_xn] at h
  exact (laws p f).neg_of h
theorem Dz.two_n (D : Dz p n f) : pw (X p f) (2 * n) = 1 := by
  have L := laws (p : Int) f
  rw [Nat.mul_comm, L.pw_mul, D.neg]
  simp only [pw]
  rw [L.om, L.mn, L.mo, L.nn]
theorem Dz.per (D : Dz p n f) {a b : Nat} (h : a % (2 * n) = b % (2 * n)) : pw (X p f) a = pw (X p f) b := by
  have L := laws (p : Int) f
  have g : ∀ a, pw (X p f) a = pw (X p f) (a % (2 * n)) := fun a => by
    conv => lhs; rw [← Nat.div_add_mod a (2 * n)]
    rw [L.pw_add, L.pw_mul, D.two_n, L.one_pw, L.om]
  rw [g a, g b, h]
theorem Dz.half_two (D : Dz p n f) : ∃ h : Q p f, (1 + 1) * h = 1 := by
  have L := laws (p : Int) f
  refine ⟨kk p f (((p + 1) / 2 : Nat) : Int), ?_⟩
  rw [← L.k1, ← L.ka, ← L.km]
  exact L.k_mod (k_m p f) ⟨1, by have := D.odd; omega⟩
theorem Dz.two (D : Dz p n f) {a : Q p f} (h : a + a = 0) : a = 0 := by
  have L := laws (p : Int) f
  obtain ⟨t, ht⟩ := D.half_two
  exact L.cut ⟨t, ht⟩ (by rw [L.dm, L.om]; exact h)
theorem Dz.ev (D : Dz p n f) : ∀ i, evR (kk p f) f (pw (X p f) (p ^ i)) = 0
  | 0 => by rw [Nat.pow_zero, (laws p f).pw1, ev_X, cl_self]
  | i + 1 => by
    have L := laws (p : Int) f
    rw [Nat.pow_succ, L.pw_mul, ← L.ev_frob D.hp (k_m p f), D.ev i, L.zero_pw (by have := D.h2; omega)]
/-- Everything is its own power to the exponent p^d. -/
theorem Dz.all (D : Dz p n f) {d : Nat} (P : PD n p d) (a : List Int) : pw (cl p f a) (p ^ d) = cl p f a := by
  have L := laws (p : Int) f
  rw [← ev_X]
  have g : ∀ i, pw (evR (kk p f) a (X p f)) (p ^ i) = evR (kk p f) a (pw (X p f) (p ^ i)) := fun i => by
    induction i with
    | zero => rw [Nat.pow_zero, L.pw1, L.pw1]
    | succ i ih => rw [Nat.pow_succ, L.pw_mul, ih, L.ev_frob D.hp (k_m p f), ← L.pw_mul]
  rw [g, D.per (b := 1) (by rw [P.one, Nat.mod_eq_of_lt (by have := D.n2; omega)]), L.pw1]

end
end Oq
/- What splits a factor of x^n + 1 of a degree above the order; common divisors; no square divides x^n + 1; products of factors. No Go here. -/
namespace Ob
end Ob
namespace Oq
open Op
set_option linter.unusedVariables false
set_option linter.unusedSectionVars false
section
variable {p n : Nat} {f : List Int}
/-- A monic polynomial whose power is 1 or -1 modulo the parts of f, and not the same for all. -/
def SpR (p : Nat) (f : List Int) (E : Nat) (a : List Int) : Prop := pw (cl p f a) E * pw (cl p f a) E = 1 ∧ pw (cl p f a) E ≠ 1 ∧ pw (cl p f a) E ≠ -1
end
end Oq
/- Common divisors that split, no square divides x^n + 1, products of factors. No Go here. -/
namespace Op
set_option linter.unusedVariables false
theorem fld_of {p : Nat} (hp : Ob.Pr p) : Fld p := by
  intro u h0 h1
  obtain ⟨u', rfl⟩ := Int.eq_ofNat_of_zero_le (show 0 ≤ u from by omega)
  have hp2 := hp.1
  have hcop : ¬ p ∣ u' := fun hd => by have := Nat.le_of_dvd (by omega) hd; omega
  have h3 := Ob.fermat hp hcop
  obtain ⟨q, hq⟩ : ∃ q, p = q + 2 := ⟨p - 2, by omega⟩
  refine ⟨(u' : Int) ^ q, ?_⟩
  obtain ⟨r, hr⟩ : ∃ r, u' ^ (p - 1) = p * r + 1 := ⟨u' ^ (p - 1) / p, by have := Nat.div_add_mod (u' ^ (p - 1)) p; omega⟩
  have e : (u' : Int) * (u' : Int) ^ q = ((u' ^ (p - 1) : Nat) : Int) := by
    rw [Int.mul_comm, ← Int.pow_succ, show q.succ = p - 1 from by omega, Int.natCast_pow]
  rw [e, hr]
  exact ⟨r, by simp⟩
theorem Gd.parts {m : Int} {a b g : List Int} (hm : 2 ≤ m) (hne : a ≠ []) (ha : Nf m a) (hb : Nf m b) (h : Gd m a b g) :
    Nf m g ∧ ld g = 1 ∧ g ≠ [] ∧ Dd m g a ∧ Dd m g b ∧ ∃ s t, Cg m g (add (mul s a) (mul t b)) := by
  obtain ⟨x, hx, ⟨h0, _⟩ | ⟨h0, v, hv, rfl⟩⟩ := h
  · exact absurd (Dd.zero (by omega) ha (h0 ▸ hx.divides.1)) hne
  · have hl := nf_len_unit hm h0 hv
    have hgx : Dd m (nf m (sc v x)) x := by
      refine ⟨[ld x], ?_⟩
      refine Cg.trans ?_ (cg_scn' m _ _).symm
      refine Cg.trans ?_ (Cg.sc (ld x) (nf_cg m (sc v x)).symm)
      intro i
      rw [cf_sc, cf_sc]
      have e : cf x i - ld x * (v * cf x i) = -((ld x * v - 1) * cf x i) := by rw [Int.sub_mul, Int.mul_assoc]; omega
      rw [e]; exact Int.dvd_neg.2 (Int.dvd_mul_of_dvd_left hv)
    refine ⟨nf_nf (by omega) _, hl.2, fun e => ?_, hgx.trans hx.divides.1, hgx.trans hx.divides.2, ?_⟩
    · rw [e] at hl
      exact h0 (List.eq_nil_of_length_eq_zero hl.1.symm)
    · obtain ⟨s, t, hst⟩ := Oq.bezout hx
      refine ⟨sc v s, sc v t, ?_⟩
      refine (nf_cg m _).trans ((Cg.sc v hst).trans (Cg.of fun i => ?_))
      rw [cf_sc, cf_add, cf_add, mul_sc_left, mul_sc_left, Int.mul_add]
theorem mono_div {m : Int} {f q g : List Int} (hm : 2 ≤ m) (hq : Nf m q) (hf : Nf m f) (lg : ld g = 1) (lf : ld f = 1) (hfne : f ≠ []) (hgne : g ≠ []) (h : Cg m f (mul q g)) :
    ld q = 1 ∧ q.length + g.length = f.length + 1 ∧ q ≠ [] := by
  have f0 : f.length ≠ 0 := fun e => hfne (List.eq_nil_of_length_eq_zero e)
  have g0 : g.length ≠ 0 := fun e => hgne (List.eq_nil_of_length_eq_zero e)
  have hqne : q ≠ [] := fun e => by
    have h1 := h (f.length - 1)
    rw [e, cf_mul_nil, show cf f (f.length - 1) = 1 from lf] at h1
    have := Int.le_of_dvd (by omega) h1
    omega
  have q0 : q.length ≠ 0 := fun e => hqne (List.eq_nil_of_length_eq_zero e)
  have ht := top_mul q g hqne hgne
  rw [lg, Int.mul_one] at ht
  have h1 := h (q.length - 1 + (g.length - 1))
  rw [ht] at h1
  have hq1 := rs_cf (show 0 < m by omega) hq.1 (q.length - 1)
  have hq2 := tz_last hq.2 hqne
  have hle : q.length - 1 + (g.length - 1) ≤ f.length - 1 := by
    apply Classical.byContradiction
    intro hlt
    rw [cf_out (l := f) (by omega)] at h1
    have h3 : m ∣ ld q := by have := Int.dvd_neg.2 h1; rwa [show -(0 - ld q) = ld q by omega] at this
    have hpos : 0 < ld q := by show 0 < cf q _; omega
    have := Int.le_of_dvd hpos h3
    have : ld q < m := hq1.2
    omega
  have hge : f.length - 1 ≤ q.length - 1 + (g.length - 1) := by
    apply Classical.byContradiction
    intro hlt
    have h2 := h (f.length - 1)
    rw [cf_mul_out (by omega), show cf f (f.length - 1) = 1 from lf] at h2
    have := Int.le_of_dvd (by omega) h2
    omega
  have e : q.length - 1 + (g.length - 1) = f.length - 1 := by omega
  rw [e, show cf f (f.length - 1) = 1 from lf] at h1
  refine ⟨(dvd_small h1 (by omega) ⟨hq1.1, hq1.2⟩).symm, by omega, hqne⟩
end Op
namespace Oq
open Op
set_option linter.unusedVariables false
set_option linter.unusedSectionVars false
section
variable {p n : Nat} {f : List Int}
theorem Dz.ne (D : Dz p n f) : f ≠ [] := fun e => by have := D.len; rw [e] at this; simp at this
theorem Dz.divisor (D : Dz p n f) {g : List Int} (h1 : Nf p g) (h2 : Op.ld g = 1) (h3 : 2 ≤ g.length) (h4 : Dd p g f) : Dz p n g := ⟨D.hp, D.h2, D.hn, h1, h2, h3, h4.trans D.dd⟩
theorem Dz.gcd (D : Dz p n f) {E : Nat} {a less g : List Int} (hN : Nf p less) (hl : cl p f less = pw (cl p f a) E + -1) (hg : Gd p f less g) (hS : SpR p f E a) : 1 < g.length ∧ g.length < f.length := by
  have L := laws (p : Int) f
  have hp2 := D.p2
  obtain ⟨g1, g2, g3, g4, g5, s, t, g6⟩ := Gd.parts hp2 D.ne D.nor hN hg
  obtain ⟨S1, S2, S3⟩ := hS
  have g0 : g.length ≠ 0 := fun e => g3 (List.eq_nil_of_length_eq_zero e)
  obtain ⟨q, hq⟩ := g4
  have hq' : Cg p f (mul (nf p q) g) := hq.trans ((nf_cg p q).symm.mul (Cg.refl _ g))
  obtain ⟨q1, q2, q3⟩ := mono_div hp2 (nf_nf (by omega) q) D.nor g2 D.mon D.ne g3 hq'
  have q0 : (nf p q).length ≠ 0 := fun e => q3 (List.eq_nil_of_length_eq_zero e)
  constructor
  · apply Classical.byContradiction
    intro hlt
    have h1 : g.length = 1 := by omega
    obtain ⟨c, hc⟩ := List.length_eq_one_iff.1 h1
    have hc1 : c = 1 := by rw [hc] at g2; exact g2
    have e1 : cl p f t * (pw (cl p f a) E + -1) = 1 := by
      rw [← hl, cl_mul, cl_one, ← hc1, ← hc, cl_cg g6, ← cl_add, ← cl_mul s f, cl_self, L.mz, L.za]
    refine S3 ?_
    have e2 : (pw (cl p f a) E + -1) * (pw (cl p f a) E + 1) = 0 := by
      rw [L.md, L.dm, S1, L.nm, L.om, L.mo, ← L.aa, L.aa 1, L.na, L.az, L.an]
    have e3 := L.cut ⟨cl p f t, by rw [L.mc]; exact e1⟩ e2
    exact L.neg_of (by rw [L.ac]; exact e3)
  · apply Classical.byContradiction
    intro hlt
    have h1 : (nf p q).length = 1 := by omega
    obtain ⟨c, hc⟩ := List.length_eq_one_iff.1 h1
    have hc1 : c = 1 := by rw [hc] at q1; exact q1
    rw [hc, hc1] at hq'
    have hfg : Cg p f g := hq'.trans (Cg.of (mul_one g))
    obtain ⟨k, hk⟩ := g5
    have h2 : cl p f less = 0 := cl_zero_iff.2 ⟨k, hk.trans ((Cg.refl _ k).mul hfg.symm)⟩
    rw [hl] at h2
    exact S2 (L.eq_of h2)
theorem Dz.parts (D : Dz p n f) {less g h r : List Int} (hN : Nf p less) (hg : Gd p f less g) (h1 : 1 < g.length) (h2 : g.length < f.length) (hd : Dv p f g h r) :
    Dz p n g ∧ Dz p n h ∧ Cg p f (mul h g) ∧ h.length + g.length = f.length + 1 := by
  have hp2 := D.p2
  obtain ⟨g1, g2, g3, ⟨k, hk⟩, g5, s, t, g6⟩ := Gd.parts hp2 D.ne D.nor hN hg
  have hr := Dv.exact (by omega) g3 (by rw [g2]; exact ⟨1, 0, by omega⟩) hk hd
  have hf : Cg p f (mul h g) := by
    have := hd.2.2.2
    rw [hr] at this
    exact this.trans (cg_addn _ _)
  obtain ⟨m1, m2, m3⟩ := mono_div hp2 hd.1 D.nor g2 D.mon D.ne g3 hf
  refine ⟨D.divisor g1 g2 h1 ⟨k, hk⟩, D.divisor hd.1 m1 (by omega) ⟨g, hf.trans (cg_swap _ _ _)⟩, hf, m2⟩
end
theorem xn_len (n : Nat) : (xn n).length = n + 1 := by unfold xn; rw [add_len, sh_len]; simp
/-- Products of lists. -/
def prd : List (List Int) → List Int
  | [] => [1]
  | l :: ls => mul l (prd ls)
/-- A monic polynomial of degree d. -/
def Leaf (p d : Nat) (l : List Int) : Prop := Nf p l ∧ Op.ld l = 1 ∧ l.length = d + 1
/-- The polynomials of a list are monic of degree d and have the product f. -/
def Lv (p d : Nat) (f : List Int) (ls : List (List Int)) : Prop := (∀ l ∈ ls, Leaf p d l) ∧ Cg p f (prd ls)
theorem Lv.one {p d : Nat} {f : List Int} (h : Leaf p d f) : Lv p d f [f] := ⟨fun l hl => by rw [List.mem_singleton.1 hl]; exact h, (cg_swap _ _ _).trans ((Cg.of (mul_one f))) |>.symm⟩
end Oq
