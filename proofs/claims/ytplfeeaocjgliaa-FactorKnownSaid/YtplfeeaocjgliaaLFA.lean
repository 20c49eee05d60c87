import Derived.Test.YtplfeeaocjgliaaLMF
import Derived.Test.YtplfeeaocjgliaaLPA
/- Commutative rings with an image of the integers: powers, the binomial theorem, the p-th power, monic polynomials and their roots. No Go here. -/
namespace Oq
set_option linter.unusedVariables false
set_option linter.unusedSectionVars false
variable {R : Type} [Add R] [Mul R] [Neg R] [Zero R] [One R]

structure Laws (R : Type) [Add R] [Mul R] [Neg R] [Zero R] [One R] (k : Int → R) : Prop where
  ac : ∀ a b : R, a + b = b + a
  aa : ∀ a b c : R, a + b + c = a + (b + c)
  az : ∀ a : R, a + 0 = a
  an : ∀ a : R, a + -a = 0
  mc : ∀ a b : R, a * b = b * a
  ma : ∀ a b c : R, a * b * c = a * (b * c)
  mo : ∀ a : R, a * 1 = a
  md : ∀ a b c : R, a * (b + c) = a * b + a * c
  ka : ∀ a b : Int, k (a + b) = k a + k b
  km : ∀ a b : Int, k (a * b) = k a * k b
  k1 : k 1 = 1
variable {k : Int → R}

theorem Laws.za (L : Laws R k) (a : R) : 0 + a = a := by rw [L.ac, L.az]
theorem Laws.na (L : Laws R k) (a : R) : -a + a = 0 := by rw [L.ac, L.an]
theorem Laws.om (L : Laws R k) (a : R) : 1 * a = a := by rw [L.mc, L.mo]
theorem Laws.dm (L : Laws R k) (a b c : R) : (b + c) * a = b * a + c * a := by rw [L.mc, L.md, L.mc a b, L.mc a c]
theorem Laws.cancel (L : Laws R k) {a b c : R} (h : a + b = a + c) : b = c := by
  have e : -a + (a + b) = -a + (a + c) := by rw [h]
  rwa [← L.aa, ← L.aa, L.na, L.za, L.za] at e
theorem Laws.mz (L : Laws R k) (a : R) : a * 0 = 0 := by
  have h : a * 0 + a * 0 = a * 0 + 0 := by rw [← L.md, L.az, L.az]
  exact L.cancel h
theorem Laws.zm (L : Laws R k) (a : R) : 0 * a = 0 := by rw [L.mc, L.mz]
theorem Laws.neg_of (L : Laws R k) {a b : R} (h : a + b = 0) : b = -a := L.cancel (a := a) (by rw [h, L.an])
theorem Laws.eq_of (L : Laws R k) {a b : R} (h : a + -b = 0) : a = b := by
  have := L.neg_of (a := -b) (b := a) (by rw [L.ac]; exact h)
  rw [this]; exact (L.neg_of (L.na b)).symm
theorem Laws.nn (L : Laws R k) (a : R) : - -a = a := (L.neg_of (L.na a)).symm
theorem Laws.mn (L : Laws R k) (a b : R) : a * -b = -(a * b) := L.neg_of (by rw [← L.md, L.an, L.mz])
theorem Laws.nm (L : Laws R k) (a b : R) : -a * b = -(a * b) := by rw [L.mc, L.mn, L.mc]
theorem Laws.n0 (L : Laws R k) : -(0 : R) = 0 := (L.neg_of (L.az 0)).symm
theorem Laws.nad (L : Laws R k) (a b : R) : -(a + b) = -a + -b := (L.neg_of (by
  rw [L.aa, ← L.aa b, L.ac b, L.aa, ← L.aa, L.an, L.an, L.za])).symm
theorem Laws.k0 (L : Laws R k) : k 0 = 0 := by
  have h : k 0 + k 0 = k 0 + 0 := by rw [← L.ka, L.az]; rfl
  exact L.cancel h
theorem Laws.kn (L : Laws R k) (a : Int) : k (-a) = -k a := L.neg_of (by rw [← L.ka, Int.add_right_neg, L.k0])
theorem Laws.ks (L : Laws R k) (a b : Int) : k (a - b) = k a + -k b := by rw [Int.sub_eq_add_neg, L.ka, L.kn]
theorem Laws.mul4 (L : Laws R k) (a b c d : R) : a * b * (c * d) = a * c * (b * d) := by
  rw [L.ma, L.ma, ← L.ma b, L.mc b, L.ma]
theorem Laws.add4 (L : Laws R k) (a b c d : R) : a + b + (c + d) = a + c + (b + d) := by
  rw [L.aa, L.aa, ← L.aa b, L.ac b, L.aa]
theorem Laws.sub_add (L : Laws R k) (a b : R) : a + -b + b = a := by rw [L.aa, L.na, L.az]
/-- Powers. -/
def pw (a : R) : Nat → R
  | 0 => 1
  | n + 1 => pw a n * a
theorem Laws.pw1 (L : Laws R k) (a : R) : pw a 1 = a := by rw [pw, pw, L.om]
theorem Laws.pw_add (L : Laws R k) (a : R) (m : Nat) : ∀ n, pw a (m + n) = pw a m * pw a n
  | 0 => by rw [pw, L.mo]; rfl
  | n + 1 => by rw [← Nat.add_assoc, pw, L.pw_add a m n, pw, L.ma]
theorem Laws.pw_mul (L : Laws R k) (a : R) (m : Nat) : ∀ n, pw a (m * n) = pw (pw a m) n
  | 0 => rfl
  | n + 1 => by rw [Nat.mul_succ, L.pw_add, L.pw_mul a m n, pw]
theorem Laws.mul_pw (L : Laws R k) (a b : R) : ∀ n, pw (a * b) n = pw a n * pw b n
  | 0 => by simp only [pw]; rw [L.mo]
  | n + 1 => by simp only [pw]; rw [L.mul_pw a b n, L.mul4]
theorem Laws.one_pw (L : Laws R k) : ∀ n, pw (1 : R) n = 1
  | 0 => rfl
  | n + 1 => by rw [pw, L.one_pw n, L.mo]
theorem Laws.zero_pw (L : Laws R k) {n : Nat} (h : 1 ≤ n) : pw (0 : R) n = 0 := by
  obtain ⟨m, rfl⟩ : ∃ m, n = m + 1 := ⟨n - 1, by omega⟩
  rw [pw, L.mz]
theorem Laws.k_pw (L : Laws R k) (c : Int) : ∀ n : Nat, k (c ^ n) = pw (k c) n
  | 0 => by rw [Int.pow_zero, L.k1]; rfl
  | n + 1 => by rw [Int.pow_succ, L.km, L.k_pw c n]; rfl
/-- Sums. -/
def Sm : Nat → (Nat → R) → R
  | 0, _ => 0
  | n + 1, f => Sm n f + f n
theorem Sm_cong {f g : Nat → R} : ∀ {n : Nat}, (∀ j, j < n → f j = g j) → Sm n f = Sm n g
  | 0, _ => rfl
  | n + 1, h => by rw [Sm, Sm, Sm_cong (fun j hj => h j (by omega)), h n (by omega)]
theorem Laws.Sm_add (L : Laws R k) (f g : Nat → R) : ∀ n, Sm n (fun j => f j + g j) = Sm n f + Sm n g
  | 0 => by simp only [Sm]; rw [L.az]
  | n + 1 => by simp only [Sm]; rw [L.Sm_add f g n, L.add4]
theorem Laws.Sm_mul (L : Laws R k) (c : R) (f : Nat → R) : ∀ n, Sm n (fun j => f j * c) = Sm n f * c
  | 0 => by simp only [Sm]; rw [L.zm]
  | n + 1 => by simp only [Sm]; rw [L.Sm_mul c f n, L.dm]
theorem Laws.Sm_left (L : Laws R k) (f : Nat → R) : ∀ n, Sm (n + 1) f = f 0 + Sm n (fun j => f (j + 1))
  | 0 => by simp only [Sm]; rw [L.az, L.za]
  | n + 1 => by rw [Sm, L.Sm_left f n, Sm, L.aa]
theorem Laws.Sm_zero (L : Laws R k) {f : Nat → R} : ∀ {n : Nat}, (∀ j, j < n → f j = 0) → Sm n f = 0
  | 0, _ => rfl
  | n + 1, h => by rw [Sm, L.Sm_zero (fun j hj => h j (by omega)), h n (by omega), L.az]

/-- Binomial coefficients. -/
def Ch : Nat → Nat → Nat
  | _, 0 => 1
  | 0, _ + 1 => 0
  | n + 1, j + 1 => Ch n j + Ch n (j + 1)
theorem Ch_zero (n : Nat) : Ch n 0 = 1 := by cases n <;> rfl
theorem Ch_out : ∀ {n j : Nat}, n < j → Ch n j = 0
  | 0, 0, h => by omega
  | 0, j + 1, _ => rfl
  | n + 1, 0, h => by omega
  | n + 1, j + 1, h => by rw [Ch, Ch_out (by omega), Ch_out (by omega)]
theorem Ch_self : ∀ n, Ch n n = 1
  | 0 => rfl
  | n + 1 => by rw [Ch, Ch_self n, Ch_out (by omega)]
theorem Ch_mul : ∀ n j : Nat, (j + 1) * Ch (n + 1) (j + 1) = (n + 1) * Ch n j
  | 0, 0 => by simp [Ch]
  | 0, j + 1 => by simp [Ch]
  | n + 1, 0 => by
    have h := Ch_mul n 0
    rw [Ch_zero] at h ⊢
    rw [Ch, Ch_zero]
    omega
  | n + 1, j + 1 => by
    have h1 := Ch_mul n j
    have h2 := Ch_mul n (j + 1)
    have e1 : Ch (n + 2) (j + 2) = Ch (n + 1) (j + 1) + Ch (n + 1) (j + 2) := by rw [Ch]
    have e2 : Ch (n + 1) (j + 1) = Ch n j + Ch n (j + 1) := by rw [Ch]
    show (j + 2) * Ch (n + 2) (j + 2) = (n + 2) * Ch (n + 1) (j + 1)
    rw [e1, Nat.mul_add, show (j + 2) * Ch (n + 1) (j + 2) = (n + 1) * Ch n (j + 1) from h2]
    have h3 : (j + 2) * Ch (n + 1) (j + 1) = (n + 1) * Ch n j + Ch (n + 1) (j + 1) := by
      rw [← h1, show j + 2 = j + 1 + 1 from rfl, Nat.add_mul (j + 1) 1, Nat.one_mul]
    rw [h3, show n + 2 = n + 1 + 1 from rfl, Nat.add_mul (n + 1) 1, Nat.one_mul, e2, Nat.mul_add]
    omega
theorem Ch_prime {p j : Nat} (hp : Ob.Pr p) (h0 : 0 < j) (h1 : j < p) : p ∣ Ch p j := by
  obtain ⟨i, rfl⟩ : ∃ i, j = i + 1 := ⟨j - 1, by omega⟩
  obtain ⟨q, rfl⟩ : ∃ q, p = q + 1 := ⟨p - 1, by omega⟩
  have h := Ch_mul q i
  rcases hp.mul (a := i + 1) (b := Ch (q + 1) (i + 1)) ⟨Ch q i, h⟩ with h2 | h2
  · have := Nat.le_of_dvd (by omega) h2
    omega
  · exact h2

theorem Laws.binom (L : Laws R k) (a b : R) : ∀ n : Nat, pw (a + b) n = Sm (n + 1) (fun j => k (Ch n j) * (pw a j * pw b (n - j)))
  | 0 => by
    simp only [Sm, pw, Ch, Nat.sub_self]
    rw [L.mo, L.mo, L.za, show ((1 : Nat) : Int) = 1 from rfl, L.k1]
  | n + 1 => by
    have ih := L.binom a b n
    rw [pw, ih, L.md]
    rw [← L.Sm_mul, ← L.Sm_mul, L.Sm_left (fun j => k (Ch (n + 1) j) * (pw a j * pw b (n + 1 - j))) (n + 1)]
    have hA : Sm (n + 1) (fun j => k (Ch n j) * (pw a j * pw b (n - j)) * a) = Sm (n + 1) (fun j => k (Ch n j) * (pw a (j + 1) * pw b (n - j))) :=
      Sm_cong fun j _ => by rw [pw, L.ma, L.ma, L.mc (pw b (n - j)) a, L.ma]
    have hB : Sm (n + 1) (fun j => k (Ch n j) * (pw a j * pw b (n - j)) * b) = Sm (n + 1) (fun j => k (Ch n j) * (pw a j * pw b (n + 1 - j))) :=
      Sm_cong fun j hj => by rw [show n + 1 - j = (n - j) + 1 from by omega, pw, L.ma, L.ma]
    have hC : Sm (n + 1) (fun j => k (Ch n j) * (pw a j * pw b (n + 1 - j))) = pw b (n + 1) + Sm (n + 1) (fun j => k (Ch n (j + 1)) * (pw a (j + 1) * pw b (n - j))) := by
      rw [L.Sm_left]
      have e : Sm (n + 1) (fun j => k (Ch n (j + 1)) * (pw a (j + 1) * pw b (n - j))) = Sm n (fun j => k (Ch n (j + 1)) * (pw a (j + 1) * pw b (n - j))) := by
        rw [Sm, Ch_out (show n < n + 1 from by omega), show ((0 : Nat) : Int) = 0 from rfl, L.k0, L.zm, L.az]
      rw [e, Ch_zero, show ((1 : Nat) : Int) = 1 from rfl, L.k1, L.om, show pw a 0 = 1 from rfl, L.om]
      congr 1
      exact Sm_cong fun j _ => by rw [show n + 1 - (j + 1) = n - j from by omega]
    have hD : Sm (n + 1) (fun j => k (Ch (n + 1) (j + 1)) * (pw a (j + 1) * pw b (n + 1 - (j + 1)))) = Sm (n + 1) (fun j => k (Ch n j) * (pw a (j + 1) * pw b (n - j))) + Sm (n + 1) (fun j => k (Ch n (j + 1)) * (pw a (j + 1) * pw b (n - j))) := by
      rw [← L.Sm_add]
      exact Sm_cong fun j _ => by rw [show n + 1 - (j + 1) = n - j from by omega, Ch, show ((Ch n j + Ch n (j + 1) : Nat) : Int) = (Ch n j : Int) + (Ch n (j + 1) : Int) from by omega, L.ka, L.dm]
    rw [hA, hB, hC, hD, Ch_zero, show ((1 : Nat) : Int) = 1 from rfl, L.k1, L.om, show pw a 0 = 1 from rfl, L.om, Nat.sub_zero]
    rw [← L.aa, L.ac (Sm _ _) (pw b (n + 1)), L.aa]

/-- In characteristic p the p-th power of a sum is the sum of the p-th powers. -/
theorem Laws.frob (L : Laws R k) {p : Nat} (hp : Ob.Pr p) (h0 : k p = 0) (a b : R) : pw (a + b) p = pw a p + pw b p := by
  have hp1 := hp.1
  rw [L.binom a b p, Sm, Ch_self, Nat.sub_self, show ((1 : Nat) : Int) = 1 from rfl, L.k1, L.om, show pw b 0 = 1 from rfl, L.mo]
  obtain ⟨q, hq⟩ : ∃ q, p = q + 1 := ⟨p - 1, by omega⟩
  have e : Sm p (fun j => k (Ch p j) * (pw a j * pw b (p - j))) = pw b p := by
    have e1 : Sm (q + 1) (fun j => k (Ch p j) * (pw a j * pw b (p - j))) = pw b p := by
      rw [L.Sm_left, L.Sm_zero (fun j hj => ?_), L.az, Ch_zero, show ((1 : Nat) : Int) = 1 from rfl, L.k1, L.om, show pw a 0 = 1 from rfl, L.om, Nat.sub_zero]
      obtain ⟨c, hc⟩ := Ch_prime hp (show 0 < j + 1 from by omega) (show j + 1 < p from by omega)
      rw [hc, show ((p * c : Nat) : Int) = (p : Int) * (c : Int) from by simp, L.km, h0, L.zm, L.zm]
    rw [hq] at e1 ⊢
    exact e1
  rw [e, L.ac]
theorem Laws.k_mod (L : Laws R k) {p : Nat} (h0 : k p = 0) {a b : Int} (h : (p : Int) ∣ a - b) : k a = k b := by
  obtain ⟨c, hc⟩ := h
  have e : k (a - b) = 0 := by rw [hc, L.km, h0, L.zm]
  rw [L.ks] at e
  exact L.eq_of e
theorem fermat_int {p : Nat} (hp : Ob.Pr p) (c : Int) : (p : Int) ∣ c ^ p - c := by
  have hp1 := hp.1
  have key : ∀ a : Nat, (p : Int) ∣ (a : Int) ^ p - a := fun a => by
    by_cases h : p ∣ a
    · obtain ⟨d, rfl⟩ := h
      obtain ⟨q, hq⟩ : ∃ q, p = q + 1 := ⟨p - 1, by omega⟩
      have h2 : ((p * d : Nat) : Int) ^ p = ((p : Int) * d) ^ q * ((p : Int) * d) := by
        rw [show ((p * d : Nat) : Int) = (p : Int) * d from by simp]
        conv => lhs; rw [hq, Int.pow_succ]
        rw [← hq]
      rw [h2]
      refine ⟨((p : Int) * d) ^ q * d - d, ?_⟩
      rw [Int.mul_sub, show ((p * d : Nat) : Int) = (p : Int) * d from by simp, Int.mul_left_comm]
    · have h1 := Ob.fermat hp h
      have h2 : p ∣ a ^ p - a := by
        rw [← Ob.mod_iff_dvd (by
          have := Nat.le_self_pow (show p ≠ 0 from by omega) a
          exact this)]
        obtain ⟨q, hq⟩ : ∃ q, p = q + 1 := ⟨p - 1, by omega⟩
        have e : a ^ p = a ^ (p - 1) * a := by rw [hq, Nat.pow_succ]; simp
        rw [e, Nat.mul_mod, h1, Nat.one_mul, Nat.mod_mod]
      obtain ⟨d, hd⟩ := h2
      have h3 : a ≤ a ^ p := Nat.le_self_pow (show p ≠ 0 from by omega) a
      refine ⟨d, ?_⟩
      have e2 : a ^ p = p * d + a := by omega
      have e3 : ((a ^ p : Nat) : Int) = (p : Int) * d + a := by rw [e2]; simp
      rw [← Int.natCast_pow, e3]; omega
  have h1 := key (c % p).toNat
  have hc : ((c % p).toNat : Int) = c % p := Int.toNat_of_nonneg (Int.emod_nonneg c (by omega))
  rw [hc] at h1
  have h2 : (p : Int) ∣ c % p - c := by
    have := Int.emod_add_mul_ediv c p
    exact ⟨-(c / p), by rw [Int.mul_neg]; omega⟩
  have h3 : (p : Int) ∣ (c % p) ^ p - c ^ p := by
    have pwd : ∀ n : Nat, (p : Int) ∣ (c % p) ^ n - c ^ n := fun n => by
      induction n with
      | zero => exact ⟨0, by simp⟩
      | succ n ih =>
        rw [Int.pow_succ, Int.pow_succ]
        have e : (c % p) ^ n * (c % p) - c ^ n * c = ((c % p) ^ n - c ^ n) * (c % p) + c ^ n * (c % p - c) := by
          rw [Int.sub_mul, Int.mul_sub]; omega
        rw [e]
        exact Int.dvd_add (Int.dvd_mul_of_dvd_left ih) (Int.dvd_mul_of_dvd_right h2)
    exact pwd p
  have e : c ^ p - c = ((c % p) ^ p - c % p) - ((c % p) ^ p - c ^ p) + (c % p - c) := by omega
  rw [e]
  exact Int.dvd_add (Int.dvd_sub h1 h3) h2
theorem Laws.k_fermat (L : Laws R k) {p : Nat} (hp : Ob.Pr p) (h0 : k p = 0) (c : Int) : pw (k c) p = k c := by
  rw [← L.k_pw]
  exact L.k_mod h0 (fermat_int hp c)

/-- Values of a polynomial with integer coefficients. -/
def evR (k : Int → R) : List Int → R → R
  | [], _ => 0
  | c :: l, x => k c + x * evR k l x
theorem Laws.ev_frob (L : Laws R k) {p : Nat} (hp : Ob.Pr p) (h0 : k p = 0) (x : R) : ∀ l, pw (evR k l x) p = evR k l (pw x p)
  | [] => L.zero_pw (by have := hp.1; omega)
  | c :: l => by rw [evR, L.frob hp h0, L.k_fermat hp h0, L.mul_pw, L.ev_frob hp h0 x l, evR]

/-- A monic polynomial of degree n, as a function. -/
inductive Mn : Nat → (R → R) → Prop
  | one : Mn 0 (fun _ => 1)
  | step (m : Nat) (g : R → R) (c : R) : Mn m g → Mn (m + 1) (fun x => x * g x + c)
theorem Mn.congr {m : Nat} {f g : R → R} (h : Mn m f) (e : ∀ x, f x = g x) : Mn m g := by
  have : f = g := funext e
  rwa [← this]
theorem Mn.factor (L : Laws R k) {m : Nat} {f : R → R} (h : Mn m f) : ∀ j, m = j + 1 → ∀ r, ∃ g, Mn j g ∧ ∀ x, f x = (x + -r) * g x + f r := by
  induction h with
  | one => intro j hj; omega
  | step m g c hg ih =>
    intro j hj r
    obtain rfl : m = j := by omega
    rcases m with _ | m
    · cases hg
      refine ⟨fun _ => 1, .one, fun x => ?_⟩
      show x * 1 + c = (x + -r) * 1 + (r * 1 + c)
      rw [L.mo, L.mo, L.mo, ← L.aa, L.sub_add]
    · obtain ⟨h, hh, e⟩ := ih m rfl r
      refine ⟨fun x => x * h x + g r, .step m h (g r) hh, fun x => ?_⟩
      show x * g x + c = (x + -r) * (x * h x + g r) + (r * g r + c)
      rw [e x, ← L.aa, L.md, L.md, ← L.ma, ← L.ma, L.mc x (x + -r), L.aa _ _ (r * g r), ← L.dm, L.sub_add]
/-- A unit. -/
def Ut (u : R) : Prop := ∃ v, u * v = 1
theorem Laws.cut (L : Laws R k) {u x : R} (h : Ut u) (e : u * x = 0) : x = 0 := by
  obtain ⟨v, hv⟩ := h
  rw [← L.om x, ← hv, L.mc u v, L.ma, e, L.mz]
/-- A monic polynomial of degree n with more than n zeros, whose differences are units, makes the ring zero. -/
theorem Mn.roots (L : Laws R k) : ∀ (m : Nat) (f : R → R), Mn m f → ∀ z : Nat → R, (∀ i j, i < j → j ≤ m → Ut (z j + -z i)) → (∀ i, i ≤ m → f (z i) = 0) → (1 : R) = 0
  | 0, f, hf, z, _, h => by
    cases hf
    exact h 0 (Nat.le_refl _)
  | m + 1, f, hf, z, hu, h => by
    obtain ⟨g, hg, e⟩ := hf.factor L m rfl (z 0)
    refine Mn.roots L m g hg (fun i => z (i + 1)) (fun i j hij hj => hu (i + 1) (j + 1) (by omega) (by omega)) (fun i hi => ?_)
    have e1 := e (z (i + 1))
    rw [h (i + 1) (by omega), h 0 (by omega), L.az] at e1
    exact L.cut (hu 0 (i + 1) (by omega) (by omega)) e1.symm
theorem Laws.mn_pw (L : Laws R k) (c : R) : ∀ m, 1 ≤ m → Mn m (fun x => pw x m + c)
  | 0, h => by omega
  | 1, _ => (Mn.step 0 _ c .one).congr fun x => by rw [L.pw1, L.mo]
  | m + 2, _ => ((Mn.step (m + 1) _ c (L.mn_pw 0 (m + 1) (by omega)))).congr fun x => by rw [L.az, L.mc]; rfl
theorem Laws.mn_ev (L : Laws R k) : ∀ l : List Int, l ≠ [] → Op.ld l = 1 → Mn (l.length - 1) (evR k l)
  | [], h, _ => absurd rfl h
  | [c], _, h => by
    have hc : c = 1 := h
    subst hc
    refine Mn.one.congr fun x => ?_
    rw [evR, evR, L.mz, L.az, L.k1]
  | c :: d :: l, _, h => by
    have ih := L.mn_ev (d :: l) (by simp) (by simpa [Op.ld] using h)
    exact (Mn.step _ _ (k c) ih).congr fun x => by rw [L.ac]; rfl

/-- Idempotents. -/
theorem Laws.idem_pw (L : Laws R k) {e w : R} (he : e * e = e) : ∀ n, pw (e + w * (1 + -e)) n = e + pw w n * (1 + -e)
  | 0 => by rw [pw, pw, L.om, L.ac e, L.sub_add]
  | n + 1 => by
    have h0 : e * (1 + -e) = 0 := by rw [L.md, L.mn, L.mo, he, L.an]
    have h1 : (1 + -e) * (1 + -e) = 1 + -e := by rw [L.dm, L.om, L.nm, h0, L.n0, L.az]
    rw [pw, L.idem_pw he n, L.md, L.dm, L.dm, he, L.mc (pw w n) (1 + -e), L.ma (1 + -e), L.mc (pw w n) e, ← L.ma (1 + -e) e, L.mc (1 + -e) e, h0, L.zm, L.az,
      ← L.ma e w, L.mc e w, L.ma w e, h0, L.mz, L.za, L.mc w (1 + -e), L.mul4, h1, L.mc (1 + -e)]
    rfl
end Oq
/- Polynomials modulo p and f as a ring; what is monic and short is not 0 there. No Go here. -/
namespace Op
theorem MC.add {m : Int} {f x y z w : List Int} (h : MC m f x y) (k : MC m f z w) : MC m f (Op.add x z) (Op.add y w) := by
  obtain ⟨q, hq⟩ := h
  obtain ⟨r, hr⟩ := k
  refine ⟨Op.add q r, fun i => ?_⟩
  have h1 := hq i
  have h2 := hr i
  simp only [cf_add, mul_add_left] at h1 h2 ⊢
  have e : cf x i + cf z i - (cf (Op.mul q f) i + cf (Op.mul r f) i + (cf y i + cf w i)) = (cf x i - (cf (Op.mul q f) i + cf y i)) + (cf z i - (cf (Op.mul r f) i + cf w i)) := by omega
  rw [e]; exact Int.dvd_add h1 h2
theorem MC.sc {m : Int} {f x y : List Int} (c : Int) (h : MC m f x y) : MC m f (Op.sc c x) (Op.sc c y) := by
  obtain ⟨q, hq⟩ := h
  refine ⟨Op.sc c q, fun i => ?_⟩
  have h1 := hq i
  simp only [cf_add, mul_sc_left, cf_sc] at h1 ⊢
  have e : c * cf x i - (c * cf (Op.mul q f) i + c * cf y i) = c * (cf x i - (cf (Op.mul q f) i + cf y i)) := by rw [Int.mul_sub, Int.mul_add]
  rw [e]; exact Int.dvd_mul_of_dvd_right h1
end Op
namespace Oq
open Op
set_option linter.unusedVariables false
set_option linter.unusedSectionVars false

def st (m : Int) (f : List Int) : Setoid (List Int) := ⟨MC m f, ⟨MC.refl m f, MC.symm, MC.trans⟩⟩
/-- The polynomials modulo m and f. -/
def Q (m : Int) (f : List Int) : Type := Quotient (st m f)
def cl (m : Int) (f a : List Int) : Q m f := Quotient.mk (st m f) a
variable {m : Int} {f : List Int}
theorem cl_eq {a b : List Int} : cl m f a = cl m f b ↔ MC m f a b := ⟨fun h => Quotient.exact (s := st m f) h, fun h => Quotient.sound (s := st m f) h⟩
theorem cl_cg {a b : List Int} (h : Cg m a b) : cl m f a = cl m f b := cl_eq.2 (MC.of h)
theorem cl_cf {a b : List Int} (h : ∀ i, cf a i = cf b i) : cl m f a = cl m f b := cl_cg (Cg.of h)
instance : Add (Q m f) := ⟨Quotient.lift₂ (s₁ := st m f) (s₂ := st m f) (fun a b => cl m f (add a b)) (fun _ _ _ _ h k => cl_eq.2 (MC.add h k))⟩
instance : Mul (Q m f) := ⟨Quotient.lift₂ (s₁ := st m f) (s₂ := st m f) (fun a b => cl m f (mul a b)) (fun _ _ _ _ h k => cl_eq.2 (MC.mul h k))⟩
instance : Neg (Q m f) := ⟨Quotient.lift (s := st m f) (fun a => cl m f (sc (-1) a)) (fun _ _ h => cl_eq.2 (MC.sc _ h))⟩
instance : Zero (Q m f) := ⟨cl m f []⟩
instance : One (Q m f) := ⟨cl m f [1]⟩
theorem cl_add (a b : List Int) : cl m f a + cl m f b = cl m f (add a b) := rfl
theorem cl_mul (a b : List Int) : cl m f a * cl m f b = cl m f (mul a b) := rfl
theorem cl_neg (a : List Int) : -cl m f a = cl m f (sc (-1) a) := rfl
theorem cl_zero : (0 : Q m f) = cl m f [] := rfl
theorem cl_one : (1 : Q m f) = cl m f [1] := rfl
theorem cl_ind {motive : Q m f → Prop} (h : ∀ a, motive (cl m f a)) (q : Q m f) : motive q := Quotient.ind (s := st m f) h q
/-- The integers. -/
def kk (m : Int) (f : List Int) (c : Int) : Q m f := cl m f [c]

theorem laws (m : Int) (f : List Int) : Laws (Q m f) (kk m f) where
  ac a b := by
    revert a b; refine cl_ind fun a => cl_ind fun b => ?_
    exact cl_cg (cg_addc m a b)
  aa a b c := by
    revert a b c; refine cl_ind fun a => cl_ind fun b => cl_ind fun c => ?_
    exact cl_cf fun i => by simp only [cf_add]; omega
  az a := by
    revert a; refine cl_ind fun a => ?_
    exact cl_cg (cg_addn m a)
  an a := by
    revert a; refine cl_ind fun a => ?_
    exact cl_cf fun i => by simp only [cf_add, cf_sc, cf_nil]; omega
  mc a b := by
    revert a b; refine cl_ind fun a => cl_ind fun b => ?_
    exact cl_cg (cg_swap m a b)
  ma a b c := by
    revert a b c; refine cl_ind fun a => cl_ind fun b => cl_ind fun c => ?_
    exact cl_cg (cg_assoc m a b c)
  mo a := by
    revert a; refine cl_ind fun a => ?_
    exact cl_cg ((cg_scn m 1 a).trans (Cg.of fun i => by rw [cf_sc, Int.one_mul]))
  md a b c := by
    revert a b c; refine cl_ind fun a => cl_ind fun b => cl_ind fun c => ?_
    exact cl_cg (cg_distr m b c a)
  ka a b := cl_cf fun i => by cases i <;> simp [Op.add]
  km a b := cl_cf fun i => by
    cases i with
    | zero => simp [Op.mul]
    | succ i => rw [cf_mul_succ]; simp
  k1 := rfl
theorem k_m (m : Int) (f : List Int) : kk m f m = 0 := cl_cg fun i => by
  cases i with
  | zero => exact ⟨1, by simp⟩
  | succ i => exact ⟨0, by simp⟩
/-- x. -/
def X (m : Int) (f : List Int) : Q m f := cl m f [0, 1]
theorem cl_cons (c : Int) (l : List Int) : cl m f (c :: l) = kk m f c + X m f * cl m f l := by
  refine cl_cf fun i => ?_
  rw [cf_add]
  cases i with
  | zero => simp [cf_mul_zero]
  | succ i =>
    rw [cf_mul_succ, cf_succ]
    have := mul_one l i
    rw [this]; simp
theorem ev_X : ∀ l : List Int, evR (kk m f) l (X m f) = cl m f l
  | [] => rfl
  | c :: l => by rw [evR, ev_X l, cl_cons]
theorem cl_self : cl m f f = 0 := cl_eq.2 ⟨[1], Cg.of fun i => by rw [cf_add, cf_nil, Int.add_zero, mul_one]⟩
theorem cl_sh (a : List Int) : ∀ j, cl m f (sh j a) = pw (X m f) j * cl m f a
  | 0 => by rw [pw, (laws m f).om]; rfl
  | j + 1 => by
    have L := laws m f
    rw [sh_succ, cl_cons, show kk m f 0 = 0 from L.k0, L.za, cl_sh a j, pw, ← L.ma, L.mc (X m f)]
theorem cl_zero_iff {a : List Int} : cl m f a = 0 ↔ Dd m f a := by
  rw [cl_zero, cl_eq]
  exact ⟨fun ⟨q, h⟩ => ⟨q, h.trans (cg_addn m _)⟩, fun ⟨q, h⟩ => ⟨q, h.trans (cg_addn m _).symm⟩⟩
theorem cl_xn (n : Nat) : cl m f (xn n) = 1 + pw (X m f) n := by
  have L := laws m f
  rw [xn, ← cl_add, cl_sh, ← cl_one, L.mo]

/-- What is shorter than f is 0 only if it is 0 modulo m. -/
theorem short_zero {a : List Int} (hm : 2 ≤ m) (h1 : ld f = 1) (h : a.length < f.length) (h0 : cl m f a = 0) : Cg m a [] := by
  have hu : Un m (ld f) := ⟨1, 0, by rw [h1]; omega⟩
  have r1 : Rem m f a (nf m a) := ⟨nf_nf (by omega) a, Nat.lt_of_le_of_lt (nf_len m a) h, MC.of (nf_cg m a).symm⟩
  have r2 : Rem m f a [] := ⟨Nf.nil m, by simp; omega, cl_eq.1 h0⟩
  have e := Rem.unique (by omega) hu r1 r2
  have h3 := nf_cg m a
  rw [e] at h3
  exact h3.symm
theorem monic_ne {a : List Int} (hm : 2 ≤ m) (h1 : ld f = 1) (h : a.length < f.length) (ha : ld a = 1) : cl m f a ≠ 0 := fun h0 => by
  have h2 := short_zero hm h1 h h0 (a.length - 1)
  rw [cf_nil, show cf a (a.length - 1) = 1 from ha] at h2
  have := Int.le_of_dvd (by omega) h2
  omega
theorem k_zero {c : Int} (hm : 2 ≤ m) (h1 : ld f = 1) (h : 2 ≤ f.length) (h0 : kk m f c = 0) : m ∣ c := by
  have h2 := short_zero (a := [c]) hm h1 (by simp; omega) h0 0
  simpa using h2
theorem one_ne (hm : 2 ≤ m) (h1 : ld f = 1) (h : 2 ≤ f.length) : (1 : Q m f) ≠ 0 := monic_ne (a := [1]) hm h1 (by simp; omega) rfl

/-- Every polynomial has a representative that is shorter than f. -/
theorem rep (h1 : ld f = 1) (h2 : 2 ≤ f.length) : ∀ a : List Int, ∃ r : List Int, r.length < f.length ∧ cl m f a = cl m f r
  | [] => ⟨[], by simp; omega, rfl⟩
  | c :: a => by
    obtain ⟨r, hr, e⟩ := rep h1 h2 a
    have e2 : cl m f (c :: a) = cl m f (c :: r) := by rw [cl_cons, cl_cons, e]
    by_cases h : r.length + 1 < f.length
    · exact ⟨c :: r, by simpa using h, e2⟩
    · have hl : r.length + 1 = f.length := by omega
      refine ⟨(add (c :: r) (sc (-(cf (c :: r) r.length)) f)).take r.length, by simp; omega, ?_⟩
      rw [e2]
      have L := laws m f
      have e3 : cl m f (add (c :: r) (sc (-(cf (c :: r) r.length)) f)) = cl m f (c :: r) := by
        rw [← cl_add, ← cl_cg (cg_scn' m _ f), ← cl_mul, cl_self, L.mz, L.az]
      rw [← e3]
      refine cl_cf fun i => ?_
      rw [cf_take]
      split
      · rfl
      · rename_i hi
        rw [cf_add, cf_sc]
        rcases Nat.lt_or_ge r.length i with h3 | h3
        · rw [cf_out (l := c :: r) (by simp; omega), cf_out (l := f) (by omega)]; simp
        · obtain rfl : i = r.length := by omega
          have : cf f r.length = 1 := by
            have h4 : cf f (f.length - 1) = 1 := h1
            rwa [show f.length - 1 = r.length from by omega] at h4
          rw [this]; omega
/-- Bezout. -/
theorem bezout {a b x : List Int} (h : Eu m a b x) : ∃ s t, Cg m x (add (mul s a) (mul t b)) := by
  induction h with
  | done a => exact ⟨[1], [], Cg.of fun i => by rw [cf_add, mul_one]; simp⟩
  | @step a b q r x hb hd _ ih =>
    obtain ⟨s, t, h⟩ := ih
    refine ⟨t, add s (mul (sc (-1) q) t), ?_⟩
    have hr := rest_cg hd.2.2.2
    refine h.trans ?_
    have h2 : Cg m (mul t r) (mul t (add (mul (sc (-1) q) b) a)) := (Cg.refl m t).mul hr
    refine ((Cg.refl m (mul s b)).add h2).trans ?_
    refine ((Cg.refl m (mul s b)).add (cg_distr m _ a t)).trans ?_
    refine Cg.trans ?_ ((Cg.refl m (mul t a)).add (cg_distl m s (mul (sc (-1) q) t) b).symm)
    have e : Cg m (mul t (mul (sc (-1) q) b)) (mul (mul (sc (-1) q) t) b) := ((cg_assoc m t (sc (-1) q) b).symm).trans ((cg_swap m t (sc (-1) q)).mul (Cg.refl m b))
    intro i
    have := e i
    simp only [cf_add]
    have e2 : cf (mul s b) i + (cf (mul t (mul (sc (-1) q) b)) i + cf (mul t a) i) - (cf (mul t a) i + (cf (mul s b) i + cf (mul (mul (sc (-1) q) t) b) i)) = cf (mul t (mul (sc (-1) q) b)) i - cf (mul (mul (sc (-1) q) t) b) i := by omega
    rw [e2]; exact this
end Oq
/- Factors of x^n + 1 modulo p: their degrees are at least the order d of p modulo 2 n, and one of a greater degree is split by the power of some polynomial. No Go here. -/
namespace Oq
open Op
set_option linter.unusedVariables false
set_option linter.unusedSectionVars false

def dims : List Nat := [2, 4, 8, 16, 32]
/-- Finite facts about an odd number r modulo 2 n and its order d. -/
def isOrd (n r d : Nat) : Prop := 1 ≤ d ∧ r ^ d % (2 * n) = 1 ∧ ∀ j, j < d → 1 ≤ j → r ^ j % (2 * n) ≠ 1
instance (n r d : Nat) : Decidable (isOrd n r d) := by unfold isOrd; infer_instance
def ordOf (n r : Nat) : Nat → Nat → Nat
  | 0, d => d
  | k + 1, d => if r ^ d % (2 * n) = 1 then d else ordOf n r k (d + 1)
def chk (n r : Nat) : Bool :=
  let d := ordOf n r 40 1
  decide (isOrd n r d) && decide (n % d = 0) &&
  (List.range d).all (fun b => (List.range b).all fun a => r ^ a % (2 * n) != r ^ b % (2 * n)) &&
  ((d * r % (2 * n) == d % (2 * n)) || (d % 2 == 0 && (d / 2 * r * r % (2 * n) == d / 2 % (2 * n)) && (d / 2 * (r + 1) % (2 * n) == 0 || d / 2 * (r + 1) % (2 * n) == n))) &&
  (d == 1 || (r ^ d / 2 % (2 * n) == n) || (d == 2 && r % 4 == 3))
theorem chk_all : dims.all (fun n => (List.range (2 * n)).all fun i => chk n (2 * i + 1)) = true := by decide +kernel
def unit_chk : Bool := dims.all (fun n => (List.range (2 * n)).all fun e => e == 0 || (List.range (2 * n)).any fun M => e * M % (2 * n) == n)
theorem unit_all : unit_chk = true := by decide +kernel
theorem ex_M {n e : Nat} (hn : n ∈ dims) (he : e % (2 * n) ≠ 0) : ∃ M, e * M % (2 * n) = n := by
  have h := List.all_eq_true.1 unit_all n hn
  have h2 := List.all_eq_true.1 h (e % (2 * n)) (List.mem_range.2 (Nat.mod_lt _ (by simp [dims] at hn; omega)))
  rw [Bool.or_eq_true, beq_iff_eq] at h2
  rcases h2 with h2 | h2
  · exact absurd h2 he
  · obtain ⟨M, _, hM⟩ := List.any_eq_true.1 h2
    rw [beq_iff_eq, ← Nat.mod_mul_mod] at hM
    exact ⟨M, by rw [← Nat.mod_mul_mod]; simpa [Nat.mod_mod] using hM⟩
/-- What holds of an odd number p and its order modulo 2 n. -/
structure PD (n p d : Nat) : Prop where
  d1 : 1 ≤ d
  one : p ^ d % (2 * n) = 1
  dvd : n % d = 0
  min : ∀ j, j < d → 1 ≤ j → p ^ j % (2 * n) ≠ 1
  inj : ∀ a b, a < b → b < d → p ^ a % (2 * n) ≠ p ^ b % (2 * n)
  fixed : d * p % (2 * n) = d % (2 * n) ∨ (d % 2 = 0 ∧ d / 2 * p * p % (2 * n) = d / 2 % (2 * n) ∧ (d / 2 * (p + 1) % (2 * n) = 0 ∨ d / 2 * (p + 1) % (2 * n) = n))
  half : d = 1 ∨ p ^ d / 2 % (2 * n) = n ∨ (d = 2 ∧ p % 4 = 3)
theorem pd_exists {n p : Nat} (hn : n ∈ dims) (hp : p % 2 = 1) : ∃ d, PD n p d := by
  have hn2 : 2 ≤ n := by simp [dims] at hn; omega
  have hn4 : n % 2 = 0 := by simp [dims] at hn; omega
  obtain ⟨r, hr⟩ : ∃ r, r = p % (4 * n) := ⟨_, rfl⟩
  have hrl : r < 4 * n := by rw [hr]; exact Nat.mod_lt _ (by omega)
  have hr2 : r % 2 = 1 := by rw [hr, Nat.mod_mod_of_dvd _ ⟨2 * n, by omega⟩]; exact hp
  have hr4 : r % 4 = p % 4 := by rw [hr, Nat.mod_mod_of_dvd _ ⟨n, by omega⟩]
  have hc : chk n r = true := by
    have h := List.all_eq_true.1 chk_all n hn
    have h2 := List.all_eq_true.1 h (r / 2) (List.mem_range.2 (by omega))
    rwa [show 2 * (r / 2) + 1 = r from by omega] at h2
  have e1 : r % (2 * n) = p % (2 * n) := by rw [hr, Nat.mod_mod_of_dvd _ ⟨2, by omega⟩]
  have ep : ∀ j, r ^ j % (2 * n) = p ^ j % (2 * n) := fun j => by rw [Nat.pow_mod, e1, ← Nat.pow_mod]
  unfold chk at hc
  simp only [Bool.and_eq_true, decide_eq_true_eq] at hc
  obtain ⟨⟨⟨⟨⟨h1, h2, h3⟩, h4⟩, h5⟩, h6⟩, h7⟩ := hc
  refine ⟨ordOf n r 40 1, h1, by rw [← ep]; exact h2, h4, fun j hj hj1 => by rw [← ep]; exact h3 j hj hj1, fun a b hab hb => ?_, ?_, ?_⟩
  · have h8 := List.all_eq_true.1 h5 b (List.mem_range.2 hb)
    have h9 := List.all_eq_true.1 h8 a (List.mem_range.2 hab)
    rw [← ep, ← ep]
    simpa using h9
  · generalize ordOf n r 40 1 = d at *
    have m1 : d * p % (2 * n) = d * r % (2 * n) := by rw [Nat.mul_mod, ← e1, ← Nat.mul_mod]
    have m2 : d / 2 * p * p % (2 * n) = d / 2 * r * r % (2 * n) := by rw [Nat.mul_mod, Nat.mul_mod (d / 2), ← e1, ← Nat.mul_mod (d / 2), ← Nat.mul_mod]
    have m3 : d / 2 * (p + 1) % (2 * n) = d / 2 * (r + 1) % (2 * n) := by rw [Nat.mul_mod, Nat.add_mod, ← e1, ← Nat.add_mod, ← Nat.mul_mod]
    rw [m1, m2, m3]
    simp only [Bool.or_eq_true, Bool.and_eq_true, beq_iff_eq] at h6
    rcases h6 with h6 | ⟨⟨h6, h8⟩, h9⟩
    · exact .inl h6
    · exact .inr ⟨h6, h8, h9⟩
  · generalize ordOf n r 40 1 = d at *
    have m1 : p ^ d / 2 % (2 * n) = r ^ d / 2 % (2 * n) := by
      have e4 : p ^ d % (4 * n) = r ^ d % (4 * n) := by rw [Nat.pow_mod, ← hr]
      have g : ∀ y : Nat, y / 2 % (2 * n) = y % (4 * n) / 2 := fun y => by
        rw [show 4 * n = 2 * (2 * n) from by omega, Nat.mod_mul_right_div_self]
      rw [g, g, e4]
    rw [m1, ← hr4]
    simp only [Bool.or_eq_true, Bool.and_eq_true, beq_iff_eq] at h7
    rcases h7 with (h7 | h7) | h7
    · exact .inl h7
    · exact .inr (.inl h7)
    · exact .inr (.inr h7)
theorem PD.unique {n p d d' : Nat} (h : PD n p d) (h' : PD n p d') : d = d' := by
  rcases Nat.lt_trichotomy d d' with h1 | h1 | h1
  · exact absurd h.one (h'.min d h1 h.d1)
  · exact h1
  · exact absurd h'.one (h.min d' h1 h'.d1)

/-- f is a monic divisor of x^n + 1 modulo p, of degree at least 1. -/
structure Dz (p n : Nat) (f : List Int) : Prop where
  hp : Ob.Pr p
  h2 : 2 < p
  hn : n ∈ dims
  nor : Nf p f
  mon : Op.ld f = 1
  len : 2 ≤ f.length
  dd : Dd p f (xn n)

section
variable {p n : Nat} {f : List Int}
theorem Dz.n2 (D : Dz p n f) : 2 ≤ n ∧ n % 2 = 0 ∧ n ≤ 32 := by have := D.hn; simp [dims] at this; omega
theorem Dz.odd (D : Dz p n f) : p % 2 = 1 := by
  rcases Nat.mod_two_eq_zero_or_one p with h | h
  · exact absurd (Nat.dvd_of_mod_eq_zero h) (D.hp.2 2 (Nat.le_refl _) D.h2)
  · exact h
theorem Dz.p2 (D : Dz p n f) : (2 : Int) ≤ p := by have := D.h2; omega
theorem Dz.one (D : Dz p n f) : (1 : Q p f) ≠ 0 := one_ne D.p2 D.mon D.len
theorem Dz.neg (D : Dz p n f) : pw (X p f) n = -1 := by
  have h := cl_zero_iff.2 D.dd
  rw [cl_xn] at h
  exact (laws p f).neg_of h
theorem Dz.two_n (D : Dz p n f) : pw (X p f) (2 * n) = 1 := by
  have L := laws (p : Int) f
  rw [Nat.mul_comm, L.pw_mul, D.neg]
  simp only [pw]
  rw [L.om, L.mn, L.mo, L.nn]
theorem Dz.per (D : Dz p n f) {a b : Nat} (h : a % (2 * n) = b % (2 * n)) : pw (X p f) a = pw (X p f) b := by
  have L := laws (p : Int) f
  have g : ∀ a, pw (X p f) a = pw (X p f) (a % (2 * n)) := fun a => by
    conv => lhs; rw [← Nat.div_add_mod a (2 * n)]
    rw [L.pw_add, L.pw_mul, D.two_n, L.one_pw, L.om]
  rw [g a, g b, h]
theorem Dz.half_two (D : Dz p n f) : ∃ h : Q p f, (1 + 1) * h = 1 := by
  have L := laws (p : Int) f
  refine ⟨kk p f (((p + 1) / 2 : Nat) : Int), ?_⟩
  rw [← L.k1, ← L.ka, ← L.km]
  exact L.k_mod (k_m p f) ⟨1, by have := D.odd; omega⟩
theorem Dz.two (D : Dz p n f) {a : Q p f} (h : a + a = 0) : a = 0 := by
  have L := laws (p : Int) f
  obtain ⟨t, ht⟩ := D.half_two
  exact L.cut ⟨t, ht⟩ (by rw [L.dm, L.om]; exact h)
theorem Laws.geo {R : Type} [Add R] [Mul R] [Neg R] [Zero R] [One R] {k : Int → R} (L : Laws R k) (w : R) : ∀ M, (w + -1) * Sm M (fun i => pw w i) = pw w M + -1
  | 0 => by rw [Sm, L.mz, pw, L.an]
  | M + 1 => by
    rw [Sm, L.md, L.geo w M, L.dm, L.nm, L.om, L.mc w (pw w M), L.ac (pw w M) (-1), L.add4, L.an, L.az, L.ac]
    rfl
theorem Dz.diff (D : Dz p n f) {a b : Nat} (h : a % (2 * n) ≠ b % (2 * n)) : Ut (pw (X p f) b + -pw (X p f) a) := by
  have L := laws (p : Int) f
  have hn := D.n2
  have hb : b % (2 * n) < 2 * n := Nat.mod_lt _ (by omega)
  have ha : a % (2 * n) < 2 * n := Nat.mod_lt _ (by omega)
  obtain ⟨c, hc⟩ : ∃ c, c = 2 * n - a % (2 * n) := ⟨_, rfl⟩
  -- c is the exponent that leads back
  have h1 : pw (X p f) a * pw (X p f) c = 1 := by
    rw [← L.pw_add, ← D.two_n]
    refine D.per ?_
    rw [← Nat.mod_add_mod, hc, Nat.add_sub_cancel' (Nat.le_of_lt ha)]
  have he : (b + c) % (2 * n) ≠ 0 := fun e => by
    refine h ?_
    have e2 : (b % (2 * n) + c) % (2 * n) = 0 := by rw [Nat.mod_add_mod]; exact e
    have hd := Nat.dvd_of_mod_eq_zero e2
    obtain ⟨q, hq⟩ := hd
    have : q = 1 ∨ q = 0 ∨ 2 ≤ q := by omega
    rcases this with rfl | rfl | h3
    · omega
    · omega
    · have := Nat.mul_le_mul_left (2 * n) h3
      omega
  obtain ⟨M, hM⟩ := ex_M D.hn he
  obtain ⟨t, ht⟩ := D.half_two
  have hw : pw (pw (X p f) (b + c)) M = -1 := by
    rw [← L.pw_mul, ← D.neg]
    exact D.per (by rw [hM, Nat.mod_eq_of_lt (by omega)])
  have hg := L.geo (pw (X p f) (b + c)) M
  rw [hw] at hg
  -- (w - 1) G = - 2
  have e3 : pw (X p f) b + -pw (X p f) a = pw (X p f) a * (pw (X p f) (b + c) + -1) := by
    rw [L.md, L.mn, L.mo, ← L.pw_add, show a + (b + c) = b + (a + c) from by omega, L.pw_add, L.pw_add, h1, L.mo]
  rw [e3]
  refine ⟨pw (X p f) c * (Sm M (fun i => pw (pw (X p f) (b + c)) i) * -t), ?_⟩
  rw [L.mul4, h1, L.om, ← L.ma, hg, L.mn, ← L.nm, L.nad, L.nn, ht]

theorem Dz.ev (D : Dz p n f) : ∀ i, evR (kk p f) f (pw (X p f) (p ^ i)) = 0
  | 0 => by rw [Nat.pow_zero, (laws p f).pw1, ev_X, cl_self]
  | i + 1 => by
    have L := laws (p : Int) f
    rw [Nat.pow_succ, L.pw_mul, ← L.ev_frob D.hp (k_m p f), D.ev i, L.zero_pw (by have := D.h2; omega)]
/-- The degree is at least the order. -/
theorem Dz.deg (D : Dz p n f) {d : Nat} (P : PD n p d) : d ≤ f.length - 1 := by
  have L := laws (p : Int) f
  apply Classical.byContradiction
  intro hlt
  have hne : f ≠ [] := fun e => by have := D.len; rw [e] at this; simp at this
  refine D.one (Mn.roots L (f.length - 1) _ (L.mn_ev f hne D.mon) (fun i => pw (X p f) (p ^ i)) (fun i j hij hj => ?_) (fun i _ => D.ev i))
  exact D.diff (P.inj i j hij (by omega))
/-- Everything is its own power to the exponent p^d. -/
theorem Dz.all (D : Dz p n f) {d : Nat} (P : PD n p d) (a : List Int) : pw (cl p f a) (p ^ d) = cl p f a := by
  have L := laws (p : Int) f
  rw [← ev_X]
  have g : ∀ i, pw (evR (kk p f) a (X p f)) (p ^ i) = evR (kk p f) a (pw (X p f) (p ^ i)) := fun i => by
    induction i with
    | zero => rw [Nat.pow_zero, L.pw1, L.pw1]
    | succ i ih => rw [Nat.pow_succ, L.pw_mul, ih, L.ev_frob D.hp (k_m p f), ← L.pw_mul]
  rw [g, D.per (b := 1) (by rw [P.one, Nat.mod_eq_of_lt (by have := D.n2; omega)]), L.pw1]

/-- What is fixed by the p-th power and no number gives an idempotent. -/
theorem Dz.idem (D : Dz p n f) {v : Q p f} (hv : pw v p = v) (hc : ∀ c : Int, v + kk p f c ≠ 0) : ∃ e : Q p f, e * e = e ∧ e ≠ 0 ∧ e ≠ 1 := by
  have L := laws (p : Int) f
  have hp2 := D.h2
  apply Classical.byContradiction
  intro hno
  obtain ⟨q, hq⟩ : ∃ q, p = q + 2 := ⟨p - 2, by omega⟩
  have hu : ∀ c : Int, pw (v + kk p f c) p = v + kk p f c := fun c => by rw [L.frob D.hp (k_m p f), hv, L.k_fermat D.hp (k_m p f)]
  have hone : ∀ c : Int, pw (v + kk p f c) (q + 1) = 1 := fun c => by
    apply Classical.byContradiction
    intro hne
    refine hno ⟨pw (v + kk p f c) (q + 1), ?_, fun h0 => ?_, hne⟩
    · rw [← L.pw_add, show q + 1 + (q + 1) = p + q from by omega, L.pw_add, hu, L.mc]; rfl
    · refine hc c ?_
      refine ((hu c).symm.trans (congrArg (pw (v + kk p f c)) hq)).trans ?_
      show pw (v + kk p f c) (q + 1) * (v + kk p f c) = 0
      rw [h0, L.zm]
  refine D.one (Mn.roots L (q + 1) _ (L.mn_pw (-1) (q + 1) (by omega)) (fun i => v + kk p f (i : Nat)) (fun i j hij hj => ?_) (fun i _ => by show pw (v + kk p f (i : Nat)) (q + 1) + -1 = 0; rw [hone, L.an]))
  obtain ⟨w, hw⟩ : ∃ w : Int, (p : Int) ∣ ((j - i : Nat) : Int) * w - 1 := by
    have hcop : ¬ p ∣ (j - i) := fun hd => by have := Nat.le_of_dvd (by omega) hd; omega
    have h1 := Ob.fermat D.hp hcop
    refine ⟨((j - i : Nat) : Int) ^ (p - 2), ?_⟩
    obtain ⟨r, hr⟩ : ∃ r, (j - i) ^ (p - 1) = p * r + 1 := ⟨(j - i) ^ (p - 1) / p, by have := Nat.div_add_mod ((j - i) ^ (p - 1)) p; omega⟩
    have e : ((j - i : Nat) : Int) * ((j - i : Nat) : Int) ^ (p - 2) = (((j - i) ^ (p - 1) : Nat) : Int) := by
      rw [Int.mul_comm, ← Int.pow_succ, show (p - 2).succ = p - 1 from by omega, Int.natCast_pow]
    rw [e, hr]
    exact ⟨r, by simp⟩
  refine ⟨kk p f w, ?_⟩
  have e1 : v + kk p f (j : Nat) + -(v + kk p f (i : Nat)) = kk p f ((j - i : Nat) : Int) := by
    rw [L.nad, L.add4, L.an, L.za, ← L.ks]; congr 1; omega
  rw [e1, ← L.km, ← L.k1]
  exact L.k_mod (k_m p f) hw
theorem cf_sh1 (d i : Nat) : cf (sh d [1]) i = if i = d then 1 else 0 := by
  rw [cf_sh]
  by_cases h : i < d
  · rw [if_pos h, if_neg (by omega)]
  · rw [if_neg h]
    by_cases h2 : i = d
    · rw [if_pos h2, h2, Nat.sub_self]; rfl
    · rw [if_neg h2, cf_out (by simp; omega)]
/-- A factor of a greater degree has an idempotent. -/
theorem Dz.idem_ex (D : Dz p n f) {d : Nat} (P : PD n p d) (hlt : d < f.length - 1) : ∃ e : Q p f, e * e = e ∧ e ≠ 0 ∧ e ≠ 1 := by
  have L := laws (p : Int) f
  have hd1 := P.d1
  rcases P.fixed with h | ⟨h1, h2, h3⟩
  · refine D.idem (v := pw (X p f) d) (by rw [← L.pw_mul]; exact D.per h) (fun c => ?_)
    have e : pw (X p f) d + kk p f c = cl p f (add (sh d [1]) [c]) := by rw [← cl_add, cl_sh, ← cl_one, L.mo]; rfl
    rw [e]
    have hl : (add (sh d [1]) [c]).length = d + 1 := by rw [add_len, sh_len]; simp
    refine monic_ne D.p2 D.mon (by omega) ?_
    unfold Op.ld
    rw [hl, cf_add, cf_sh1, if_pos (by omega), cf_out (l := [c]) (by simp; omega)]; rfl
  · obtain ⟨g, hg⟩ : ∃ g, d = 2 * g := ⟨d / 2, by omega⟩
    have hgd : d / 2 = g := by omega
    rw [hgd] at h2 h3
    rw [Nat.mul_assoc] at h2
    obtain ⟨y, hy⟩ : ∃ y, y = pw (X p f) g := ⟨_, rfl⟩
    have hyp : pw (pw y p) p = y := by rw [hy, ← L.pw_mul, ← L.pw_mul]; exact D.per h2
    obtain ⟨s, hs⟩ : ∃ s : Int, y * pw y p = kk p f s := by
      have e : y * pw y p = pw (X p f) (g * (p + 1)) := by rw [hy, L.pw_mul, pw, L.mc]
      rw [e]
      rcases h3 with h3 | h3
      · exact ⟨1, by rw [D.per (b := 0) (by rw [h3, Nat.zero_mod]), L.k1]; rfl⟩
      · exact ⟨-1, by rw [D.per (b := n) (by rw [h3, Nat.mod_eq_of_lt (by have := D.n2; omega)]), D.neg, L.kn, L.k1]⟩
    refine D.idem (v := y + pw y p) (by rw [L.frob D.hp (k_m p f), hyp, L.ac]) (fun c hc => ?_)
    have hsq : y * y + kk p f c * y + kk p f s = 0 := by
      have e1 : y * (y + pw y p + kk p f c) = 0 := by rw [hc, L.mz]
      rw [L.md, L.md, hs, L.mc y (kk p f c), L.aa, L.ac (kk p f s), ← L.aa] at e1
      exact e1
    have e : y * y + kk p f c * y + kk p f s = cl p f (add (add (sh d [1]) (sh g [c])) [s]) := by
      rw [← cl_add, ← cl_add, cl_sh, cl_sh, ← cl_one, L.mo, hg, Nat.mul_comm, L.pw_mul, ← hy, L.mc (kk p f c)]
      simp only [pw]
      rw [L.om]; rfl
    rw [e] at hsq
    have hl : (add (add (sh d [1]) (sh g [c])) [s]).length = d + 1 := by rw [add_len, add_len, sh_len, sh_len]; simp; omega
    refine monic_ne D.p2 D.mon (by omega) ?_ hsq
    unfold Op.ld
    rw [hl, cf_add, cf_add, cf_sh1, if_pos (by omega), cf_out (l := sh g [c]) (by rw [sh_len]; simp; omega), cf_out (l := [s]) (by simp; omega)]; rfl
end
end Oq
/- What splits a factor of x^n + 1 of a degree above the order; common divisors; no square divides x^n + 1; products of factors. No Go here. -/
namespace Ob
theorem nonres {p : Nat} (hp : Pr p) (h2 : 2 < p) : ∃ x, 1 ≤ x ∧ x < p ∧ x ^ ((p - 1) / 2) % p ≠ 1 := no_root hp (by omega) (by omega)
theorem nonres_neg {p x : Nat} (hp : Pr p) (h2 : p % 2 = 1) (hx : 1 ≤ x) (hxp : x < p) (h : x ^ ((p - 1) / 2) % p ≠ 1) : x ^ ((p - 1) / 2) % p = p - 1 := by
  have hd : ¬ p ∣ x := fun hd => by have := Nat.le_of_dvd (by omega) hd; omega
  have h1 := fermat hp hd
  rcases sqrt_one hp (y := x ^ ((p - 1) / 2)) (by rw [← Nat.pow_add, show (p - 1) / 2 + (p - 1) / 2 = p - 1 from by omega]; exact h1) with h3 | h3
  · exact absurd h3 h
  · exact h3
theorem nonres_least {p : Nat} (hp : Pr p) (h2 : 2 < p) : ∀ x, 1 ≤ x → x < p → x ^ ((p - 1) / 2) % p ≠ 1 → ∃ t, 2 ≤ t ∧ t < p ∧ t ^ ((p - 1) / 2) % p ≠ 1 ∧ (t - 1) ^ ((p - 1) / 2) % p = 1
  | 0, h, _, _ => by omega
  | 1, _, _, h => by rw [Nat.one_pow, Nat.mod_eq_of_lt (by omega)] at h; exact absurd rfl h
  | x + 2, _, hx, h => by
    by_cases h3 : (x + 1) ^ ((p - 1) / 2) % p = 1
    · exact ⟨x + 2, by omega, hx, h, h3⟩
    · exact nonres_least hp h2 (x + 1) (by omega) (by omega) h3
end Ob
namespace Oq
open Op
set_option linter.unusedVariables false
set_option linter.unusedSectionVars false
section
variable {p n : Nat} {f : List Int}
theorem cl_ex {m : Int} {f : List Int} (q : Q m f) : ∃ a, cl m f a = q := by
  revert q; exact cl_ind fun a => ⟨a, rfl⟩
theorem Dz.k_pow_neg (D : Dz p n f) {x h : Nat} (hx : x ^ h % p = p - 1) : pw (kk p f x) h = -1 := by
  have L := laws (p : Int) f
  rw [← L.k_pw, ← L.k1, ← L.kn]
  refine L.k_mod (k_m p f) ?_
  have h1 := Nat.div_add_mod (x ^ h) p
  rw [hx] at h1
  have := D.h2
  refine ⟨((x ^ h / p + 1 : Nat) : Int), ?_⟩
  have e : ((x ^ h : Nat) : Int) = ((p * (x ^ h / p) + (p - 1) : Nat) : Int) := by rw [h1]
  rw [← Int.natCast_pow, e, Int.natCast_add, Int.natCast_mul, Int.natCast_add, Int.mul_add]
  omega
/-- Something has the power -1. -/
theorem Dz.neg_pow (D : Dz p n f) {d : Nat} (P : PD n p d) : ∃ w : Q p f, pw w (p ^ d / 2) = -1 := by
  have L := laws (p : Int) f
  have hn := D.n2
  have hp2 := D.h2
  have hodd := D.odd
  obtain ⟨x, hx1, hxp, hx⟩ := Ob.nonres D.hp D.h2
  rcases P.half with rfl | h | ⟨rfl, h⟩
  · refine ⟨kk p f x, ?_⟩
    rw [Nat.pow_one, show p / 2 = (p - 1) / 2 from by omega]
    exact D.k_pow_neg (Ob.nonres_neg D.hp hodd hx1 hxp hx)
  · exact ⟨X p f, by rw [← D.neg]; exact D.per (by rw [h, Nat.mod_eq_of_lt (by omega)])⟩
  · obtain ⟨t, ht2, htp, ht, ht1⟩ := Ob.nonres_least D.hp D.h2 x hx1 hxp hx
    obtain ⟨i, hi⟩ : ∃ i, i = pw (X p f) (n / 2) := ⟨_, rfl⟩
    have hii : i * i = -1 := by rw [hi, ← L.pw_add, ← D.neg, show n / 2 + n / 2 = n from by omega]
    have hip : pw i p = -i := by
      have e : pw i p = pw (X p f) (n + n / 2) := by
        rw [hi, ← L.pw_mul]
        refine D.per ?_
        obtain ⟨s, hs⟩ : ∃ s, p = 4 * s + 3 := ⟨p / 4, by omega⟩
        obtain ⟨m, hm⟩ : ∃ m, n = 2 * m := ⟨n / 2, by omega⟩
        have e3 : n / 2 * p = n + n / 2 + 2 * n * s := by
          rw [hs, show n / 2 = m from by omega, hm, Nat.mul_add, Nat.mul_left_comm m 4 s, show 2 * (2 * m) * s = 4 * (m * s) from by rw [← Nat.mul_assoc, Nat.mul_assoc]]
          omega
        rw [e3, Nat.add_mul_mod_self_left]
      rw [e, L.pw_add, D.neg, L.nm, L.om, hi]
    obtain ⟨a, ha⟩ : ∃ a, a = (t - 1) ^ ((p + 1) / 4) := ⟨_, rfl⟩
    have haa : kk p f (a : Nat) * kk p f (a : Nat) + 1 = kk p f (t : Nat) := by
      have e1 : a * a % p = (t - 1) % p := by
        rw [ha, ← Nat.pow_add, show (p + 1) / 4 + (p + 1) / 4 = (p - 1) / 2 + 1 from by omega, Nat.pow_succ, Nat.mul_mod, ht1, Nat.one_mul, Nat.mod_mod]
      rw [← L.km, ← L.k1, ← L.ka]
      refine L.k_mod (k_m p f) ?_
      have h3 : ((a * a : Nat) : Int) % p = ((t - 1 : Nat) : Int) % p := by rw [← Int.natCast_emod, e1, Int.natCast_emod]
      have h4 := Int.emod_eq_emod_iff_emod_sub_eq_zero.1 h3
      have e2 : (a : Int) * (a : Int) + 1 - (t : Int) = ((a * a : Nat) : Int) - ((t - 1 : Nat) : Int) := by rw [Int.natCast_mul]; omega
      rw [e2]; exact Int.dvd_of_emod_eq_zero h4
    refine ⟨kk p f (a : Nat) + i, ?_⟩
    obtain ⟨h2, hh⟩ : ∃ h2, p = 2 * h2 + 1 := ⟨p / 2, by omega⟩
    have eE : p ^ 2 / 2 = (p + 1) * ((p - 1) / 2) := by
      have e1 : p ^ 2 = 2 * ((p + 1) * ((p - 1) / 2)) + 1 := by
        rw [show (p - 1) / 2 = h2 from by omega, Nat.pow_two, ← Nat.mul_assoc, Nat.mul_comm 2, Nat.mul_assoc, show 2 * h2 = p - 1 from by omega]
        obtain ⟨r, hr⟩ : ∃ r, p = r + 1 := ⟨p - 1, by omega⟩
        rw [hr]
        simp [Nat.add_mul, Nat.mul_add]; omega
      omega
    have ew : pw (kk p f (a : Nat) + i) (p + 1) = kk p f (t : Nat) := by
      rw [pw, L.frob D.hp (k_m p f), L.k_fermat D.hp (k_m p f), hip, L.md, L.dm, L.dm, L.nm, L.nm, hii, L.nn, ← haa, L.mc i, L.aa, ← L.aa (-(kk p f (a : Nat) * i)), L.na, L.za]
    rw [eE, L.pw_mul, ew]
    exact D.k_pow_neg (Ob.nonres_neg D.hp hodd (by omega) htp ht)

/-- A monic polynomial whose power is 1 or -1 modulo the parts of f, and not the same for all. -/
def SpR (p : Nat) (f : List Int) (E : Nat) (a : List Int) : Prop := pw (cl p f a) E * pw (cl p f a) E = 1 ∧ pw (cl p f a) E ≠ 1 ∧ pw (cl p f a) E ≠ -1
theorem Dz.pm (D : Dz p n f) {d : Nat} {c : Int} {E : Nat} (hE : p ^ d = 2 * E + 1) (hc : ¬ (p : Int) ∣ c) : pw (kk p f c) E = 1 ∨ pw (kk p f c) E = -1 := by
  have L := laws (p : Int) f
  have h1 : pw (kk p f c) (p ^ d) = kk p f c := by
    have g : ∀ i, pw (kk p f c) (p ^ i) = kk p f c := fun i => by
      induction i with
      | zero => rw [Nat.pow_zero, L.pw1]
      | succ i ih => rw [Nat.pow_succ, L.pw_mul, ih, L.k_fermat D.hp (k_m p f)]
    exact g d
  have h2 : (p : Int) ∣ c * (c ^ E * c ^ E - 1) := by
    refine k_zero D.p2 D.mon D.len ?_
    rw [Int.mul_sub, Int.mul_one, L.ks, L.km, L.km, L.k_pw, ← L.pw_add, show E + E = 2 * E from by omega, L.mc]
    have e : pw (kk p f c) (2 * E) * kk p f c = kk p f c := (congrArg (pw (kk p f c)) hE).symm.trans h1
    rw [e, L.an]
  have h3 : (p : Int) ∣ c ^ E * c ^ E - 1 := by
    rcases D.hp.int_mul h2 with h | h
    · exact absurd h hc
    · exact h
  have e : c ^ E * c ^ E - 1 = (c ^ E - 1) * (c ^ E + 1) := by rw [Int.sub_mul, Int.mul_add, Int.mul_add, Int.one_mul, Int.mul_one]; omega
  rw [e] at h3
  rcases D.hp.int_mul h3 with h | h
  · left; rw [← L.k_pw, ← L.k1]; exact L.k_mod (k_m p f) h
  · right; rw [← L.k_pw, ← L.k1, ← L.kn]; exact L.k_mod (k_m p f) (by rwa [Int.sub_neg])

theorem Dz.splitter (D : Dz p n f) {d : Nat} (P : PD n p d) (hlt : d < f.length - 1) : ∃ a : List Int, Nf p a ∧ Op.ld a = 1 ∧ 2 ≤ a.length ∧ a.length < f.length ∧ SpR p f (p ^ d / 2) a := by
  have L := laws (p : Int) f
  have hp2 := D.p2
  obtain ⟨e, he, he0, he1⟩ := D.idem_ex P hlt
  obtain ⟨w, hw⟩ := D.neg_pow P
  obtain ⟨E, hE⟩ : ∃ E, E = p ^ d / 2 := ⟨_, rfl⟩
  have hEp : p ^ d = 2 * E + 1 := by
    have : p ^ d % 2 = 1 := by rw [Nat.pow_mod, D.odd, Nat.one_pow]
    omega
  rw [← hE] at hw ⊢
  obtain ⟨s, hs⟩ : ∃ s, s = e + -(1 + -e) := ⟨_, rfl⟩
  have hu : pw (e + w * (1 + -e)) E = s := by rw [L.idem_pw he, hw, L.nm, L.om, hs]
  have hss : s * s = 1 := by
    have h0 : e * (1 + -e) = 0 := by rw [L.md, L.mn, L.mo, he, L.an]
    have h1 : (1 + -e) * (1 + -e) = 1 + -e := by rw [L.dm, L.om, L.nm, h0, L.n0, L.az]
    rw [hs, L.md, L.dm, L.dm, he, L.mn, L.nm, L.mn, L.nm, L.nn, h1, h0, L.mc, h0, L.n0, L.az, L.za, L.ac, L.sub_add]
  have hsp : s + 1 = e + e := by rw [hs, L.nad, L.nn, L.aa, L.ac (-1), L.sub_add]
  have hs1 : s ≠ 1 := fun h => he1 (L.eq_of (D.two (by
    rw [L.add4, ← hsp, h, L.add4, L.an, L.az])))
  have hs2 : s ≠ -1 := fun h => he0 (D.two (by rw [← hsp, h, L.na]))
  obtain ⟨b0, hb0⟩ : ∃ b0, cl p f b0 = e + w * (1 + -e) := by
    exact cl_ex _
  obtain ⟨r0, hr0, er0⟩ := rep D.mon D.len b0
  obtain ⟨r, hr⟩ : ∃ r, r = nf p r0 := ⟨_, rfl⟩
  have hrn : Nf p r := by rw [hr]; exact nf_nf (by omega) r0
  have hrl : r.length < f.length := by rw [hr]; exact Nat.lt_of_le_of_lt (nf_len _ _) hr0
  have hrc : cl p f r = e + w * (1 + -e) := by rw [hr, cl_cg (nf_cg p r0), ← er0, hb0]
  have hE1 : 1 ≤ E := by
    have h1 : p ^ 1 ≤ p ^ d := Nat.pow_le_pow_right (by have := D.h2; omega) P.d1
    rw [Nat.pow_one] at h1
    have := D.h2
    omega
  have hr0' : r ≠ [] := fun h0 => D.one (by
    rw [← hss, ← hu, ← hrc, h0, ← cl_zero, L.zero_pw hE1, L.mz])
  obtain ⟨v, hv⟩ : Un p (Op.ld r) := by
    have h1 := rs_cf (show (0 : Int) < p from by omega) hrn.1 (r.length - 1)
    have h2 := tz_last hrn.2 hr0'
    have hF : Fld p := by
      intro u h0 h1
      obtain ⟨u', rfl⟩ := Int.eq_ofNat_of_zero_le (show 0 ≤ u from by omega)
      have hcop : ¬ p ∣ u' := fun hd => by have := Nat.le_of_dvd (by omega) hd; omega
      have h3 := Ob.fermat D.hp hcop
      refine ⟨(u' : Int) ^ (p - 2), ?_⟩
      have hp3 := D.h2
      obtain ⟨r, hr⟩ : ∃ r, u' ^ (p - 1) = p * r + 1 := ⟨u' ^ (p - 1) / p, by have := Nat.div_add_mod (u' ^ (p - 1)) p; omega⟩
      have e : (u' : Int) * (u' : Int) ^ (p - 2) = ((u' ^ (p - 1) : Nat) : Int) := by
        rw [Int.mul_comm, ← Int.pow_succ, show (p - 2).succ = p - 1 from by omega, Int.natCast_pow]
      rw [e, hr]
      exact ⟨r, by simp⟩
    exact hF _ (by show 0 < cf r _; omega) h1.2
  have hnl := nf_len_unit hp2 hr0' hv
  have hvp : ¬ (p : Int) ∣ v := fun hd => by
    obtain ⟨z, hz⟩ := hv
    obtain ⟨y, hy⟩ := hd
    have h1 : (p : Int) ∣ 1 := ⟨Op.ld r * y - z, by rw [Int.mul_sub, ← hz, hy, Int.mul_left_comm]; omega⟩
    have := Int.le_of_dvd (by omega) h1
    omega
  have hac : cl p f (nf p (sc v r)) = kk p f v * (e + w * (1 + -e)) := by
    rw [cl_cg (nf_cg p _), ← hrc, ← cl_cg (cg_scn' p v r)]; rfl
  have hpow : pw (cl p f (nf p (sc v r))) E = s ∨ pw (cl p f (nf p (sc v r))) E = -s := by
    rw [hac, L.mul_pw, hu]
    rcases D.pm hEp hvp with h | h
    · left; rw [h, L.om]
    · right; rw [h, L.nm, L.om]
  have hS : SpR p f E (nf p (sc v r)) := by
    unfold SpR
    rcases hpow with h | h
    · rw [h]; exact ⟨hss, hs1, hs2⟩
    · rw [h]
      refine ⟨by rw [L.mn, L.nm, L.nn, hss], fun h1 => hs2 (by rw [← h1, L.nn]), fun h1 => hs1 (by rw [← L.nn s, h1, L.nn])⟩
  refine ⟨nf p (sc v r), nf_nf (by omega) _, hnl.2, ?_, by rw [hnl.1]; exact hrl, hS⟩
  apply Classical.byContradiction
  intro hlen
  have h1 : (nf p (sc v r)).length = 1 := by
    have : r.length ≠ 0 := fun h0 => hr0' (List.eq_nil_of_length_eq_zero h0)
    rw [hnl.1] at hlen ⊢; omega
  obtain ⟨c, hc⟩ := List.length_eq_one_iff.1 h1
  have hc1 : c = 1 := by have := hnl.2; rw [hc] at this; exact this
  refine hS.2.1 ?_
  rw [hc, hc1, ← cl_one, L.one_pw]
end
end Oq
/- Common divisors that split, no square divides x^n + 1, products of factors. No Go here. -/
namespace Op
set_option linter.unusedVariables false
theorem fld_of {p : Nat} (hp : Ob.Pr p) : Fld p := by
  intro u h0 h1
  obtain ⟨u', rfl⟩ := Int.eq_ofNat_of_zero_le (show 0 ≤ u from by omega)
  have hp2 := hp.1
  have hcop : ¬ p ∣ u' := fun hd => by have := Nat.le_of_dvd (by omega) hd; omega
  have h3 := Ob.fermat hp hcop
  obtain ⟨q, hq⟩ : ∃ q, p = q + 2 := ⟨p - 2, by omega⟩
  refine ⟨(u' : Int) ^ q, ?_⟩
  obtain ⟨r, hr⟩ : ∃ r, u' ^ (p - 1) = p * r + 1 := ⟨u' ^ (p - 1) / p, by have := Nat.div_add_mod (u' ^ (p - 1)) p; omega⟩
  have e : (u' : Int) * (u' : Int) ^ q = ((u' ^ (p - 1) : Nat) : Int) := by
    rw [Int.mul_comm, ← Int.pow_succ, show q.succ = p - 1 from by omega, Int.natCast_pow]
  rw [e, hr]
  exact ⟨r, by simp⟩
theorem Gd.parts {m : Int} {a b g : List Int} (hm : 2 ≤ m) (hne : a ≠ []) (ha : Nf m a) (hb : Nf m b) (h : Gd m a b g) :
    Nf m g ∧ ld g = 1 ∧ g ≠ [] ∧ Dd m g a ∧ Dd m g b ∧ ∃ s t, Cg m g (add (mul s a) (mul t b)) := by
  obtain ⟨x, hx, ⟨h0, _⟩ | ⟨h0, v, hv, rfl⟩⟩ := h
  · exact absurd (Dd.zero (by omega) ha (h0 ▸ hx.divides.1)) hne
  · have hl := nf_len_unit hm h0 hv
    have hgx : Dd m (nf m (sc v x)) x := by
      refine ⟨[ld x], ?_⟩
      refine Cg.trans ?_ (cg_scn' m _ _).symm
      refine Cg.trans ?_ (Cg.sc (ld x) (nf_cg m (sc v x)).symm)
      intro i
      rw [cf_sc, cf_sc]
      have e : cf x i - ld x * (v * cf x i) = -((ld x * v - 1) * cf x i) := by rw [Int.sub_mul, Int.mul_assoc]; omega
      rw [e]; exact Int.dvd_neg.2 (Int.dvd_mul_of_dvd_left hv)
    refine ⟨nf_nf (by omega) _, hl.2, fun e => ?_, hgx.trans hx.divides.1, hgx.trans hx.divides.2, ?_⟩
    · rw [e] at hl
      exact h0 (List.eq_nil_of_length_eq_zero hl.1.symm)
    · obtain ⟨s, t, hst⟩ := Oq.bezout hx
      refine ⟨sc v s, sc v t, ?_⟩
      refine (nf_cg m _).trans ((Cg.sc v hst).trans (Cg.of fun i => ?_))
      rw [cf_sc, cf_add, cf_add, mul_sc_left, mul_sc_left, Int.mul_add]
theorem mono_div {m : Int} {f q g : List Int} (hm : 2 ≤ m) (hq : Nf m q) (hf : Nf m f) (lg : ld g = 1) (lf : ld f = 1) (hfne : f ≠ []) (hgne : g ≠ []) (h : Cg m f (mul q g)) :
    ld q = 1 ∧ q.length + g.length = f.length + 1 ∧ q ≠ [] := by
  have f0 : f.length ≠ 0 := fun e => hfne (List.eq_nil_of_length_eq_zero e)
  have g0 : g.length ≠ 0 := fun e => hgne (List.eq_nil_of_length_eq_zero e)
  have hqne : q ≠ [] := fun e => by
    have h1 := h (f.length - 1)
    rw [e, cf_mul_nil, show cf f (f.length - 1) = 1 from lf] at h1
    have := Int.le_of_dvd (by omega) h1
    omega
  have q0 : q.length ≠ 0 := fun e => hqne (List.eq_nil_of_length_eq_zero e)
  have ht := top_mul q g hqne hgne
  rw [lg, Int.mul_one] at ht
  have h1 := h (q.length - 1 + (g.length - 1))
  rw [ht] at h1
  have hq1 := rs_cf (show 0 < m by omega) hq.1 (q.length - 1)
  have hq2 := tz_last hq.2 hqne
  have hle : q.length - 1 + (g.length - 1) ≤ f.length - 1 := by
    apply Classical.byContradiction
    intro hlt
    rw [cf_out (l := f) (by omega)] at h1
    have h3 : m ∣ ld q := by have := Int.dvd_neg.2 h1; rwa [show -(0 - ld q) = ld q by omega] at this
    have hpos : 0 < ld q := by show 0 < cf q _; omega
    have := Int.le_of_dvd hpos h3
    have : ld q < m := hq1.2
    omega
  have hge : f.length - 1 ≤ q.length - 1 + (g.length - 1) := by
    apply Classical.byContradiction
    intro hlt
    have h2 := h (f.length - 1)
    rw [cf_mul_out (by omega), show cf f (f.length - 1) = 1 from lf] at h2
    have := Int.le_of_dvd (by omega) h2
    omega
  have e : q.length - 1 + (g.length - 1) = f.length - 1 := by omega
  rw [e, show cf f (f.length - 1) = 1 from lf] at h1
  refine ⟨(dvd_small h1 (by omega) ⟨hq1.1, hq1.2⟩).symm, by omega, hqne⟩
end Op
namespace Oq
open Op
set_option linter.unusedVariables false
set_option linter.unusedSectionVars false
section
variable {p n : Nat} {f : List Int}
theorem Dz.ne (D : Dz p n f) : f ≠ [] := fun e => by have := D.len; rw [e] at this; simp at this
theorem Dz.divisor (D : Dz p n f) {g : List Int} (h1 : Nf p g) (h2 : Op.ld g = 1) (h3 : 2 ≤ g.length) (h4 : Dd p g f) : Dz p n g := ⟨D.hp, D.h2, D.hn, h1, h2, h3, h4.trans D.dd⟩
theorem Dz.gcd (D : Dz p n f) {E : Nat} {a less g : List Int} (hN : Nf p less) (hl : cl p f less = pw (cl p f a) E + -1) (hg : Gd p f less g) (hS : SpR p f E a) : 1 < g.length ∧ g.length < f.length := by
  have L := laws (p : Int) f
  have hp2 := D.p2
  obtain ⟨g1, g2, g3, g4, g5, s, t, g6⟩ := Gd.parts hp2 D.ne D.nor hN hg
  obtain ⟨S1, S2, S3⟩ := hS
  have g0 : g.length ≠ 0 := fun e => g3 (List.eq_nil_of_length_eq_zero e)
  obtain ⟨q, hq⟩ := g4
  have hq' : Cg p f (mul (nf p q) g) := hq.trans ((nf_cg p q).symm.mul (Cg.refl _ g))
  obtain ⟨q1, q2, q3⟩ := mono_div hp2 (nf_nf (by omega) q) D.nor g2 D.mon D.ne g3 hq'
  have q0 : (nf p q).length ≠ 0 := fun e => q3 (List.eq_nil_of_length_eq_zero e)
  constructor
  · apply Classical.byContradiction
    intro hlt
    have h1 : g.length = 1 := by omega
    obtain ⟨c, hc⟩ := List.length_eq_one_iff.1 h1
    have hc1 : c = 1 := by rw [hc] at g2; exact g2
    have e1 : cl p f t * (pw (cl p f a) E + -1) = 1 := by
      rw [← hl, cl_mul, cl_one, ← hc1, ← hc, cl_cg g6, ← cl_add, ← cl_mul s f, cl_self, L.mz, L.za]
    refine S3 ?_
    have e2 : (pw (cl p f a) E + -1) * (pw (cl p f a) E + 1) = 0 := by
      rw [L.md, L.dm, S1, L.nm, L.om, L.mo, ← L.aa, L.aa 1, L.na, L.az, L.an]
    have e3 := L.cut ⟨cl p f t, by rw [L.mc]; exact e1⟩ e2
    exact L.neg_of (by rw [L.ac]; exact e3)
  · apply Classical.byContradiction
    intro hlt
    have h1 : (nf p q).length = 1 := by omega
    obtain ⟨c, hc⟩ := List.length_eq_one_iff.1 h1
    have hc1 : c = 1 := by rw [hc] at q1; exact q1
    rw [hc, hc1] at hq'
    have hfg : Cg p f g := hq'.trans (Cg.of (mul_one g))
    obtain ⟨k, hk⟩ := g5
    have h2 : cl p f less = 0 := cl_zero_iff.2 ⟨k, hk.trans ((Cg.refl _ k).mul hfg.symm)⟩
    rw [hl] at h2
    exact S2 (L.eq_of h2)
theorem Dz.parts (D : Dz p n f) {less g h r : List Int} (hN : Nf p less) (hg : Gd p f less g) (h1 : 1 < g.length) (h2 : g.length < f.length) (hd : Dv p f g h r) :
    Dz p n g ∧ Dz p n h ∧ Cg p f (mul h g) ∧ h.length + g.length = f.length + 1 := by
  have hp2 := D.p2
  obtain ⟨g1, g2, g3, ⟨k, hk⟩, g5, s, t, g6⟩ := Gd.parts hp2 D.ne D.nor hN hg
  have hr := Dv.exact (by omega) g3 (by rw [g2]; exact ⟨1, 0, by omega⟩) hk hd
  have hf : Cg p f (mul h g) := by
    have := hd.2.2.2
    rw [hr] at this
    exact this.trans (cg_addn _ _)
  obtain ⟨m1, m2, m3⟩ := mono_div hp2 hd.1 D.nor g2 D.mon D.ne g3 hf
  refine ⟨D.divisor g1 g2 h1 ⟨k, hk⟩, D.divisor hd.1 m1 (by omega) ⟨g, hf.trans (cg_swap _ _ _)⟩, hf, m2⟩
end
theorem xn_len (n : Nat) : (xn n).length = n + 1 := by unfold xn; rw [add_len, sh_len]; simp
/-- x^n + 1 itself. -/
theorem dz_whole {p n : Nat} (hp : Ob.Pr p) (h2 : 2 < p) (hn : n ∈ dims) : Dz p n (xn n) := by
  have hn1 : 1 ≤ n := by simp [dims] at hn; omega
  have hl : Op.ld (xn n) = 1 := by unfold Op.ld; rw [xn_len, cf_xn n _ hn1, if_pos (by omega)]
  refine ⟨hp, h2, hn, ⟨fun x hx => ?_, tz_id fun _ => ?_⟩, hl, by rw [xn_len]; omega, Dd.refl _ _⟩
  · obtain ⟨i, hi, rfl⟩ := List.mem_iff_getElem.1 hx
    have e : (xn n)[i] = cf (xn n) i := by rw [← cf_at, List.getElem?_eq_getElem hi]; rfl
    rw [e, cf_xn n i hn1]
    split <;> omega
  · show Op.ld (xn n) ≠ 0
    rw [hl]; omega
/-- No square of a monic polynomial of degree at least 1 divides x^n + 1. -/
theorem sqfree {p n d : Nat} (hp : Ob.Pr p) (h2 : 2 < p) (hn : n ∈ dims) (P : PD n p d) {q k : List Int} (h1 : Op.ld q = 1) (h3 : 2 ≤ q.length) (h : Cg p (xn n) (mul (mul k q) q)) : False := by
  have D := dz_whole hp h2 hn
  have L := laws (p : Int) (xn n)
  have hp2 := D.p2
  have hqne : q ≠ [] := fun e => by rw [e] at h3; simp at h3
  have h' : Cg p (xn n) (mul (nf p (mul k q)) q) := h.trans ((nf_cg p _).symm.mul (Cg.refl _ q))
  obtain ⟨m1, m2, m3⟩ := mono_div hp2 (nf_nf (by omega) _) D.nor h1 D.mon D.ne hqne h'
  refine monic_ne hp2 D.mon (by omega) m1 ?_
  have h0 : cl p (xn n) (nf p (mul k q)) * cl p (xn n) q = 0 := by rw [cl_mul, ← cl_cg h', cl_self]
  have hsq : cl p (xn n) (nf p (mul k q)) * cl p (xn n) (nf p (mul k q)) = 0 := by
    conv => lhs; arg 2; rw [cl_cg (nf_cg p (mul k q)), ← cl_mul, L.mc]
    rw [← L.ma, h0, L.zm]
  rw [← D.all P]
  obtain ⟨m, hm⟩ : ∃ m, p ^ d = m + 2 := by
    have h1 : p ^ 1 ≤ p ^ d := Nat.pow_le_pow_right (by omega) P.d1
    rw [Nat.pow_one] at h1
    exact ⟨p ^ d - 2, by omega⟩
  rw [congrArg (pw (cl p (xn n) (nf p (mul k q)))) hm, show m + 2 = m + 1 + 1 from rfl, pw, pw, L.ma, hsq, L.mz]

/-- Products of lists. -/
def prd : List (List Int) → List Int
  | [] => [1]
  | l :: ls => mul l (prd ls)
theorem prd_app {m : Int} : ∀ a b : List (List Int), Cg m (prd (a ++ b)) (mul (prd a) (prd b))
  | [], b => (Cg.of (mul_one (prd b))).symm
  | l :: a, b => ((Cg.refl m l).mul (prd_app a b)).trans (cg_assoc m l (prd a) (prd b)).symm
theorem prd_perm {m : Int} {a b : List (List Int)} (h : a.Perm b) : Cg m (prd a) (prd b) := by
  induction h with
  | nil => exact Cg.refl m _
  | cons x _ ih => exact (Cg.refl m x).mul ih
  | swap x y l => exact ((cg_assoc m y x (prd l)).symm.trans ((cg_swap m y x).mul (Cg.refl m _))).trans (cg_assoc m x y (prd l))
  | trans _ _ h1 h2 => exact h1.trans h2
theorem prd_mem {m : Int} {l : List Int} : ∀ {ls : List (List Int)}, l ∈ ls → ∃ r, Cg m (prd ls) (mul r l)
  | [], h => by cases h
  | x :: ls, h => by
    rcases List.mem_cons.1 h with rfl | h
    · exact ⟨prd ls, cg_swap m _ _⟩
    · obtain ⟨r, hr⟩ := prd_mem h
      exact ⟨mul x r, ((Cg.refl m x).mul hr).trans (cg_assoc m x r l).symm⟩
/-- A monic polynomial of degree d. -/
def Leaf (p d : Nat) (l : List Int) : Prop := Nf p l ∧ Op.ld l = 1 ∧ l.length = d + 1
/-- The polynomials of a list are monic of degree d and have the product f. -/
def Lv (p d : Nat) (f : List Int) (ls : List (List Int)) : Prop := (∀ l ∈ ls, Leaf p d l) ∧ Cg p f (prd ls)
theorem Lv.one {p d : Nat} {f : List Int} (h : Leaf p d f) : Lv p d f [f] := ⟨fun l hl => by rw [List.mem_singleton.1 hl]; exact h, (cg_swap _ _ _).trans ((Cg.of (mul_one f))) |>.symm⟩
theorem Lv.app {p d : Nat} {f g h : List Int} {a b : List (List Int)} (hg : Lv p d g a) (hh : Lv p d h b) (e : Cg p f (mul h g)) : Lv p d f (a ++ b) :=
  ⟨fun l hl => (List.mem_append.1 hl).elim (hg.1 l) (hh.1 l), ((e.trans (cg_swap _ _ _)).trans (hg.2.mul hh.2)).trans (prd_app a b).symm⟩
theorem Lv.perm {p d : Nat} {f : List Int} {a b : List (List Int)} (h : Lv p d f a) (k : a.Perm b) : Lv p d f b := ⟨fun l hl => h.1 l (k.mem_iff.2 hl), h.2.trans (prd_perm k)⟩
theorem prd_len {p d : Nat} (hp : 2 ≤ p) : ∀ {ls : List (List Int)}, (∀ l ∈ ls, Leaf p d l) → ∃ r, Nf p r ∧ Op.ld r = 1 ∧ r.length = ls.length * d + 1 ∧ Cg p r (prd ls)
  | [], _ => ⟨[1], ⟨fun x hx => by rw [List.mem_singleton.1 hx]; omega, rfl⟩, rfl, by simp, Cg.refl _ _⟩
  | l :: ls, h => by
    obtain ⟨r, r1, r2, r3, r4⟩ := prd_len hp (ls := ls) (fun x hx => h x (List.mem_cons_of_mem _ hx))
    obtain ⟨l1, l2, l3⟩ := h l (List.mem_cons_self ..)
    have lne : l ≠ [] := fun e => by rw [e] at l3; simp at l3
    have rne : r ≠ [] := fun e => by rw [e] at r3; simp at r3
    have ht := top_mul l r lne rne
    rw [l2, r2, Int.mul_one] at ht
    obtain ⟨i, hi⟩ : ∃ i, i = l.length - 1 + (r.length - 1) := ⟨_, rfl⟩
    rw [← hi] at ht
    have hc := nf_cg (p : Int) (mul l r)
    have hn := nf_nf (m := (p : Int)) (by omega) (mul l r)
    have hb := rs_cf (m := (p : Int)) (by omega) hn.1
    have hti : cf (nf p (mul l r)) i = 1 := by
      have h1 := hc i
      rw [ht] at h1
      exact dvd_small h1 (hb i) (by omega)
    have hout : ∀ j, i < j → cf (nf p (mul l r)) j = 0 := fun j hj => by
      have h1 := hc j
      rw [cf_mul_out (by omega)] at h1
      exact dvd_small h1 (hb j) (by omega)
    have hlen : (nf p (mul l r)).length = i + 1 := by
      have h1 := len_deg (n := i + 1) hn.2 (fun j hj => hout j (by omega))
      have h2 : i < (nf p (mul l r)).length := by
        apply Classical.byContradiction
        intro hlt
        rw [cf_out (by omega)] at hti
        omega
      omega
    refine ⟨nf p (mul l r), hn, ?_, ?_, hc.trans ((Cg.refl _ l).mul r4)⟩
    · unfold Op.ld; rw [hlen]; exact hti
    · rw [hlen, hi, l3, r3, List.length_cons, Nat.add_mul]; omega
theorem Lv.count {p d : Nat} {f : List Int} {ls : List (List Int)} (hp : 2 ≤ p) (hf : Nf p f) (h : Lv p d f ls) : f.length = ls.length * d + 1 := by
  obtain ⟨r, r1, r2, r3, r4⟩ := prd_len hp h.1
  rw [← r3, nf_eq (by omega) hf r1 (h.2.trans r4.symm)]
theorem Lv.nodup {p n d : Nat} (hp : Ob.Pr p) (h2 : 2 < p) (hn : n ∈ dims) (P : PD n p d) {ls : List (List Int)} (h : Lv p d (xn n) ls) : ls.Nodup := by
  have g : ∀ (ls : List (List Int)) (k : List Int), (∀ l ∈ ls, Leaf p d l) → Cg p (xn n) (mul k (prd ls)) → ls.Nodup := fun ls => by
    induction ls with
    | nil => intro k _ _; exact List.nodup_nil
    | cons l ls ih =>
      intro k hl hk
      have hl1 := hl l (List.mem_cons_self ..)
      rw [List.nodup_cons]
      refine ⟨fun hm => ?_, ih (mul k l) (fun x hx => hl x (List.mem_cons_of_mem _ hx)) (hk.trans (cg_assoc _ k l (prd ls)).symm)⟩
      obtain ⟨r, hr⟩ := prd_mem (m := (p : Int)) hm
      refine sqfree hp h2 hn P (q := l) (k := mul k r) hl1.2.1 (by have := hl1.2.2; have := P.d1; omega) ?_
      refine hk.trans ?_
      have e1 : Cg p (prd (l :: ls)) (mul (mul r l) l) := (cg_swap _ l (prd ls)).trans (hr.mul (Cg.refl _ l))
      refine ((Cg.refl _ k).mul e1).trans ?_
      refine ((cg_assoc _ k (mul r l) l).symm).trans (((cg_assoc _ k r l).symm).mul (Cg.refl _ l))
  refine g ls [1] h.1 (h.2.trans (Cg.of (mul_one (prd ls))).symm)
end Oq
