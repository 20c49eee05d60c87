import Derived.Test.YtfmmkdmnondomaaLFD
import Derived.LaidEqlPtr
import Derived.Deep.QuietTactic
import Derived.BigQuiet
/- Slots: exponents of the places, sums over the powers of a root modulo a power of a prime. No Go here. -/
namespace Os
open Op
set_option linter.unusedVariables false

/-- Congruent. -/
def C (q : Nat) (x y : Int) : Prop := (q : Int) ∣ x - y
theorem C.refl (q : Nat) (x : Int) : C q x x := ⟨0, by omega⟩
theorem C.of {q : Nat} {x y : Int} (h : x = y) : C q x y := by rw [h]; exact C.refl q y
theorem C.symm {q : Nat} {x y : Int} (h : C q x y) : C q y x := by
  obtain ⟨k, hk⟩ := h
  exact ⟨-k, by rw [Int.mul_neg]; omega⟩
theorem C.trans {q : Nat} {x y z : Int} (h : C q x y) (k : C q y z) : C q x z := by
  have := Int.dvd_add h k
  have e : x - y + (y - z) = x - z := by omega
  rw [e] at this; exact this
theorem C.add {q : Nat} {x y z t : Int} (h : C q x y) (k : C q z t) : C q (x + z) (y + t) := by
  have := Int.dvd_add h k
  have e : x - y + (z - t) = x + z - (y + t) := by omega
  rw [e] at this; exact this
theorem C.sub {q : Nat} {x y z t : Int} (h : C q x y) (k : C q z t) : C q (x - z) (y - t) := by
  have := Int.dvd_sub h k
  have e : x - y - (z - t) = x - z - (y - t) := by omega
  rw [e] at this; exact this
theorem C.mul {q : Nat} {x y z t : Int} (h : C q x y) (k : C q z t) : C q (x * z) (y * t) := by
  have h1 : (q : Int) ∣ (x - y) * z := Int.dvd_mul_of_dvd_left h
  have h2 : (q : Int) ∣ y * (z - t) := Int.dvd_mul_of_dvd_right k
  have := Int.dvd_add h1 h2
  have e : (x - y) * z + y * (z - t) = x * z - y * t := by rw [Int.sub_mul, Int.mul_sub]; omega
  rw [e] at this; exact this
theorem C.mod (q : Nat) (x : Int) : C q (x % q) x := dvd_mod q x
theorem C.S {q : Nat} {f g : Nat → Int} {n : Nat} (h : ∀ k, k < n → C q (f k) (g k)) : C q (S n f) (S n g) := by
  show (q : Int) ∣ _
  rw [← S_sub]
  exact S_dvd h
theorem C.pow {q : Nat} {x y : Int} (h : C q x y) : ∀ k : Nat, C q (x ^ k) (y ^ k)
  | 0 => by rw [Int.pow_zero, Int.pow_zero]; exact C.refl q 1
  | k + 1 => by rw [Int.pow_succ, Int.pow_succ]; exact (C.pow h k).mul h
theorem C.nat {q a b : Nat} (h : a % q = b % q) : C q a b := by
  show (q : Int) ∣ _
  have h2 : (a : Int) % q = (b : Int) % q := by omega
  exact Int.dvd_of_emod_eq_zero (Int.emod_eq_emod_iff_emod_sub_eq_zero.1 h2)

theorem S_zero : ∀ n, S n (fun _ => 0) = 0
  | 0 => rfl
  | n + 1 => by rw [S, S_zero n]; omega
theorem S_ones : ∀ n : Nat, S n (fun _ => 1) = n
  | 0 => rfl
  | n + 1 => by rw [S, S_ones n]; omega
def D4 (n : Nat) : Prop := n = 4 ∨ n = 8 ∨ n = 16 ∨ n = 32
theorem D4.le {n : Nat} (h : D4 n) : 4 ≤ n ∧ n ≤ 32 := by unfold D4 at h; omega
theorem D4.half {n : Nat} (h : D4 n) : 2 * (n / 2) = n := by unfold D4 at h; omega
theorem D4.mem {n : Nat} (h : D4 n) : n ∈ Oq.dims := by rcases h with rfl | rfl | rfl | rfl <;> decide
/-- The exponent of a slot's place. -/
def Ex (n k : Nat) : Nat := if k < n / 2 then 3 ^ k % (2 * n) else 2 * n - 3 ^ (k - n / 2) % (2 * n)
theorem Ex.odd {n k : Nat} (h : D4 n) (hk : k < n) : Ex n k % 2 = 1 ∧ Ex n k < 2 * n := by
  rcases h with rfl | rfl | rfl | rfl
  · exact (show ∀ k, k < 4 → Ex 4 k % 2 = 1 ∧ Ex 4 k < 2 * 4 by decide +kernel) k hk
  · exact (show ∀ k, k < 8 → Ex 8 k % 2 = 1 ∧ Ex 8 k < 2 * 8 by decide +kernel) k hk
  · exact (show ∀ k, k < 16 → Ex 16 k % 2 = 1 ∧ Ex 16 k < 2 * 16 by decide +kernel) k hk
  · exact (show ∀ k, k < 32 → Ex 32 k % 2 = 1 ∧ Ex 32 k < 2 * 32 by decide +kernel) k hk
theorem Ex.inj {n k j : Nat} (h : D4 n) (hk : k < n) (hj : j < n) (e : Ex n k = Ex n j) : k = j := by
  rcases h with rfl | rfl | rfl | rfl
  · exact (show ∀ k, k < 4 → ∀ j, j < 4 → Ex 4 k = Ex 4 j → k = j by decide +kernel) k hk j hj e
  · exact (show ∀ k, k < 8 → ∀ j, j < 8 → Ex 8 k = Ex 8 j → k = j by decide +kernel) k hk j hj e
  · exact (show ∀ k, k < 16 → ∀ j, j < 16 → Ex 16 k = Ex 16 j → k = j by decide +kernel) k hk j hj e
  · exact (show ∀ k, k < 32 → ∀ j, j < 32 → Ex 32 k = Ex 32 j → k = j by decide +kernel) k hk j hj e
theorem Ex.next {n k : Nat} (h : D4 n) : 3 * (3 ^ k % (2 * n)) % (2 * n) = 3 ^ (k + 1) % (2 * n) := by
  rw [Nat.pow_succ, Nat.mul_comm (3 ^ k) 3, Nat.mul_mod 3 (3 ^ k % _), Nat.mod_mod, ← Nat.mul_mod]
theorem Ex.lo {n k : Nat} (hk : k < n / 2) : Ex n k = 3 ^ k % (2 * n) := if_pos hk
theorem Ex.hi {n k : Nat} : Ex n (n / 2 + k) = 2 * n - 3 ^ k % (2 * n) := by
  unfold Ex
  rw [if_neg (by omega), show n / 2 + k - n / 2 = k by omega]
/-- What an automorphism by a power of 3 does. -/
def tn (n j t : Nat) (b : Bool) : Nat := (if b then 1 - j / (n / 2) else j / (n / 2)) * (n / 2) + (j % (n / 2) + t) % (n / 2)
def pk (n t : Nat) (b : Bool) : Nat := if b then Ex n (n / 2 + t) else Ex n t
theorem turn {n j t : Nat} {b : Bool} (h : D4 n) (hj : j < n) (ht : t < n / 2) : tn n j t b < n ∧ Ex n (tn n j t b) = Ex n j * pk n t b % (2 * n) := by
  rcases h with rfl | rfl | rfl | rfl
  · exact (show ∀ j, j < 4 → ∀ t, t < 2 → ∀ b, tn 4 j t b < 4 ∧ Ex 4 (tn 4 j t b) = Ex 4 j * pk 4 t b % (2 * 4) by decide +kernel) j hj t ht b
  · exact (show ∀ j, j < 8 → ∀ t, t < 4 → ∀ b, tn 8 j t b < 8 ∧ Ex 8 (tn 8 j t b) = Ex 8 j * pk 8 t b % (2 * 8) by decide +kernel) j hj t ht b
  · exact (show ∀ j, j < 16 → ∀ t, t < 8 → ∀ b, tn 16 j t b < 16 ∧ Ex 16 (tn 16 j t b) = Ex 16 j * pk 16 t b % (2 * 16) by decide +kernel) j hj t ht b
  · exact (show ∀ j, j < 32 → ∀ t, t < 16 → ∀ b, tn 32 j t b < 32 ∧ Ex 32 (tn 32 j t b) = Ex 32 j * pk 32 t b % (2 * 32) by decide +kernel) j hj t ht b
/-- A root of x^n + 1 modulo q, a power of p. -/
structure Rt (n p q x : Nat) : Prop where
  pr : Ob.Pr p
  two : 2 < p
  dim : D4 n
  pw : ∃ e, 1 ≤ e ∧ q = p ^ e
  neg : C q ((x : Int) ^ n) (-1)
  ord : Ob.Ord p x (2 * n)
theorem Rt.pos {n p q x : Nat} (h : Rt n p q x) : 2 < q := by
  obtain ⟨e, h1, rfl⟩ := h.pw
  have h2 := h.two
  have : p ^ 1 ≤ p ^ e := Nat.pow_le_pow_right (by omega) h1
  rw [Nat.pow_one] at this
  omega
theorem Rt.cancel {n p q x : Nat} (h : Rt n p q x) {u a b : Int} (hu : ¬ (p : Int) ∣ u) (k : C q (u * a) (u * b)) : C q a b := by
  obtain ⟨e, h1, rfl⟩ := h.pw
  have k1 : ((p ^ e : Nat) : Int) ∣ u * a - u * b := k
  show ((p ^ e : Nat) : Int) ∣ a - b
  rw [Int.natCast_pow] at k1 ⊢
  refine Oh7.dvd_pow_mul h.pr hu e ?_
  rwa [Int.sub_mul, Int.mul_comm a, Int.mul_comm b]
theorem Rt.unit {n p q x : Nat} (h : Rt n p q x) : ¬ (p : Int) ∣ (n : Int) := fun hd => by
  have h1 := Int.ofNat_dvd.1 hd
  have := Oh7.pr_two h.dim.mem h.pr (Nat.dvd_trans h1 ⟨2, by omega⟩)
  have := h.two
  omega
theorem Rt.one {n p q x : Nat} (h : Rt n p q x) {k : Nat} (hk : 2 * n ∣ k) : C q ((x : Int) ^ k) 1 := by
  obtain ⟨m, rfl⟩ := hk
  have h1 := (h.neg.pow 2).pow m
  rw [← Int.pow_mul, ← Int.pow_mul, ← Nat.mul_assoc] at h1
  rw [show 2 * n * m = n * 2 * m by rw [Nat.mul_comm 2 n]]
  have e : ((-1 : Int) ^ 2) ^ m = 1 := by rw [show (-1 : Int) ^ 2 = 1 from rfl, Int.one_pow]
  rwa [e] at h1
theorem Rt.per {n p q x : Nat} (h : Rt n p q x) {A B X Y : Nat} (e : A + 2 * n * X = B + 2 * n * Y) : C q ((x : Int) ^ A) ((x : Int) ^ B) := by
  have h1 : C q ((x : Int) ^ A) ((x : Int) ^ (A + 2 * n * X)) := by
    rw [Int.pow_add]
    have := (C.refl q ((x : Int) ^ A)).mul (h.one (k := 2 * n * X) ⟨X, rfl⟩)
    rw [Int.mul_one] at this; exact this.symm
  have h2 : C q ((x : Int) ^ B) ((x : Int) ^ (B + 2 * n * Y)) := by
    rw [Int.pow_add]
    have := (C.refl q ((x : Int) ^ B)).mul (h.one (k := 2 * n * Y) ⟨Y, rfl⟩)
    rw [Int.mul_one] at this; exact this.symm
  rw [e] at h1
  exact h1.trans h2.symm
theorem Rt.mod {n p q x : Nat} (h : Rt n p q x) (A : Nat) : C q ((x : Int) ^ (A % (2 * n))) ((x : Int) ^ A) :=
  h.per (X := A / (2 * n)) (Y := 0) (by have := Nat.mod_add_div A (2 * n); omega)
theorem Rt.odd {n p q x : Nat} (h : Rt n p q x) {k : Nat} (hk : k % 2 = 1) : C q ((x : Int) ^ (k * n)) (-1) := by
  have h1 : C q ((x : Int) ^ (k * n)) ((x : Int) ^ n) := h.per (X := 0) (Y := k / 2) (by
    have e : k = 2 * (k / 2) + 1 := by omega
    have e2 : k * n = (2 * (k / 2) + 1) * n := by rw [← e]
    rw [e2, Nat.add_mul, Nat.one_mul, Nat.mul_right_comm]; omega)
  exact h1.trans h.neg
theorem Rt.ones {n p q x : Nat} (h : Rt n p q x) : C q (S n (fun i => ((x : Int) ^ (2 * n)) ^ i)) n := by
  have h1 : C q (S n (fun j => ((x : Int) ^ (2 * n)) ^ j)) (S n (fun _ => 1)) := C.S (fun j _ => by
    rw [← Int.pow_mul]; exact h.one ⟨j, rfl⟩)
  rwa [S_ones] at h1
/-- The powers of Decode and of Encode. -/
def de (n x i k : Nat) : Int := (x : Int) ^ (Ex n k * i)
def en (n x k i : Nat) : Int := (x : Int) ^ (Ex n k * (2 * n - i))
/-- A balanced number. -/
def Bl (q : Nat) (b v : Int) : Prop := C q b v ∧ 2 * b < q ∧ -(q : Int) < 2 * b
theorem Bl.unique {q : Nat} {b c v u : Int} (h : Bl q b v) (k : Bl q c u) (e : C q v u) : b = c := by
  have h1 : C q b c := (h.1.trans e).trans k.1.symm
  obtain ⟨t, ht⟩ := h1
  obtain ⟨_, h2, h3⟩ := h
  obtain ⟨_, k2, k3⟩ := k
  rcases Int.lt_trichotomy t 0 with h4 | h4 | h4
  · have : (q : Int) * t ≤ q * (-1) := Int.mul_le_mul_of_nonneg_left (by omega) (by omega)
    omega
  · subst h4; omega
  · have : (q : Int) * 1 ≤ q * t := Int.mul_le_mul_of_nonneg_left (by omega) (by omega)
    omega
theorem Bl.self {q : Nat} {b : Int} (h : 2 * b < q ∧ -(q : Int) < 2 * b) : Bl q b b := ⟨C.refl q b, h⟩
theorem Bl.cg {q : Nat} {b v u : Int} (h : Bl q b v) (e : C q v u) : Bl q b u := ⟨h.1.trans e, h.2⟩
/-- A balanced list. -/
def Vl (n q : Nat) (l : List Int) : Prop := l.length = n ∧ ∀ i, i < l.length → 2 * cf l i < q ∧ -(q : Int) < 2 * cf l i
instance (n q : Nat) (l : List Int) : Decidable (Vl n q l) := by unfold Vl; infer_instance
theorem Vl.at_ {n q : Nat} {l : List Int} (h : Vl n q l) {i : Nat} (hi : i < n) : 2 * cf l i < q ∧ -(q : Int) < 2 * cf l i := h.2 i (by rw [h.1]; exact hi)
theorem Vl.ext {n q : Nat} {l m : List Int} (h : Vl n q l) (k : Vl n q m) (e : ∀ i, i < n → C q (cf l i) (cf m i)) : l = m := by
  apply ext_cf
  · rw [h.1, k.1]
  · intro i
    by_cases hi : i < n
    · exact (Bl.self (h.at_ hi)).unique (Bl.self (k.at_ hi)) (e i hi)
    · rw [cf_out (by rw [h.1]; omega), cf_out (by rw [k.1]; omega)]
/-- The values, and the coefficients times n. -/
def vec (n x : Nat) (a : List Int) (k : Nat) : Int := S n (fun i => cf a i * de n x i k)
def cof (n x : Nat) (v : List Int) (i : Nat) : Int := S n (fun s => cf v s * en n x s i)
def Dc (n q x : Nat) (a D : List Int) : Prop := D.length = n ∧ ∀ k, k < n → Bl q (cf D k) (vec n x a k)
def Ec (n q x : Nat) (v A : List Int) : Prop := A.length = n ∧ ∀ i, i < n → C q (n * cf A i) (cof n x v i) ∧ 2 * cf A i < q ∧ -(q : Int) < 2 * cf A i
theorem Dc.vl {n q x : Nat} {a D : List Int} (h : Dc n q x a D) : Vl n q D := ⟨h.1, fun i hi => (h.2 i (by rw [← h.1]; exact hi)).2⟩
theorem Ec.vl {n q x : Nat} {a D : List Int} (h : Ec n q x a D) : Vl n q D := ⟨h.1, fun i hi => (h.2 i (by rw [← h.1]; exact hi)).2⟩
theorem Dc.unique {n q x : Nat} {a D E : List Int} (h : Dc n q x a D) (k : Dc n q x a E) : D = E :=
  h.vl.ext k.vl (fun i hi => (h.2 i hi).1.trans (k.2 i hi).1.symm)
theorem Ec.unique {n p q x : Nat} (hr : Rt n p q x) {a D E : List Int} (h : Ec n q x a D) (k : Ec n q x a E) : D = E :=
  h.vl.ext k.vl (fun i hi => hr.cancel hr.unit ((h.2 i hi).1.trans (k.2 i hi).1.symm))
end Os
/- Slots: sums, products, automorphisms, lower powers. No Go here. -/
namespace Os
open Op
set_option linter.unusedVariables false

theorem Rt.down {n p q t x : Nat} (h : Rt n p q x) (hd : t ∣ q) (ht : ∃ e, 1 ≤ e ∧ t = p ^ e) : Rt n p t x :=
  ⟨h.pr, h.two, h.dim, ht, Int.dvd_trans (Int.ofNat_dvd.2 hd) h.neg, h.ord⟩
theorem C.down {q t : Nat} {a b : Int} (hd : t ∣ q) (h : C q a b) : C t a b := Int.dvd_trans (Int.ofNat_dvd.2 hd) h
theorem vec_cg {n q x : Nat} {a b : List Int} (h : ∀ i, i < n → C q (cf a i) (cf b i)) (k : Nat) : C q (vec n x a k) (vec n x b k) := C.S (fun i hi => (h i hi).mul (C.refl q _))
theorem vec_add {n q x : Nat} {a b c : List Int} (h : ∀ i, i < n → C q (cf c i) (cf a i + cf b i)) (k : Nat) : C q (vec n x c k) (vec n x a k + vec n x b k) := by
  unfold vec
  rw [← S_add]
  exact C.S (fun i hi => by
    rw [← Int.add_mul]; exact (h i hi).mul (C.refl q _))
theorem de_pow (n x i k : Nat) : de n x i k = ((x : Int) ^ Ex n k) ^ i := by
  unfold de; rw [← Int.pow_mul]
/-- Sums of which one term changes. -/
theorem S_change {q : Nat} {f g : Nat → Int} {s : Nat} {d : Int} : ∀ {n : Nat}, s < n → (∀ k, k < n → k ≠ s → C q (f k) (g k)) → C q (f s) (g s + d) → C q (S n f) (S n g + d)
  | 0, h, _, _ => by omega
  | n + 1, h, hk, hs => by
    rw [S, S]
    by_cases e : s = n
    · subst e
      have h1 : C q (S s f) (S s g) := C.S (fun k h' => hk k (by omega) (by omega))
      have h2 := h1.add hs
      rwa [← Int.add_assoc] at h2
    · have h1 := S_change (n := n) (by omega) (fun k h' => hk k (by omega)) hs
      have h2 := h1.add (hk n (by omega) (fun h' => e h'.symm))
      have e2 : S n g + g n + d = S n g + d + g n := by omega
      rw [e2]; exact h2
/-- The values of a product. -/
theorem Rt.wrap {n p q x : Nat} (h : Rt n p q x) {k i : Nat} (hk : k < n) (hi : n ≤ i) : C q (-(((x : Int) ^ Ex n k) ^ (i - n))) (((x : Int) ^ Ex n k) ^ i) := by
  obtain ⟨ok, lk⟩ := Ex.odd h.dim hk
  have h1 := h.odd ok
  rw [Int.pow_mul] at h1
  have h2 := (C.refl q (((x : Int) ^ Ex n k) ^ (i - n))).mul h1
  rw [← Int.pow_add, show i - n + n = i by omega] at h2
  have e : ((x : Int) ^ Ex n k) ^ (i - n) * -1 = -(((x : Int) ^ Ex n k) ^ (i - n)) := by omega
  rw [e] at h2
  exact h2.symm
/-- One coefficient is changed by z x^i, wrapped. -/
theorem Rt.put {n p q x : Nat} (h : Rt n p q x) {k i j : Nat} {P R : List Int} {z V : Int} (hk : k < n) (hi : i < 2 * n) (hj : j = if i < n then i else i - n)
    (hP : ∀ s, s < n → s ≠ j → cf R s = cf P s) (hR : C q (cf R j) (cf P j + if i < n then z else -z)) (hV : C q (vec n x P k) V) :
    C q (vec n x R k) (V + z * ((x : Int) ^ Ex n k) ^ i) := by
  have hjn : j < n := by split at hj <;> omega
  have h1 : C q (vec n x R k) (vec n x P k + (if i < n then z else -z) * de n x j k) := by
    refine S_change hjn (fun s hs hne => by rw [hP s hs hne]; exact C.refl q _) ?_
    have := hR.mul (C.refl q (de n x j k))
    rwa [Int.add_mul] at this
  refine h1.trans (hV.add ?_)
  rw [de_pow]
  by_cases hin : i < n
  · rw [if_pos hin] at hj ⊢
    subst hj
    exact C.refl q _
  · rw [if_neg hin] at hj ⊢
    subst hj
    have h2 := (C.refl q z).mul (h.wrap hk (i := i) (by omega))
    rwa [Int.mul_neg, ← Int.neg_mul] at h2
/-- Partial products. -/
def pp (n x : Nat) (a b : List Int) (k I K : Nat) : Int := S I (fun i => cf a i * ((x : Int) ^ Ex n k) ^ i) * S n (fun j => cf b j * ((x : Int) ^ Ex n k) ^ j) + cf a I * ((x : Int) ^ Ex n k) ^ I * S K (fun j => cf b j * ((x : Int) ^ Ex n k) ^ j)
theorem pp_zero (n x : Nat) (a b : List Int) (k : Nat) : pp n x a b k 0 0 = 0 := by simp [pp, S]
theorem pp_next (n x : Nat) (a b : List Int) (k I : Nat) : pp n x a b k I n = pp n x a b k (I + 1) 0 := by
  unfold pp
  rw [S, S, Int.add_mul, Int.mul_zero, Int.add_zero]
theorem pp_step (n x : Nat) (a b : List Int) (k I K : Nat) : pp n x a b k I (K + 1) = pp n x a b k I K + cf a I * cf b K * ((x : Int) ^ Ex n k) ^ (I + K) := by
  unfold pp
  rw [S, Int.mul_add, ← Int.add_assoc, Int.pow_add]
  congr 1
  simp only [Int.mul_assoc, Int.mul_left_comm]
theorem pp_all (n x : Nat) (a b : List Int) (k : Nat) : pp n x a b k n 0 = vec n x a k * vec n x b k := by
  have e : ∀ l : List Int, vec n x l k = S n (fun i => cf l i * ((x : Int) ^ Ex n k) ^ i) := fun l => S_cong (fun i _ => by rw [de_pow])
  unfold pp
  rw [e, e, S, Int.mul_zero, Int.add_zero]
theorem vec_zero (n x k : Nat) {P : List Int} (h : ∀ i, cf P i = 0) : vec n x P k = 0 := by
  unfold vec
  rw [S_cong (g := fun _ => 0) (fun i _ => by rw [h, Int.zero_mul]), S_zero]
/-- Where a slot goes. -/
def Mv (n k : Nat) (l : List Int) : Prop := l.length = n ∧ ∀ j, j < n → ∃ t : Nat, t < n ∧ cf l j = t ∧ Ex n t = Ex n j * k % (2 * n)
theorem Mv.unique {n k : Nat} (hd : D4 n) {l m : List Int} (h : Mv n k l) (g : Mv n k m) : l = m := by
  apply ext_cf
  · rw [h.1, g.1]
  · intro i
    by_cases hi : i < n
    · obtain ⟨t, t1, t2, t3⟩ := h.2 i hi
      obtain ⟨u, u1, u2, u3⟩ := g.2 i hi
      rw [t2, u2, Ex.inj hd t1 u1 (by rw [t3, u3])]
    · rw [cf_out (by rw [h.1]; omega), cf_out (by rw [g.1]; omega)]
theorem D4.two {n : Nat} (h : D4 n) : ∃ e, n = 2 ^ e := by
  rcases h with rfl | rfl | rfl | rfl
  · exact ⟨2, rfl⟩
  · exact ⟨3, rfl⟩
  · exact ⟨4, rfl⟩
  · exact ⟨5, rfl⟩
/-- The exponents of an automorphism's terms differ. -/
theorem auto_inj {n k i j : Nat} (h : D4 n) (hk : k % 2 = 1) (hi : i < n) (hj : j < i) : i * k % n ≠ j * k % n := fun e => by
  obtain ⟨m, hm⟩ := h.two
  have h1 : n ∣ (i - j) * k := by
    rw [Nat.sub_mul]
    exact (Ob.mod_iff_dvd (Nat.mul_le_mul_right k (by omega))).1 e.symm
  have hc : Nat.Coprime n k := by
    rw [hm]
    refine Nat.Coprime.pow_left m ?_
    unfold Nat.Coprime
    rw [Nat.gcd_rec, hk]; rfl
  have h2 := Nat.le_of_dvd (by omega) (hc.dvd_of_dvd_mul_right h1)
  omega
end Os
/- Package slots: the methods of a modulus. -/
namespace Go.Proofs.Ytfmmkdmnondomaa
open Go.RowKit
set_option linter.unusedVariables false

def IsB (b : Bool) (w : World) (e : Ending) (w' : World) : Prop := e = .returned (.bool b) ∧ Gr w w'
def IsU (x : Int) (w : World) (e : Ending) (w' : World) : Prop := e = .returned (.int .u32 x) ∧ Gr w w'
def IsI (x : Int) (w : World) (e : Ending) (w' : World) : Prop := e = .returned (.int .i64 x) ∧ Gr w w'
theorem pow_lim {p e : Nat} (hp : 2 ≤ p) (h : p ^ e ≤ 2147483647) : e < 2147483647 := Nat.lt_of_lt_of_le (Nat.lt_pow_self (by omega)) h

set_option maxRecDepth 100000 in
set_option maxHeartbeats 1000000 in
theorem spower_any (p m e : Nat) (r : Int) (w : World) (hp : 2 ≤ p ∧ p ≤ 65535) (he : p ^ e ≤ 2147483647) :
    Calls Try.prog 61 #[.agg #[.int .u32 p, .int .i64 r, .int .u32 m], .int .i64 e] w (IsU ((p ^ e : Nat) : Int) w) := by
  obtain ⟨p1, p2⟩ := hp
  have el := pow_lim p1 he
  have HE := Lib.hid he
  clear he
  go_enter Try.func61, Try.ntmps61
  go_wp2_with fail
  go_loop [5, 7] (fun s t => ∃ i M : Nat, t = .int .i64 i ∧ s = .int .u32 M ∧ i ≤ e ∧ M = p ^ i) (fun _ t => e - (intOf t).toNat)
  case atStart => exact ⟨0, 1, rfl, rfl, by omega, by simp⟩
  case round =>
    obtain ⟨i, M, rfl, rfl, hi, hM⟩ := hrel
    have HM := Lib.hid hM
    clear hM
    by_cases hlt : i < e
    · have i5 : (i : Int) < (e : Int) := by omega
      have HQ := Lib.hid (show M * p = p ^ (i + 1) from by rw [HM.out, Nat.pow_succ])
      have hQ : M * p ≤ 2147483647 := by
        rw [HQ.out]; exact Nat.le_trans (Nat.pow_le_pow_right (by omega) (by omega)) HE.out
      obtain ⟨Q, hQe⟩ : ∃ Q : Nat, Q = M * p := ⟨_, rfl⟩
      have q1 : (M : Int) * (p : Int) = (Q : Int) := by rw [hQe, Int.natCast_mul]
      rw [← hQe] at HQ hQ
      have q0 : 0 ≤ (M : Int) * (p : Int) := by rw [q1]; omega
      have q2 : (M : Int) * (p : Int) ≤ 2147483647 := by rw [q1]; omega
      have HQ1 := Lib.hid q1
      clear q1 hQe
      go_wp2_with fail
      go_round
      case rel => exact ⟨i + 1, Q, by go_num, by rw [HQ1.out], by omega, HQ.out⟩
      case measure => simp [intOf]; omega
    · obtain rfl : i = e := by omega
      have i5 : ¬ (i : Int) < (i : Int) := by omega
      go_wp2_with fail
      go_ret
      exact ⟨by rw [HM.out]; rfl, Gr.new _ _⟩

set_option maxHeartbeats 1000000 in
theorem splus_any (p : Nat) (r m s x y : Int) (w : World) (hm : 1 ≤ m ∧ m ≤ 2147483647) (hs : 0 ≤ s ∧ s ≤ 2147483647) (hx : 0 ≤ x ∧ x ≤ 2147483647) (hy : 0 ≤ y ∧ y ≤ 2147483647) :
    Calls Try.prog 48 #[.agg #[.int .u32 p, .int .i64 r, .int .u32 m], .int .u32 s, .int .u32 x, .int .u32 y] w (IsU ((s + x * y) % m) w) := by
  obtain ⟨q1, q2⟩ := hm
  obtain ⟨s1, s2⟩ := hs
  obtain ⟨x1, x2⟩ := hx
  obtain ⟨y1, y2⟩ := hy
  have p0 := mul_lo x1 y1
  have p1 : x * y ≤ 4611686014132420609 := by
    have h1 : x * y ≤ 2147483647 * y := Int.mul_le_mul_of_nonneg_right (by omega) (by omega)
    omega
  have r0 := emod_lo (s + x * y) m (by omega)
  have r1 := emod_hi (s + x * y) m (by omega)
  go_enter Try.func48, Try.ntmps48
  go_wp2_with fail
  go_ret
  exact ⟨rfl, Gr.new _ _⟩

/-- Block g holds cells. -/
def Blk (t : TypeId) (W : World) (g : Nat) (cs : Array Value) : Prop := W.heap[g]? = some (.cells cs t (0, 0))
theorem Blk.cell {t : TypeId} {W : World} {g : Nat} {cur : Array Value} (h : Blk t W g cur) (j : Nat) : W.cell? ⟨g, j, none⟩ = cur[j]? := by
  simp [World.cell?, show W.heap[g]? = _ from h]
theorem Blk.frozen {t : TypeId} {W : World} {g : Nat} {cur : Array Value} (h : Blk t W g cur) (j : Nat) : W.frozen? ⟨g, j, none⟩ = false := by
  simp [World.frozen?, show W.heap[g]? = _ from h]
theorem Blk.set {t : TypeId} {W : World} {g : Nat} {cur : Array Value} (h : Blk t W g cur) (j : Nat) (u : Value) : Blk t (W.setCell ⟨g, j, none⟩ u) g (cur.setIfInBounds j u) := by
  obtain ⟨hlt, hk⟩ := Array.getElem?_eq_some_iff.1 (show W.heap[g]? = _ from h)
  show (W.heap.modify g _)[g]? = _
  rw [Array.getElem?_eq_getElem (by rw [Array.size_modify]; exact hlt), Array.getElem_modify_self, hk]
  rfl
theorem Blk.other {t : TypeId} {W : World} {g h : Nat} {cur : Array Value} (k : Blk t W g cur) (hne : g ≠ h) (j : Nat) (u : Value) : Blk t (W.setCell ⟨h, j, none⟩ u) g cur := by
  show (W.heap.modify h _)[g]? = _
  rw [Array.getElem?_modify, if_neg (fun e => hne e.symm)]
  exact k
theorem Blk.new (t : TypeId) (w : World) (cur : Array Value) : Blk t (w.alloc (.cells cur t)) w.heap.size cur := heap_alloc_new w _
theorem Blk.lt {t : TypeId} {W : World} {g : Nat} {cur : Array Value} (h : Blk t W g cur) : g < W.heap.size := (Array.getElem?_eq_some_iff.1 (show W.heap[g]? = _ from h)).1
theorem Blk.later {t : TypeId} {W W' : World} {g : Nat} {cur : Array Value} (h : Blk t W g cur) (k : Gr W W') : Blk t W' g cur := by
  show W'.heap[g]? = _
  rw [k.block g h.lt]; exact h

set_option maxRecDepth 100000 in
set_option maxHeartbeats 1000000 in
theorem raise_any (p r q : Nat) (w : World) (hp : 2 ≤ p ∧ p ≤ 65535) (hq : q = p ^ r) (he : q ≤ 2147483647) :
    Calls Try.prog 47 #[.int .u32 p, .int .i64 r] w (fun e w' => e = .returned (.agg #[.int .u32 p, .int .i64 r, .int .u32 q]) ∧ Gr w w') := by
  have HP := Lib.hid hp
  have HQ := Lib.hid hq
  have HE := Lib.hid (show p ^ r ≤ 2147483647 by rw [← hq]; exact he)
  clear hp hq
  go_enter Try.func47, Try.ntmps47
  go_wp2_with fail
  refine (spower_any p 0 r r _ HP.out HE.out).mono ?_
  rintro e w1 ⟨rfl, hg⟩
  rw [← HQ.out]
  have HB0 := Lib.hid (((Blk.new 45 w #[.int .u32 0, .int .i64 0, .int .u32 0]).later (Gr.new _ _)).later hg)
  have HB1 := Lib.hid ((Blk.new 45 (w.alloc (.cells #[.int .u32 0, .int .i64 0, .int .u32 0] 45)) #[.int .u32 p, .int .i64 r, .int .u32 0]).later hg)
  have HG := Lib.hid (((Gr.new w _).alloc _).trans hg)
  have e1 : (w.alloc (.cells #[.int .u32 0, .int .i64 0, .int .u32 0] 45)).heap.size = w.heap.size + 1 := by simp
  rw [e1] at HB1
  clear hg e1
  obtain ⟨g, hg⟩ : ∃ g, g = w.heap.size + 1 := ⟨_, rfl⟩
  rw [← hg] at HB1 ⊢
  have hne : ¬ w.heap.size = g := by omega
  have hne2 : ¬ g = w.heap.size := by omega
  have hle : w.heap.size ≤ g := by omega
  clear hg
  have a0 := HB0.out.cell 0
  have a1 := HB0.out.cell 1
  have a2 := HB0.out.cell 2
  have b0 := HB1.out.cell 0
  have b1 := HB1.out.cell 1
  have b2 := HB1.out.cell 2
  simp only [List.getElem?_toArray, List.getElem?_cons_zero, List.getElem?_cons_succ] at a0 a1 a2 b0 b1 b2
  have f0 := HB0.out.frozen 0
  have f1 := HB0.out.frozen 1
  have f2 := HB0.out.frozen 2
  have f3 := HB1.out.frozen 2
  go_wp2_with fail
  exact bodyPost_ret (v := .agg #[.int .u32 p, .int .i64 r, .int .u32 q]) (by simp [results, Try.results47, go_sem, a0, a1, a2]) rfl ⟨rfl, (((HG.out.setCell (p := ⟨g, 2, none⟩) hle _).setCell (p := ⟨w.heap.size, 0, none⟩) (Nat.le_refl _) _).setCell (p := ⟨w.heap.size, 1, none⟩) (Nat.le_refl _) _).setCell (p := ⟨w.heap.size, 2, none⟩) (Nat.le_refl _) _⟩
end Go.Proofs.Ytfmmkdmnondomaa
/- Package slots: bounds, residues and balanced values. -/
namespace Go.Proofs.Ytfmmkdmnondomaa
open Go.RowKit
set_option linter.unusedVariables false

set_option maxRecDepth 100000 in
set_option maxHeartbeats 1000000 in
theorem sbound_any (p m e q : Nat) (r : Int) (w : World) (hp : 2 ≤ p ∧ p ≤ 65535) (hq : q = p ^ e) (he : q ≤ 2147483647) :
    Calls Try.prog 51 #[.agg #[.int .u32 p, .int .i64 r, .int .u32 m], .int .i64 e] w (IsI (((q : Int) - 1) / 2) w) := by
  have HP := Lib.hid hp
  have HQ := Lib.hid hq
  have HE := Lib.hid (show p ^ e ≤ 2147483647 by rw [← hq]; exact he)
  have hq1 : 1 ≤ q := by rw [hq]; exact Nat.pow_pos (by omega)
  clear hp hq
  go_enter Try.func51, Try.ntmps51
  go_wp2_with fail
  refine (spower_any p m e r _ HP.out HE.out).mono ?_
  rintro e w1 ⟨rfl, hg⟩
  rw [← HQ.out]
  have HG := Lib.hid ((Gr.new w _).trans hg)
  clear hg
  go_wp2_with fail
  go_ret
  exact ⟨rfl, HG.out⟩

set_option maxRecDepth 100000 in
set_option maxHeartbeats 1000000 in
theorem sbalanced_any (p m e q : Nat) (r x : Int) (w : World) (hp : 2 ≤ p ∧ p ≤ 65535) (hq : q = p ^ e) (he : q ≤ 2147483647) (hq2 : 2 ≤ q) (hx : 0 ≤ x ∧ x ≤ 2147483647) :
    Calls Try.prog 55 #[.agg #[.int .u32 p, .int .i64 r, .int .u32 m], .int .u32 x, .int .i64 e] w (IsI (bal (x % q) q) w) := by
  have HP := Lib.hid hp
  have HQ := Lib.hid hq
  have HE := Lib.hid (show p ^ e ≤ 2147483647 by rw [← hq]; exact he)
  obtain ⟨x0, x1⟩ := hx
  have r0 := emod_lo x q (by omega)
  have r1 := emod_hi x q (by omega)
  clear hp hq
  go_enter Try.func55, Try.ntmps55
  go_wp2_with fail
  refine (spower_any p m e r _ HP.out HE.out).mono ?_
  rintro e w1 ⟨rfl, hg⟩
  rw [← HQ.out]
  have HG := Lib.hid ((Gr.new w _).trans hg)
  clear hg
  have q0 : ¬ (q : Int) = 0 := by omega
  have q0' : ¬ q = 0 := by omega
  go_wp2_with fail
  refine (balanced_ok (x % q) q _ (by omega) (by omega) r0 r1).mono ?_
  rintro e w2 ⟨rfl, hg⟩
  have HG2 := Lib.hid (HG.out.trans hg)
  clear hg
  go_wp2_with fail
  go_ret
  exact ⟨rfl, HG2.out⟩

/-- The residues of a list. -/
def resL (m : Int) (a : List Int) : List Int := a.map (· % m)
theorem resL_len (m : Int) (a : List Int) : (resL m a).length = a.length := by simp [resL]
theorem cf_resL (m : Int) (a : List Int) (i : Nat) : Op.cf (resL m a) i = Op.cf a i % m := Op.cf_map (· % m) (by simp) a i
theorem resL_ext {m : Int} {a l : List Int} (h : l.length = a.length) (k : ∀ j, j < a.length → Op.cf l j = Op.cf a j % m) : l = resL m a := by
  apply Op.ext_cf
  · rw [h, resL_len]
  · intro i
    rw [cf_resL]
    by_cases hi : i < a.length
    · exact k i hi
    · rw [Op.cf_out (by omega), Op.cf_out (l := a) (by omega)]; simp

set_option maxRecDepth 100000 in
set_option maxHeartbeats 1000000 in
theorem sresidues_any (p m : Nat) (r : Int) (a : List Int) (v : Value) (w : World) (hm : 2 ≤ m ∧ m ≤ 2147483647) (hv : Lo.HasQ w v a) (hl : a.length ≤ 1000000) :
    Calls Try.prog 54 #[.agg #[.int .u32 p, .int .i64 r, .int .u32 m], v] w (RowP (resL m a) w) := by
  have HV := Lib.hid hv
  obtain ⟨m1, m2⟩ := hm
  obtain ⟨hd, xa, ca, rfl, a1, a2, -⟩ := hv
  obtain ⟨la, hla⟩ : ∃ la, la = a.length := ⟨_, rfl⟩
  rw [← hla] at HV a1 hl ⊢
  have HLA := Lib.hid hla
  have HD := Lib.hid hd
  have hmk := mk_row la (la : Int) (by omega) (by omega)
  clear hla hd
  go_enter Try.func54, Try.ntmps54
  go_wp2_with fail
  clear hmk
  obtain ⟨W0, hW0⟩ : ∃ W0 : World, W0 = w.alloc (.cells #[.int .u32 p, .int .i64 r, .int .u32 m] 45) := ⟨_, rfl⟩
  have HB := Lib.hid (show Blk 45 W0 w.heap.size #[.int .u32 p, .int .i64 r, .int .u32 m] from by rw [hW0]; exact Blk.new _ _ _)
  have HG0 := Lib.hid (show Gr w W0 from by rw [hW0]; exact Gr.new _ _)
  have hsz : W0.heap.size = w.heap.size + 1 := by rw [hW0]; simp
  have HS := Lib.hid hsz
  rw [← hW0]
  rw [← hsz]
  clear hW0 hsz
  go_loopw [6, 7, 13] (fun _ _ t wr => ∃ (k : Nat) (l : List Int), t = .int .i64 k ∧ k ≤ la ∧ l.length = la ∧ (∀ j, j < k → Op.cf l j = Op.cf a j % m) ∧ Row wr W0.heap.size l ∧ Gr W0 wr) (fun _ _ t _ => la - (intOf t).toNat)
  case atStart => exact ⟨0, List.replicate la 0, rfl, by omega, by simp, fun j hj => by omega, Row.zeros W0 la, Gr.new W0 _⟩
  case round =>
    obtain ⟨k, l, rfl, hk, hll, hval, hrow, hg⟩ := hrel
    have HLL := Lib.hid hll
    have HVAL := Lib.hid hval
    have HROW := Lib.hid hrow
    have HG := Lib.hid hg
    clear hll hval hrow hg
    by_cases hlt : k < la
    · have i1 : (k : Int) < (la : Int) := by omega
      obtain ⟨gx, ox, rfl, hcx⟩ : ∃ gx ox, xa = some ⟨gx, ox, none⟩ ∧ wr.cell? ⟨gx, ox + k, none⟩ = some (.int .i64 (Op.cf a k)) := by
        obtain ⟨_, b, c', e, _, _, h3⟩ := HV.out.later (HG0.out.trans HG.out)
        cases e
        obtain ⟨gx, ox, e, hc⟩ := h3 k (by have := HLA.out; omega)
        exact ⟨gx, ox, e, hc⟩
      obtain ⟨x, hx⟩ : ∃ x, x = Op.cf a k := ⟨_, rfl⟩
      have hxb := HD.out.at_ k
      rw [← hx] at hcx hxb
      have HX := Lib.hid hx
      obtain ⟨x0, x1⟩ := hxb
      have c2 := (HB.out.later HG.out).cell 2
      simp only [List.getElem?_toArray, List.getElem?_cons_zero, List.getElem?_cons_succ] at c2
      clear hx
      go_wp2_with fail
      refine (of_ok x m _ (by omega) (by omega) (by omega) (by omega)).mono ?_
      rintro e w1 ⟨rfl, hg1⟩
      have HG1 := Lib.hid (HG.out.trans hg1)
      have HR1 := Lib.hid (HROW.out.later hg1)
      have r0 := emod_lo x m (by omega)
      have r1 := emod_hi x m (by omega)
      clear hg1
      have hc1 := HR1.out.cell (j := k) (by rw [HLL.out]; exact hlt)
      have hf1 := HR1.out.frozen k
      have HR2 := Lib.hid (HR1.out.setAt (k := k) (x := x % m) (by rw [HLL.out]; exact hlt) (by omega))
      go_wp2_with fail
      go_roundw
      case rel => exact ⟨k + 1, l.set k (x % m), by go_num, by omega, by rw [List.length_set]; exact HLL.out, fun i hi => by
        rw [cf_set l _ k i (by rw [HLL.out]; exact hlt)]
        by_cases e : i = k
        · rw [if_pos e, e, HX.out]
        · rw [if_neg e]; exact HVAL.out i (by omega), HR2.out, HG1.out.setCell (Nat.le_refl _) _⟩
      case measure => simp [intOf]; omega
    · obtain rfl : k = la := by omega
      have i1 : ¬ (k : Int) < (k : Int) := by omega
      go_wp2_with fail
      go_ret
      have e := resL_ext (m := m) (HLL.out.trans HLA.out) (fun j hj => HVAL.out j (by rw [HLA.out]; exact hj))
      exact ⟨W0.heap.size, k, rfl, by rw [resL_len]; exact HLA.out, HG0.out.size, by rw [← e]; exact HROW.out, HG0.out.trans HG.out⟩
end Go.Proofs.Ytfmmkdmnondomaa
