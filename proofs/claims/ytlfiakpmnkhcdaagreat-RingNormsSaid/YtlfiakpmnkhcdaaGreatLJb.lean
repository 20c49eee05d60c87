import Derived.Test.YtlfiakpmnkhcdaaGreatLJa
/- Rows: sums, products modulo x^n + 1, automorphisms. No Go here. -/
namespace Oj
open Op Oq
set_option linter.unusedVariables false

/-- A row as a function makes it. -/
def rowL (n : Nat) (f : Nat → Int) : List Int := (List.range n).map f
theorem rowL_len (n : Nat) (f : Nat → Int) : (rowL n f).length = n := by simp [rowL]
theorem rowL_at (n : Nat) (f : Nat → Int) {i : Nat} (hi : i < n) : cf (rowL n f) i = f i := by
  rw [← cf_at]; simp [rowL, hi]
theorem rowL_out (n : Nat) (f : Nat → Int) {i : Nat} (hi : n ≤ i) : cf (rowL n f) i = 0 := cf_out (by rw [rowL_len]; exact hi)
theorem rowL_cong {n : Nat} {f g : Nat → Int} (h : ∀ i, i < n → f i = g i) : rowL n f = rowL n g := by
  unfold rowL; exact List.map_congr_left fun i hi => h i (List.mem_range.1 hi)
/-- Residues: n of them. -/
def Rws (n : Nat) (m : Int) (l : List Int) : Prop := l.length = n ∧ ∀ i, i < n → 0 ≤ cf l i ∧ cf l i < m
theorem Rws.all {n : Nat} {m : Int} {l : List Int} (hm : 0 < m) (h : Rws n m l) (i : Nat) : 0 ≤ cf l i ∧ cf l i < m := by
  by_cases hi : i < n
  · exact h.2 i hi
  · rw [cf_out (by rw [h.1]; omega)]; omega
theorem Rws.ext {n : Nat} {m : Int} {a b : List Int} (ha : Rws n m a) (hb : Rws n m b) (h : ∀ i, i < n → m ∣ cf a i - cf b i) : a = b := by
  refine ext_cf (by rw [ha.1, hb.1]) fun i => ?_
  by_cases hi : i < n
  · exact dvd_small (h i hi) (ha.2 i hi) (hb.2 i hi)
  · rw [cf_out (by rw [ha.1]; omega), cf_out (by rw [hb.1]; omega)]
theorem Rws.mod {n : Nat} {m : Int} (hm : 0 < m) (f : Nat → Int) : Rws n m (rowL n (fun i => f i % m)) :=
  ⟨rowL_len _ _, fun i hi => by rw [rowL_at _ _ hi]; exact ⟨Int.emod_nonneg _ (by omega), Int.emod_lt_of_pos _ hm⟩⟩

section
variable {m : Int} {f : List Int}
/-- Values as sums. -/
theorem ev_sum (Y : Q m f) : ∀ (l : List Int), evR (kk m f) l Y = Sm l.length (fun i => kk m f (cf l i) * pw Y i)
  | [] => rfl
  | c :: l => by
    have L := laws m f
    rw [evR, ev_sum Y l, List.length_cons, L.Sm_left]
    rw [cf_zero, show pw Y 0 = 1 from rfl, L.mo, L.mc Y, ← L.Sm_mul]
    congr 1
    exact Sm_cong fun j _ => by rw [cf_succ, pw, L.ma]
end
/-- The sum of a row and a multiple of another one. -/
def sumR (n : Nat) (m : Int) (a : List Int) (s : Int) (b : List Int) : List Int := rowL n (fun i => (cf a i + s * cf b i) % m)
theorem sumR_rws {n : Nat} {m : Int} (hm : 0 < m) (a : List Int) (s : Int) (b : List Int) : Rws n m (sumR n m a s b) := Rws.mod hm _
/-- Products modulo x^n + 1. -/
def sb (n : Nat) (b : List Int) (k i : Nat) : Int := if i ≤ k then cf b (k - i) else - cf b (n + k - i)
def np (n : Nat) (a b : List Int) (k : Nat) : Int := S n (fun i => cf a i * sb n b k i)
def prodR (n : Nat) (m : Int) (a b : List Int) : List Int := rowL n (fun k => np n a b k % m)
theorem prodR_rws {n : Nat} {m : Int} (hm : 0 < m) (a b : List Int) : Rws n m (prodR n m a b) := Rws.mod hm _
section
variable {n : Nat} {m : Int} {a b c : List Int}
end

/-- Automorphisms. -/
def ps (n k i : Nat) : Nat := if i * k % (2 * n) < n then i * k % (2 * n) else i * k % (2 * n) - n
def vl (n : Nat) (m : Int) (k : Nat) (a : List Int) (i : Nat) : Int := if i * k % (2 * n) < n then cf a i else (-(cf a i)) % m
def autoS (n : Nat) (m : Int) (k : Nat) (a : List Int) : Nat → List Int
  | 0 => List.replicate n 0
  | j + 1 => (autoS n m k a j).set (ps n k j) (vl n m k a j)
def autoR (n : Nat) (m : Int) (k : Nat) (a : List Int) : List Int := autoS n m k a n
theorem autoS_len (n : Nat) (m : Int) (k : Nat) (a : List Int) : ∀ j, (autoS n m k a j).length = n
  | 0 => by simp [autoS]
  | j + 1 => by rw [autoS, List.length_set, autoS_len n m k a j]
def Dim (n : Nat) : Prop := n = 4 ∨ n = 8 ∨ n = 16 ∨ n = 32
theorem ps_lt {n k i : Nat} (hn : 1 ≤ n) : ps n k i < n := by
  unfold ps
  have := Nat.mod_lt (i * k) (show 2 * n > 0 by omega)
  split <;> omega
theorem ps_mod {n k i : Nat} (hn : 1 ≤ n) : ps n k i = i * k % n := by
  have h1 := Nat.mod_lt (i * k) (show 2 * n > 0 by omega)
  have h2 : i * k % (2 * n) % n = i * k % n := Nat.mod_mod_of_dvd _ ⟨2, by omega⟩
  unfold ps
  generalize i * k % (2 * n) = z at *
  generalize i * k % n = y at *
  split
  · rename_i h
    rw [Nat.mod_eq_of_lt h] at h2; exact h2
  · rename_i h
    obtain ⟨t, rfl⟩ : ∃ t, z = t + n := ⟨z - n, by omega⟩
    rw [Nat.add_mod_right, Nat.mod_eq_of_lt (by omega)] at h2
    omega
theorem cop_pow {k : Nat} (hk : k % 2 = 1) : ∀ (e d : Nat), 2 ^ e ∣ d * k → 2 ^ e ∣ d
  | 0, d, _ => by simp
  | e + 1, d, h => by
    have h1 : 2 ∣ d * k := Nat.dvd_trans ⟨2 ^ e, by rw [Nat.pow_succ, Nat.mul_comm]⟩ h
    have h2 : d % 2 = 0 := by
      have h3 : d * k % 2 = 0 := Nat.mod_eq_zero_of_dvd h1
      rw [Nat.mul_mod, hk] at h3
      omega
    obtain ⟨t, rfl⟩ : ∃ t, d = 2 * t := ⟨d / 2, by omega⟩
    have h4 : 2 ^ e ∣ t * k := by
      rw [Nat.pow_succ, Nat.mul_comm (2 ^ e), Nat.mul_assoc] at h
      exact Nat.dvd_of_mul_dvd_mul_left (by omega) h
    rw [Nat.pow_succ, Nat.mul_comm (2 ^ e)]
    exact Nat.mul_dvd_mul_left 2 (cop_pow hk e t h4)
theorem ps_inj {n k i j : Nat} (hn : Dim n) (hk : k % 2 = 1) (hi : i < n) (hj : j < n) (h : ps n k i = ps n k j) : i = j := by
  have hn1 : 1 ≤ n := by rcases hn with rfl | rfl | rfl | rfl <;> omega
  obtain ⟨e, he⟩ : ∃ e, n = 2 ^ e := by
    rcases hn with rfl | rfl | rfl | rfl
    · exact ⟨2, rfl⟩
    · exact ⟨3, rfl⟩
    · exact ⟨4, rfl⟩
    · exact ⟨5, rfl⟩
  rw [ps_mod hn1, ps_mod hn1] at h
  have key : ∀ x y, x ≤ y → y < n → x * k % n = y * k % n → x = y := fun x y hxy hy h => by
    have h1 : n ∣ (y - x) * k := by
      rw [Nat.sub_mul]
      exact Nat.dvd_of_mod_eq_zero (Nat.sub_mod_eq_zero_of_mod_eq h.symm)
    rw [he] at h1
    have h2 := cop_pow hk e _ h1
    rw [← he] at h2
    rcases Nat.eq_zero_or_pos (y - x) with h3 | h3
    · omega
    · have := Nat.le_of_dvd h3 h2; omega
  rcases Nat.le_total i j with h1 | h1
  · exact key i j h1 hj h
  · exact (key j i h1 hi h.symm).symm
theorem cf_set' (l : List Int) (p : Nat) (v : Int) (hp : p < l.length) (i : Nat) : cf (l.set p v) i = if i = p then v else cf l i := by
  rw [← cf_at, ← cf_at]
  by_cases h : i = p
  · subst h; rw [if_pos rfl]; simp [hp]
  · rw [if_neg h, List.getElem?_set_ne (fun e => h e.symm)]
theorem cf_rep' (n i : Nat) : cf (List.replicate n 0) i = 0 := by
  rw [← cf_at]
  by_cases h : i < n <;> simp [h]
theorem autoS_cf {n k : Nat} {m : Int} {a : List Int} (hn : Dim n) (hk : k % 2 = 1) : ∀ j, j ≤ n → (∀ i, i < j → cf (autoS n m k a j) (ps n k i) = vl n m k a i) ∧ (∀ p, (∀ i, i < j → p ≠ ps n k i) → cf (autoS n m k a j) p = 0)
  | 0, _ => ⟨fun i hi => by omega, fun p _ => cf_rep' n p⟩
  | j + 1, hj => by
    have hn1 : 1 ≤ n := by rcases hn with rfl | rfl | rfl | rfl <;> omega
    obtain ⟨h1, h2⟩ := autoS_cf (a := a) (m := m) hn hk j (by omega)
    have hl := autoS_len n m k a j
    refine ⟨fun i hi => ?_, fun p hp => ?_⟩
    · rw [autoS, cf_set' _ _ _ (by rw [hl]; exact ps_lt hn1)]
      by_cases hij : i = j
      · subst hij; rw [if_pos rfl]
      · rw [if_neg (fun e => hij (ps_inj hn hk (by omega) (by omega) e)), h1 i (by omega)]
    · rw [autoS, cf_set' _ _ _ (by rw [hl]; exact ps_lt hn1), if_neg (hp j (by omega)), h2 p (fun i hi => hp i (by omega))]
theorem autoR_at {n k i : Nat} {m : Int} {a : List Int} (hn : Dim n) (hk : k % 2 = 1) (hi : i < n) : cf (autoR n m k a) (ps n k i) = vl n m k a i := (autoS_cf hn hk n (Nat.le_refl _)).1 i hi
theorem vl_rng {n k i : Nat} {m : Int} {a : List Int} (hm : 0 < m) (ha : Rws n m a) : 0 ≤ vl n m k a i ∧ vl n m k a i < m := by
  unfold vl
  split
  · exact ha.all hm i
  · exact ⟨Int.emod_nonneg _ (by omega), Int.emod_lt_of_pos _ hm⟩
theorem autoS_rws {n k : Nat} {m : Int} {a : List Int} (hn : 1 ≤ n) (hm : 0 < m) (ha : Rws n m a) : ∀ j, Rws n m (autoS n m k a j)
  | 0 => ⟨by simp [autoS], fun i _ => by rw [autoS, cf_rep']; omega⟩
  | j + 1 => ⟨autoS_len n m k a (j + 1), fun i hi => by
    have h := autoS_rws (k := k) hn hm ha j
    rw [autoS, cf_set' _ _ _ (by rw [h.1]; exact ps_lt hn)]
    split
    · exact vl_rng hm ha
    · exact h.2 i hi⟩
theorem autoR_rws {n k : Nat} {m : Int} {a : List Int} (hn : 1 ≤ n) (hm : 0 < m) (ha : Rws n m a) : Rws n m (autoR n m k a) := autoS_rws hn hm ha n
end Oj
