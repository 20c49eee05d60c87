import Derived.Test.YtlfiakpmnkhcdaaGreatLJa
/- Rows: sums, products modulo x^n + 1, automorphisms. No Go here. -/
namespace Oj
open Op Oq
set_option linter.unusedVariables false

/-- A row as a function makes it. -/
def rowL (n : Nat) (f : Nat → Int) : List Int := (List.range n).map f
theorem rowL_len (n : Nat) (f : Nat → Int) : (rowL n f).length = n := by simp [rowL]
theorem rowL_at (n : Nat) (f : Nat → Int) {i : Nat} (hi : i < n) : cf (rowL n f) i = f i := by
  rw [← cf_at]; simp [rowL, hi]
theorem rowL_out (n : Nat) (f : Nat → Int) {i : Nat} (hi : n ≤ i) : cf (rowL n f) i = 0 := cf_out (by rw [rowL_len]; exact hi)
theorem rowL_cong {n : Nat} {f g : Nat → Int} (h : ∀ i, i < n → f i = g i) : rowL n f = rowL n g := by
  unfold rowL; exact List.map_congr_left fun i hi => h i (List.mem_range.1 hi)
/-- Residues: n of them. -/
def Rws (n : Nat) (m : Int) (l : List Int) : Prop := l.length = n ∧ ∀ i, i < n → 0 ≤ cf l i ∧ cf l i < m
theorem Rws.all {n : Nat} {m : Int} {l : List Int} (hm : 0 < m) (h : Rws n m l) (i : Nat) : 0 ≤ cf l i ∧ cf l i < m := by
  by_cases hi : i < n
  · exact h.2 i hi
  · rw [cf_out (by rw [h.1]; omega)]; omega
theorem Rws.ext {n : Nat} {m : Int} {a b : List Int} (ha : Rws n m a) (hb : Rws n m b) (h : ∀ i, i < n → m ∣ cf a i - cf b i) : a = b := by
  refine ext_cf (by rw [ha.1, hb.1]) fun i => ?_
  by_cases hi : i < n
  · exact dvd_small (h i hi) (ha.2 i hi) (hb.2 i hi)
  · rw [cf_out (by rw [ha.1]; omega), cf_out (by rw [hb.1]; omega)]
theorem Rws.mod {n : Nat} {m : Int} (hm : 0 < m) (f : Nat → Int) : Rws n m (rowL n (fun i => f i % m)) :=
  ⟨rowL_len _ _, fun i hi => by rw [rowL_at _ _ hi]; exact ⟨Int.emod_nonneg _ (by omega), Int.emod_lt_of_pos _ hm⟩⟩

section
variable {m : Int} {f : List Int}
end
/-- The sum of a row and a multiple of another one. -/
def sumR (n : Nat) (m : Int) (a : List Int) (s : Int) (b : List Int) : List Int := rowL n (fun i => (cf a i + s * cf b i) % m)
section
variable {n : Nat} {m : Int} {a b c : List Int}
end

/-- Automorphisms. -/
def ps (n k i : Nat) : Nat := if i * k % (2 * n) < n then i * k % (2 * n) else i * k % (2 * n) - n
def vl (n : Nat) (m : Int) (k : Nat) (a : List Int) (i : Nat) : Int := if i * k % (2 * n) < n then cf a i else (-(cf a i)) % m
def autoS (n : Nat) (m : Int) (k : Nat) (a : List Int) : Nat → List Int
  | 0 => List.replicate n 0
  | j + 1 => (autoS n m k a j).set (ps n k j) (vl n m k a j)
def autoR (n : Nat) (m : Int) (k : Nat) (a : List Int) : List Int := autoS n m k a n
theorem autoS_len (n : Nat) (m : Int) (k : Nat) (a : List Int) : ∀ j, (autoS n m k a j).length = n
  | 0 => by simp [autoS]
  | j + 1 => by rw [autoS, List.length_set, autoS_len n m k a j]
theorem autoR_len (n : Nat) (m : Int) (k : Nat) (a : List Int) : (autoR n m k a).length = n := autoS_len n m k a n
def Dim (n : Nat) : Prop := n = 4 ∨ n = 8 ∨ n = 16 ∨ n = 32
theorem cf_set' (l : List Int) (p : Nat) (v : Int) (hp : p < l.length) (i : Nat) : cf (l.set p v) i = if i = p then v else cf l i := by
  rw [← cf_at, ← cf_at]
  by_cases h : i = p
  · subst h; rw [if_pos rfl]; simp [hp]
  · rw [if_neg h, List.getElem?_set_ne (fun e => h e.symm)]
theorem cf_rep' (n i : Nat) : cf (List.replicate n 0) i = 0 := by
  rw [← cf_at]
  by_cases h : i < n <;> simp [h]
end Oj
