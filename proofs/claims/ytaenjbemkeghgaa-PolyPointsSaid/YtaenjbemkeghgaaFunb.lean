/- What Pow, Inverse, Of and Balanced of package modular return. -/
import Derived.Test.YtaenjbemkeghgaaFun
namespace Go.Proofs.Ytaenjbemkeghgaa
open Go.RowKit
set_option linter.unusedVariables false
/-- Two results: an integer of 64 bits and an error number. -/
def TwoI (x err : Int) (w : World) (e : Ending) (w' : World) : Prop := e = .returned (.tuple #[.int .i64 x, .int .i64 err]) ∧ Gr w w'

def bal (a n : Int) : Int := if n < 2 * a then a - n else a
theorem bal_hi {a n : Int} (h : n < 2 * a) : bal a n = a - n := by unfold bal; rw [if_pos h]
theorem bal_lo {a n : Int} (h : ¬ n < 2 * a) : bal a n = a := by unfold bal; rw [if_neg h]

/-- A factor whose product with a is 1 modulo n. -/
def IsInv (a n b : Int) : Prop := 0 ≤ b ∧ b < n ∧ a * b % n = 1

theorem IsInv.of_bezout {a0 n0 : Nat} {x : Int} (hn : 2 ≤ n0) (hg : Nat.gcd a0 n0 = 1) (h : (n0 : Int) ∣ a0 * x - (Nat.gcd a0 n0 : Nat)) : IsInv a0 n0 (x % n0) := by
  refine ⟨Int.emod_nonneg _ (by omega), Int.emod_lt_of_pos _ (by omega), ?_⟩
  rw [hg] at h
  rw [Int.mul_emod, Int.emod_emod, ← Int.mul_emod]
  have h2 : ((a0 : Int) * x - 1) % n0 = 0 := Int.emod_eq_zero_of_dvd h
  have h3 : (a0 : Int) * x = (a0 * x - 1) + 1 := by omega
  rw [h3, Int.add_emod, h2, Int.zero_add, Int.emod_emod]
  exact Int.emod_eq_of_lt (by omega) (by omega)

theorem IsInv.unique {a n b c : Int} (hb : IsInv a n b) (hc : IsInv a n c) : b = c := by
  obtain ⟨b0, b1, b2⟩ := hb
  obtain ⟨c0, c1, c2⟩ := hc
  have e1 : b * (a * c % n) % n = b := by
    rw [c2, Int.mul_one, Int.emod_eq_of_lt b0 b1]
  have e2 : c * (a * b % n) % n = c := by
    rw [b2, Int.mul_one, Int.emod_eq_of_lt c0 c1]
  have e3 : b * (a * c % n) % n = b * (a * c) % n := by rw [Int.mul_emod, Int.emod_emod, ← Int.mul_emod]
  have e4 : c * (a * b % n) % n = c * (a * b) % n := by rw [Int.mul_emod, Int.emod_emod, ← Int.mul_emod]
  have e5 : b * (a * c) = c * (a * b) := by rw [← Int.mul_assoc, Int.mul_comm b a, Int.mul_comm (a * b) c]
  exact e1.symm.trans (e3.trans ((by rw [e5] : b * (a * c) % n = c * (a * b) % n).trans (e4.symm.trans e2)))

/-- The inverse is returned. -/
def InvPost (a n : Int) (w : World) (e : Ending) (w' : World) : Prop := ∃ b, Two b 0 w e w' ∧ IsInv a n b

theorem inverse_ok (a n : Nat) (w : World) (h : 2 ≤ n) (h' : n ≤ 2147483647) (ha : a < n) (hg : Nat.gcd a n = 1) :
    Calls Try.prog 76 #[.int .u32 a, .int .u32 n] w (InvPost a n w) := by
  have HG := Lib.hid hg
  clear hg
  go_enter Try.func76, Try.ntmps76
  go_wp2_with fail
  refine (residues_ok1 a n _ (by omega) (by omega) (by omega)).mono ?_
  rintro e w' ⟨rfl, rfl⟩
  go_wp2_with fail
  refine (bezout_any a n _ (by omega) (by omega) (by omega)).mono ?_
  rintro e w' ⟨x, rfl, hd, hx1, hx2, rfl⟩
  have HI := Lib.hid (IsInv.of_bezout h HG.out hd)
  clear hd
  rw [HG.out]
  go_wp2_with fail
  refine (reduce_any x n _ (by omega) (by omega) (by omega) (by omega)).mono ?_
  rintro e w' ⟨rfl, rfl⟩
  go_wp2_with fail
  go_ret2
  exact ⟨_, ⟨rfl, Gr.new _ _⟩, HI.out⟩

theorem inverse_none (a n : Nat) (w : World) (h : 2 ≤ n) (h' : n ≤ 2147483647) (ha : a < n) (hg : Nat.gcd a n ≠ 1) :
    Calls Try.prog 76 #[.int .u32 a, .int .u32 n] w (Two 0 4 w) := by
  have HG := Lib.hid hg
  clear hg
  go_enter Try.func76, Try.ntmps76
  go_wp2_with fail
  refine (residues_ok1 a n _ (by omega) (by omega) (by omega)).mono ?_
  rintro e w' ⟨rfl, rfl⟩
  go_wp2_with fail
  refine (bezout_any a n _ (by omega) (by omega) (by omega)).mono ?_
  rintro e w' ⟨x, rfl, hd, hx1, hx2, rfl⟩
  clear hd
  generalize hgg : Nat.gcd a n = g at *
  have HH := Lib.hid hgg
  clear hgg
  have ht : ((g : Int) != 1) = true := by have := HG.out; simp; omega
  go_wp2_with fail
  go_ret2
  exact ⟨rfl, Gr.new _ _⟩

theorem inverse_bad (a n : Int) (w : World) (h : (n < 2 ∨ 2147483647 < n) ∨ n ≤ a) :
    Calls Try.prog 76 #[.int .u32 a, .int .u32 n] w (Two 0 2 w) := by
  have H := Lib.hid h
  clear h
  go_enter Try.func76, Try.ntmps76
  go_wp2_with fail
  refine (residues_bad1 a n _ H.out).mono ?_
  rintro e w' ⟨rfl, rfl⟩
  go_wp2_with fail
  go_ret2
  exact ⟨rfl, Gr.new _ _⟩
end Go.Proofs.Ytaenjbemkeghgaa
