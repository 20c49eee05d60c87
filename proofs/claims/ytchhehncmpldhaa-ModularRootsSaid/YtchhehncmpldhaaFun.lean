/- What the exported functions of package modular for residues return: the sum, difference, product, power, inverse, residue and balanced value for valid arguments, and the error ErrArg for others. -/
import Derived.Test.YtchhehncmpldhaaMod
namespace Go.Proofs.Ytchhehncmpldhaa
open Go.RowKit
set_option linter.unusedVariables false

/-- Two results: a residue and an error number. -/
def Two (x err : Int) (w : World) (e : Ending) (w' : World) : Prop := e = .returned (.tuple #[.int .u32 x, .int .i64 err]) ∧ Gr w w'

theorem cells_two (w : World) (a b : Value) (t : TypeId) (k : Nat) (hk : k < 2) : (w.alloc (.cells #[a, b] t)).cell? ⟨w.heap.size, k, none⟩ = some ([a, b].getD k undef) := by
  rcases k with _ | _ | k
  · simp [go_sem]
  · simp [go_sem]
  · omega

theorem residues_ok2 (a b n : Int) (w : World) (h : 2 ≤ n) (h' : n ≤ 2147483647) (ha : a < n) (hb : b < n) :
    Calls Try.prog 37 #[.int .u32 n, .slice (some ⟨w.heap.size, 0, none⟩) 2 2] (w.alloc (.cells #[.int .u32 a, .int .u32 b] 22)) fun e w' => e = .returned (.bool true) ∧ w.alloc (.cells #[.int .u32 a, .int .u32 b] 22) = w' := by
  refine residues_ok n [a, b] w.heap.size _ h h' ?_ (by simp) ?_
  · intro k hk; rcases k with _ | _ | k
    · simpa using ha
    · simpa using hb
    · simp at hk; omega
  · intro k hk
    rw [cells_two _ _ _ _ _ (by simpa using hk)]
    rcases k with _ | _ | k
    · rfl
    · rfl
    · simp at hk; omega

theorem residues_bad2 (a b n : Int) (w : World) (h : (n < 2 ∨ 2147483647 < n) ∨ n ≤ a ∨ n ≤ b) :
    Calls Try.prog 37 #[.int .u32 n, .slice (some ⟨w.heap.size, 0, none⟩) 2 2] (w.alloc (.cells #[.int .u32 a, .int .u32 b] 22)) fun e w' => e = .returned (.bool false) ∧ w.alloc (.cells #[.int .u32 a, .int .u32 b] 22) = w' := by
  refine residues_bad n [a, b] w.heap.size _ ?_ (by simp) ?_
  · rcases h with h | h | h
    · exact .inl h
    · exact .inr ⟨0, by simp, by simpa using h⟩
    · exact .inr ⟨1, by simp, by simpa using h⟩
  · intro k hk
    rw [cells_two _ _ _ _ _ (by simpa using hk)]
    rcases k with _ | _ | k
    · rfl
    · rfl
    · simp at hk; omega

theorem residues_ok1 (a n : Int) (w : World) (h : 2 ≤ n) (h' : n ≤ 2147483647) (ha : a < n) :
    Calls Try.prog 37 #[.int .u32 n, .slice (some ⟨w.heap.size, 0, none⟩) 1 1] (w.alloc (.cells #[.int .u32 a] 22)) fun e w' => e = .returned (.bool true) ∧ w.alloc (.cells #[.int .u32 a] 22) = w' := by
  refine residues_ok n [a] w.heap.size _ h h' ?_ (by simp) ?_
  · intro k hk; rcases k with _ | k
    · simpa using ha
    · simp at hk
  · intro k hk
    rcases k with _ | k
    · exact cell_new _ _ _
    · simp at hk

theorem residues_bad1 (a n : Int) (w : World) (h : (n < 2 ∨ 2147483647 < n) ∨ n ≤ a) :
    Calls Try.prog 37 #[.int .u32 n, .slice (some ⟨w.heap.size, 0, none⟩) 1 1] (w.alloc (.cells #[.int .u32 a] 22)) fun e w' => e = .returned (.bool false) ∧ w.alloc (.cells #[.int .u32 a] 22) = w' := by
  refine residues_bad n [a] w.heap.size _ ?_ (by simp) ?_
  · rcases h with h | h
    · exact .inl h
    · exact .inr ⟨0, by simp, by simpa using h⟩
  · intro k hk
    rcases k with _ | k
    · exact cell_new _ _ _
    · simp at hk

theorem add_ok (a b n : Int) (w : World) (h : 2 ≤ n) (h' : n ≤ 2147483647) (ha0 : 0 ≤ a) (hb0 : 0 ≤ b) (ha : a < n) (hb : b < n) :
    Calls Try.prog 11 #[.int .u32 a, .int .u32 b, .int .u32 n] w (Two ((a + b) % n) 0 w) := by
  go_enter Try.func11, Try.ntmps11
  go_wp2_with fail
  refine (residues_ok2 a b n _ h h' ha hb).mono ?_
  rintro e w' ⟨rfl, rfl⟩
  go_wp2_with fail
  refine (sum_any a b n _ ha0 hb0 (by omega) h' (by omega) (by omega)).mono ?_
  rintro e w' ⟨rfl, rfl⟩
  go_wp2_with fail
  go_ret2
  exact ⟨rfl, Gr.new _ _⟩

theorem add_bad (a b n : Int) (w : World) (h : (n < 2 ∨ 2147483647 < n) ∨ n ≤ a ∨ n ≤ b) :
    Calls Try.prog 11 #[.int .u32 a, .int .u32 b, .int .u32 n] w (Two 0 2 w) := by
  have H := Lib.hid h
  clear h
  go_enter Try.func11, Try.ntmps11
  go_wp2_with fail
  refine (residues_bad2 a b n _ H.out).mono ?_
  rintro e w' ⟨rfl, rfl⟩
  go_wp2_with fail
  go_ret2
  exact ⟨rfl, Gr.new _ _⟩

theorem sub_ok (a b n : Int) (w : World) (h : 2 ≤ n) (h' : n ≤ 2147483647) (ha0 : 0 ≤ a) (hb0 : 0 ≤ b) (ha : a < n) (hb : b < n) :
    Calls Try.prog 13 #[.int .u32 a, .int .u32 b, .int .u32 n] w (Two ((a + (n - b)) % n) 0 w) := by
  go_enter Try.func13, Try.ntmps13
  go_wp2_with fail
  refine (residues_ok2 a b n _ h h' ha hb).mono ?_
  rintro e w' ⟨rfl, rfl⟩
  go_wp2_with fail
  refine (sum_any a (n - b) n _ ha0 (by omega) (by omega) h' (by omega) (by omega)).mono ?_
  rintro e w' ⟨rfl, rfl⟩
  go_wp2_with fail
  go_ret2
  exact ⟨rfl, Gr.new _ _⟩

theorem sub_bad (a b n : Int) (w : World) (h : (n < 2 ∨ 2147483647 < n) ∨ n ≤ a ∨ n ≤ b) :
    Calls Try.prog 13 #[.int .u32 a, .int .u32 b, .int .u32 n] w (Two 0 2 w) := by
  have H := Lib.hid h
  clear h
  go_enter Try.func13, Try.ntmps13
  go_wp2_with fail
  refine (residues_bad2 a b n _ H.out).mono ?_
  rintro e w' ⟨rfl, rfl⟩
  go_wp2_with fail
  go_ret2
  exact ⟨rfl, Gr.new _ _⟩

theorem mul_ok (a b n : Int) (w : World) (h : 2 ≤ n) (h' : n ≤ 2147483647) (ha0 : 0 ≤ a) (hb0 : 0 ≤ b) (ha : a < n) (hb : b < n) :
    Calls Try.prog 15 #[.int .u32 a, .int .u32 b, .int .u32 n] w (Two (a * b % n) 0 w) := by
  go_enter Try.func15, Try.ntmps15
  go_wp2_with fail
  refine (residues_ok2 a b n _ h h' ha hb).mono ?_
  rintro e w' ⟨rfl, rfl⟩
  go_wp2_with fail
  refine (products_any n _).mono ?_
  rintro e w' ⟨rfl, rfl⟩
  go_wp2_with fail
  refine (times_any a b n (w.heap.size + 1) _ ha0 (by omega) hb0 (by omega) (by omega) (by omega) (by have := cell_new (w.alloc (.cells #[.int .u32 a, .int .u32 b] 22)) (.int .u32 n) 22; rwa [World.size_alloc] at this)).mono ?_
  rintro e w' ⟨rfl, rfl⟩
  go_wp2_with fail
  go_ret2
  exact ⟨rfl, (Gr.new _ _).alloc _⟩

theorem mul_bad (a b n : Int) (w : World) (h : (n < 2 ∨ 2147483647 < n) ∨ n ≤ a ∨ n ≤ b) :
    Calls Try.prog 15 #[.int .u32 a, .int .u32 b, .int .u32 n] w (Two 0 2 w) := by
  have H := Lib.hid h
  clear h
  go_enter Try.func15, Try.ntmps15
  go_wp2_with fail
  refine (residues_bad2 a b n _ H.out).mono ?_
  rintro e w' ⟨rfl, rfl⟩
  go_wp2_with fail
  go_ret2
  exact ⟨rfl, Gr.new _ _⟩
end Go.Proofs.Ytchhehncmpldhaa
