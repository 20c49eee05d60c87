/- What the exported functions of package modular for residues return: the sum, difference, product, power, inverse, residue and balanced value for valid arguments, and the error ErrArg for others. -/
import Derived.Test.YtaenjbemkeghgaaMod
namespace Go.Proofs.Ytaenjbemkeghgaa
open Go.RowKit
set_option linter.unusedVariables false

/-- Two results: a residue and an error number. -/
def Two (x err : Int) (w : World) (e : Ending) (w' : World) : Prop := e = .returned (.tuple #[.int .u32 x, .int .i64 err]) ∧ Gr w w'

theorem cells_two (w : World) (a b : Value) (t : TypeId) (k : Nat) (hk : k < 2) : (w.alloc (.cells #[a, b] t)).cell? ⟨w.heap.size, k, none⟩ = some ([a, b].getD k undef) := by
  rcases k with _ | _ | k
  · simp [go_sem]
  · simp [go_sem]
  · omega

theorem residues_ok2 (a b n : Int) (w : World) (h : 2 ≤ n) (h' : n ≤ 2147483647) (ha : a < n) (hb : b < n) :
    Calls Try.prog 82 #[.int .u32 n, .slice (some ⟨w.heap.size, 0, none⟩) 2 2] (w.alloc (.cells #[.int .u32 a, .int .u32 b] 22)) fun e w' => e = .returned (.bool true) ∧ w.alloc (.cells #[.int .u32 a, .int .u32 b] 22) = w' := by
  refine residues_ok n [a, b] w.heap.size _ h h' ?_ (by simp) ?_
  · intro k hk; rcases k with _ | _ | k
    · simpa using ha
    · simpa using hb
    · simp at hk; omega
  · intro k hk
    rw [cells_two _ _ _ _ _ (by simpa using hk)]
    rcases k with _ | _ | k
    · rfl
    · rfl
    · simp at hk; omega

theorem residues_bad2 (a b n : Int) (w : World) (h : (n < 2 ∨ 2147483647 < n) ∨ n ≤ a ∨ n ≤ b) :
    Calls Try.prog 82 #[.int .u32 n, .slice (some ⟨w.heap.size, 0, none⟩) 2 2] (w.alloc (.cells #[.int .u32 a, .int .u32 b] 22)) fun e w' => e = .returned (.bool false) ∧ w.alloc (.cells #[.int .u32 a, .int .u32 b] 22) = w' := by
  refine residues_bad n [a, b] w.heap.size _ ?_ (by simp) ?_
  · rcases h with h | h | h
    · exact .inl h
    · exact .inr ⟨0, by simp, by simpa using h⟩
    · exact .inr ⟨1, by simp, by simpa using h⟩
  · intro k hk
    rw [cells_two _ _ _ _ _ (by simpa using hk)]
    rcases k with _ | _ | k
    · rfl
    · rfl
    · simp at hk; omega

theorem residues_ok1 (a n : Int) (w : World) (h : 2 ≤ n) (h' : n ≤ 2147483647) (ha : a < n) :
    Calls Try.prog 82 #[.int .u32 n, .slice (some ⟨w.heap.size, 0, none⟩) 1 1] (w.alloc (.cells #[.int .u32 a] 22)) fun e w' => e = .returned (.bool true) ∧ w.alloc (.cells #[.int .u32 a] 22) = w' := by
  refine residues_ok n [a] w.heap.size _ h h' ?_ (by simp) ?_
  · intro k hk; rcases k with _ | k
    · simpa using ha
    · simp at hk
  · intro k hk
    rcases k with _ | k
    · exact cell_new _ _ _
    · simp at hk

theorem residues_bad1 (a n : Int) (w : World) (h : (n < 2 ∨ 2147483647 < n) ∨ n ≤ a) :
    Calls Try.prog 82 #[.int .u32 n, .slice (some ⟨w.heap.size, 0, none⟩) 1 1] (w.alloc (.cells #[.int .u32 a] 22)) fun e w' => e = .returned (.bool false) ∧ w.alloc (.cells #[.int .u32 a] 22) = w' := by
  refine residues_bad n [a] w.heap.size _ ?_ (by simp) ?_
  · rcases h with h | h
    · exact .inl h
    · exact .inr ⟨0, by simp, by simpa using h⟩
  · intro k hk
    rcases k with _ | k
    · exact cell_new _ _ _
    · simp at hk

end Go.Proofs.Ytaenjbemkeghgaa
