/- For the law SupplyPrefix: succeeds, for every act; the places behind the acts. -/
import Derived.Test.YtmankcmmlcfbaaaVyc
namespace Ov
set_option linter.unusedVariables false
/-- The place behind k acts. -/
def pl (s : ByteArray) (A : Nat → Nat × Int × Int × Nat) : Nat → Nat
  | 0 => 0
  | k + 1 => (act s (A k) (pl s A k)).2.2
theorem pl_step (s : ByteArray) (A : Nat → Nat × Int × Int × Nat) (k : Nat) (h : pl s A k ≤ nbits s) : pl s A k ≤ pl s A (k + 1) := (act_place s (A k) _ h).2
theorem pl_mono (s : ByteArray) (A : Nat → Nat × Int × Int × Nat) (h : ∀ k, pl s A k ≤ nbits s) {i j : Nat} (hij : i ≤ j) : pl s A i ≤ pl s A j := by
  induction j with
  | zero => obtain rfl : i = 0 := by omega
            exact Nat.le_refl _
  | succ j ih =>
    by_cases e : i = j + 1
    · subst e; exact Nat.le_refl _
    · exact Nat.le_trans (ih (by omega)) (pl_step s A j (h j))
end Ov
namespace Go.Proofs.Ytmankcmmlcfbaaa
open Go.RowKit Ov
set_option linter.unusedVariables false
theorem succ_any (r : Nat) (s : ByteArray) (p : Nat) (a : Nat × Int × Int × Nat) (w0 w : World) (hR : Rup w r s p) (hg : Gr w0 w) (hr : w0.heap.size ≤ r) (hQ : a.2.2.2 < 18446744073709551616) :
    Calls Try.prog 16 #[.pointer (some ⟨r, 0, none⟩), .agg #[.int .u8 (a.1 : Nat), .int .i64 a.2.1, .int .i64 a.2.2.1, .int .u64 (a.2.2.2 : Nat)]] w (fun e w' => e = .returned (.bool (decide ((act s a p).2.1 = 0))) ∧ Gr w0 w') := by
  obtain ⟨W, N, H, Q⟩ := a
  dsimp only at hQ ⊢
  have h5 : W % 5 = 0 ∨ W % 5 = 1 ∨ W % 5 = 2 ∨ W % 5 = 3 ∨ W % 5 = 4 := by omega
  rcases h5 with k | k | k | k | k
  · have e : act s (W, N, H, Q) p = ofU (rBits s N p) := by unfold act; rw [if_pos k]
    rw [e]
    exact succ0_any r s p _ _ _ W N H Q w0 w hR hg hr k hQ rfl
  · have e : act s (W, N, H, Q) p = ofU (rBelow s Q p) := by unfold act; rw [if_neg (show ¬ W % 5 = 0 by omega), if_pos k]
    rw [e]
    exact succ1_any r s p _ _ _ W N H Q w0 w hR hg hr k hQ rfl
  · have e : act s (W, N, H, Q) p = rUni s N (Q % 4294967296) p := by unfold act; rw [if_neg (show ¬ W % 5 = 0 by omega), if_neg (show ¬ W % 5 = 1 by omega), if_pos k]
    rw [e]
    exact succ2_any r s p _ _ _ W N H Q w0 w hR hg hr k hQ rfl
  · have e : act s (W, N, H, Q) p = rTern s N H p := by unfold act; rw [if_neg (show ¬ W % 5 = 0 by omega), if_neg (show ¬ W % 5 = 1 by omega), if_neg (show ¬ W % 5 = 2 by omega), if_pos k]
    rw [e]
    exact succ3_any r s p _ _ _ W N H Q w0 w hR hg hr k hQ rfl
  · have e : act s (W, N, H, Q) p = rBnd s N (Q % 4294967296) p := by unfold act; rw [if_neg (show ¬ W % 5 = 0 by omega), if_neg (show ¬ W % 5 = 1 by omega), if_neg (show ¬ W % 5 = 2 by omega), if_neg (show ¬ W % 5 = 3 by omega)]
    rw [e]
    exact succ4_any r s p _ _ _ W N H Q w0 w hR hg hr k hQ rfl
end Go.Proofs.Ytmankcmmlcfbaaa
