/- For the law SupplyPrefix: no place lies behind the end; the text of the law. -/
import Derived.Test.YtmankcmmlcfbaaaVyd
namespace Ov
set_option linter.unusedVariables false
theorem rMany_end (s : ByteArray) (lim n p : Nat) (cv : Nat → Int) (hp : p ≤ nbits s) : (rMany s lim n p cv).2.2 ≤ nbits s := by
  unfold rMany
  split
  · rename_i l q e
    exact (many_some hp e).2.2.2
  · exact hp
theorem act_end (s : ByteArray) (a : Nat × Int × Int × Nat) (p : Nat) (hp : p ≤ nbits s) : (act s a p).2.2 ≤ nbits s := by
  unfold act
  split
  · unfold rBits
    split
    · split
      · rename_i h
        exact h
      · exact hp
    · exact hp
  · split
    · unfold rBelow
      split
      · exact hp
      · split
        · rename_i v q e
          exact (bel_some e).2.2
        · exact hp
    · split
      · unfold rUni
        split
        · exact rMany_end s _ _ p _ hp
        · exact hp
      · split
        · unfold rTern
          split
          · rename_i h1
            split
            · rename_i L O q e
              exact (ternI hp (by omega) e).place.2
            · exact hp
          · exact hp
        · unfold rBnd
          split
          · exact rMany_end s _ _ p _ hp
          · exact hp
theorem pl_end (s : ByteArray) (A : Nat → Nat × Int × Int × Nat) : ∀ k, pl s A k ≤ nbits s
  | 0 => Nat.zero_le _
  | k + 1 => act_end s (A k) _ (pl_end s A k)
theorem pl_le (s : ByteArray) (A : Nat → Nat × Int × Int × Nat) {i j : Nat} (hij : i ≤ j) : pl s A i ≤ pl s A j := pl_mono s A (pl_end s A) hij
/-- The same act, of the text whose first m bytes are those of s. -/
theorem pre_act (s r : ByteArray) (A : Nat → Nat × Int × Int × Nat) {n m i : Nat} (hm : m ≤ s.size) (hn : pl s A n ≤ 8 * m) (hi : i < n) (h0 : (act s (A i) (pl s A i)).2.1 = 0) :
    act (s.extract 0 m ++ r) (A i) (pl s A i) = act s (A i) (pl s A i) :=
  act_agree (agree_pre s r m hm) (by rw [nbits_pre s r m hm]; omega) h0 (Nat.le_trans (pl_le s A (show i + 1 ≤ n by omega)) hn)
/-- An act that fails leaves the place. -/
theorem pl_stay (s : ByteArray) (A : Nat → Nat × Int × Int × Nat) (i : Nat) (h0 : (act s (A i) (pl s A i)).2.1 ≠ 0) : pl s A (i + 1) = pl s A i := (act_place s (A i) _ (pl_end s A i)).1 h0
end Ov
