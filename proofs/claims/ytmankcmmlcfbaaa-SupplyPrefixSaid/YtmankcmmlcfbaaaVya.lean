/- For the law SupplyPrefix: what is taken depends only on the bits that are taken. -/
import Derived.Test.YtmankcmmlcfbaaaVv
namespace Ov
open Op (cf)
set_option linter.unusedVariables false
def Agree (s t : ByteArray) (Q : Nat) : Prop := ∀ i, i < Q → bit s i = bit t i
theorem num_agree {s t : ByteArray} {Q p : Nat} (h : Agree s t Q) : ∀ {k : Nat}, p + k ≤ Q → num s p k = num t p k
  | 0, _ => rfl
  | k + 1, hk => by rw [num, num, num_agree h (show p + k ≤ Q by omega), h (p + k) (by omega)]
theorem go_agree {s t : ByteArray} {Q n k : Nat} (h : Agree s t Q) (hQ : Q ≤ nbits t) (hn : 1 ≤ n) : ∀ {f p v q : Nat}, Ov.go s n k f p = some (v, q) → q ≤ Q → ∀ f', nbits t < f' + p → Ov.go t n k f' p = some (v, q)
  | 0, p, v, q, h0, _, _, _ => by cases h0
  | f + 1, p, v, q, h0, hq, f', hf => by
    unfold Ov.go at h0
    split at h0
    · split at h0
      · rename_i h1 h2
        cases h0
        obtain ⟨g, rfl⟩ : ∃ g, f' = g + 1 := ⟨f' - 1, by omega⟩
        rw [Ov.go, if_pos (by omega), ← num_agree h hq, if_pos h2]
      · rename_i h1 h2
        have b := go_some h0
        have hk : k ≠ 0 := fun e => by subst e; simp [num] at h2; omega
        obtain ⟨g, rfl⟩ : ∃ g, f' = g + 1 := ⟨f' - 1, by omega⟩
        rw [Ov.go, if_pos (by omega), ← num_agree h (show p + k ≤ Q by omega), if_neg h2]
        exact go_agree h hQ hn h0 hq g (by omega)
    · cases h0
theorem bel_agree {s t : ByteArray} {Q n p v q : Nat} (h : Agree s t Q) (hQ : Q ≤ nbits t) (hn : 1 ≤ n) (h0 : bel s n p = some (v, q)) (hq : q ≤ Q) : bel t n p = some (v, q) := go_agree h hQ hn h0 hq _ (by omega)
theorem many_agree {s t : ByteArray} {Q n p : Nat} (h : Agree s t Q) (hQ : Q ≤ nbits t) (hn : 1 ≤ n) : ∀ {i : Nat} {l : List Nat} {q : Nat}, many s n p i = some (l, q) → q ≤ Q → many t n p i = some (l, q)
  | 0, l, q, h0, _ => h0
  | i + 1, l, q, h0, hq => by
    unfold many at h0
    split at h0
    · cases h0
    · rename_i l0 q0 e0
      split at h0
      · cases h0
      · rename_i v q' e1
        cases h0
        have := bel_some e1
        exact many_step (many_agree h hQ hn e0 (by omega)) (bel_agree h hQ hn e1 hq)
theorem tern_agree {s t : ByteArray} {Q n p : Nat} (h : Agree s t Q) (hQ : Q ≤ nbits t) : ∀ {i : Nat} {L O : List Int} {q : Nat}, i ≤ n → tern s n p i = some (L, O, q) → q ≤ Q → tern t n p i = some (L, O, q)
  | 0, L, O, q, _, h0, _ => h0
  | i + 1, L, O, q, hi, h0, hq => by
    unfold tern at h0
    split at h0
    · cases h0
    · rename_i L0 O0 q0 e0
      split at h0
      · cases h0
      · rename_i j q' e1
        split at h0
        · rename_i h2
          cases h0
          have := bel_some e1
          have e2 := tern_step (tern_agree h hQ (by omega) e0 (by omega)) (bel_agree h hQ (by omega) e1 (by omega)) (show q' < nbits t by omega)
          rw [← h q' (by omega)] at e2
          exact e2
        · cases h0
theorem rBits_agree {s t : ByteArray} {Q p : Nat} {n : Int} (h : Agree s t Q) (hQ : Q ≤ nbits t) (h0 : (rBits s n p).2.1 = 0) (hq : (rBits s n p).2.2 ≤ Q) : rBits t n p = rBits s n p := by
  unfold rBits at h0 hq ⊢
  split
  · rename_i h1
    rw [if_pos h1] at h0 hq
    split at h0
    · rename_i h2
      rw [if_pos h2] at hq
      dsimp only at hq
      rw [if_pos (by omega), if_pos h2, num_agree h hq]
    · simp at h0
  · rfl
theorem rBelow_agree {s t : ByteArray} {Q n p : Nat} (h : Agree s t Q) (hQ : Q ≤ nbits t) (h0 : (rBelow s n p).2.1 = 0) (hq : (rBelow s n p).2.2 ≤ Q) : rBelow t n p = rBelow s n p := by
  unfold rBelow at h0 hq ⊢
  split
  · rfl
  · rename_i h1
    rw [if_neg h1] at h0 hq
    split at h0
    · rename_i v q e
      rw [e] at hq
      rw [bel_agree h hQ (by omega) e hq]
    · simp at h0
theorem rMany_agree {s t : ByteArray} {Q lim n p : Nat} {cv : Nat → Int} (h : Agree s t Q) (hQ : Q ≤ nbits t) (hl : 1 ≤ lim) (h0 : (rMany s lim n p cv).2.1 = 0) (hq : (rMany s lim n p cv).2.2 ≤ Q) : rMany t lim n p cv = rMany s lim n p cv := by
  unfold rMany at h0 hq ⊢
  split at h0
  · rename_i l q e
    rw [e] at hq
    rw [many_agree h hQ hl e hq]
  · simp at h0
theorem rUni_agree {s t : ByteArray} {Q p lim : Nat} {n : Int} (h : Agree s t Q) (hQ : Q ≤ nbits t) (h0 : (rUni s n lim p).2.1 = 0) (hq : (rUni s n lim p).2.2 ≤ Q) : rUni t n lim p = rUni s n lim p := by
  unfold rUni at h0 hq ⊢
  split
  · rename_i h1
    rw [if_pos h1] at h0 hq
    exact rMany_agree h hQ h1.2.2 h0 hq
  · rfl
theorem rBnd_agree {s t : ByteArray} {Q p B : Nat} {n : Int} (h : Agree s t Q) (hQ : Q ≤ nbits t) (h0 : (rBnd s n B p).2.1 = 0) (hq : (rBnd s n B p).2.2 ≤ Q) : rBnd t n B p = rBnd s n B p := by
  unfold rBnd at h0 hq ⊢
  split
  · rename_i h1
    rw [if_pos h1] at h0 hq
    exact rMany_agree h hQ (by omega) h0 hq
  · rfl
theorem rTern_agree {s t : ByteArray} {Q p : Nat} {n k : Int} (h : Agree s t Q) (hQ : Q ≤ nbits t) (h0 : (rTern s n k p).2.1 = 0) (hq : (rTern s n k p).2.2 ≤ Q) : rTern t n k p = rTern s n k p := by
  unfold rTern at h0 hq ⊢
  split
  · rename_i h1
    rw [if_pos h1] at h0 hq
    split at h0
    · rename_i L O q e
      rw [e] at hq
      rw [tern_agree h hQ (by omega) e hq]
    · simp at h0
  · rfl
theorem act_agree {s t : ByteArray} {Q p : Nat} {a : Nat × Int × Int × Nat} (h : Agree s t Q) (hQ : Q ≤ nbits t) (h0 : (act s a p).2.1 = 0) (hq : (act s a p).2.2 ≤ Q) : act t a p = act s a p := by
  unfold act at h0 hq ⊢
  split
  · rename_i h1
    rw [if_pos h1] at h0 hq
    rw [rBits_agree h hQ h0 hq]
  · rename_i h1
    rw [if_neg h1] at h0 hq
    split
    · rename_i h2
      rw [if_pos h2] at h0 hq
      rw [rBelow_agree h hQ h0 hq]
    · rename_i h2
      rw [if_neg h2] at h0 hq
      split
      · rename_i h3
        rw [if_pos h3] at h0 hq
        rw [rUni_agree h hQ h0 hq]
      · rename_i h3
        rw [if_neg h3] at h0 hq
        split
        · rename_i h4
          rw [if_pos h4] at h0 hq
          rw [rTern_agree h hQ h0 hq]
        · rename_i h4
          rw [if_neg h4] at h0 hq
          rw [rBnd_agree h hQ h0 hq]
end Ov
