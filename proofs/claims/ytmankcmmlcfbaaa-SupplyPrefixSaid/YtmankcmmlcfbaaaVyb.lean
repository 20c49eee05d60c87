/- For the law SupplyPrefix: places; a text that begins as another one. -/
import Derived.Test.YtmankcmmlcfbaaaVya
namespace Ov
set_option linter.unusedVariables false
theorem rBits_place (s : ByteArray) (n : Int) (p : Nat) (hp : p ≤ nbits s) : ((rBits s n p).2.1 ≠ 0 → (rBits s n p).2.2 = p) ∧ p ≤ (rBits s n p).2.2 := by
  unfold rBits
  split
  · split
    · exact ⟨fun h => absurd rfl h, by dsimp only; omega⟩
    · exact ⟨fun _ => rfl, Nat.le_refl _⟩
  · exact ⟨fun _ => rfl, Nat.le_refl _⟩
theorem rBelow_place (s : ByteArray) (n p : Nat) (hp : p ≤ nbits s) : ((rBelow s n p).2.1 ≠ 0 → (rBelow s n p).2.2 = p) ∧ p ≤ (rBelow s n p).2.2 := by
  unfold rBelow
  split
  · exact ⟨fun _ => rfl, Nat.le_refl _⟩
  · split
    · rename_i v q e
      exact ⟨fun h => absurd rfl h, (bel_some e).2.1⟩
    · exact ⟨fun _ => rfl, Nat.le_refl _⟩
theorem rMany_place (s : ByteArray) (lim n p : Nat) (cv : Nat → Int) (hp : p ≤ nbits s) : ((rMany s lim n p cv).2.1 ≠ 0 → (rMany s lim n p cv).2.2 = p) ∧ p ≤ (rMany s lim n p cv).2.2 := by
  unfold rMany
  split
  · rename_i l q e
    exact ⟨fun h => absurd rfl h, (many_some hp e).2.2.1⟩
  · exact ⟨fun _ => rfl, Nat.le_refl _⟩
theorem act_place (s : ByteArray) (a : Nat × Int × Int × Nat) (p : Nat) (hp : p ≤ nbits s) : ((act s a p).2.1 ≠ 0 → (act s a p).2.2 = p) ∧ p ≤ (act s a p).2.2 := by
  unfold act
  split
  · exact rBits_place s _ p hp
  · split
    · exact rBelow_place s _ p hp
    · split
      · unfold rUni
        split
        · exact rMany_place s _ _ p _ hp
        · exact ⟨fun _ => rfl, Nat.le_refl _⟩
      · split
        · unfold rTern
          split
          · rename_i h1
            split
            · rename_i L O q e
              exact ⟨fun h => absurd rfl h, (ternI hp (by omega) e).place.1⟩
            · exact ⟨fun _ => rfl, Nat.le_refl _⟩
          · exact ⟨fun _ => rfl, Nat.le_refl _⟩
        · unfold rBnd
          split
          · exact rMany_place s _ _ p _ hp
          · exact ⟨fun _ => rfl, Nat.le_refl _⟩
theorem byt_pre (s r : ByteArray) (n j : Nat) (hn : n ≤ s.size) (hj : j < n) : byt (s.extract 0 n ++ r) j = byt s j := by
  have e : (s.extract 0 n ++ r).data[j]? = s.data[j]? := by
    have hs : s.data.size = s.size := rfl
    simp only [ByteArray.data_append, ByteArray.data_extract]
    rw [Array.getElem?_append_left (by simp; omega)]
    simp [Array.getElem?_extract]
    omega
  unfold byt
  rw [e]
theorem agree_pre (s r : ByteArray) (n : Nat) (hn : n ≤ s.size) : Agree s (s.extract 0 n ++ r) (8 * n) := fun i hi => by
  unfold bit
  rw [byt_pre s r n (i / 8) hn (by omega)]
theorem nbits_pre (s r : ByteArray) (n : Nat) (hn : n ≤ s.size) : nbits (s.extract 0 n ++ r) = 8 * (n + r.size) := by
  unfold nbits
  rw [ByteArray.size_append, ByteArray.size_extract]
  omega
end Ov
