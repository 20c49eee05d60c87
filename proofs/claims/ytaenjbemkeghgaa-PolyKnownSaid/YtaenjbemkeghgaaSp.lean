/- The strong test as a statement about natural numbers. -/
namespace Ob
set_option linter.unusedVariables false

/-- n passes the strong test to the base b. -/
def SP (n b : Nat) : Prop := ∃ o t, n - 1 = o * 2 ^ t ∧ o % 2 = 1 ∧ (b ^ o % n = 1 ∨ ∃ i, i < t ∧ b ^ (o * 2 ^ i) % n = n - 1)

theorem odd_two_unique : ∀ (t s o p : Nat), o % 2 = 1 → p % 2 = 1 → o * 2 ^ t = p * 2 ^ s → o = p ∧ t = s := by
  intro t
  induction t with
  | zero =>
    intro s o p ho hp h
    rcases s with _ | s
    · simp at h; exact ⟨h, rfl⟩
    · rw [Nat.pow_succ, ← Nat.mul_assoc] at h
      simp at h; omega
  | succ t ih =>
    intro s o p ho hp h
    rcases s with _ | s
    · rw [Nat.pow_succ, ← Nat.mul_assoc] at h
      simp at h; omega
    · rw [Nat.pow_succ, Nat.pow_succ, ← Nat.mul_assoc, ← Nat.mul_assoc] at h
      obtain ⟨h1, h2⟩ := ih s o p ho hp (by omega)
      exact ⟨h1, by omega⟩

theorem SP.iff {n b o t : Nat} (h : n - 1 = o * 2 ^ t) (ho : o % 2 = 1) : SP n b ↔ (b ^ o % n = 1 ∨ ∃ i, i < t ∧ b ^ (o * 2 ^ i) % n = n - 1) := by
  constructor
  · rintro ⟨o', t', h', ho', hs⟩
    obtain ⟨rfl, rfl⟩ := odd_two_unique t t' o o' ho ho' (h.symm.trans h')
    exact hs
  · intro hs; exact ⟨o, t, h, ho, hs⟩

theorem pow_two_lt {o t n : Nat} (h : n - 1 = o * 2 ^ t) (ho : 1 ≤ o) : t < n - 1 := by
  have h1 : t < 2 ^ t := Nat.lt_two_pow_self
  have h2 : 1 * 2 ^ t ≤ o * 2 ^ t := Nat.mul_le_mul_right _ ho
  omega

theorem sq_step (b o i n : Nat) : (b ^ (o * 2 ^ i) % n) * (b ^ (o * 2 ^ i) % n) % n = b ^ (o * 2 ^ (i + 1)) % n := by
  rw [← Nat.mul_mod, ← Nat.pow_add, Nat.pow_succ, ← Nat.mul_assoc, Nat.mul_two]
end Ob
