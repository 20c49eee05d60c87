/- Order, of the program and of the reference, returns the order of a residue modulo a prime. -/
import Derived.Test.YtdkpgocbdphneaaGen
import Derived.Test.YtdkpgocbdphneaaTrials
namespace Ob
set_option linter.unusedVariables false

/-- What holds of the candidate for the order behind k factors. -/
def OrdInv (p a : Nat) (L : List (Nat × Nat)) (k o : Nat) : Prop := 1 ≤ o ∧ o ∣ p - 1 ∧ a ^ o % p = 1 ∧ ∀ i, i < k → pr L i ∣ o → a ^ (o / pr L i) % p ≠ 1

theorem OrdInv.start {p a : Nat} (hp : Pr p) (h1 : 1 ≤ a) (h2 : a < p) (L : List (Nat × Nat)) : OrdInv p a L 0 (p - 1) :=
  ⟨by have := hp.1; omega, Nat.dvd_refl _, fermat hp (fun h => by have := Nat.le_of_dvd (by omega) h; omega), fun i hi => by omega⟩

theorem OrdInv.div {p a k o q : Nat} {L : List (Nat × Nat)} (hp : 2 ≤ p) (hL : Fz (p - 1) L) (hk : k < L.length) (h : OrdInv p a L k o) (hq : 2 ≤ q) (hd : o % q = 0) (h1 : a ^ (o / q) % p = 1) : OrdInv p a L k (o / q) := by
  obtain ⟨c, rfl⟩ := Nat.dvd_of_mod_eq_zero hd
  obtain ⟨a1, a2, a3, a4⟩ := h
  rw [Nat.mul_div_cancel_left _ (by omega)] at h1 ⊢
  refine ⟨?_, Nat.dvd_trans (Nat.dvd_mul_left c q) a2, h1, fun i hi hdi h2 => ?_⟩
  · rcases c with _ | c
    · simp at a1
    · omega
  · refine a4 i hi (Nat.dvd_trans hdi (Nat.dvd_mul_left c q)) ?_
    rw [Nat.mul_div_assoc q hdi, Nat.mul_comm]
    exact pow_one_mod hp h2 q

theorem OrdInv.next {p a k o : Nat} {L : List (Nat × Nat)} (h : OrdInv p a L k o) (h1 : o % pr L k = 0 → a ^ (o / pr L k) % p ≠ 1) : OrdInv p a L (k + 1) o := by
  obtain ⟨a1, a2, a3, a4⟩ := h
  refine ⟨a1, a2, a3, fun i hi hd => ?_⟩
  by_cases e : i = k
  · rw [e] at hd ⊢; exact h1 (Nat.mod_eq_zero_of_dvd hd)
  · exact a4 i (by omega) hd

theorem OrdInv.end {p a o : Nat} {L : List (Nat × Nat)} (hp : 2 ≤ p) (hL : Fz (p - 1) L) (h : OrdInv p a L L.length o) : Ord p a o := by
  obtain ⟨a1, a2, a3, a4⟩ := h
  refine ord_of hp a1 a3 (fun q hq hd => ?_)
  obtain ⟨i, hi, e⟩ := hL.mem hq (Nat.dvd_trans hd a2)
  have := a4 i hi (by rw [e]; exact hd)
  rwa [e] at this

theorem OrdInv.le {p a k o : Nat} {L : List (Nat × Nat)} (hp : 2 ≤ p) (h : OrdInv p a L k o) : o ≤ p - 1 := Nat.le_of_dvd (by omega) h.2.1

theorem Ord.unique {p a o o' : Nat} (h : Ord p a o) (h' : Ord p a o') : o = o' := Nat.dvd_antisymm (h.2 _ h'.1) (h'.2 _ h.1)
end Ob
namespace Go.Proofs.Ytdkpgocbdphneaa
open Go.RowKit
set_option linter.unusedVariables false

def OrderPost (n a : Nat) (w : World) (e : Ending) (w' : World) : Prop := ∃ o : Nat, e = .returned (.tuple #[.int .u32 o, .int .i64 0]) ∧ 1 ≤ o ∧ o < n ∧ Ob.Ord n a o ∧ Gr w w'

end Go.Proofs.Ytdkpgocbdphneaa
