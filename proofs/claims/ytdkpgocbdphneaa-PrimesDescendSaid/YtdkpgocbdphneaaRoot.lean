/- What the functions of package modular that look for roots of unity return. -/
import Derived.Test.YtdkpgocbdphneaaFac
namespace Go.Proofs.Ytdkpgocbdphneaa
open Go.RowKit
set_option linter.unusedVariables false

/-- A slice holds a list of factors. -/
def HasFac (W : World) (v : Value) (L : List (Nat × Nat)) : Prop :=
  (v = .slice none 0 0 ∧ L = []) ∨ ∃ g cap, v = .slice (some ⟨g, 0, none⟩) L.length cap ∧ L.length ≤ cap ∧ cap ≤ maxLen ∧
    ∀ i, i < L.length → W.cell? ⟨g, i * 2, none⟩ = some (.int .u32 (((L.map (·.1))[i]?.getD 0 : Nat) : Int)) ∧ W.cell? ⟨g, i * 2 + 1, none⟩ = some (.int .i64 (((L.map (·.2))[i]?.getD 0 : Nat) : Int))

theorem fcells_len : ∀ L, (fcells L).length = L.length * 2
  | [] => rfl
  | (p, e) :: L => by simp [fcells, fcells_len L]; omega

theorem fcells_at : ∀ (L : List (Nat × Nat)) (i : Nat), i < L.length → (fcells L)[i * 2]? = some (.int .u32 (((L.map (·.1))[i]?.getD 0 : Nat) : Int)) ∧ (fcells L)[i * 2 + 1]? = some (.int .i64 (((L.map (·.2))[i]?.getD 0 : Nat) : Int))
  | [], i, h => by simp at h
  | (p, e) :: L, 0, h => by simp [fcells]
  | (p, e) :: L, i + 1, h => by
    have := fcells_at L i (by simpa using h)
    have e1 : (i + 1) * 2 = i * 2 + 1 + 1 := by omega
    rw [e1]
    simpa [fcells] using this

theorem HasFac.of_row {W : World} {B : Nat} {v : Value} {L : List (Nat × Nat)} (h : W.ownsRow B 46 2 v L.length (fcells L)) : HasFac W v L := by
  rcases h.2 with ⟨rfl, h0⟩ | ⟨g, cap, cur, rfl, _, hg, h1, h2, h3, h4⟩
  · exact .inl ⟨rfl, List.length_eq_zero_iff.1 h0⟩
  · refine .inr ⟨g, cap, rfl, h1, h2, fun i hi => ?_⟩
    obtain ⟨a, b⟩ := fcells_at L i hi
    have hc : ∀ j, j < L.length * 2 → W.cell? ⟨g, j, none⟩ = (fcells L)[j]? := by
      intro j hj
      rw [← h4, List.getElem?_take_of_lt hj]
      simp [World.cell?, hg]
    exact ⟨(hc _ (by omega)).trans a, (hc _ (by omega)).trans b⟩

theorem HasFac.later {W W' : World} {v : Value} {L : List (Nat × Nat)} (h : HasFac W v L) (hg : Gr W W') : HasFac W' v L := by
  rcases h with h | ⟨g, cap, rfl, h1, h2, h3⟩
  · exact .inl h
  · exact .inr ⟨g, cap, rfl, h1, h2, fun i hi => ⟨hg.keeps (h3 i hi).1, hg.keeps (h3 i hi).2⟩⟩

/-- x has no lesser order that divides 'order' by one of its primes. -/
def Prim (n order : Nat) (L : List (Nat × Nat)) (x : Nat) : Prop := ∀ i, i < L.length → x ^ (order / (L.map (·.1))[i]?.getD 0) % n ≠ 1

theorem cast_pow' (x n o : Nat) : (x : Int) ^ (o : Int).toNat % n = ((x ^ o % n : Nat) : Int) := by
  rw [Int.toNat_natCast, Int.natCast_emod, Int.natCast_pow]

/-- What someRoot returns: the power of the first candidate that is primitive, or 0 if there is none. -/
def SomeRoot (n order : Nat) (L : List (Nat × Nat)) (x : Nat) : Prop :=
  (∃ a, 1 ≤ a ∧ a < n ∧ x = a ^ ((n - 1) / order) % n ∧ Prim n order L x ∧ ∀ b, 1 ≤ b → b < a → ¬ Prim n order L (b ^ ((n - 1) / order) % n)) ∨
  (x = 0 ∧ ∀ b, 1 ≤ b → b < n → ¬ Prim n order L (b ^ ((n - 1) / order) % n))
def SomePost (n order : Nat) (w : World) (e : Ending) (w' : World) : Prop := ∃ L x : _, Ob.Fz order L ∧ e = .returned (.int .u32 (x : Nat)) ∧ SomeRoot n order L x ∧ x < n ∧ Gr w w'

theorem fz_le {n : Nat} {L : List (Nat × Nat)} (h : Ob.Fz n L) : ∀ p ∈ L.map (·.1), 1 ≤ p ∧ p ≤ n := by
  induction h with
  | one => simp
  | cons p e m L hp hd he hm hL ih =>
    intro q hq
    simp only [List.map_cons, List.mem_cons] at hq
    have h1 : 1 ≤ m := hL.pos
    have hpe : 1 ≤ p ^ e := Nat.pow_pos (by omega)
    rcases hq with rfl | hq
    · exact ⟨by omega, Nat.le_of_dvd (Nat.mul_pos hpe h1) (Ob.dvd_front he)⟩
    · have := ih q hq
      have h2 : 1 * m ≤ p ^ e * m := Nat.mul_le_mul_right _ hpe
      omega

end Go.Proofs.Ytdkpgocbdphneaa
