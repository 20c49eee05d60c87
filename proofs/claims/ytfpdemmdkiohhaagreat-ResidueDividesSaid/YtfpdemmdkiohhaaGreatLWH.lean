import Derived.Test.YtfpdemmdkiohhaaGreatLWG
/- divide: quotient and rest of integers. -/
namespace Go.Proofs.YtfpdemmdkiohhaaGreat
open Go.RowKit
set_option linter.unusedVariables false

/-- Quotient and rest are determined. -/
theorem euclid {x y q r : Int} (hy : y ≠ 0) (h : x = y * q + r) (h0 : 0 ≤ r) (h1 : r < y.natAbs) : q = x / y ∧ r = x % y := by
  have e1 : x % y = r := by
    rw [h, Int.mul_add_emod_self_left]
    rcases Int.natAbs_eq y with e | e
    · rw [e]; exact Int.emod_eq_of_lt h0 (by omega)
    · rw [e, Int.emod_neg]; exact Int.emod_eq_of_lt h0 (by omega)
  have e2 := Int.mul_ediv_add_emod x y
  rw [e1] at e2
  have e3 : y * (x / y) = y * q := by omega
  exact ⟨(Int.eq_of_mul_eq_mul_left hy e3).symm, e1.symm⟩
/-- The rest needs no correction. -/
theorem div_plain {x y : Int} (hy : y ≠ 0) (h : ¬ (x < 0 ∧ 0 < x.natAbs % y.natAbs)) : sg (decide (x < 0) != decide (y < 0)) (x.natAbs / y.natAbs) = x / y ∧ ((x.natAbs % y.natAbs : Nat) : Int) = x % y := by
  have hb : 0 < y.natAbs := by omega
  have e := Nat.div_add_mod x.natAbs y.natAbs
  have hr := Nat.mod_lt x.natAbs hb
  generalize hq : x.natAbs / y.natAbs = q at *
  generalize hrr : x.natAbs % y.natAbs = r at *
  refine euclid hy ?_ (by omega) (by omega)
  have e' : (x.natAbs : Int) = (y.natAbs : Int) * (q : Int) + (r : Int) := by rw [← e]; simp
  by_cases h1 : x < 0 <;> by_cases h2 : y < 0
  · have hr0 : r = 0 := by omega
    have hx : (x.natAbs : Int) = -x := by omega
    have hyy : (y.natAbs : Int) = -y := by omega
    rw [hx, hyy, hr0] at e'
    rw [hr0]
    simp [sg, h1, h2]
    rw [Int.neg_mul] at e'
    omega
  · have hr0 : r = 0 := by omega
    have hx : (x.natAbs : Int) = -x := by omega
    have hyy : (y.natAbs : Int) = y := by omega
    rw [hx, hyy, hr0] at e'
    rw [hr0]
    simp [sg, h1, h2]
    rw [Int.mul_neg]
    omega
  · have hx : (x.natAbs : Int) = x := by omega
    have hyy : (y.natAbs : Int) = -y := by omega
    rw [hx, hyy, Int.neg_mul] at e'
    simp [sg, h1, h2]
    rw [Int.mul_neg]
    omega
  · have hx : (x.natAbs : Int) = x := by omega
    have hyy : (y.natAbs : Int) = y := by omega
    rw [hx, hyy] at e'
    simp [sg, h1, h2]
    omega
/-- One more is taken away. -/
theorem div_fix {x y : Int} (hy : y ≠ 0) (h : x < 0) (h2 : 0 < x.natAbs % y.natAbs) : sg (decide (x < 0) != decide (y < 0)) (x.natAbs / y.natAbs + 1) = x / y ∧ ((y.natAbs - x.natAbs % y.natAbs : Nat) : Int) = x % y := by
  have hb : 0 < y.natAbs := by omega
  have e := Nat.div_add_mod x.natAbs y.natAbs
  have hr := Nat.mod_lt x.natAbs hb
  generalize hq : x.natAbs / y.natAbs = q at *
  generalize hrr : x.natAbs % y.natAbs = r at *
  refine euclid hy ?_ (by omega) (by omega)
  have e' : (x.natAbs : Int) = (y.natAbs : Int) * (q : Int) + (r : Int) := by rw [← e]; simp
  have hs : ((y.natAbs - r : Nat) : Int) = (y.natAbs : Int) - (r : Int) := by omega
  rw [hs]
  have hx : (x.natAbs : Int) = -x := by omega
  by_cases h3 : y < 0
  · have hyy : (y.natAbs : Int) = -y := by omega
    rw [hx, hyy, Int.neg_mul] at e'
    rw [hyy]
    simp [sg, h, h3]
    rw [Int.mul_add]
    omega
  · have hyy : (y.natAbs : Int) = y := by omega
    rw [hx, hyy] at e'
    rw [hyy]
    simp [sg, h, h3]
    rw [Int.mul_neg, Int.mul_add]
    omega
theorem HasI.set {N : Nat} {W : World} {v : Value} {z : Int} (h : HasI N W v z) {p : Addr} {u0 : Value} (hc : W.cell? p = some u0) (hu : ∀ n, u0 ≠ .int .u32 n) (u : Value) : HasI N (W.setCell p u) v z := by
  obtain ⟨s, l, h1, h2, h3⟩ := h
  exact ⟨s, l, h1, h2.setAt hc hu u, h3⟩
theorem cell_other {W : World} {p q : Addr} (h : p ≠ q) (u : Value) : (W.setCell p u).cell? q = W.cell? q := World.cell?_setCell_other W p q u h
theorem HasI.set4 {N : Nat} {W : World} {v : Value} {z : Int} (h : HasI N W v z) {B C : Nat} {b0 b1 c0 c1 : Value} (hBC : B ≠ C) (k0 : W.cell? ⟨B, 0, none⟩ = some b0) (k1 : W.cell? ⟨B, 1, none⟩ = some b1) (k2 : W.cell? ⟨C, 0, none⟩ = some c0) (k3 : W.cell? ⟨C, 1, none⟩ = some c1)
    (n0 : ∀ n, b0 ≠ .int .u32 n) (n1 : ∀ n, b1 ≠ .int .u32 n) (n2 : ∀ n, c0 ≠ .int .u32 n) (n3 : ∀ n, c1 ≠ .int .u32 n) (a b c d : Value) :
    HasI N ((((W.setCell ⟨B, 0, none⟩ a).setCell ⟨B, 1, none⟩ b).setCell ⟨C, 0, none⟩ c).setCell ⟨C, 1, none⟩ d) v z := by
  refine (((h.set k0 n0 a).set ?_ n1 b).set ?_ n2 c).set ?_ n3 d
  · rw [cell_other (by simp)]; exact k1
  · rw [cell_other (fun e => hBC (congrArg Addr.block e)), cell_other (fun e => hBC (congrArg Addr.block e))]; exact k2
  · rw [cell_other (by simp), cell_other (fun e => hBC (congrArg Addr.block e)), cell_other (fun e => hBC (congrArg Addr.block e))]; exact k3

end Go.Proofs.YtfpdemmdkiohhaaGreat
/- balanced: the rest of least absolute value. -/
namespace Go.Proofs.YtfpdemmdkiohhaaGreat
open Go.RowKit
set_option linter.unusedVariables false

theorem ne_of_cell {W : World} {B o : Nat} {v : Value} (h : W.cell? ⟨B, o, none⟩ = some v) : ¬ (B = W.heap.size) := fun e => Nat.lt_irrefl _ (e ▸ World.block_lt_of_cell? W _ h)
theorem keep2 {W : World} {B C o : Nat} {v a b : Value} (h : W.cell? ⟨B, o, none⟩ = some v) (hne : ¬ (B = C)) : ((W.setCell ⟨C, 0, none⟩ a).setCell ⟨C, 1, none⟩ b).cell? ⟨B, o, none⟩ = some v := by
  rw [cell_other (fun e => hne (congrArg Addr.block e).symm), cell_other (fun e => hne (congrArg Addr.block e).symm)]; exact h
theorem frozen_set (W : World) (p q : Addr) (u : Value) : (W.setCell p u).frozen? q = W.frozen? q := by simp [go_sem]
theorem froz0 (w : World) (a b : Value) (t : TypeId) : (w.alloc (.cells #[a, b] t)).frozen? ⟨w.heap.size, 0, none⟩ = false := by simp [go_sem]
theorem froz1 (w : World) (a b : Value) (t : TypeId) : (w.alloc (.cells #[a, b] t)).frozen? ⟨w.heap.size, 1, none⟩ = false := by simp [go_sem]
/-- The rest of least absolute value. -/
def bal (x y : Int) : Int := if y < 2 * (x % y) then x % y - y else x % y

end Go.Proofs.YtfpdemmdkiohhaaGreat
