import Derived.Test.YtlfiakpmnkhcdaaGreatLWG
namespace Go.Proofs.YtlfiakpmnkhcdaaGreat
open Go.RowKit
set_option linter.unusedVariables false
theorem euclid {x y q r : Int} (hy : y ≠ 0) (h : x = y * q + r) (h0 : 0 ≤ r) (h1 : r < y.natAbs) : q = x / y ∧ r = x % y := by
 have e1 : x % y = r := by
  rw [h, Int.mul_add_emod_self_left]
  rcases Int.natAbs_eq y with e | e
  ·rw [e]; exact Int.emod_eq_of_lt h0 (by omega)
  ·rw [e, Int.emod_neg]; exact Int.emod_eq_of_lt h0 (by omega)
 have e2 := Int.mul_ediv_add_emod x y
 rw [e1] at e2
 have e3 : y * (x / y) = y * q := by omega
 exact ⟨(Int.eq_of_mul_eq_mul_left hy e3).symm, e1.symm⟩
theorem div_plain {x y : Int} (hy : y ≠ 0) (h : ¬ (x < 0 ∧ 0 < x.natAbs % y.natAbs)) : sg (decide (x < 0) != decide (y < 0)) (x.natAbs / y.natAbs) = x / y ∧ ((x.natAbs % y.natAbs : Nat) : Int) = x % y := by
 have hb : 0 < y.natAbs := by omega
 have e := Nat.div_add_mod x.natAbs y.natAbs
 have hr := Nat.mod_lt x.natAbs hb
 generalize hq : x.natAbs / y.natAbs = q at *
 generalize hrr : x.natAbs % y.natAbs = r at *
 refine euclid hy ?_ (by omega) (by omega)
 have e' : (x.natAbs : Int) = (y.natAbs : Int) * (q : Int) + (r : Int) := by rw [← e]; simp
 by_cases h1 : x < 0 <;> by_cases h2 : y < 0
 ·have hr0 : r = 0 := by omega
  have hx : (x.natAbs : Int) = -x := by omega
  have hyy : (y.natAbs : Int) = -y := by omega
  rw [hx, hyy, hr0] at e'
  rw [hr0]
  simp [sg, h1, h2]
  rw [Int.neg_mul] at e'
  omega
 ·have hr0 : r = 0 := by omega
  have hx : (x.natAbs : Int) = -x := by omega
  have hyy : (y.natAbs : Int) = y := by omega
  rw [hx, hyy, hr0] at e'
  rw [hr0]
  simp [sg, h1, h2]
  rw [Int.mul_neg]
  omega
 ·have hx : (x.natAbs : Int) = x := by omega
  have hyy : (y.natAbs : Int) = -y := by omega
  rw [hx, hyy, Int.neg_mul] at e'
  simp [sg, h1, h2]
  rw [Int.mul_neg]
  omega
 ·have hx : (x.natAbs : Int) = x := by omega
  have hyy : (y.natAbs : Int) = y := by omega
  rw [hx, hyy] at e'
  simp [sg, h1, h2]
  omega
theorem div_fix {x y : Int} (hy : y ≠ 0) (h : x < 0) (h2 : 0 < x.natAbs % y.natAbs) : sg (decide (x < 0) != decide (y < 0)) (x.natAbs / y.natAbs + 1) = x / y ∧ ((y.natAbs - x.natAbs % y.natAbs : Nat) : Int) = x % y := by
 have hb : 0 < y.natAbs := by omega
 have e := Nat.div_add_mod x.natAbs y.natAbs
 have hr := Nat.mod_lt x.natAbs hb
 generalize hq : x.natAbs / y.natAbs = q at *
 generalize hrr : x.natAbs % y.natAbs = r at *
 refine euclid hy ?_ (by omega) (by omega)
 have e' : (x.natAbs : Int) = (y.natAbs : Int) * (q : Int) + (r : Int) := by rw [← e]; simp
 have hs : ((y.natAbs - r : Nat) : Int) = (y.natAbs : Int) - (r : Int) := by omega
 rw [hs]
 have hx : (x.natAbs : Int) = -x := by omega
 by_cases h3 : y < 0
 ·have hyy : (y.natAbs : Int) = -y := by omega
  rw [hx, hyy, Int.neg_mul] at e'
  rw [hyy]
  simp [sg, h, h3]
  rw [Int.mul_add]
  omega
 ·have hyy : (y.natAbs : Int) = y := by omega
  rw [hx, hyy] at e'
  rw [hyy]
  simp [sg, h, h3]
  rw [Int.mul_neg, Int.mul_add]
  omega
theorem cell_other {W : World} {p q : Addr} (h : p ≠ q) (u : Value) : (W.setCell p u).cell? q = W.cell? q := World.cell?_setCell_other W p q u h
end Go.Proofs.YtlfiakpmnkhcdaaGreat
namespace Go.Proofs.YtlfiakpmnkhcdaaGreat
open Go.RowKit
set_option linter.unusedVariables false
theorem ne_of_cell {W : World} {B o : Nat} {v : Value} (h : W.cell? ⟨B, o, none⟩ = some v) : ¬ (B = W.heap.size) := fun e => Nat.lt_irrefl _ (e ▸ World.block_lt_of_cell? W _ h)
theorem keep2 {W : World} {B C o : Nat} {v a b : Value} (h : W.cell? ⟨B, o, none⟩ = some v) (hne : ¬ (B = C)) : ((W.setCell ⟨C, 0, none⟩ a).setCell ⟨C, 1, none⟩ b).cell? ⟨B, o, none⟩ = some v := by
 rw [cell_other (fun e => hne (congrArg Addr.block e).symm), cell_other (fun e => hne (congrArg Addr.block e).symm)]; exact h
theorem frozen_set (W : World) (p q : Addr) (u : Value) : (W.setCell p u).frozen? q = W.frozen? q := by simp [go_sem]
theorem froz0 (w : World) (a b : Value) (t : TypeId) : (w.alloc (.cells #[a, b] t)).frozen? ⟨w.heap.size, 0, none⟩ = false := by simp [go_sem]
theorem froz1 (w : World) (a b : Value) (t : TypeId) : (w.alloc (.cells #[a, b] t)).frozen? ⟨w.heap.size, 1, none⟩ = false := by simp [go_sem]
def bal (x y : Int) : Int := if y < 2 * (x % y) then x % y - y else x % y
end Go.Proofs.YtlfiakpmnkhcdaaGreat
