/- times: the product of digits. -/
import Derived.Test.YtnehcafmebokmaaGreatDoorPGf
namespace Go.Proofs.YtnehcafmebokmaaGreatDoor
open Go.RowKit
set_option linter.unusedVariables false

theorem val_take_all {L : List Nat} {n : Nat} (h : ∀ j, n ≤ j → L[j]?.getD 0 = 0) : Ow.val (L.take n) = Ow.val L := by
  by_cases hn : n ≤ L.length
  · have e := Ow.val_split n L hn
    have hz : ∀ (M : List Nat), (∀ j : Nat, M[j]?.getD 0 = 0) → Ow.val M = 0 := by
      intro M
      induction M with
      | nil => intro _; rfl
      | cons x M ih =>
        intro hM
        have h0 := hM 0
        simp at h0
        have := ih (fun j => by have := hM (j + 1); simpa using this)
        simp [Ow.val, h0, this]
    have := hz (L.drop n) (fun j => by rw [List.getElem?_drop]; exact h _ (by omega))
    rw [this] at e
    omega
  · rw [List.take_of_length_le (by omega)]

end Go.Proofs.YtnehcafmebokmaaGreatDoor

/- product, and unit. -/
namespace Go.Proofs.YtnehcafmebokmaaGreatDoor
open Go.RowKit
set_option linter.unusedVariables false

/-- The closure that gives a sign. -/
theorem signs_box (neg : Bool) (w : World) :
    Calls Tryz.prog 39 #[.bool neg] w fun e w' => ∃ p, e = .returned (.func (.func 62) #[] #[.pointer (some ⟨p, 0, none⟩)]) ∧ w'.cell? ⟨p, 0, none⟩ = some (.bool neg) ∧ Gr w w' := by
  refine (signs_any neg w).mono ?_
  rintro e w' ⟨rfl, rfl⟩
  exact ⟨_, rfl, cell_new _ _ _, Gr.new _ _⟩
theorem sg_mul (x y : Int) : sg (decide (x < 0) != decide (y < 0)) (x.natAbs * y.natAbs) = x * y := by
  unfold sg
  by_cases h1 : x < 0 <;> by_cases h2 : y < 0
  · have hx : (x.natAbs : Int) = -x := by omega
    have hy : (y.natAbs : Int) = -y := by omega
    simp [h1, h2, hx, hy, Int.neg_mul_neg]
  · have hx : (x.natAbs : Int) = -x := by omega
    have hy : (y.natAbs : Int) = y := by omega
    simp [h1, h2, hx, hy, Int.neg_mul]
  · have hx : (x.natAbs : Int) = x := by omega
    have hy : (y.natAbs : Int) = -y := by omega
    simp [h1, h2, hx, hy, Int.mul_neg]
  · have hx : (x.natAbs : Int) = x := by omega
    have hy : (y.natAbs : Int) = y := by omega
    simp [h1, h2, hx, hy]
set_option maxRecDepth 100000 in
set_option maxHeartbeats 1000000 in
theorem unit_any (w : World) : Calls Tryz.prog 47 #[] w fun e w' => ∃ v, e = .returned v ∧ HasD w' v [1] ∧ Gr w w' := by
  go_enter Tryz.func47, Tryz.ntmps47
  go_wp2_with fail
  go_ret
  refine ⟨_, rfl, ⟨by intro x hx; rcases List.mem_singleton.1 hx; omega, some ⟨w.heap.size, 0, none⟩, 1, rfl, by simp, by omega, fun i hi => ⟨w.heap.size, 0, rfl, ?_⟩⟩, Gr.new _ _⟩
  obtain rfl : i = 0 := by simp at hi; omega
  rw [cell_new]; rfl

end Go.Proofs.YtnehcafmebokmaaGreatDoor

/- Of: the form of a number of 64 bits. -/
namespace Go.Proofs.YtnehcafmebokmaaGreatDoor
open Go.RowKit
set_option linter.unusedVariables false

def One (a : Bool) (s : ByteArray) (w : World) (e : Ending) (w' : World) : Prop := e = .returned (.agg #[.bool a, .string s]) ∧ Gr w w'
theorem two_digits (w : World) (a b : Nat) (ha : a < 4294967296) (hb : b < 4294967296) : HasD (w.alloc (.cells #[.int .u32 (a : Nat), .int .u32 (b : Nat)] 24)) (.slice (some ⟨w.heap.size, 0, none⟩) 2 2) [a, b] := by
  refine ⟨fun x hx => ?_, _, 2, rfl, by simp, by omega, fun i hi => ⟨w.heap.size, 0, rfl, ?_⟩⟩
  · rcases List.mem_cons.1 hx with rfl | hx
    · exact ha
    · rcases List.mem_singleton.1 hx with rfl
      exact hb
  · have : i = 0 ∨ i = 1 := by simp at hi; omega
    rcases this with rfl | rfl <;> simp [go_sem]
def sgB (n : Int) : Bool := decide (n < 0)
theorem put2 {w3 : World} {B : Nat} {u0 u1 : Value} (r0 : w3.cell? ⟨B, 0, none⟩ = some u0) (r1 : w3.cell? ⟨B, 1, none⟩ = some u1) (a b : Value) :
    ((w3.setCell ⟨B, 0, none⟩ a).setCell ⟨B, 1, none⟩ b).cell? ⟨B, 0, none⟩ = some a ∧ ((w3.setCell ⟨B, 0, none⟩ a).setCell ⟨B, 1, none⟩ b).cell? ⟨B, 1, none⟩ = some b := by
  constructor <;> simp [go_sem, r0, r1]
theorem wrap_u64 (x : Int) : IntKind.u64.wrap x = x % 18446744073709551616 := rfl
theorem small_R {z : Int} (h1 : -9223372036854775808 ≤ z) (h2 : z ≤ 9223372036854775807) : z.natAbs < Ow.R := by
  rw [Ow.R_digits]
  exact Nat.lt_of_lt_of_le (show z.natAbs < 4294967296 ^ 2 by omega) (Nat.pow_le_pow_right (by omega) (by omega))

set_option maxRecDepth 100000 in
set_option maxHeartbeats 1000000 in
theorem of_any (n : Int) (w : World) (h1 : -9223372036854775808 ≤ n) (h2 : n ≤ 9223372036854775807) :
    Calls Tryz.prog 16 #[.int .i64 n] w (One (decide (n < 0)) (bstr n.natAbs) w) := by
  have HR := Lib.hid (small_R h1 h2)
  obtain ⟨M, hM⟩ : ∃ M : Nat, M = n.natAbs := ⟨_, rfl⟩
  have hM2 : M ≤ 9223372036854775808 := by omega
  have hv : Ow.val [M % 4294967296, M / 4294967296] = M := by simp [Ow.val]; omega
  have key : (decide (n < 0) = true ∧ IntKind.u64.wrap (-IntKind.u64.wrap n) = (M : Int) ∧ sg true (Ow.val [M % 4294967296, M / 4294967296]) = n) ∨ (decide (n < 0) = false ∧ IntKind.u64.wrap n = (M : Int) ∧ sg false (Ow.val [M % 4294967296, M / 4294967296]) = n) := by
    rw [hv]
    by_cases hn : n < 0
    · left
      refine ⟨by simp [hn], ?_, by unfold sg; simp; omega⟩
      rw [wrap_u64, wrap_u64]; omega
    · right
      refine ⟨by simp [hn], ?_, by unfold sg; simp; omega⟩
      rw [wrap_u64]; omega
  have HM := Lib.hid hM
  have q1 : (M : Int) % 4294967296 = ((M % 4294967296 : Nat) : Int) := by omega
  have q2 : (M : Int) / 4294967296 = ((M / 4294967296 : Nat) : Int) := by omega
  have q3 : M % 4294967296 < 4294967296 := by omega
  have q4 : M / 4294967296 < 4294967296 := by omega
  rw [hM.symm]
  generalize M % 4294967296 = lo at *
  generalize M / 4294967296 = hi at *
  have HV := Lib.hid hv
  clear hM hv
  rcases key with ⟨t1, hw, hsg⟩ | ⟨t1, hw, hsg⟩
  all_goals
    have HSG := Lib.hid hsg
    clear hsg
    go_enter Tryz.func16, Tryz.ntmps16
    go_wp2_with fail
    refine (signs_box _ _).mono ?_
    rintro e w1 ⟨p, rfl, hb, g1⟩
    have r0 := g1.keeps (p := ⟨w.heap.size, 0, none⟩) (v := .bool false) (by simp [go_sem])
    have r1 := g1.keeps (p := ⟨w.heap.size, 1, none⟩) (v := .string ⟨#[]⟩) (by simp [go_sem])
    have e0 := g1.frozen (p := ⟨w.heap.size, 0, none⟩) (v := .bool false) (by simp [go_sem]) (by simp [go_sem])
    have e1 := g1.frozen (p := ⟨w.heap.size, 1, none⟩) (v := .string ⟨#[]⟩) (by simp [go_sem]) (by simp [go_sem])
    have HG := Lib.hid ((Gr.new w _).trans g1)
    have R0 := Lib.hid r0
    have R1 := Lib.hid r1
    have F0 := Lib.hid e0
    have F1 := Lib.hid e1
    have HB := Lib.hid hb
    clear g1 hb r0 r1 e0 e1
    go_wp2_with fail
    have g2 : Gr w1 (w1.alloc (.cells #[.int .u32 (lo : Nat), .int .u32 (hi : Nat)] 24)) := Gr.new _ _
    refine (signs1_int _ [lo, hi] _ p 2 _ (two_digits w1 lo hi q3 q4) (g2.keeps HB.out) (by have := Ow.tr_len [lo, hi]; simpa using this)).mono ?_
    rintro e w2 ⟨v, rfl, hv, g3⟩
    rw [HSG.out] at hv
    have HI := Lib.hid hv
    have HG2 := Lib.hid (g2.trans g3)
    clear hv g2 g3
    go_wp2_with fail
    refine (form_any 2 n v _ HI.out (by omega)).mono ?_
    rintro e w3 ⟨rfl, g4⟩
    rw [fNeg_in HR.out, fStr_in HR.out, fErr_in HR.out, ← HM.out]
    have g5 := HG2.out.trans g4
    have r0 := g5.keeps R0.out
    have r1 := g5.keeps R1.out
    have e0 := g5.frozen R0.out F0.out
    have e1 := g5.frozen R1.out F1.out
    have HGG := Lib.hid (HG.out.trans g5)
    rw [t1]
    have hlt : w.heap.size < w3.heap.size := World.block_lt_of_cell? w3 _ r0
    have n1 : ¬ (w.heap.size = w3.heap.size) := by omega
    have n2 : ¬ (w3.heap.size = w.heap.size) := by omega
    clear g4 g5
    go_wp2_with fail
    have hp := put2 r0 r1 (.bool (sgB n)) (.string (bstr M))
    have hq := fun o => (Gr.new ((w3.setCell ⟨w.heap.size, 0, none⟩ (.bool (sgB n))).setCell ⟨w.heap.size, 1, none⟩ (.string (bstr M))) o)
    rw [show sgB n = _ from t1] at hp hq
    have c0 := fun o => (hq o).keeps hp.1
    have c1 := fun o => (hq o).keeps hp.2
    refine bodyPost_ret (v := .agg #[.bool _, .string (bstr M)]) (by simp [results, Tryz.results16, go_sem, c0, c1]; first | done | rfl) rfl ?_
    exact ⟨by rw [t1], ((HGG.out.setCell (p := ⟨w.heap.size, 0, none⟩) (by simp) _).setCell (p := ⟨w.heap.size, 1, none⟩) (by simp) _).alloc _⟩
end Go.Proofs.YtnehcafmebokmaaGreatDoor

/- Add, Sub, Mul on forms. -/
namespace Ow
set_option linter.unusedVariables false
theorem R_add {a b : Nat} (ha : a < R) (hb : b < R) : a + b < 4294967296 ^ 65 := by
  rw [R_digits] at ha hb
  rw [Nat.pow_succ]; omega
theorem R_mul {a b : Nat} (ha : a < R) (hb : b < R) : a * b < 4294967296 ^ 128 := by
  rw [R_digits] at ha hb
  rw [show (128 : Nat) = 64 + 64 from rfl, Nat.pow_add]
  exact Nat.mul_lt_mul'' ha hb
theorem R_lt {a : Nat} (ha : a < R) : a < 4294967296 ^ 64 := by rw [← R_digits]; exact ha
end Ow
namespace Go.Proofs.YtnehcafmebokmaaGreatDoor
open Go.RowKit
set_option linter.unusedVariables false

end Go.Proofs.YtnehcafmebokmaaGreatDoor

