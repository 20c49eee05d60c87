/- Int, of the reference: the integer of a form as a number of 64 bits. -/
import Derived.Test.YtgalgldnhdiggaaDoorSigns
namespace Ow
set_option linter.unusedVariables false
/-- What bytes stand for, the highest first. -/
def mg (l : List UInt8) : Nat := l.foldl (fun a b => a * 256 + b.toNat) 0
theorem mg_snoc (l : List UInt8) (b : UInt8) : mg (l ++ [b]) = mg l * 256 + b.toNat := by
  unfold mg; rw [List.foldl_append]; rfl
theorem mg_lt : ∀ (k : Nat) (l : List UInt8), mg (l.take k) < 256 ^ k
  | 0, l => by simp [mg]
  | k + 1, l => by
    by_cases h : k < l.length
    · rw [List.take_succ_eq_append_getElem h, mg_snoc, Nat.pow_succ]
      have := mg_lt k l
      have h2 := l[k].toNat_lt
      omega
    · rw [List.take_of_length_le (by omega)]
      have := mg_lt k l
      rw [List.take_of_length_le (by omega)] at this
      rw [Nat.pow_succ]
      omega
end Ow
namespace Go.Proofs.YtgalgldnhdiggaaDoor
open Go.RowKit
set_option linter.unusedVariables false

/-- The number and the error, of a form of at most 8 bytes. -/
def intOut (neg : Bool) (m : Int) : Int × Int := match neg with
  | true => if m ≤ 9223372036854775808 then (-m, 0) else (0, 7)
  | false => if m < 9223372036854775808 then (m, 0) else (0, 7)
theorem intOut_t {m : Int} (h : m ≤ 9223372036854775808) : intOut true m = (-m, 0) := if_pos h
theorem intOut_tn {m : Int} (h : ¬ m ≤ 9223372036854775808) : intOut true m = (0, 7) := if_neg h
theorem intOut_f {m : Int} (h : m < 9223372036854775808) : intOut false m = (m, 0) := if_pos h
theorem intOut_fn {m : Int} (h : ¬ m < 9223372036854775808) : intOut false m = (0, 7) := if_neg h
def Pair (p : Int × Int) (w : World) (e : Ending) (w' : World) : Prop := e = .returned (.tuple #[.int .i64 p.1, .int .i64 p.2]) ∧ Gr w w'

theorem two_cells (w : World) (a b : Value) (t : TypeId) : (w.alloc (.cells #[a, b] t)).cell? ⟨w.heap.size, 0, none⟩ = some a ∧ (w.alloc (.cells #[a, b] t)).cell? ⟨w.heap.size, 1, none⟩ = some b := by
  constructor <;> simp [go_sem]

set_option maxRecDepth 100000 in
set_option maxHeartbeats 1000000 in
theorem rint_bad (neg : Bool) (s : ByteArray) (w : World) (hs : s.size ≤ 9223372036854775807) (h : ¬ Form neg s) :
    Calls Tryd.prog 11 #[.agg #[.bool neg, .string s]] w (Pair (0, 2) w) := by
  have HF := Lib.hid h
  clear h
  go_enter Tryd.func11, Tryd.ntmps11
  go_wp2_with fail
  refine (rvalid_any neg s _ hs).mono ?_
  rintro e w1 ⟨r, rfl, hr, g1⟩
  obtain rfl : r = false := by cases r; rfl; exact absurd (hr.1 rfl) HF.out
  clear hr
  go_wp2_with fail
  go_ret2
  exact ⟨rfl, (Gr.new _ _).trans g1⟩

set_option maxRecDepth 100000 in
set_option maxHeartbeats 1000000 in
theorem rint_long (neg : Bool) (s : ByteArray) (w : World) (hs : s.size ≤ 9223372036854775807) (h : Form neg s) (h8 : 8 < s.size) :
    Calls Tryd.prog 11 #[.agg #[.bool neg, .string s]] w (Pair (0, 7) w) := by
  have HF := Lib.hid h
  clear h
  obtain ⟨c0, c1⟩ := two_cells w (.bool neg) (.string s) 23
  go_enter Tryd.func11, Tryd.ntmps11
  go_wp2_with fail
  refine (rvalid_any neg s _ hs).mono ?_
  rintro e w1 ⟨r, rfl, hr, g1⟩
  obtain rfl : r = true := hr.2 HF.out
  clear hr
  have d1 := g1.keeps c1
  clear c0 c1
  go_wp2_with fail
  go_ret2
  exact ⟨rfl, (Gr.new _ _).trans g1⟩

set_option maxRecDepth 100000 in
set_option maxHeartbeats 1000000 in
theorem rint_ok (neg : Bool) (s : ByteArray) (w : World) (hs : s.size ≤ 9223372036854775807) (h : Form neg s) (h8 : s.size ≤ 8) :
    Calls Tryd.prog 11 #[.agg #[.bool neg, .string s]] w (Pair (intOut neg ((Ow.mg s.data.toList : Nat) : Int)) w) := by
  have HF := Lib.hid h
  clear h
  obtain ⟨c0, c1⟩ := two_cells w (.bool neg) (.string s) 23
  go_enter Tryd.func11, Tryd.ntmps11
  go_wp2_with fail
  refine (rvalid_any neg s _ hs).mono ?_
  rintro e w1 ⟨r, rfl, hr, g1⟩
  obtain rfl : r = true := hr.2 HF.out
  clear hr
  have d0 := g1.keeps c0
  have d1 := g1.keeps c1
  clear c0 c1
  go_wp2_with fail
  go_loop [4, 5] (fun t i => ∃ k : Nat, k ≤ s.size ∧ i = .int .i64 k ∧ t = .int .u64 ((Ow.mg (s.data.toList.take k) : Nat) : Int)) (fun _ i => s.size - (intOf i).toNat)
  case atStart => exact ⟨0, by omega, rfl, by simp [Ow.mg]⟩
  case round =>
    obtain ⟨k, hk, rfl, rfl⟩ := hrel
    by_cases hlt : k < s.size
    · have hm := Ow.mg_lt k s.data.toList
      have hm7 : (256 : Nat) ^ k ≤ 256 ^ 7 := Nat.pow_le_pow_right (by omega) (by omega)
      have HS : Hid (Ow.mg (s.data.toList.take (k + 1)) = Ow.mg (s.data.toList.take k) * 256 + s[k].toNat) := by
        refine Lib.hid ?_
        rw [List.take_succ_eq_append_getElem (by simpa using hlt), Ow.mg_snoc]; rfl
      obtain ⟨x, hx⟩ : ∃ x, x = Ow.mg (s.data.toList.take k) := ⟨_, rfl⟩
      rw [← hx] at hm HS ⊢
      have x7 : x ≤ 72057594037927935 := by
        have : (256 : Nat) ^ 7 = 72057594037927936 := by decide
        omega
      clear hm hm7 hx
      have hb := s[k].toNat_lt
      go_wp2_with fail
      go_round
      case rel => exact ⟨k + 1, by omega, by go_num, by rw [HS.out]; go_num⟩
      case measure => simp [intOf]; omega
    · obtain ⟨m, hm⟩ : ∃ m : Int, m = ((Ow.mg s.data.toList : Nat) : Int) := ⟨_, rfl⟩
      have hlt2 := Ow.mg_lt 8 s.data.toList
      have he : s.data.toList.take k = s.data.toList := List.take_of_length_le (by simp; omega)
      have he8 : s.data.toList.take 8 = s.data.toList := List.take_of_length_le (by simp; omega)
      rw [he8] at hlt2
      rw [he, ← hm]
      have m0 : 0 ≤ m := by omega
      have m8 : m ≤ 18446744073709551615 := by
        have : (256 : Nat) ^ 8 = 18446744073709551616 := by decide
        omega
      have HM := Lib.hid hm
      clear hm he he8 hlt2
      cases neg with
      | true =>
        by_cases hle : m ≤ 9223372036854775808
        · have HR := Lib.hid (intOut_t hle)
          have t1 : decide (9223372036854775808 < m) = false := by simp; omega
          go_wp2_with fail
          go_ret2
          have hw : wrap64 (-wrap64 m) = -m := by unfold wrap64; omega
          exact ⟨by
            rw [← HM.out, HR.out]
            show Ending.returned (.tuple #[.int .i64 (wrap64 (-wrap64 m)), .int .i64 0]) = Ending.returned (.tuple #[.int .i64 (-m), .int .i64 0])
            rw [hw], (Gr.new _ _).trans g1⟩
        · have HR := Lib.hid (intOut_tn hle)
          have t1 : decide (9223372036854775808 < m) = true := by simp; omega
          go_wp2_with fail
          go_ret2
          exact ⟨by rw [← HM.out, HR.out]; rfl, (Gr.new _ _).trans g1⟩
      | false =>
        by_cases hle : m < 9223372036854775808
        · have HR := Lib.hid (intOut_f hle)
          have t1 : decide (9223372036854775808 ≤ m) = false := by simp; omega
          go_wp2_with fail
          go_ret2
          exact ⟨by rw [← HM.out, HR.out]; rfl, (Gr.new _ _).trans g1⟩
        · have HR := Lib.hid (intOut_fn hle)
          have t1 : decide (9223372036854775808 ≤ m) = true := by simp; omega
          go_wp2_with fail
          go_ret2
          exact ⟨by rw [← HM.out, HR.out]; rfl, (Gr.new _ _).trans g1⟩
end Go.Proofs.YtgalgldnhdiggaaDoor
