/- Int, of the program. -/
import Derived.Test.YtgalgldnhdiggaaDoorInt
import Derived.Lib.EndianBits
namespace Go.Proofs.YtgalgldnhdiggaaDoor
open Go.RowKit
set_option linter.unusedVariables false

theorem or_big (x y : Int) (hy₀ : 0 ≤ y) (hy : y < 256) (hx₀ : 0 ≤ x) (hx : x % 256 = 0) (hx₁ : x < 18446744073709551616) : bits .or .u64 x y = x + y := by
  have h := u64_or8 y x hy₀ hy hx₀ hx hx₁
  rw [Int.add_comm, ← h]
  unfold bits
  show IntKind.u64.wrap ((BitVec.ofInt IntKind.u64.bits x ||| BitVec.ofInt IntKind.u64.bits y).toNat : Int) = IntKind.u64.wrap ((BitVec.ofInt IntKind.u64.bits y ||| BitVec.ofInt IntKind.u64.bits x).toNat : Int)
  rw [BitVec.or_comm]

set_option maxRecDepth 100000 in
set_option maxHeartbeats 1000000 in
theorem int_bad (neg : Bool) (s : ByteArray) (w : World) (hs : s.size ≤ 9223372036854775807) (h : ¬ Form neg s) :
    Calls Tryd.prog 10 #[.agg #[.bool neg, .string s]] w (Pair (0, 2) w) := by
  have HF := Lib.hid h
  clear h
  go_enter Tryd.func10, Tryd.ntmps10
  go_wp2_with fail
  refine (valid_any neg s _ hs).mono ?_
  rintro e w1 ⟨r, rfl, hr, g1⟩
  obtain rfl : r = false := by cases r; rfl; exact absurd (hr.1 rfl) HF.out
  clear hr
  go_wp2_with fail
  go_ret2
  exact ⟨rfl, (Gr.new _ _).trans g1⟩

set_option maxRecDepth 100000 in
set_option maxHeartbeats 1000000 in
theorem int_long (neg : Bool) (s : ByteArray) (w : World) (hs : s.size ≤ 9223372036854775807) (h : Form neg s) (h8 : 8 < s.size) :
    Calls Tryd.prog 10 #[.agg #[.bool neg, .string s]] w (Pair (0, 7) w) := by
  have HF := Lib.hid h
  clear h
  obtain ⟨c0, c1⟩ := two_cells w (.bool neg) (.string s) 23
  go_enter Tryd.func10, Tryd.ntmps10
  go_wp2_with fail
  refine (valid_any neg s _ hs).mono ?_
  rintro e w1 ⟨r, rfl, hr, g1⟩
  obtain rfl : r = true := hr.2 HF.out
  clear hr
  have d1 := g1.keeps c1
  clear c0 c1
  go_wp2_with fail
  go_ret2
  exact ⟨rfl, (Gr.new _ _).trans g1⟩

set_option maxRecDepth 100000 in
set_option maxHeartbeats 1000000 in
theorem int_ok (neg : Bool) (s : ByteArray) (w : World) (hs : s.size ≤ 9223372036854775807) (h : Form neg s) (h8 : s.size ≤ 8) :
    Calls Tryd.prog 10 #[.agg #[.bool neg, .string s]] w (Pair (intOut neg ((Ow.mg s.data.toList : Nat) : Int)) w) := by
  have HF := Lib.hid h
  clear h
  obtain ⟨c0, c1⟩ := two_cells w (.bool neg) (.string s) 23
  go_enter Tryd.func10, Tryd.ntmps10
  go_wp2_with fail
  refine (valid_any neg s _ hs).mono ?_
  rintro e w1 ⟨r, rfl, hr, g1⟩
  obtain rfl : r = true := hr.2 HF.out
  clear hr
  have d0 := g1.keeps c0
  have d1 := g1.keeps c1
  clear c0 c1
  go_wp2_with fail
  go_loop [4, 5, 16] (fun t _ i => ∃ k : Nat, k ≤ s.size ∧ i = .int .i64 k ∧ t = .int .u64 ((Ow.mg (s.data.toList.take k) : Nat) : Int)) (fun _ _ i => s.size - (intOf i).toNat)
  case atStart => exact ⟨0, by omega, rfl, by simp [Ow.mg]⟩
  case round =>
    obtain ⟨k, hk, rfl, rfl⟩ := hrel
    by_cases hlt : k < s.size
    · have hm := Ow.mg_lt k s.data.toList
      have hm7 : (256 : Nat) ^ k ≤ 256 ^ 7 := Nat.pow_le_pow_right (by omega) (by omega)
      have HS : Hid (Ow.mg (s.data.toList.take (k + 1)) = Ow.mg (s.data.toList.take k) * 256 + s[k].toNat) := by
        refine Lib.hid ?_
        rw [List.take_succ_eq_append_getElem (by simpa using hlt), Ow.mg_snoc]; rfl
      obtain ⟨x, hx⟩ : ∃ x, x = Ow.mg (s.data.toList.take k) := ⟨_, rfl⟩
      rw [← hx] at hm HS ⊢
      have x7 : x ≤ 72057594037927935 := by
        have : (256 : Nat) ^ 7 = 72057594037927936 := by decide
        omega
      clear hm hm7 hx
      have hb := s[k].toNat_lt
      have hor := or_big ((x : Int) * 256) (s[k].toNat : Int) (by omega) (by omega) (by omega) (by omega) (by omega)
      go_wp2_with fail
      go_round
      case rel => exact ⟨k + 1, by omega, by go_num, by rw [HS.out]; go_num⟩
      case measure => simp [intOf]; omega
    · obtain ⟨m, hm⟩ : ∃ m : Int, m = ((Ow.mg s.data.toList : Nat) : Int) := ⟨_, rfl⟩
      have hlt2 := Ow.mg_lt 8 s.data.toList
      have he : s.data.toList.take k = s.data.toList := List.take_of_length_le (by simp; omega)
      have he8 : s.data.toList.take 8 = s.data.toList := List.take_of_length_le (by simp; omega)
      rw [he8] at hlt2
      rw [he, ← hm]
      have m0 : 0 ≤ m := by omega
      have m8 : m ≤ 18446744073709551615 := by
        have : (256 : Nat) ^ 8 = 18446744073709551616 := by decide
        omega
      have HM := Lib.hid hm
      clear hm he he8 hlt2
      cases neg with
      | true =>
        by_cases hle : m ≤ 9223372036854775808
        · have HR := Lib.hid (intOut_t hle)
          have t1 : decide (m ≤ 9223372036854775808) = true := by simp; omega
          go_wp2_with fail
          go_ret2
          have hw : wrap64 (IntKind.u64.wrap (-m)) = -m := by rw [IntKind.wrap_u64]; unfold wrap64; omega
          exact ⟨by
            rw [← HM.out, HR.out]
            show Ending.returned (.tuple #[.int .i64 (wrap64 (IntKind.u64.wrap (-m))), .int .i64 0]) = Ending.returned (.tuple #[.int .i64 (-m), .int .i64 0])
            rw [hw], (Gr.new _ _).trans g1⟩
        · have HR := Lib.hid (intOut_tn hle)
          have t1 : decide (m ≤ 9223372036854775808) = false := by simp; omega
          go_wp2_with fail
          go_ret2
          exact ⟨by rw [← HM.out, HR.out]; rfl, (Gr.new _ _).trans g1⟩
      | false =>
        by_cases hle : m < 9223372036854775808
        · have HR := Lib.hid (intOut_f hle)
          have t1 : decide (m ≤ 9223372036854775807) = true := by simp; omega
          go_wp2_with fail
          go_ret2
          exact ⟨by rw [← HM.out, HR.out]; rfl, (Gr.new _ _).trans g1⟩
        · have HR := Lib.hid (intOut_fn hle)
          have t1 : decide (m ≤ 9223372036854775807) = false := by simp; omega
          go_wp2_with fail
          go_ret2
          exact ⟨by rw [← HM.out, HR.out]; rfl, (Gr.new _ _).trans g1⟩
end Go.Proofs.YtgalgldnhdiggaaDoor
