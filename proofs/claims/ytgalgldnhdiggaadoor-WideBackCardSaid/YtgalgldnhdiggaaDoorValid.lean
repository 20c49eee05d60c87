/- Valid, of the program and of the reference. -/
import Derived.Test.YtgalgldnhdiggaaDoorTrim
namespace Go.Proofs.YtgalgldnhdiggaaDoor
open Go.RowKit
set_option linter.unusedVariables false

/-- The answer tells whether P, and nothing that was there has changed. -/
def BoolPost (P : Prop) (w : World) (e : Ending) (w' : World) : Prop := ∃ r : Bool, e = .returned (.bool r) ∧ (r = true ↔ P) ∧ Gr w w'

theorem loop_len (s : ByteArray) : ∀ (k i : Nat) (r : List UInt8), s.size - i = k → (ByteArray.toList.loop s i r).length = r.length + k
  | 0, i, r, h => by
    unfold ByteArray.toList.loop
    rw [if_neg (by omega)]; simp
  | k + 1, i, r, h => by
    unfold ByteArray.toList.loop
    rw [if_pos (by omega), loop_len s k (i + 1) _ (by omega)]
    simp; omega
theorem toList_len (s : ByteArray) : s.toList.length = s.size := by
  unfold ByteArray.toList
  rw [loop_len s s.size 0 [] (by omega)]; simp
theorem empty_iff (s : ByteArray) : s.toList.isEmpty = decide (s.size = 0) := by
  rw [← toList_len]
  cases s.toList <;> simp

/-- The form of an integer. -/
def Form (neg : Bool) (s : ByteArray) : Prop := (s.size = 0 ∧ neg = false) ∨ (1 ≤ s.size ∧ s.size ≤ 256 ∧ ∃ h : 0 < s.size, s[0] ≠ 0)

set_option maxRecDepth 100000 in
set_option maxHeartbeats 1000000 in
theorem valid_any (neg : Bool) (s : ByteArray) (w : World) (hs : s.size ≤ 9223372036854775807) :
    Calls Tryd.prog 13 #[.agg #[.bool neg, .string s]] w (BoolPost (Form neg s) w) := by
  by_cases h0 : s.size = 0
  · have he : s.toList.isEmpty = true := by rw [empty_iff]; simpa using h0
    have H0 := Lib.hid h0
    clear h0
    go_enter Tryd.func13, Tryd.ntmps13
    go_wp2_with fail
    go_ret
    exact ⟨!neg, rfl, by unfold Form; simp [H0.out], Gr.new _ _⟩
  · have he : s.toList.isEmpty = false := by rw [empty_iff]; simpa using h0
    have h1 : 0 < s.size := by omega
    by_cases h2 : s.size ≤ 256
    · go_enter Tryd.func13, Tryd.ntmps13
      go_wp2_with fail
      go_ret
      refine ⟨_, rfl, ?_, Gr.new _ _⟩
      unfold Form
      have e : (((s[0].toNat : Int) != 0) = true) ↔ s[0] ≠ 0 := by
        simp only [bne_iff_ne, ne_eq]
        constructor
        · intro h h'; apply h; rw [h']; rfl
        · intro h h'
          apply h
          have h3 : s[0].toNat = 0 := by omega
          exact UInt8.toNat_inj.1 (by rw [h3]; rfl)
      rw [e]
      constructor
      · intro h; exact .inr ⟨h1, h2, h1, h⟩
      · rintro (⟨h, _⟩ | ⟨_, _, _, h⟩)
        · omega
        · exact h
    · go_enter Tryd.func13, Tryd.ntmps13
      go_wp2_with fail
      go_ret
      refine ⟨false, rfl, ?_, Gr.new _ _⟩
      simp only [Bool.false_eq_true, false_iff]
      rintro (⟨h, _⟩ | ⟨_, h, _⟩)
      · omega
      · omega

set_option maxRecDepth 100000 in
set_option maxHeartbeats 1000000 in
theorem rvalid_any (neg : Bool) (s : ByteArray) (w : World) (hs : s.size ≤ 9223372036854775807) :
    Calls Tryd.prog 14 #[.agg #[.bool neg, .string s]] w (BoolPost (Form neg s) w) := by
  by_cases h0 : s.size = 0
  · have he : s.toList.isEmpty = true := by rw [empty_iff]; simpa using h0
    have H0 := Lib.hid h0
    clear h0
    go_enter Tryd.func14, Tryd.ntmps14
    go_wp2_with fail
    go_ret
    exact ⟨!neg, rfl, by unfold Form; simp [H0.out], Gr.new _ _⟩
  · have he : s.toList.isEmpty = false := by rw [empty_iff]; simpa using h0
    have h1 : 0 < s.size := by omega
    by_cases h2 : s.size ≤ 256
    · go_enter Tryd.func14, Tryd.ntmps14
      go_wp2_with fail
      go_ret
      refine ⟨_, rfl, ?_, Gr.new _ _⟩
      unfold Form
      have e : (((s[0].toNat : Int) != 0) = true) ↔ s[0] ≠ 0 := by
        simp only [bne_iff_ne, ne_eq]
        constructor
        · intro h h'; apply h; rw [h']; rfl
        · intro h h'
          apply h
          have h3 : s[0].toNat = 0 := by omega
          exact UInt8.toNat_inj.1 (by rw [h3]; rfl)
      rw [e]
      constructor
      · intro h; exact .inr ⟨h1, h2, h1, h⟩
      · rintro (⟨h, _⟩ | ⟨_, _, _, h⟩)
        · omega
        · exact h
    · go_enter Tryd.func14, Tryd.ntmps14
      go_wp2_with fail
      go_ret
      refine ⟨false, rfl, ?_, Gr.new _ _⟩
      simp only [Bool.false_eq_true, false_iff]
      rintro (⟨h, _⟩ | ⟨_, h, _⟩)
      · omega
      · omega
end Go.Proofs.YtgalgldnhdiggaaDoor
