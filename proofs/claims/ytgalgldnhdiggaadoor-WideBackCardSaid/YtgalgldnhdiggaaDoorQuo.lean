/- positive, inShift, Balanced, Cmp, Shl on forms. -/
import Derived.Test.YtgalgldnhdiggaaDoorBal
import Derived.Test.YtgalgldnhdiggaaDoorOps
namespace Go.Proofs.YtgalgldnhdiggaaDoor
open Go.RowKit
set_option linter.unusedVariables false

theorem zOf_pos {neg : Bool} {s : ByteArray} (h : Form neg s) : 0 < zOf neg s ↔ (s.size ≠ 0 ∧ neg = false) := by
  rcases Nat.eq_zero_or_pos s.size with h0 | h0
  · have e := zOf_abs neg s
    have hl := list_len s
    rw [h0] at hl
    rw [List.length_eq_zero_iff.1 hl] at e
    simp [Ow.mg] at e
    simp [h0]; omega
  · have hp := form_pos h h0
    have : 0 < (zOf neg s).natAbs := Nat.lt_of_lt_of_le (Nat.pow_pos (by omega)) hp
    have hn := form_neg h
    constructor
    · intro hz; refine ⟨by omega, ?_⟩; rw [hn]; simp; omega
    · rintro ⟨_, rfl⟩
      have : ¬ (zOf false s < 0) := by simpa using hn.symm
      omega
def Pos (neg : Bool) (s : ByteArray) : Prop := Form neg s ∧ 0 < zOf neg s

set_option maxRecDepth 100000 in
set_option maxHeartbeats 1000000 in
theorem positive_any (neg : Bool) (s : ByteArray) (w : World) (hs : s.size ≤ 9223372036854775807) :
    Calls Tryd.prog 59 #[.agg #[.bool neg, .string s]] w (BoolPost (Pos neg s) w) := by
  by_cases hF : Form neg s
  · have hz := zOf_pos hF
    by_cases h0 : s.size = 0
    · have he : s.toList.isEmpty = true := by rw [empty_iff]; simpa using h0
      have HP := Lib.hid (show ¬ Pos neg s from fun h => (hz.1 h.2).1 h0)
      have HF := Lib.hid hF
      clear hF hz h0
      go_enter Tryd.func59, Tryd.ntmps59
      go_wp2_with fail
      refine (valid_any neg s _ hs).mono ?_
      rintro e w1 ⟨r, rfl, hr, g1⟩
      obtain rfl : r = true := hr.2 HF.out
      have k0 := g1.keeps (p := ⟨w.heap.size, 0, none⟩) (v := .bool neg) (by simp [go_sem])
      have k1 := g1.keeps (p := ⟨w.heap.size, 1, none⟩) (v := .string s) (by simp [go_sem])
      have HG := Lib.hid ((Gr.new w _).trans g1)
      clear hr g1
      go_wp2_with fail
      go_ret
      exact ⟨false, rfl, by simp [HP.out], HG.out⟩
    · have he : s.toList.isEmpty = false := by rw [empty_iff]; simpa using h0
      have HP := Lib.hid (show Pos neg s ↔ neg = false from ⟨fun h => (hz.1 h.2).2, fun h => ⟨hF, hz.2 ⟨h0, h⟩⟩⟩)
      have HF := Lib.hid hF
      clear hF hz h0
      go_enter Tryd.func59, Tryd.ntmps59
      go_wp2_with fail
      refine (valid_any neg s _ hs).mono ?_
      rintro e w1 ⟨r, rfl, hr, g1⟩
      obtain rfl : r = true := hr.2 HF.out
      have k0 := g1.keeps (p := ⟨w.heap.size, 0, none⟩) (v := .bool neg) (by simp [go_sem])
      have k1 := g1.keeps (p := ⟨w.heap.size, 1, none⟩) (v := .string s) (by simp [go_sem])
      have HG := Lib.hid ((Gr.new w _).trans g1)
      clear hr g1
      go_wp2_with fail
      go_ret
      exact ⟨!neg, rfl, by rw [HP.out]; simp, HG.out⟩
  · have HF := Lib.hid hF
    clear hF
    go_enter Tryd.func59, Tryd.ntmps59
    go_wp2_with fail
    refine (valid_any neg s _ hs).mono ?_
    rintro e w1 ⟨r, rfl, hr, g1⟩
    obtain rfl : r = false := by cases r; rfl; exact absurd (hr.1 rfl) HF.out
    have HG := Lib.hid ((Gr.new w _).trans g1)
    clear hr g1
    go_wp2_with fail
    go_ret
    exact ⟨false, rfl, by simp; exact fun h => HF.out h.1, HG.out⟩

set_option maxRecDepth 100000 in
set_option maxHeartbeats 1000000 in
theorem inShift_any (k : Int) (w : World) :
    Calls Tryd.prog 55 #[.int .i64 k] w (BoolPost (0 ≤ k ∧ k ≤ 4096) w) := by
  by_cases h : 0 ≤ k
  · have t1 : decide (0 ≤ k) = true := by simp [h]
    go_enter Tryd.func55, Tryd.ntmps55
    go_wp2_with fail
    go_ret
    exact ⟨decide (k ≤ 4096), rfl, by simp [h], Gr.refl _⟩
  · have t1 : decide (0 ≤ k) = false := by simp; omega
    go_enter Tryd.func55, Tryd.ntmps55
    go_wp2_with fail
    go_ret
    exact ⟨false, rfl, by simp; omega, Gr.refl _⟩

set_option maxRecDepth 100000 in
set_option maxHeartbeats 1000000 in
theorem balX_bad (neg : Bool) (s : ByteArray) (neg' : Bool) (s' : ByteArray) (w : World) (hs' : s'.size ≤ 9223372036854775807) (h : ¬ Pos neg' s') :
    Calls Tryd.prog 32 #[.agg #[.bool neg, .string s], .agg #[.bool neg', .string s']] w (Res false ⟨#[]⟩ 2 w) := by
  have HP := Lib.hid h
  clear h
  go_enter Tryd.func32, Tryd.ntmps32
  go_wp2_with fail
  refine (positive_any neg' s' _ hs').mono ?_
  rintro e w1 ⟨r, rfl, hr, g1⟩
  obtain rfl : r = false := by cases r; rfl; exact absurd (hr.1 rfl) HP.out
  have g0 : Gr w (((w.alloc (.cells #[.bool neg, .string s] 23)).alloc (.cells #[.bool neg', .string s'] 23)).alloc (.cells #[.bool false, .string ⟨#[]⟩] 23)) := ((Gr.new w _).alloc _).alloc _
  have r0 := g1.keeps (p := ⟨w.heap.size + 1 + 1, 0, none⟩) (v := .bool false) (by simp [go_sem])
  have r1 := g1.keeps (p := ⟨w.heap.size + 1 + 1, 1, none⟩) (v := .string ⟨#[]⟩) (by simp [go_sem])
  have f0 := g1.frozen (p := ⟨w.heap.size + 1 + 1, 0, none⟩) (v := .bool false) (by simp [go_sem]) (by simp [go_sem])
  have f1 := g1.frozen (p := ⟨w.heap.size + 1 + 1, 1, none⟩) (v := .string ⟨#[]⟩) (by simp [go_sem]) (by simp [go_sem])
  have HG := Lib.hid (g0.trans g1)
  clear g0 g1 hr
  go_wp2_with fail
  refine bodyPost_ret (v := .tuple #[.agg #[.bool false, .string ⟨#[]⟩], .int .i64 2]) (by simp [results, Tryd.results32, go_sem, r0, r1]) rfl ?_
  exact ⟨rfl, (HG.out.setCell (p := ⟨w.heap.size + 1 + 1, 0, none⟩) (by simp; omega) _).setCell (p := ⟨w.heap.size + 1 + 1, 1, none⟩) (by simp; omega) _⟩
set_option maxRecDepth 100000 in
set_option maxHeartbeats 1000000 in
theorem balX_of (neg : Bool) (s : ByteArray) (neg' : Bool) (s' : ByteArray) (A : Bool) (S : ByteArray) (C : Int) (w : World) (hs' : s'.size ≤ 9223372036854775807) (hp : Pos neg' s')
    (h : ∀ W, Calls Tryd.prog 47 #[.agg #[.bool neg, .string s], .agg #[.bool neg', .string s'], .func (.func 60) #[] #[]] W (Res A S C W)) :
    Calls Tryd.prog 32 #[.agg #[.bool neg, .string s], .agg #[.bool neg', .string s']] w (Res A S C w) := by
  have H := Lib.hid h
  have HP := Lib.hid hp
  clear h hp
  go_enter Tryd.func32, Tryd.ntmps32
  go_wp2_with fail
  refine (positive_any neg' s' _ hs').mono ?_
  rintro e w1 ⟨r, rfl, hr, g1⟩
  obtain rfl : r = true := hr.2 HP.out
  have g0 : Gr w (((w.alloc (.cells #[.bool neg, .string s] 23)).alloc (.cells #[.bool neg', .string s'] 23)).alloc (.cells #[.bool false, .string ⟨#[]⟩] 23)) := ((Gr.new w _).alloc _).alloc _
  have x0 := g1.keeps (p := ⟨w.heap.size, 0, none⟩) (v := .bool neg) (by simp [go_sem])
  have x1 := g1.keeps (p := ⟨w.heap.size, 1, none⟩) (v := .string s) (by simp [go_sem])
  have y0 := g1.keeps (p := ⟨w.heap.size + 1, 0, none⟩) (v := .bool neg') (by simp [go_sem])
  have y1 := g1.keeps (p := ⟨w.heap.size + 1, 1, none⟩) (v := .string s') (by simp [go_sem])
  have R0 := Lib.hid (g1.keeps (p := ⟨w.heap.size + 1 + 1, 0, none⟩) (v := .bool false) (by simp [go_sem]))
  have R1 := Lib.hid (g1.keeps (p := ⟨w.heap.size + 1 + 1, 1, none⟩) (v := .string ⟨#[]⟩) (by simp [go_sem]))
  have F0 := Lib.hid (g1.frozen (p := ⟨w.heap.size + 1 + 1, 0, none⟩) (v := .bool false) (by simp [go_sem]) (by simp [go_sem]))
  have F1 := Lib.hid (g1.frozen (p := ⟨w.heap.size + 1 + 1, 1, none⟩) (v := .string ⟨#[]⟩) (by simp [go_sem]) (by simp [go_sem]))
  have HG := Lib.hid (g0.trans g1)
  clear g0 g1 hr
  go_wp2_with fail
  refine (H.out _).mono ?_
  rintro e w2 ⟨rfl, g1⟩
  have r0 := g1.keeps R0.out
  have r1 := g1.keeps R1.out
  have f0 := g1.frozen R0.out F0.out
  have f1 := g1.frozen R1.out F1.out
  have HG := Lib.hid (HG.out.trans g1)
  clear g1
  go_wp2_with fail
  refine bodyPost_ret (v := .tuple #[.agg #[.bool A, .string S], .int .i64 C]) (by simp [results, Tryd.results32, go_sem, r0, r1]) rfl ?_
  exact ⟨rfl, (HG.out.setCell (p := ⟨w.heap.size + 1 + 1, 0, none⟩) (by simp; omega) _).setCell (p := ⟨w.heap.size + 1 + 1, 1, none⟩) (by simp; omega) _⟩
theorem balX_ok (neg : Bool) (s : ByteArray) (neg' : Bool) (s' : ByteArray) (w : World) (h : Form neg s) (h' : Pos neg' s') (hs' : s'.size ≤ 9223372036854775807) :
    Calls Tryd.prog 32 #[.agg #[.bool neg, .string s], .agg #[.bool neg', .string s']] w (Res (fNeg (bal (zOf neg s) (zOf neg' s'))) (fStr (bal (zOf neg s) (zOf neg' s'))) (fErr (bal (zOf neg s) (zOf neg' s'))) w) :=
  balX_of neg s neg' s' _ _ _ w hs' h' fun W => binary_ok 60 65 #[] (bal (zOf neg s) (zOf neg' s')) neg s neg' s' W h h'.1 (by omega) (enters_of Tryd.func60 (by kernel_rfl) (by kernel_rfl)) fun V u v _ hu hv => balanced_any _ _ u v V hu hv h'.2 (Ow.R_lt (form_range h'.1))
end Go.Proofs.YtgalgldnhdiggaaDoor
