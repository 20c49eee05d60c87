/- signs and what it returns: an integer of digits. -/
import Derived.Test.YtgalgldnhdiggaaDoorBits
namespace Go.Proofs.YtgalgldnhdiggaaDoor
open Go.RowKit
set_option linter.unusedVariables false

theorem signs_any (neg : Bool) (w : World) :
    Calls Tryd.prog 34 #[.bool neg] w fun e w' => e = .returned (.func (.func 62) #[] #[.pointer (some ⟨w.heap.size, 0, none⟩)]) ∧ w.alloc (.cells #[.bool neg] 4) = w' := by
  go_enter Tryd.func34, Tryd.ntmps34
  go_wp2_with fail
  go_ret
  exact ⟨rfl, rfl⟩

/-- An integer: its sign and its digits. -/
def IntPost (neg : Bool) (l : List Nat) (w : World) (e : Ending) (w' : World) : Prop := ∃ v, e = .returned (.agg #[.bool neg, v]) ∧ HasD w' v l ∧ Gr w w'

set_option maxRecDepth 100000 in
set_option maxHeartbeats 1000000 in
theorem signs1_any (neg : Bool) (l : List Nat) (v : Value) (B : Nat) (w : World) (h : HasD w v l) (hB : w.cell? ⟨B, 0, none⟩ = some (.bool neg)) :
    Calls Tryd.prog 62 #[v, .pointer (some ⟨B, 0, none⟩)] w (IntPost (neg && decide (0 < (Ow.tr l).length)) (Ow.tr l) w) := by
  have HH := Lib.hid h
  have HB := Lib.hid hB
  have hBl : B < w.heap.size := by
    apply Classical.byContradiction; intro hn
    have : w.heap[B]? = none := by simp; omega
    simp [World.cell?, this] at hB
  clear h hB
  go_enter Tryd.func62, Tryd.ntmps62
  go_wp2_with fail
  have gA : Gr w (w.alloc (.cells #[.bool false, .slice none 0 0] 56)) := Gr.new _ _
  refine (trim_any l v _ (HH.out.later gA)).mono ?_
  rintro e w' ⟨⟨v', rfl, hcut⟩, rfl⟩
  have hB2 := gA.keeps HB.out
  have HCUT := Lib.hid hcut
  obtain ⟨-, a, cap, rfl, h1, h2, -⟩ := hcut _ HH.out
  clear hcut
  obtain ⟨len, hlen⟩ : ∃ len, len = (Ow.tr l).length := ⟨_, rfl⟩
  rw [← hlen] at h1 HCUT ⊢
  have HLEN := Lib.hid hlen
  clear hlen
  cases neg with
  | false =>
    go_wp2_with fail
    refine bodyPost_ret (v := .agg #[.bool false, .slice a len cap]) (by simp [results, Tryd.results62, go_sem]) rfl ?_
    exact ⟨_, by simp, HCUT.out _ (HH.out.later (Gr.new _ _)), Gr.new _ _⟩
  | true =>
    by_cases h0 : 0 < len
    · have t0 : decide ((0 : Int) < (len : Int)) = true := by simp; omega
      go_wp2_with fail
      refine bodyPost_ret (v := .agg #[.bool true, .slice a len cap]) (by simp [results, Tryd.results62, go_sem]) rfl ?_
      exact ⟨_, by simp [← HLEN.out, h0], HCUT.out _ (HH.out.later (Gr.new _ _)), Gr.new _ _⟩
    · have t0 : decide ((0 : Int) < (len : Int)) = false := by simp; omega
      go_wp2_with fail
      refine bodyPost_ret (v := .agg #[.bool false, .slice a len cap]) (by simp [results, Tryd.results62, go_sem]) rfl ?_
      exact ⟨_, by simp [← HLEN.out, h0], HCUT.out _ (HH.out.later (Gr.new _ _)), Gr.new _ _⟩
end Go.Proofs.YtgalgldnhdiggaaDoor
