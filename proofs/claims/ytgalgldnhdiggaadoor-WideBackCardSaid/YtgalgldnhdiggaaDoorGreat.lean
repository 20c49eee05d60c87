/- great: are forms too long to be tried? -/
import Derived.Test.YtgalgldnhdiggaaDoorRead
namespace Go.Proofs.YtgalgldnhdiggaaDoor
open Go.RowKit
set_option linter.unusedVariables false

/-- The strings of forms in a row. -/
def Sizes (W : World) (g : Nat) (l : List ByteArray) : Prop := ∀ i, i < l.length → W.cell? ⟨g, i * 2 + 1, none⟩ = some (.string (l[i]?.getD ⟨#[]⟩))
def isGreat (l : List ByteArray) : Bool := l.any (fun s => decide (300 < s.size))
theorem great_not {l : List ByteArray} (h : isGreat l = false) (i : Nat) (hi : i < l.length) : (l[i]?.getD ⟨#[]⟩).size ≤ 300 := by
  rw [List.getElem?_eq_getElem hi]
  unfold isGreat at h
  rw [List.any_eq_false] at h
  have := h l[i] (List.getElem_mem hi)
  simp only [decide_eq_true_eq] at this
  simp only [Option.getD_some]
  omega

set_option maxRecDepth 100000 in
set_option maxHeartbeats 1000000 in
theorem great_any (g n cap : Nat) (l : List ByteArray) (w : World) (hn : n = l.length) (hl : l.length ≤ 10) (hs : ∀ s ∈ l, s.size ≤ 9223372036854775807) (h : Sizes w g l) :
    Calls Tryd.prog 8 #[.slice (some ⟨g, 0, none⟩) n cap] w fun e w' => e = .returned (.bool (isGreat l)) ∧ w = w' := by
  have HN := Lib.hid hn
  have HS := Lib.hid hs
  have H := Lib.hid h
  have hn10 : n ≤ 10 := by omega
  obtain ⟨r, hr⟩ : ∃ r, r = isGreat l := ⟨_, rfl⟩
  rw [← hr]
  have HR := Lib.hid hr
  clear hn hs h hr hl
  go_enter Tryd.func8, Tryd.ntmps8
  go_wp2_with fail
  go_loop [3] (fun i => ∃ k : Nat, i = .int .i64 k ∧ k ≤ n ∧ ∀ j, j < k → (l[j]?.getD ⟨#[]⟩).size ≤ 300) (fun i => n - (intOf i).toNat)
  case atStart => exact ⟨0, rfl, by omega, fun j hj => absurd hj (Nat.not_lt_zero _)⟩
  case round =>
    obtain ⟨k, rfl, hk, hle⟩ := hrel
    have HLE := Lib.hid hle
    clear hle
    by_cases hlt : k < n
    · have c := H.out k (by rw [← HN.out]; exact hlt)
      obtain ⟨s, hse⟩ : ∃ s, s = l[k]?.getD ⟨#[]⟩ := ⟨_, rfl⟩
      have hsb : s.size ≤ 9223372036854775807 := by
        rw [hse, List.getElem?_eq_getElem (by rw [← HN.out]; exact hlt)]
        exact HS.out _ (List.getElem_mem _)
      rw [← hse] at c
      have HSE := Lib.hid hse
      have i5 : (k : Int) < (n : Int) := by omega
      have i6 : (0 : Int) ≤ (k : Int) := by omega
      clear hse
      by_cases hg : 300 < s.size
      · have t1 : decide ((300 : Int) < (s.size : Int)) = true := decide_eq_true (by omega)
        have t2 : decide (300 < s.size) = true := decide_eq_true hg
        have HRT := Lib.hid (show r = true by
          rw [HR.out]
          unfold isGreat
          rw [List.any_eq_true]
          refine ⟨l[k]'(by rw [← HN.out]; exact hlt), List.getElem_mem _, ?_⟩
          have e := HSE.out
          rw [List.getElem?_eq_getElem (by rw [← HN.out]; exact hlt)] at e
          rw [show l[k] = s from e.symm]
          exact decide_eq_true hg)
        go_wp2_with fail
        go_ret
        exact ⟨by rw [HRT.out]; rfl, rfl⟩
      · have t1 : decide ((300 : Int) < (s.size : Int)) = false := decide_eq_false (by omega)
        have t2 : decide (300 < s.size) = false := decide_eq_false hg
        go_wp2_with fail
        go_round
        case rel => exact ⟨k + 1, by go_num, by omega, fun j hj => by
          rcases Nat.lt_or_ge j k with h | h
          · exact HLE.out j h
          · obtain rfl : j = k := by omega
            rw [← HSE.out]; omega⟩
        case measure => simp [intOf]; omega
    · have i5 : ¬ (k : Int) < (n : Int) := by omega
      have HRF := Lib.hid (show r = false by
        rw [HR.out]
        unfold isGreat
        rw [List.any_eq_false]
        intro s hs
        obtain ⟨j, hj, e⟩ := List.getElem_of_mem hs
        have := HLE.out j (by rw [← HN.out] at hj; omega)
        rw [List.getElem?_eq_getElem hj] at this
        simp only [Option.getD_some, e] at this
        simp only [decide_eq_true_eq]; omega)
      go_wp2_with fail
      go_ret
      exact ⟨by rw [HRF.out]; rfl, rfl⟩
end Go.Proofs.YtgalgldnhdiggaaDoor
