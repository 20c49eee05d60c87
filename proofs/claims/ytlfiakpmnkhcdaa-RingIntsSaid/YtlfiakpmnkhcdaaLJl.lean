import Derived.Test.YtlfiakpmnkhcdaaLJk
namespace Go.Proofs.Ytlfiakpmnkhcdaa.Mo
open Go.RowKit Go.Shelf
set_option linter.unusedVariables false
def ResE (c : Int) (lv : Int) (sp : Bool) (ls : List (List Int)) (w : World) (e : Ending) (w' : World) : Prop :=
  ∃ lv' sp' ls' u, e = .returned (.tuple #[.agg #[.int .i64 lv', .bool sp', u], .int .i64 c]) ∧ ((c = 0 ∧ lv' = lv ∧ sp' = sp ∧ ls' = ls) ∨ (c = 2 ∧ lv' = 0 ∧ sp' = false ∧ ls' = [])) ∧ HasB w' w.heap.size w'.heap.size u ls' ∧ Gr w w'
theorem mods_ok {N : Int} {ch : List Int} {S : Int} {lv : Nat} {sp : Bool} (hv : VP N ch S) (he : EX ch S lv sp) {j : Nat} (hj : j < (Oj.mods ch S lv sp).length) : okM' (Op.cf (Oj.mods ch S lv sp) j) := by
  obtain ⟨_, h1, h2, h3⟩ := hv
  obtain ⟨e1, e2, e3⟩ := he
  have e2 : lv ≤ ch.length := by omega
  have key : ∀ i, i < (allM ch S).length → okM' (Op.cf (allM ch S) i) := fun i hi => ⟨(h3 i hi).1, (h3 i hi).2.1⟩
  have hl := Oj.mods_len (S := S) (sp := sp) e2
  have hl2 := Oj.mods_len (S := S) (lv := ch.length) (sp := S != 0) (Nat.le_refl _)
  by_cases h : j < lv
  · rw [Oj.mods_lo e2 h]
    have := key j (by unfold allM; rw [hl2]; omega)
    rwa [allM, Oj.mods_lo (Nat.le_refl _) (by omega)] at this
  · cases sp with
    | false => simp at hl; omega
    | true =>
      have hS : (S != 0) = true := by simpa using e3 rfl
      have : j = lv := by simp at hl; omega
      subst this
      rw [Oj.mods_hi e2]
      have := key ch.length (by unfold allM; rw [hl2, hS]; simp)
      rwa [allM, hS, Oj.mods_hi (Nat.le_refl _)] at this
end Go.Proofs.Ytlfiakpmnkhcdaa.Mo
