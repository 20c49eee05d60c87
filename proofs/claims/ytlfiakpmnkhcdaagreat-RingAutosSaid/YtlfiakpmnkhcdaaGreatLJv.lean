import Derived.Test.YtlfiakpmnkhcdaaGreatLJu
/- The law RingRestricts. -/
namespace Go.Proofs.YtlfiakpmnkhcdaaGreat.Mo
open Go.RowKit Go.Shelf
set_option linter.unusedVariables false

theorem resE_zero {c lv : Int} {sp : Bool} {ls : List (List Int)} {w w' : World} {e : Ending} (h : ResE c lv sp ls w e w') (h0 : c = 0) : ∃ x n cx, e = .returned (.tuple #[.agg #[.int .i64 lv, .bool sp, .slice x n cx], .int .i64 0]) ∧ HasR w' (.slice x n cx) ls ∧ Gr w w' := by
  subst h0
  obtain ⟨x, cx, rfl, h1, h2⟩ := resE_ok h
  exact ⟨x, _, cx, rfl, h1.hasR, h2⟩
theorem ev_sm {N : Int} {ch : List Int} {S lv : Int} {sp : Bool} {rA : List (List Int)} (hv : VP N ch S) (h : EV N ch S lv sp rA) : Sm 1000 rA := by
  obtain ⟨n, hn, -, h32⟩ := vp_dim hv
  obtain ⟨he, hr⟩ := h
  have hl := Oj.mods_len (S := S) (sp := sp) (lv := lv.toNat) (ch := ch) (by have := he.2.1; have := he.1; omega)
  have hc := hv.2.2.1
  have h2 := he.2.1
  refine ⟨?_, fun i hi => ?_⟩
  · rw [hr.1, hl]; split <;> omega
  · have := (hr.2 i (by rw [← hr.1]; exact hi)).1; omega

end Go.Proofs.YtlfiakpmnkhcdaaGreat.Mo
