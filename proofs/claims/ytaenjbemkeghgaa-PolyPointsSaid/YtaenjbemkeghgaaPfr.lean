/- The arguments of the laws: slices of numbers of 32 bits; the fields of a Case. -/
import Derived.Test.YtaenjbemkeghgaaPla
import Derived.ProofKit
import Derived.OpenShut
import Derived.Lib.SmallJoins
import Derived.Deep.Fields
import Derived.ChangeSlices
namespace Go.Proofs.Ytaenjbemkeghgaa
open Go.ChangeShapes Go.WideShapes Go.ChangeAt Go.RowKit Go.Joins Go.Deep
set_option linter.unusedVariables false

/-- The cells of an argument hold numbers. -/
theorem cells_hasP {H : Type} {enc : TypeId × Value → H} {w : World} {base : Nat} {spare : Nat → Bool} {held : Bool} {fuel : Nat} {v : Value} {x : DataW H × List MemPlace}
    (h : DataW.trod enc Try.prog w base spare held fuel 23 [v] = some x) : ∃ l : List Int, HasP w v l ∧ l.length ≤ 9223372036854775807 := by
  rcases open_ints Try.underlying23 Try.underlying22 (by kernel_rfl) h with ⟨hv, _⟩ | ⟨a, len, cap, zs, hv, _, hl, hm, hz, _, hc, hw⟩
  · simp at hv
    subst hv
    exact ⟨[], HasP.nil w, by simp⟩
  · simp at hv
    subst hv
    have hlz : len ≤ zs.length := by rw [hz]; split <;> omega
    have hlen : (zs.take len).length = len := by rw [List.length_take]; omega
    unfold maxLen at hm
    refine ⟨zs.take len, ⟨fun y hy => ?_, some a, cap, by rw [hlen], by rw [hlen]; exact hl, by omega, fun i hi => ?_⟩, by rw [hlen]; omega⟩
    · have := bounds_u32 (hw y (List.mem_of_mem_take hy))
      omega
    · rw [hlen] at hi
      have h0 := hc 0 (by omega)
      obtain ⟨g, o, s⟩ := a
      have hs : s = none := by
        cases s with
        | none => rfl
        | some s =>
          have e : (⟨g, o, some s⟩ : Addr).add 0 = ⟨g, o, some s⟩ := rfl
          rw [e] at h0
          simp only [World.cell?] at h0
          split at h0 <;> simp_all
      subst hs
      refine ⟨g, o, rfl, ?_⟩
      have hci := hc i (by omega)
      have e2 : (⟨g, o, none⟩ : Addr).add i = ⟨g, o + i, none⟩ := addr_add rfl _ rfl
      rw [e2] at hci
      rw [hci, Op.cf_take, if_pos hi, ← Op.cf_at]; rfl
theorem open_p {H : Type} {enc : TypeId × Value → H} {w : World} {base : Nat} {spare : Nat → Bool} {held : Bool} {r : Reach} {b0 : Nat} {v : Value} {d : DataW H} {p : List MemPlace}
    (hv : Value.okWide Try.prog w r b0 23 v) (h : DataW.Trod enc Try.prog w base spare held 23 v d p) : ∃ l : List Int, HasP w v l ∧ l.length ≤ 9223372036854775807 := by
  obtain ⟨a, n, c, rfl⟩ := okWide_slice Try.underlying23 hv
  obtain ⟨fuel, hf⟩ := h
  exact cells_hasP hf
theorem own : ownKnob Try.prog.godebug = none := by kernel_rfl
theorem laidOut : laidOutB Try.prog = true := by kernel_rfl
end Go.Proofs.Ytaenjbemkeghgaa
