import Derived.Test.YtfmmkdmnondomaaLFB
import Derived.ProofKit
import Derived.OpenShut
import Derived.Lib.SmallJoins
import Derived.Deep.Fields
import Derived.ChangeSlices
/- The fields of a Case of layer 8; lists of numbers. -/
namespace Go.Proofs.Ytfmmkdmnondomaa
open Go.ChangeShapes Go.WideShapes Go.ChangeAt Go.RowKit Go.Joins Go.Deep
set_option linter.unusedVariables false

/-- The fields of a struct whose fields have a cell each. -/
theorem fields_at {H : Type} {enc : TypeId × Value → H} {P : Program} {w : World} {base : Nat} {spare : Nat → Bool} {held : Bool} {r : Reach} {b0 : Nat} {t : TypeId} {fs : Array Field} {v : Value} {d : DataW H} {p : List MemPlace}
    (hs : P.underlying t = some (.struct fs)) (hone : oneCellFields P fs = true) (hv : Value.okWide P w r b0 t v) (h : DataW.Trod enc P w base spare held t v d p) :
    ∃ l : List Value, v = .agg l.toArray ∧ l.length = P.cellsOf t ∧ ∀ (i : Nat) (f : Field) (x : Value), fs[i]? = some f → l[i]? = some x → ∃ n y, DataW.trod enc P w base spare held n f.type [x] = some y := by
  obtain ⟨⟨l⟩, rfl, hsz⟩ := okWide_struct hs hv
  refine ⟨l, rfl, hsz, fun i f x hf hx => ?_⟩
  obtain ⟨fuel, hr⟩ := h
  obtain ⟨xs, n, -, -, -, hlen, hall⟩ := DataW.trod_struct hs hr
  obtain ⟨ho, hc⟩ := hone_of hone i f hf
  have hi : i < xs.length := by
    rw [hlen]; exact (Array.getElem?_eq_some_iff.1 hf).1
  have h1 := hall i f hf
  rw [List.getElem?_eq_getElem hi, ho, hc] at h1
  have hl : i < l.length := (List.getElem?_eq_some_iff.1 hx).1
  have e : ((Value.agg l.toArray).cells.toList.drop i).take 1 = [x] := by
    show (l.drop i).take 1 = [x]
    rw [List.drop_eq_getElem_cons hl]
    have := (List.getElem?_eq_some_iff.1 hx).2
    rw [this]; rfl
  rw [e] at h1
  exact ⟨n, _, h1⟩
theorem six {l : List Value} (hl : l.length = 6) : ∃ x0 x1 x2 x3 x4 x5, l = [x0, x1, x2, x3, x4, x5] := by
  match l, hl with
  | [y0, y1, y2, y3, y4, y5], _ => exact ⟨_, _, _, _, _, _, rfl⟩
/-- The cells of an argument hold numbers. -/
theorem cells_hasQ {H : Type} {enc : TypeId × Value → H} {w : World} {base : Nat} {spare : Nat → Bool} {held : Bool} {fuel : Nat} {v : Value} {x : DataW H × List MemPlace}
    (h : DataW.trod enc Try.prog w base spare held fuel 23 [v] = some x) : ∃ l : List Int, Lo.HasQ w v l ∧ l.length ≤ 9223372036854775807 := by
  rcases open_ints Try.underlying23 Try.underlying2 (by kernel_rfl) h with ⟨hv, _⟩ | ⟨a, len, cap, zs, hv, _, hl, hm, hz, _, hc, hw⟩
  · simp at hv
    subst hv
    exact ⟨[], Lo.HasQ.nil w, by simp⟩
  · simp at hv
    subst hv
    have hlz : len ≤ zs.length := by rw [hz]; split <;> omega
    have hlen : (zs.take len).length = len := by rw [List.length_take]; omega
    unfold maxLen at hm
    refine ⟨zs.take len, ⟨fun y hy => ?_, some a, cap, by rw [hlen], by rw [hlen]; exact hl, by omega, fun i hi => ?_⟩, by rw [hlen]; omega⟩
    · have := bounds_i64 (hw y (List.mem_of_mem_take hy))
      omega
    · rw [hlen] at hi
      have h0 := hc 0 (by omega)
      obtain ⟨g, o, s⟩ := a
      have hs : s = none := by
        cases s with
        | none => rfl
        | some s =>
          have e : (⟨g, o, some s⟩ : Addr).add 0 = ⟨g, o, some s⟩ := rfl
          rw [e] at h0
          simp only [World.cell?] at h0
          split at h0 <;> simp_all
      subst hs
      refine ⟨g, o, rfl, ?_⟩
      have hci := hc i (by omega)
      have e2 : (⟨g, o, none⟩ : Addr).add i = ⟨g, o + i, none⟩ := addr_add rfl _ rfl
      rw [e2] at hci
      rw [hci, Op.cf_take, if_pos hi, ← Op.cf_at]; rfl
set_option maxRecDepth 100000 in
theorem own : ownKnob Try.prog.godebug = none := by kernel_rfl
theorem laidOut : laidOutB Try.prog = true := by kernel_rfl
theorem cellsCase8 : Try.prog.cellsOf 25 = 6 := by kernel_rfl
set_option maxRecDepth 100000 in
theorem open_case8 {H : Type} {enc : TypeId × Value → H} {w : World} {base : Nat} {spare : Nat → Bool} {held : Bool} {r : Reach} {b0 : Nat} {v : Value} {d : DataW H} {p : List MemPlace}
    (hv : Value.okWide Try.prog w r b0 25 v) (h : DataW.Trod enc Try.prog w base spare held 25 v d p) :
    ∃ (N : Int) (P : Nat) (R E : Int) (A B : List Int) (uA uB : Value), v = .agg #[.int .i64 N, .int .u32 P, .int .i64 R, .int .i64 E, uA, uB] ∧ Lo.HasQ w uA A ∧ Lo.HasQ w uB B ∧
      (-9223372036854775808 ≤ N ∧ N ≤ 9223372036854775807) ∧ P ≤ 4294967295 ∧ (-9223372036854775808 ≤ R ∧ R ≤ 9223372036854775807) ∧ (-9223372036854775808 ≤ E ∧ E ≤ 9223372036854775807) := by
  obtain ⟨l, rfl, hl, hf⟩ := fields_at Try.underlying25 (by kernel_rfl) hv h
  rw [cellsCase8] at hl
  obtain ⟨x0, x1, x2, x3, x4, x5, rfl⟩ := six hl
  obtain ⟨n0, y0, t0⟩ := hf 0 _ _ rfl rfl
  obtain ⟨n1, y1, t1⟩ := hf 1 _ _ rfl rfl
  obtain ⟨n2, y2, t2⟩ := hf 2 _ _ rfl rfl
  obtain ⟨n3, y3, t3⟩ := hf 3 _ _ rfl rfl
  obtain ⟨n4, y4, t4⟩ := hf 4 _ _ rfl rfl
  obtain ⟨n5, y5, t5⟩ := hf 5 _ _ rfl rfl
  obtain ⟨N, e0, _, w0⟩ := DataW.trod_int Try.underlying3 t0
  obtain ⟨P, e1, _, w1⟩ := DataW.trod_int Try.underlying22 t1
  obtain ⟨R, e2, _, w2⟩ := DataW.trod_int Try.underlying3 t2
  obtain ⟨E, e3, _, w3⟩ := DataW.trod_int Try.underlying3 t3
  obtain ⟨A, hA, _⟩ := cells_hasQ t4
  obtain ⟨B, hB, _⟩ := cells_hasQ t5
  simp at e0 e1 e2 e3
  subst e0 e1 e2 e3
  have b0 := bounds_i64 w0
  have b1 := bounds_u32 w1
  have b2 := bounds_i64 w2
  have b3 := bounds_i64 w3
  obtain ⟨q, rfl⟩ := Int.eq_ofNat_of_zero_le (show 0 ≤ P by omega)
  exact ⟨N, q, R, E, A, B, _, _, rfl, hA, hB, by omega, by omega, by omega, by omega⟩
end Go.Proofs.Ytfmmkdmnondomaa
