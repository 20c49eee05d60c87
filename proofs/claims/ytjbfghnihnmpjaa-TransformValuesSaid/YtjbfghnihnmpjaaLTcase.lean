import Derived.Test.YtjbfghnihnmpjaaLPB
/- The fields of a Case. -/
namespace Go.Proofs.Ytjbfghnihnmpjaa
open Go.ChangeShapes Go.WideShapes Go.ChangeAt Go.RowKit Go.Joins Go.Deep
set_option linter.unusedVariables false

theorem cellsCase : Try.prog.cellsOf 29 = 4 := by kernel_rfl
/-- The fields of a struct whose fields have a cell each. -/
theorem fields_at {H : Type} {enc : TypeId × Value → H} {P : Program} {w : World} {base : Nat} {spare : Nat → Bool} {held : Bool} {r : Reach} {b0 : Nat} {t : TypeId} {fs : Array Field} {v : Value} {d : DataW H} {p : List MemPlace}
    (hs : P.underlying t = some (.struct fs)) (hone : oneCellFields P fs = true) (hv : Value.okWide P w r b0 t v) (h : DataW.Trod enc P w base spare held t v d p) :
    ∃ l : List Value, v = .agg l.toArray ∧ l.length = P.cellsOf t ∧ ∀ (i : Nat) (f : Field) (x : Value), fs[i]? = some f → l[i]? = some x → ∃ n y, DataW.trod enc P w base spare held n f.type [x] = some y := by
  obtain ⟨⟨l⟩, rfl, hsz⟩ := okWide_struct hs hv
  refine ⟨l, rfl, hsz, fun i f x hf hx => ?_⟩
  obtain ⟨fuel, hr⟩ := h
  obtain ⟨xs, n, -, -, -, hlen, hall⟩ := DataW.trod_struct hs hr
  obtain ⟨ho, hc⟩ := hone_of hone i f hf
  have hi : i < xs.length := by
    rw [hlen]; exact (Array.getElem?_eq_some_iff.1 hf).1
  have h1 := hall i f hf
  rw [List.getElem?_eq_getElem hi, ho, hc] at h1
  have hl : i < l.length := (List.getElem?_eq_some_iff.1 hx).1
  have e : ((Value.agg l.toArray).cells.toList.drop i).take 1 = [x] := by
    show (l.drop i).take 1 = [x]
    rw [List.drop_eq_getElem_cons hl]
    have := (List.getElem?_eq_some_iff.1 hx).2
    rw [this]; rfl
  rw [e] at h1
  exact ⟨n, _, h1⟩
theorem four {l : List Value} (hl : l.length = 4) : ∃ x0 x1 x2 x3, l = [x0, x1, x2, x3] := by
  match l, hl with
  | [y0, y1, y2, y3], _ => exact ⟨_, _, _, _, rfl⟩
theorem open_case {H : Type} {enc : TypeId × Value → H} {w : World} {base : Nat} {spare : Nat → Bool} {held : Bool} {r : Reach} {b0 : Nat} {v : Value} {d : DataW H} {p : List MemPlace}
    (hv : Value.okWide Try.prog w r b0 29 v) (h : DataW.Trod enc Try.prog w base spare held 29 v d p) :
    ∃ (N : Int) (Q : Nat) (A B : List Int) (uA uB : Value), v = .agg #[.int .i64 N, .int .u32 Q, uA, uB] ∧ (-9223372036854775808 ≤ N ∧ N ≤ 9223372036854775807) ∧ Q ≤ 4294967295 ∧
      HasP w uA A ∧ HasP w uB B := by
  obtain ⟨l, rfl, hl, hf⟩ := fields_at Try.underlying29 (by kernel_rfl) hv h
  rw [cellsCase] at hl
  obtain ⟨x0, x1, x2, x3, rfl⟩ := four hl
  obtain ⟨n0, y0, t0⟩ := hf 0 _ _ rfl rfl
  obtain ⟨n1, y1, t1⟩ := hf 1 _ _ rfl rfl
  obtain ⟨n2, y2, t2⟩ := hf 2 _ _ rfl rfl
  obtain ⟨n3, y3, t3⟩ := hf 3 _ _ rfl rfl
  obtain ⟨N, e0, _, w0⟩ := DataW.trod_int Try.underlying3 t0
  obtain ⟨Q, e1, _, w1⟩ := DataW.trod_int Try.underlying22 t1
  simp at e0 e1
  subst e0 e1
  obtain ⟨A, hA, lA⟩ := cells_hasP t2
  obtain ⟨B, hB, lB⟩ := cells_hasP t3
  have b0 := bounds_i64 w0
  have b1 := bounds_u32 w1
  obtain ⟨q, rfl⟩ := Int.eq_ofNat_of_zero_le (show 0 ≤ Q by omega)
  exact ⟨N, q, A, B, _, _, rfl, by omega, by omega, hA, hB⟩
end Go.Proofs.Ytjbfghnihnmpjaa
