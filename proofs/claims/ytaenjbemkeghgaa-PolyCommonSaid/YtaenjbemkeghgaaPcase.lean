/- The fields of a Case. -/
import Derived.Test.YtaenjbemkeghgaaPfr
namespace Go.Proofs.Ytaenjbemkeghgaa
open Go.ChangeShapes Go.WideShapes Go.ChangeAt Go.RowKit Go.Joins Go.Deep
set_option linter.unusedVariables false

theorem cellsCase : Try.prog.cellsOf 38 = 7 := by kernel_rfl
/-- The fields of a struct whose fields have a cell each. -/
theorem fields_at {H : Type} {enc : TypeId × Value → H} {P : Program} {w : World} {base : Nat} {spare : Nat → Bool} {held : Bool} {r : Reach} {b0 : Nat} {t : TypeId} {fs : Array Field} {v : Value} {d : DataW H} {p : List MemPlace}
    (hs : P.underlying t = some (.struct fs)) (hone : oneCellFields P fs = true) (hv : Value.okWide P w r b0 t v) (h : DataW.Trod enc P w base spare held t v d p) :
    ∃ l : List Value, v = .agg l.toArray ∧ l.length = P.cellsOf t ∧ ∀ (i : Nat) (f : Field) (x : Value), fs[i]? = some f → l[i]? = some x → ∃ n y, DataW.trod enc P w base spare held n f.type [x] = some y := by
  obtain ⟨⟨l⟩, rfl, hsz⟩ := okWide_struct hs hv
  refine ⟨l, rfl, hsz, fun i f x hf hx => ?_⟩
  obtain ⟨fuel, hr⟩ := h
  obtain ⟨xs, n, -, -, -, hlen, hall⟩ := DataW.trod_struct hs hr
  obtain ⟨ho, hc⟩ := hone_of hone i f hf
  have hi : i < xs.length := by
    rw [hlen]; exact (Array.getElem?_eq_some_iff.1 hf).1
  have h1 := hall i f hf
  rw [List.getElem?_eq_getElem hi, ho, hc] at h1
  have hl : i < l.length := (List.getElem?_eq_some_iff.1 hx).1
  have e : ((Value.agg l.toArray).cells.toList.drop i).take 1 = [x] := by
    show (l.drop i).take 1 = [x]
    rw [List.drop_eq_getElem_cons hl]
    have := (List.getElem?_eq_some_iff.1 hx).2
    rw [this]; rfl
  rw [e] at h1
  exact ⟨n, _, h1⟩
theorem seven {l : List Value} (hl : l.length = 7) : ∃ x0 x1 x2 x3 x4 x5 x6, l = [x0, x1, x2, x3, x4, x5, x6] := by
  match l, hl with
  | [y0, y1, y2, y3, y4, y5, y6], _ => exact ⟨_, _, _, _, _, _, _, rfl⟩
theorem open_case {H : Type} {enc : TypeId × Value → H} {w : World} {base : Nat} {spare : Nat → Bool} {held : Bool} {r : Reach} {b0 : Nat} {v : Value} {d : DataW H} {p : List MemPlace}
    (hv : Value.okWide Try.prog w r b0 38 v) (h : DataW.Trod enc Try.prog w base spare held 38 v d p) :
    ∃ (m : Int) (A B C : List Int) (N K X : Int) (uA uB uC : Value), v = .agg #[.int .u32 m, uA, uB, uC, .int .u64 N, .int .i64 K, .int .u32 X] ∧ (0 ≤ m ∧ m < 4294967296) ∧ (0 ≤ N ∧ N ≤ 18446744073709551615) ∧ (-9223372036854775808 ≤ K ∧ K ≤ 9223372036854775807) ∧ (0 ≤ X ∧ X < 4294967296) ∧
      HasP w uA A ∧ HasP w uB B ∧ HasP w uC C ∧ A.length ≤ 9223372036854775807 ∧ B.length ≤ 9223372036854775807 ∧ C.length ≤ 9223372036854775807 := by
  obtain ⟨l, rfl, hl, hf⟩ := fields_at Try.underlying38 (by kernel_rfl) hv h
  rw [cellsCase] at hl
  obtain ⟨x0, x1, x2, x3, x4, x5, x6, rfl⟩ := seven hl
  obtain ⟨n0, y0, t0⟩ := hf 0 _ _ rfl rfl
  obtain ⟨n1, y1, t1⟩ := hf 1 _ _ rfl rfl
  obtain ⟨n2, y2, t2⟩ := hf 2 _ _ rfl rfl
  obtain ⟨n3, y3, t3⟩ := hf 3 _ _ rfl rfl
  obtain ⟨n4, y4, t4⟩ := hf 4 _ _ rfl rfl
  obtain ⟨n5, y5, t5⟩ := hf 5 _ _ rfl rfl
  obtain ⟨n6, y6, t6⟩ := hf 6 _ _ rfl rfl
  obtain ⟨m, e0, _, w0⟩ := DataW.trod_int Try.underlying22 t0
  obtain ⟨N, e4, _, w4⟩ := DataW.trod_int Try.underlying36 t4
  obtain ⟨K, e5, _, w5⟩ := DataW.trod_int Try.underlying3 t5
  obtain ⟨X, e6, _, w6⟩ := DataW.trod_int Try.underlying22 t6
  simp at e0 e4 e5 e6
  subst e0 e4 e5 e6
  obtain ⟨A, hA, lA⟩ := cells_hasP t1
  obtain ⟨B, hB, lB⟩ := cells_hasP t2
  obtain ⟨C, hC, lC⟩ := cells_hasP t3
  have b0 := bounds_u32 w0
  have b4 := bounds_u64 w4
  have b5 := bounds_i64 w5
  have b6 := bounds_u32 w6
  exact ⟨m, A, B, C, N, K, X, _, _, _, rfl, by omega, by omega, by omega, by omega, hA, hB, hC, lA, lB, lC⟩
end Go.Proofs.Ytaenjbemkeghgaa
