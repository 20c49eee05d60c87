import Derived.Test.YtfpdemmdkiohhaaGreatLZA
/- The fields of a Case of layer 4. -/
namespace Go.Proofs.YtfpdemmdkiohhaaGreat.Mo
open Go.ChangeShapes Go.WideShapes Go.ChangeAt Go.RowKit Go.Joins Go.Deep
set_option linter.unusedVariables false
set_option maxRecDepth 100000

theorem cellsCase : Tryz.prog.cellsOf 26 = 5 := by kernel_rfl
theorem cellsU : Tryz.prog.cellsOf 22 = 1 := by kernel_rfl
theorem cellsW : Tryz.prog.cellsOf 24 = 2 := by kernel_rfl
theorem cellsB : Tryz.prog.cellsOf 4 = 1 := by kernel_rfl
theorem cellsS : Tryz.prog.cellsOf 9 = 1 := by kernel_rfl
theorem five {l : List Value} (hl : l.length = 5) : ∃ x0 x1 x2 x3 x4, l = [x0, x1, x2, x3, x4] := by
  match l, hl with
  | [y0, y1, y2, y3, y4], _ => exact ⟨_, _, _, _, _, rfl⟩
theorem open_case {H : Type} {enc : TypeId × Value → H} {w : World} {base : Nat} {spare : Nat → Bool} {held : Bool} {r : Reach} {b0 : Nat} {v : Value} {d : DataW H} {p : List MemPlace}
    (hv : Value.okWide Tryz.prog w r b0 26 v) (h : DataW.Trod enc Tryz.prog w base spare held 26 v d p) :
    ∃ (A B C : List Int) (uA uB uC : Value) (neg : Bool) (s : ByteArray), v = .agg #[uA, uB, uC, .bool neg, .string s] ∧ HasP w uA A ∧ HasP w uB B ∧ HasP w uC C ∧ A.length ≤ 9223372036854775807 ∧ B.length ≤ 9223372036854775807 ∧ C.length ≤ 9223372036854775807 ∧ s.size ≤ maxLen := by
  obtain ⟨⟨l⟩, rfl, hsz⟩ := okWide_struct Tryz.underlying26 hv
  rw [cellsCase] at hsz
  obtain ⟨x0, x1, x2, x3, x4, rfl⟩ := five (l := l) (by simpa using hsz)
  obtain ⟨fuel, hr⟩ := h
  obtain ⟨xs, n, -, -, -, hlen, hall⟩ := DataW.trod_struct Tryz.underlying26 hr
  have hlen4 : xs.length = 4 := by rw [hlen]; rfl
  have h0 : DataW.trod enc Tryz.prog w base spare held n 22 (List.take (Tryz.prog.cellsOf 22) (List.drop 0 (Value.agg #[x0, x1, x2, x3, x4]).cells.toList)) = xs[0]? := hall 0 _ rfl
  have h1 : DataW.trod enc Tryz.prog w base spare held n 22 (List.take (Tryz.prog.cellsOf 22) (List.drop 1 (Value.agg #[x0, x1, x2, x3, x4]).cells.toList)) = xs[1]? := hall 1 _ rfl
  have h2 : DataW.trod enc Tryz.prog w base spare held n 22 (List.take (Tryz.prog.cellsOf 22) (List.drop 2 (Value.agg #[x0, x1, x2, x3, x4]).cells.toList)) = xs[2]? := hall 2 _ rfl
  have h3 : DataW.trod enc Tryz.prog w base spare held n 24 (List.take (Tryz.prog.cellsOf 24) (List.drop 3 (Value.agg #[x0, x1, x2, x3, x4]).cells.toList)) = xs[3]? := hall 3 _ rfl
  rw [cellsU] at h0 h1 h2
  rw [cellsW] at h3
  rw [List.getElem?_eq_getElem (by omega)] at h0 h1 h2 h3
  have e : (Value.agg #[x0, x1, x2, x3, x4]).cells.toList = [x0, x1, x2, x3, x4] := rfl
  rw [e] at h0 h1 h2 h3
  simp only [List.drop, List.take] at h0 h1 h2 h3
  obtain ⟨A, hA, lA⟩ := cells_hasP h0
  obtain ⟨B, hB, lB⟩ := cells_hasP h1
  obtain ⟨C, hC, lC⟩ := cells_hasP h2
  obtain ⟨ys, m, -, -, -, hlen2, hall2⟩ := DataW.trod_struct Tryz.underlying24 h3
  have hlen5 : ys.length = 2 := by rw [hlen2]; rfl
  have g0 : DataW.trod enc Tryz.prog w base spare held m 4 (List.take (Tryz.prog.cellsOf 4) (List.drop 0 [x3, x4])) = ys[0]? := hall2 0 _ rfl
  have g1 : DataW.trod enc Tryz.prog w base spare held m 9 (List.take (Tryz.prog.cellsOf 9) (List.drop 1 [x3, x4])) = ys[1]? := hall2 1 _ rfl
  rw [cellsB] at g0
  rw [cellsS] at g1
  rw [List.getElem?_eq_getElem (by omega)] at g0 g1
  simp only [List.drop, List.take] at g0 g1
  obtain ⟨neg, e0, _⟩ := DataW.trod_bool Tryz.underlying4 g0
  obtain ⟨s, e1, _, hs⟩ := DataW.trod_string Tryz.underlying9 g1
  simp at e0 e1
  subst e0 e1
  exact ⟨A, B, C, _, _, _, neg, s, rfl, hA, hB, hC, lA, lB, lC, hs⟩
end Go.Proofs.YtfpdemmdkiohhaaGreat.Mo
