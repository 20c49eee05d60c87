import Derived.Test.YtlfiakpmnkhcdaaGreatLJz
import Derived.Test.YtlfiakpmnkhcdaaGreatLJcase
/- The law RingLaws returns true for every input, and leaves its arguments as they were. Conditions: none. -/
namespace Go.Proofs.YtlfiakpmnkhcdaaGreat.ringLaws
open Go.Proofs.YtlfiakpmnkhcdaaGreat.Mo Go.ChangeShapes Go.WideShapes Go.ChangeAt Go.RowKit Go.Joins Go.Deep
set_option linter.unusedVariables false
set_option maxRecDepth 100000

theorem okWide_arr {P : Program} {w : World} {r : Reach} {base : Nat} {t : TypeId} {v : Value} {n : Nat} {e : TypeId} (ht : P.underlying t = some (.array n e)) (h : Value.okWide P w r base t v) : ∃ cs, v = .agg cs ∧ cs.size = P.cellsOf t := by
  simp only [Value.okWide, ht] at h
  obtain ⟨cs, h1, h2, _⟩ := h
  exact ⟨cs, h1, h2⟩
theorem c9Ar : Tryz.prog.cellsOf 53 = 9 := by kernel_rfl
theorem seven {l : List Value} (hl : l.length = 7) : ∃ x0 x1 x2 x3 x4 x5 x6, l = [x0, x1, x2, x3, x4, x5, x6] := by
  match l, hl with
  | [y0, y1, y2, y3, y4, y5, y6], _ => exact ⟨_, _, _, _, _, _, _, rfl⟩
theorem nine {l : List Value} (hl : l.length = 9) : ∃ x0 x1 x2 x3 x4 x5 x6 x7 x8, l = [x0, x1, x2, x3, x4, x5, x6, x7, x8] := by
  match l, hl with
  | [y0, y1, y2, y3, y4, y5, y6, y7, y8], _ => exact ⟨_, _, _, _, _, _, _, _, _, rfl⟩
section
variable {H : Type} {enc : TypeId × Value → H} {w : World} {base : Nat} {held : Bool}
theorem cells_elem {fuel : Nat} {x0 x1 x2 : Value} {x : DataW H × List MemPlace} (h : DataW.trod enc Tryz.prog w base (fun _ => true) held fuel 28 [x0, x1, x2] = some x) : ∃ (lv : Int) (sp : Bool) (rows : List (List Int)), x0 = .int .i64 lv ∧ x1 = .bool sp ∧ HasR w x2 rows := by
  obtain ⟨ys1, m1, -, -, -, hl1, ha1⟩ := DataW.trod_struct Tryz.underlying28 h
  have hk1 : ys1.length = 3 := by rw [hl1]; rfl
  have g1_0 : DataW.trod enc Tryz.prog w base (fun _ => true) held m1 3 (List.take (Tryz.prog.cellsOf 3) (List.drop 0 [x0, x1, x2])) = ys1[0]? := ha1 0 _ rfl
  rw [c9I, List.getElem?_eq_getElem (by omega)] at g1_0
  simp only [List.drop, List.take] at g1_0
  have g1_1 : DataW.trod enc Tryz.prog w base (fun _ => true) held m1 4 (List.take (Tryz.prog.cellsOf 4) (List.drop 1 [x0, x1, x2])) = ys1[1]? := ha1 1 _ rfl
  rw [c9B, List.getElem?_eq_getElem (by omega)] at g1_1
  simp only [List.drop, List.take] at g1_1
  have g1_2 : DataW.trod enc Tryz.prog w base (fun _ => true) held m1 26 (List.take (Tryz.prog.cellsOf 26) (List.drop 2 [x0, x1, x2])) = ys1[2]? := ha1 2 _ rfl
  rw [c9Uss, List.getElem?_eq_getElem (by omega)] at g1_2
  simp only [List.drop, List.take] at g1_2
  obtain ⟨lvA, e_lvA, _, w_lvA⟩ := DataW.trod_int Tryz.underlying3 g1_0
  simp at e_lvA
  subst e_lvA
  obtain ⟨spA, e_spA, _⟩ := DataW.trod_bool Tryz.underlying4 g1_1
  simp at e_spA
  subst e_spA
  obtain ⟨rA, hA⟩ := cells_hasR g1_2
  exact ⟨lvA, spA, rA, rfl, rfl, hA⟩
theorem open_params {r : Reach} {b0 : Nat} {v : Value} {d : DataW H} {p : List MemPlace}
    (hv : Value.okWide Tryz.prog w r b0 25 v) (h : DataW.Trod enc Tryz.prog w base (fun _ => true) held 25 v d p) :
    ∃ (N p1 p2 : Int) (uC : Value) (ch : List Int) (S p5 p6 : Int), v = .agg #[.int .i64 N, .int .u32 p1, .int .i64 p2, uC, .int .u32 S, .int .i64 p5, .int .u32 p6] ∧ HasP w uC ch ∧ (0 ≤ S ∧ S < 4294967296) := by
  obtain ⟨⟨l⟩, rfl, hsz⟩ := okWide_struct Tryz.underlying25 hv
  rw [c9Pa] at hsz
  obtain ⟨x0, x1, x2, x3, x4, x5, x6, rfl⟩ := seven (l := l) (by simpa using hsz)
  obtain ⟨fuel, hr⟩ := h
  obtain ⟨ys0, m0, -, -, -, hl0, ha0⟩ := DataW.trod_struct Tryz.underlying25 hr
  have e : (Value.agg #[x0, x1, x2, x3, x4, x5, x6]).cells.toList = [x0, x1, x2, x3, x4, x5, x6] := rfl
  rw [e] at ha0
  have hk0 : ys0.length = 7 := by rw [hl0]; rfl
  have g0_0 : DataW.trod enc Tryz.prog w base (fun _ => true) held m0 3 (List.take (Tryz.prog.cellsOf 3) (List.drop 0 [x0, x1, x2, x3, x4, x5, x6])) = ys0[0]? := ha0 0 _ rfl
  rw [c9I, List.getElem?_eq_getElem (by omega)] at g0_0
  simp only [List.drop, List.take] at g0_0
  have g0_1 : DataW.trod enc Tryz.prog w base (fun _ => true) held m0 22 (List.take (Tryz.prog.cellsOf 22) (List.drop 1 [x0, x1, x2, x3, x4, x5, x6])) = ys0[1]? := ha0 1 _ rfl
  rw [c9U, List.getElem?_eq_getElem (by omega)] at g0_1
  simp only [List.drop, List.take] at g0_1
  have g0_2 : DataW.trod enc Tryz.prog w base (fun _ => true) held m0 3 (List.take (Tryz.prog.cellsOf 3) (List.drop 2 [x0, x1, x2, x3, x4, x5, x6])) = ys0[2]? := ha0 2 _ rfl
  rw [c9I, List.getElem?_eq_getElem (by omega)] at g0_2
  simp only [List.drop, List.take] at g0_2
  have g0_3 : DataW.trod enc Tryz.prog w base (fun _ => true) held m0 23 (List.take (Tryz.prog.cellsOf 23) (List.drop 3 [x0, x1, x2, x3, x4, x5, x6])) = ys0[3]? := ha0 3 _ rfl
  rw [c9Us, List.getElem?_eq_getElem (by omega)] at g0_3
  simp only [List.drop, List.take] at g0_3
  have g0_4 : DataW.trod enc Tryz.prog w base (fun _ => true) held m0 22 (List.take (Tryz.prog.cellsOf 22) (List.drop 4 [x0, x1, x2, x3, x4, x5, x6])) = ys0[4]? := ha0 4 _ rfl
  rw [c9U, List.getElem?_eq_getElem (by omega)] at g0_4
  simp only [List.drop, List.take] at g0_4
  have g0_5 : DataW.trod enc Tryz.prog w base (fun _ => true) held m0 3 (List.take (Tryz.prog.cellsOf 3) (List.drop 5 [x0, x1, x2, x3, x4, x5, x6])) = ys0[5]? := ha0 5 _ rfl
  rw [c9I, List.getElem?_eq_getElem (by omega)] at g0_5
  simp only [List.drop, List.take] at g0_5
  have g0_6 : DataW.trod enc Tryz.prog w base (fun _ => true) held m0 22 (List.take (Tryz.prog.cellsOf 22) (List.drop 6 [x0, x1, x2, x3, x4, x5, x6])) = ys0[6]? := ha0 6 _ rfl
  rw [c9U, List.getElem?_eq_getElem (by omega)] at g0_6
  simp only [List.drop, List.take] at g0_6
  obtain ⟨N, e_N, _, w_N⟩ := DataW.trod_int Tryz.underlying3 g0_0
  simp at e_N
  subst e_N
  obtain ⟨p1, e_p1, _, w_p1⟩ := DataW.trod_int Tryz.underlying22 g0_1
  simp at e_p1
  subst e_p1
  obtain ⟨p2, e_p2, _, w_p2⟩ := DataW.trod_int Tryz.underlying3 g0_2
  simp at e_p2
  subst e_p2
  obtain ⟨ch, hC, _⟩ := cells_hasP g0_3
  obtain ⟨S, e_S, _, w_S⟩ := DataW.trod_int Tryz.underlying22 g0_4
  simp at e_S
  subst e_S
  obtain ⟨p5, e_p5, _, w_p5⟩ := DataW.trod_int Tryz.underlying3 g0_5
  simp at e_p5
  subst e_p5
  obtain ⟨p6, e_p6, _, w_p6⟩ := DataW.trod_int Tryz.underlying22 g0_6
  simp at e_p6
  subst e_p6
  have bS := bounds_u32 w_S
  exact ⟨N, p1, p2, _, ch, S, p5, p6, rfl, hC, by omega⟩
theorem open_three {r : Reach} {b0 : Nat} {v : Value} {d : DataW H} {p : List MemPlace}
    (hv : Value.okWide Tryz.prog w r b0 53 v) (h : DataW.Trod enc Tryz.prog w base (fun _ => true) held 53 v d p) :
    ∃ (lvA : Int) (spA : Bool) (uA : Value) (rA : List (List Int)) (lvB : Int) (spB : Bool) (uB : Value) (rB : List (List Int)) (lvC : Int) (spC : Bool) (uC : Value) (rC : List (List Int)), v = .agg #[.int .i64 lvA, .bool spA, uA, .int .i64 lvB, .bool spB, uB, .int .i64 lvC, .bool spC, uC] ∧ HasR w uA rA ∧ HasR w uB rB ∧ HasR w uC rC := by
  obtain ⟨⟨l⟩, rfl, hsz⟩ := okWide_arr Tryz.underlying53 hv
  rw [c9Ar] at hsz
  obtain ⟨x0, x1, x2, x3, x4, x5, x6, x7, x8, rfl⟩ := nine (l := l) (by simpa using hsz)
  obtain ⟨fuel, hr⟩ := h
  obtain ⟨xs, m, -, -, -, hl, ha⟩ := DataW.trod_array Tryz.underlying53 hr
  have e : (Value.agg #[x0, x1, x2, x3, x4, x5, x6, x7, x8]).cells.toList = [x0, x1, x2, x3, x4, x5, x6, x7, x8] := rfl
  rw [e] at ha
  have h0 := ha 0 (by omega)
  rw [c9El, List.getElem?_eq_getElem (by omega)] at h0
  simp only [List.drop, List.take] at h0
  have h1 := ha 1 (by omega)
  rw [c9El, List.getElem?_eq_getElem (by omega)] at h1
  simp only [List.drop, List.take] at h1
  have h2 := ha 2 (by omega)
  rw [c9El, List.getElem?_eq_getElem (by omega)] at h2
  simp only [List.drop, List.take] at h2
  obtain ⟨lvA, spA, rA, rfl, rfl, hA⟩ := cells_elem h0
  obtain ⟨lvB, spB, rB, rfl, rfl, hB⟩ := cells_elem h1
  obtain ⟨lvC, spC, rC, rfl, rfl, hC⟩ := cells_elem h2
  exact ⟨lvA, spA, _, rA, lvB, spB, _, rB, lvC, spC, _, rC, rfl, hA, hB, hC⟩
end
theorem lifted (os : Os) (started : os.Started) (H : Type) (enc : TypeId × Value → H) :
    ReturnsInHanded {} Tryz.checked os 6 .any (Rows.ringLawsSpec.pre6 enc Tryz.prog Tryz.f6 Rows.ringLawsRow.domain false) (Rows.ringLawsSpec.post enc Tryz.prog Tryz.f6 false true false false) := by
  refine returnsInHanded_of_change (C := Tryz.checked) own started (by kernel_rfl) Tryz.func6
    (ChangeSpec.witness6 (enc := enc) (C := Tryz.checked) false ⟨#[], #[.agg #[.int .i64 0, .int .u32 0, .int .i64 0, .slice none 0 0, .int .u32 0, .int .i64 0, .int .u32 0], .agg #[.int .i64 0, .bool false, .slice none 0 0, .int .i64 0, .bool false, .slice none 0 0, .int .i64 0, .bool false, .slice none 0 0]], []⟩ 8 (by kernel_rfl) (by kernel_rfl) (by kernel_rfl) (by kernel_rfl)) ?_
  intro W base args ds gs before hval0 hW hcnd _
  have hval : ∀ (j : Nat) t v, Tryz.f6.params[j]? = some t → args[j]? = some v → Value.okWide Tryz.prog W .any base t v := hval0
  have hW' := hW
  obtain ⟨p, q, hA0, hV, rfl, hfz, hnd⟩ := hW
  have hA : DataW.TrodAll enc Tryz.prog W 0 (fun _ => true) true Tryz.f6.params.toList args.toList ds p := hA0
  rw [Tryz.params6] at hA hval
  obtain ⟨v0, vs0, d0, ds0, p0, q0, hargs, rfl, rfl, h0, r0⟩ := trodAll_cons hA
  obtain ⟨v1, vs1, d1, ds1, p1, q1, rfl, rfl, rfl, h1, r1⟩ := trodAll_cons r0
  obtain ⟨rfl, rfl, rfl⟩ := trodAll_nil r1
  obtain rfl : args = #[v0, v1] := by cases args; simp_all
  obtain ⟨rfl, rfl⟩ := trodVars_none hV
  have k0 := h0
  have lt0 : ∀ x ∈ p0, x.block < W.heap.size := by obtain ⟨m, hm⟩ := k0; exact DataW.trod_lt m _ _ _ hm
  have k1 := h1
  have lt1 : ∀ x ∈ p1, x.block < W.heap.size := by obtain ⟨m, hm⟩ := k1; exact DataW.trod_lt m _ _ _ hm
  obtain ⟨N, p1', p2', uC, ch, S, p5, p6, rfl, hC, hS⟩ := open_params (hval 0 25 v0 rfl rfl) h0
  obtain ⟨lvA, spA, uA, rA, lvB, spB, uB, rB, lvC, spC, uC3, rC, rfl, hAA, hBB, hCC⟩ := open_three (hval 1 53 v1 rfl rfl) h1
  clear hA0 hval0
  refine (laws9_all N p1' p2' uC ch S p5 p6 lvA spA uA rA lvB spB uB rB lvC spC uC3 rC W hC hS hAA hBB hCC).mono fun e W' ⟨he, bel⟩ => ?_
  subst he
  exact ⟨_, rfl, _, _, _, [], _, [], hW', trodAll_mk1 (shut_bool Tryz.underlying4 _), (trodAll_cons_mk (Below.trod laidOut (by kernel_rfl) (of_decide_eq_true (by kernel_rfl)) k0 bel lt0) (trodAll_cons_mk (Below.trod laidOut (by kernel_rfl) (of_decide_eq_true (by kernel_rfl)) k1 bel lt1) trodAll_mk0)), rfl, Below.frame bel _, fun h => by cases h⟩

theorem over : Rows.ringLawsRow.holds Tryz.pinned (OpenSpec.ofChange Rows.ringLawsSpec) :=
  OpenClaim.holds_of_wide 6 Tryz.f6 rfl rfl rfl rfl rfl rfl rfl ⟨rfl, rfl, rfl, rfl, rfl⟩ rfl rfl rfl rfl rfl (by kernel_rfl) Tryz.func6 (by kernel_rfl)
    (of_decide_eq_true (by kernel_rfl)) (by unfold Func.isWrapper; first | (rw [if_pos (by decide +kernel)]; kernel_rfl) | (rw [if_neg (by decide +kernel)]; exact ⟨rfl, rfl⟩))
    (fun os started H enc _ => lifted os started H enc)

theorem proved : Rows.RingLawsSaid := over
end Go.Proofs.YtlfiakpmnkhcdaaGreat.ringLaws
