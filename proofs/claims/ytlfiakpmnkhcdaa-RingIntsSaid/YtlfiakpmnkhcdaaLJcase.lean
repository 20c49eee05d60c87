import Derived.Test.YtlfiakpmnkhcdaaLJu
import Derived.ProofKit
import Derived.OpenShut
import Derived.Lib.SmallJoins
import Derived.Deep.Fields
import Derived.Deep.Matrix
import Derived.ChangeSlices
namespace Go.Proofs.Ytlfiakpmnkhcdaa.Mo
open Go.ChangeShapes Go.WideShapes Go.ChangeAt Go.RowKit Go.Joins Go.Deep
set_option linter.unusedVariables false
set_option maxRecDepth 100000
theorem addr_none {w : World} {a : Addr} {v : Value} (h : w.cell? (a.add 0) = some v) : ∃ g o, a = ⟨g, o, none⟩ := by
  obtain ⟨g, o, s⟩ := a
  cases s with
  | none => exact ⟨g, o, rfl⟩
  | some s =>
    have e : (⟨g, o, some s⟩ : Addr).add 0 = ⟨g, o, some s⟩ := rfl
    rw [e] at h
    simp only [World.cell?] at h
    split at h <;> simp_all
theorem cells_hasR {H : Type} {enc : TypeId × Value → H} {w : World} {base : Nat} {held : Bool} {fuel : Nat} {v : Value} {x : DataW H × List MemPlace}
    (h : DataW.trod enc Try.prog w base (fun _ => true) held fuel 26 [v] = some x) : ∃ ls : List (List Int), HasR w v ls := by
  rcases open_int_rows Try.underlying26 Try.underlying23 Try.underlying22 (by kernel_rfl) (by kernel_rfl) h with ⟨hv, _⟩ | ⟨a, len, cap, A, L, C, Z, hv, _, hl, hm, _, hr⟩
  · simp at hv
    subst hv
    exact ⟨[], HasR.nil w⟩
  · simp at hv
    subst hv
    unfold maxLen at hm
    have hlen : ((List.range len).map (fun r => (Z r).take (L r))).length = len := by simp
    refine ⟨(List.range len).map (fun r => (Z r).take (L r)), some a, cap, by rw [hlen], by rw [hlen]; exact hl, by omega, fun i hi => ?_⟩
    rw [hlen] at hi
    have e : rw_ ((List.range len).map (fun r => (Z r).take (L r))) i = (Z i).take (L i) := by simp [rw_, List.getD_eq_getElem?_getD, hi]
    obtain ⟨g, o, rfl⟩ := addr_none (hr 0 (by omega)).1
    obtain ⟨h1, h2, h3, h4, h5, h6, h7⟩ := hr i (by omega)
    have e2 : (⟨g, o, none⟩ : Addr).add i = ⟨g, o + i, none⟩ := addr_add rfl _ rfl
    rw [e2] at h1
    have hl2 : ((Z i).take (L i)).length = L i := by rw [List.length_take, h4]; omega
    unfold maxLen at h3
    rw [e, hl2]
    refine ⟨g, o, A i, C i, rfl, Nat.zero_le _, World.block_lt_of_cell? _ _ h1, h1, ?_, fun h0 p hp => ⟨Nat.zero_le _, ?_⟩⟩
    · refine ⟨fun y hy => ?_, A i, C i, by rw [hl2], by rw [hl2]; exact h2, by omega, fun j hj => ?_⟩
      · have := bounds_u32 (h5 y (List.mem_of_mem_take hy))
        omega
      · rw [hl2] at hj
        obtain ⟨a', ha'⟩ : ∃ a', A i = some a' := by
          cases hA : A i with
          | none => have := h6 hA; omega
          | some a' => exact ⟨a', rfl⟩
        have h8 := (h7 a' ha').2
        obtain ⟨g', o', rfl⟩ := addr_none (h8 0 (by omega))
        refine ⟨g', o', ha', ?_⟩
        have h9 := h8 j (by omega)
        have e3 : (⟨g', o', none⟩ : Addr).add j = ⟨g', o' + j, none⟩ := addr_add rfl _ rfl
        rw [e3] at h9
        rw [h9, Op.cf_take, if_pos hj, ← Op.cf_at]
        simp [List.getD_eq_getElem?_getD]
    · have h9 := (h7 p hp).2 0 (by omega)
      have := World.block_lt_of_cell? _ _ h9
      exact this
theorem cells_hasQ {H : Type} {enc : TypeId × Value → H} {w : World} {base : Nat} {spare : Nat → Bool} {held : Bool} {fuel : Nat} {v : Value} {x : DataW H × List MemPlace}
    (h : DataW.trod enc Try.prog w base spare held fuel 29 [v] = some x) : ∃ l : List Int, Lo.HasQ w v l ∧ l.length ≤ 9223372036854775807 := by
  rcases open_ints Try.underlying29 Try.underlying2 (by kernel_rfl) h with ⟨hv, _⟩ | ⟨a, len, cap, zs, hv, _, hl, hm, hz, _, hc, hw⟩
  · simp at hv
    subst hv
    exact ⟨[], Lo.HasQ.nil w, by simp⟩
  · simp at hv
    subst hv
    have hlz : len ≤ zs.length := by rw [hz]; split <;> omega
    have hlen : (zs.take len).length = len := by rw [List.length_take]; omega
    unfold maxLen at hm
    refine ⟨zs.take len, ⟨fun y hy => ?_, some a, cap, by rw [hlen], by rw [hlen]; exact hl, by omega, fun i hi => ?_⟩, by rw [hlen]; omega⟩
    · have := bounds_i64 (hw y (List.mem_of_mem_take hy))
      omega
    · rw [hlen] at hi
      have h0 := hc 0 (by omega)
      obtain ⟨g, o, s⟩ := a
      have hs : s = none := by
        cases s with
        | none => rfl
        | some s =>
          have e : (⟨g, o, some s⟩ : Addr).add 0 = ⟨g, o, some s⟩ := rfl
          rw [e] at h0
          simp only [World.cell?] at h0
          split at h0 <;> simp_all
      subst hs
      refine ⟨g, o, rfl, ?_⟩
      have hci := hc i (by omega)
      have e2 : (⟨g, o, none⟩ : Addr).add i = ⟨g, o + i, none⟩ := addr_add rfl _ rfl
      rw [e2] at hci
      rw [hci, Op.cf_take, if_pos hi, ← Op.cf_at]; rfl
theorem c9Ca : Try.prog.cellsOf 31 = 18 := by kernel_rfl
theorem c9Pa : Try.prog.cellsOf 25 = 7 := by kernel_rfl
theorem c9El : Try.prog.cellsOf 28 = 3 := by kernel_rfl
theorem c9I : Try.prog.cellsOf 3 = 1 := by kernel_rfl
theorem c9U : Try.prog.cellsOf 22 = 1 := by kernel_rfl
theorem c9Us : Try.prog.cellsOf 23 = 1 := by kernel_rfl
theorem c9Uss : Try.prog.cellsOf 26 = 1 := by kernel_rfl
theorem c9B : Try.prog.cellsOf 4 = 1 := by kernel_rfl
theorem c9L : Try.prog.cellsOf 2 = 1 := by kernel_rfl
theorem c9Ls : Try.prog.cellsOf 29 = 1 := by kernel_rfl
theorem eighteen {l : List Value} (hl : l.length = 18) : ∃ x0 x1 x2 x3 x4 x5 x6 x7 x8 x9 x10 x11 x12 x13 x14 x15 x16 x17, l = [x0, x1, x2, x3, x4, x5, x6, x7, x8, x9, x10, x11, x12, x13, x14, x15, x16, x17] := by
  match l, hl with
  | [y0, y1, y2, y3, y4, y5, y6, y7, y8, y9, y10, y11, y12, y13, y14, y15, y16, y17], _ => exact ⟨_, _, _, _, _, _, _, _, _, _, _, _, _, _, _, _, _, _, rfl⟩
set_option maxHeartbeats 2000000 in
theorem open_case9 {H : Type} {enc : TypeId × Value → H} {w : World} {base : Nat} {held : Bool} {r : Reach} {b0 : Nat} {v : Value} {d : DataW H} {p : List MemPlace}
    (hv : Value.okWide Try.prog w r b0 31 v) (h : DataW.Trod enc Try.prog w base (fun _ => true) held 31 v d p) :
    ∃ (N p1 p2 : Int) (uC : Value) (ch : List Int) (S p5 p6 lvA : Int) (spA : Bool) (uA : Value) (rA : List (List Int)) (lvB : Int) (spB : Bool) (uB : Value) (rB : List (List Int)) (n k lv : Int) (sp : Bool) (xL : Option Addr) (nL cL : Nat) (l : List Int),
      v = .agg (csC N p1 p2 uC S p5 p6 lvA spA uA lvB spB uB n k lv sp (.slice xL nL cL)) ∧ HasP w uC ch ∧ (0 ≤ S ∧ S < 4294967296) ∧ HasR w uA rA ∧ HasR w uB rB ∧ isW n ∧ isW k ∧ Lo.HasQ w (.slice xL nL cL) l := by
  obtain ⟨⟨l⟩, rfl, hsz⟩ := okWide_struct Try.underlying31 hv
  rw [c9Ca] at hsz
  obtain ⟨x0, x1, x2, x3, x4, x5, x6, x7, x8, x9, x10, x11, x12, x13, x14, x15, x16, x17, rfl⟩ := eighteen (l := l) (by simpa using hsz)
  obtain ⟨fuel, hr⟩ := h
  obtain ⟨xs, m, -, -, -, hlen, hall⟩ := DataW.trod_struct Try.underlying31 hr
  have hlen8 : xs.length = 8 := by rw [hlen]; rfl
  have e : (Value.agg #[x0, x1, x2, x3, x4, x5, x6, x7, x8, x9, x10, x11, x12, x13, x14, x15, x16, x17]).cells.toList = [x0, x1, x2, x3, x4, x5, x6, x7, x8, x9, x10, x11, x12, x13, x14, x15, x16, x17] := rfl
  have h0 : DataW.trod enc Try.prog w base (fun _ => true) held m 25 (List.take (Try.prog.cellsOf 25) (List.drop 0 (Value.agg #[x0, x1, x2, x3, x4, x5, x6, x7, x8, x9, x10, x11, x12, x13, x14, x15, x16, x17]).cells.toList)) = xs[0]? := hall 0 _ rfl
  rw [c9Pa, e, List.getElem?_eq_getElem (by omega)] at h0
  simp only [List.drop, List.take] at h0
  have h1 : DataW.trod enc Try.prog w base (fun _ => true) held m 28 (List.take (Try.prog.cellsOf 28) (List.drop 7 (Value.agg #[x0, x1, x2, x3, x4, x5, x6, x7, x8, x9, x10, x11, x12, x13, x14, x15, x16, x17]).cells.toList)) = xs[1]? := hall 1 _ rfl
  rw [c9El, e, List.getElem?_eq_getElem (by omega)] at h1
  simp only [List.drop, List.take] at h1
  have h2 : DataW.trod enc Try.prog w base (fun _ => true) held m 28 (List.take (Try.prog.cellsOf 28) (List.drop 10 (Value.agg #[x0, x1, x2, x3, x4, x5, x6, x7, x8, x9, x10, x11, x12, x13, x14, x15, x16, x17]).cells.toList)) = xs[2]? := hall 2 _ rfl
  rw [c9El, e, List.getElem?_eq_getElem (by omega)] at h2
  simp only [List.drop, List.take] at h2
  have h3 : DataW.trod enc Try.prog w base (fun _ => true) held m 2 (List.take (Try.prog.cellsOf 2) (List.drop 13 (Value.agg #[x0, x1, x2, x3, x4, x5, x6, x7, x8, x9, x10, x11, x12, x13, x14, x15, x16, x17]).cells.toList)) = xs[3]? := hall 3 _ rfl
  rw [c9L, e, List.getElem?_eq_getElem (by omega)] at h3
  simp only [List.drop, List.take] at h3
  have h4 : DataW.trod enc Try.prog w base (fun _ => true) held m 3 (List.take (Try.prog.cellsOf 3) (List.drop 14 (Value.agg #[x0, x1, x2, x3, x4, x5, x6, x7, x8, x9, x10, x11, x12, x13, x14, x15, x16, x17]).cells.toList)) = xs[4]? := hall 4 _ rfl
  rw [c9I, e, List.getElem?_eq_getElem (by omega)] at h4
  simp only [List.drop, List.take] at h4
  have h5 : DataW.trod enc Try.prog w base (fun _ => true) held m 3 (List.take (Try.prog.cellsOf 3) (List.drop 15 (Value.agg #[x0, x1, x2, x3, x4, x5, x6, x7, x8, x9, x10, x11, x12, x13, x14, x15, x16, x17]).cells.toList)) = xs[5]? := hall 5 _ rfl
  rw [c9I, e, List.getElem?_eq_getElem (by omega)] at h5
  simp only [List.drop, List.take] at h5
  have h6 : DataW.trod enc Try.prog w base (fun _ => true) held m 4 (List.take (Try.prog.cellsOf 4) (List.drop 16 (Value.agg #[x0, x1, x2, x3, x4, x5, x6, x7, x8, x9, x10, x11, x12, x13, x14, x15, x16, x17]).cells.toList)) = xs[6]? := hall 6 _ rfl
  rw [c9B, e, List.getElem?_eq_getElem (by omega)] at h6
  simp only [List.drop, List.take] at h6
  have h7 : DataW.trod enc Try.prog w base (fun _ => true) held m 29 (List.take (Try.prog.cellsOf 29) (List.drop 17 (Value.agg #[x0, x1, x2, x3, x4, x5, x6, x7, x8, x9, x10, x11, x12, x13, x14, x15, x16, x17]).cells.toList)) = xs[7]? := hall 7 _ rfl
  rw [c9Ls, e, List.getElem?_eq_getElem (by omega)] at h7
  simp only [List.drop, List.take] at h7
  obtain ⟨ys0, m0, -, -, -, hl0, ha0⟩ := DataW.trod_struct Try.underlying25 h0
  have hk0 : ys0.length = 7 := by rw [hl0]; rfl
  have g0_0 : DataW.trod enc Try.prog w base (fun _ => true) held m0 3 (List.take (Try.prog.cellsOf 3) (List.drop 0 [x0, x1, x2, x3, x4, x5, x6])) = ys0[0]? := ha0 0 _ rfl
  rw [c9I, List.getElem?_eq_getElem (by omega)] at g0_0
  simp only [List.drop, List.take] at g0_0
  have g0_1 : DataW.trod enc Try.prog w base (fun _ => true) held m0 22 (List.take (Try.prog.cellsOf 22) (List.drop 1 [x0, x1, x2, x3, x4, x5, x6])) = ys0[1]? := ha0 1 _ rfl
  rw [c9U, List.getElem?_eq_getElem (by omega)] at g0_1
  simp only [List.drop, List.take] at g0_1
  have g0_2 : DataW.trod enc Try.prog w base (fun _ => true) held m0 3 (List.take (Try.prog.cellsOf 3) (List.drop 2 [x0, x1, x2, x3, x4, x5, x6])) = ys0[2]? := ha0 2 _ rfl
  rw [c9I, List.getElem?_eq_getElem (by omega)] at g0_2
  simp only [List.drop, List.take] at g0_2
  have g0_3 : DataW.trod enc Try.prog w base (fun _ => true) held m0 23 (List.take (Try.prog.cellsOf 23) (List.drop 3 [x0, x1, x2, x3, x4, x5, x6])) = ys0[3]? := ha0 3 _ rfl
  rw [c9Us, List.getElem?_eq_getElem (by omega)] at g0_3
  simp only [List.drop, List.take] at g0_3
  have g0_4 : DataW.trod enc Try.prog w base (fun _ => true) held m0 22 (List.take (Try.prog.cellsOf 22) (List.drop 4 [x0, x1, x2, x3, x4, x5, x6])) = ys0[4]? := ha0 4 _ rfl
  rw [c9U, List.getElem?_eq_getElem (by omega)] at g0_4
  simp only [List.drop, List.take] at g0_4
  have g0_5 : DataW.trod enc Try.prog w base (fun _ => true) held m0 3 (List.take (Try.prog.cellsOf 3) (List.drop 5 [x0, x1, x2, x3, x4, x5, x6])) = ys0[5]? := ha0 5 _ rfl
  rw [c9I, List.getElem?_eq_getElem (by omega)] at g0_5
  simp only [List.drop, List.take] at g0_5
  have g0_6 : DataW.trod enc Try.prog w base (fun _ => true) held m0 22 (List.take (Try.prog.cellsOf 22) (List.drop 6 [x0, x1, x2, x3, x4, x5, x6])) = ys0[6]? := ha0 6 _ rfl
  rw [c9U, List.getElem?_eq_getElem (by omega)] at g0_6
  simp only [List.drop, List.take] at g0_6
  obtain ⟨ys1, m1, -, -, -, hl1, ha1⟩ := DataW.trod_struct Try.underlying28 h1
  have hk1 : ys1.length = 3 := by rw [hl1]; rfl
  have g1_0 : DataW.trod enc Try.prog w base (fun _ => true) held m1 3 (List.take (Try.prog.cellsOf 3) (List.drop 0 [x7, x8, x9])) = ys1[0]? := ha1 0 _ rfl
  rw [c9I, List.getElem?_eq_getElem (by omega)] at g1_0
  simp only [List.drop, List.take] at g1_0
  have g1_1 : DataW.trod enc Try.prog w base (fun _ => true) held m1 4 (List.take (Try.prog.cellsOf 4) (List.drop 1 [x7, x8, x9])) = ys1[1]? := ha1 1 _ rfl
  rw [c9B, List.getElem?_eq_getElem (by omega)] at g1_1
  simp only [List.drop, List.take] at g1_1
  have g1_2 : DataW.trod enc Try.prog w base (fun _ => true) held m1 26 (List.take (Try.prog.cellsOf 26) (List.drop 2 [x7, x8, x9])) = ys1[2]? := ha1 2 _ rfl
  rw [c9Uss, List.getElem?_eq_getElem (by omega)] at g1_2
  simp only [List.drop, List.take] at g1_2
  obtain ⟨ys2, m2, -, -, -, hl2, ha2⟩ := DataW.trod_struct Try.underlying28 h2
  have hk2 : ys2.length = 3 := by rw [hl2]; rfl
  have g2_0 : DataW.trod enc Try.prog w base (fun _ => true) held m2 3 (List.take (Try.prog.cellsOf 3) (List.drop 0 [x10, x11, x12])) = ys2[0]? := ha2 0 _ rfl
  rw [c9I, List.getElem?_eq_getElem (by omega)] at g2_0
  simp only [List.drop, List.take] at g2_0
  have g2_1 : DataW.trod enc Try.prog w base (fun _ => true) held m2 4 (List.take (Try.prog.cellsOf 4) (List.drop 1 [x10, x11, x12])) = ys2[1]? := ha2 1 _ rfl
  rw [c9B, List.getElem?_eq_getElem (by omega)] at g2_1
  simp only [List.drop, List.take] at g2_1
  have g2_2 : DataW.trod enc Try.prog w base (fun _ => true) held m2 26 (List.take (Try.prog.cellsOf 26) (List.drop 2 [x10, x11, x12])) = ys2[2]? := ha2 2 _ rfl
  rw [c9Uss, List.getElem?_eq_getElem (by omega)] at g2_2
  simp only [List.drop, List.take] at g2_2
  obtain ⟨N, e_N, _, w_N⟩ := DataW.trod_int Try.underlying3 g0_0
  simp at e_N
  subst e_N
  obtain ⟨p1, e_p1, _, w_p1⟩ := DataW.trod_int Try.underlying22 g0_1
  simp at e_p1
  subst e_p1
  obtain ⟨p2, e_p2, _, w_p2⟩ := DataW.trod_int Try.underlying3 g0_2
  simp at e_p2
  subst e_p2
  obtain ⟨ch, hC, _⟩ := cells_hasP g0_3
  obtain ⟨S, e_S, _, w_S⟩ := DataW.trod_int Try.underlying22 g0_4
  simp at e_S
  subst e_S
  obtain ⟨p5, e_p5, _, w_p5⟩ := DataW.trod_int Try.underlying3 g0_5
  simp at e_p5
  subst e_p5
  obtain ⟨p6, e_p6, _, w_p6⟩ := DataW.trod_int Try.underlying22 g0_6
  simp at e_p6
  subst e_p6
  have bS := bounds_u32 w_S
  obtain ⟨lvA, e_lvA, _, w_lvA⟩ := DataW.trod_int Try.underlying3 g1_0
  simp at e_lvA
  subst e_lvA
  obtain ⟨spA, e_spA, _⟩ := DataW.trod_bool Try.underlying4 g1_1
  simp at e_spA
  subst e_spA
  obtain ⟨rA, hA⟩ := cells_hasR g1_2
  obtain ⟨lvB, e_lvB, _, w_lvB⟩ := DataW.trod_int Try.underlying3 g2_0
  simp at e_lvB
  subst e_lvB
  obtain ⟨spB, e_spB, _⟩ := DataW.trod_bool Try.underlying4 g2_1
  simp at e_spB
  subst e_spB
  obtain ⟨rB, hB⟩ := cells_hasR g2_2
  obtain ⟨n, e_n, _, w_n⟩ := DataW.trod_int Try.underlying2 h3
  simp at e_n
  subst e_n
  obtain ⟨k, e_k, _, w_k⟩ := DataW.trod_int Try.underlying3 h4
  simp at e_k
  subst e_k
  obtain ⟨lv, e_lv, _, w_lv⟩ := DataW.trod_int Try.underlying3 h5
  simp at e_lv
  subst e_lv
  obtain ⟨sp, e_sp, _⟩ := DataW.trod_bool Try.underlying4 h6
  simp at e_sp
  subst e_sp
  have bn := bounds_i64 w_n
  have bk := bounds_i64 w_k
  obtain ⟨l, hL, _⟩ := cells_hasQ h7
  obtain ⟨-, xL, cL, rfl, -⟩ := id hL
  exact ⟨N, p1, p2, _, ch, S, p5, p6, lvA, spA, _, rA, lvB, spB, _, rB, n, k, lv, sp, xL, _, cL, l, rfl, hC, by omega, hA, hB, by unfold isW; omega, by unfold isW; omega, hL⟩
end Go.Proofs.Ytlfiakpmnkhcdaa.Mo
