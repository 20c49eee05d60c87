/- The law WideTexts. -/
import Derived.Test.YtgalgldnhdiggaaDoorPQj
import Derived.Test.YtgalgldnhdiggaaDoorPForml
namespace Go.Proofs.YtgalgldnhdiggaaDoor
open Go.RowKit
set_option linter.unusedVariables false

theorem readres_both {neg : Bool} {t : List UInt8} {f g : FuncId} {v : Array Value} (h1 : ∀ W, Calls Tryd.prog f v W (ReadRes neg t W)) (h2 : ∀ W, Calls Tryd.prog g v W (ReadRes neg t W)) :
    ∃ (A : Bool) (S : ByteArray) (C : Int), (∀ W, Calls Tryd.prog f v W (Res A S C W)) ∧ (∀ W, Calls Tryd.prog g v W (Res A S C W)) := by
  by_cases h : Good neg t
  · refine ⟨fNeg (sg neg (Ow.dval t)), fStr (sg neg (Ow.dval t)), fErr (sg neg (Ow.dval t)), fun W => (h1 W).mono ?_, fun W => (h2 W).mono ?_⟩
    all_goals
      rintro e w' (⟨_, h3⟩ | ⟨h3, _⟩)
      · exact h3
      · exact absurd h h3
  · refine ⟨false, ⟨#[]⟩, 6, fun W => (h1 W).mono ?_, fun W => (h2 W).mono ?_⟩
    all_goals
      rintro e w' (⟨h3, _⟩ | ⟨_, h3⟩)
      · exact absurd h3 h
      · exact h3
theorem read_both (S : ByteArray) (hS : S.size ≤ 100000) :
    ∃ (A : Bool) (T : ByteArray) (C : Int), (∀ W, Calls Tryd.prog 16 #[.string S] W (Res A T C W)) ∧ (∀ W, Calls Tryd.prog 17 #[.string S] W (Res A T C W)) := by
  have e : S = ⟨S.data.toList.toArray⟩ := by apply ByteArray.ext; simp
  have hl : S.data.toList.length ≤ 100000 := by rw [list_len]; exact hS
  generalize S.data.toList = l at e hl
  subst e
  exact readres_both (fun W => read_any l W hl) (fun W => rread_any l W hl)
theorem text_both (neg : Bool) (s : ByteArray) (hs : s.size ≤ 9223372036854775807) :
    ∃ (T : ByteArray) (C : Int), (∀ W, Tab W → Calls Tryd.prog 18 #[.agg #[.bool neg, .string s]] W (TextRes T C W)) ∧ (∀ W, Calls Tryd.prog 19 #[.agg #[.bool neg, .string s]] W (TextRes T C W)) := by
  by_cases h : Form neg s
  · exact ⟨_, _, fun W ht => text_ok neg s W h ht, fun W => rtext_ok neg s W h⟩
  · exact ⟨_, _, fun W ht => text_bad neg s W hs h, fun W => rtext_bad neg s W hs h⟩

set_option maxRecDepth 100000 in
set_option maxHeartbeats 4000000 in
theorem texts_all (hdiv : DivOK) (S : ByteArray) (nx : Bool) (x : ByteArray) (w : World) (htab : Tab w) (hS : S.size ≤ 9223372036854775807) (hx : x.size ≤ 9223372036854775807) :
    Calls Tryd.prog 4 #[.string S, .agg #[.bool nx, .string x]] w (Truth w) := by
  have HT := Lib.hid htab
  have HDIV := Lib.hid hdiv
  obtain ⟨tt, tc, hT1, hT2⟩ := text_both nx x hx
  have HT1 := Lib.hid hT1
  have HT2 := Lib.hid hT2
  have HR := Lib.hid (read_both S)
  clear htab hdiv hT1 hT2
  go_enter Tryd.func4, Tryd.ntmps4
  go_wp2_with fail
  refine (great_any _ 1 1 [x] _ rfl (by simp) (by intro s hs; simp only [List.mem_cons, List.not_mem_nil, or_false] at hs; subst hs; assumption) (sizes_one _ _ _ _ _)).mono ?_
  rintro e w1 ⟨rfl, rfl⟩
  obtain ⟨W, hW⟩ : ∃ W : World, W = ((w.alloc (.cells #[.bool nx, .string x] 23)).alloc (.cells #[.bool nx, .string x] 23)) := ⟨_, rfl⟩
  rw [← hW]
  have g1 : Gr w W := by rw [hW]; exact (((Gr.refl _).alloc _).alloc _)
  have x0 : W.cell? ⟨w.heap.size, 0, none⟩ = some (.bool nx) := by rw [hW]; simp [go_sem]
  have x1 : W.cell? ⟨w.heap.size, 1, none⟩ = some (.string x) := by rw [hW]; simp [go_sem]
  have z0 : W.cell? ⟨w.heap.size + 1, 0, none⟩ = some (.bool nx) := by rw [hW]; simp [go_sem]
  have z1 : W.cell? ⟨w.heap.size + 1, 1, none⟩ = some (.string x) := by rw [hW]; simp [go_sem]
  have hsz : W.heap.size = w.heap.size + 1 + 1 := by rw [hW]; simp
  have HG := Lib.hid g1
  have HSZ := Lib.hid hsz
  clear hW g1 hsz
  obtain ⟨gr, hgr⟩ : ∃ b, b = isGreat [x] := ⟨_, rfl⟩
  rw [← hgr]
  clear hgr z0 z1
  by_cases hlong : 2000 < S.size
  · have d1 : decide ((2000 : Int) < (S.size : Int)) = true := decide_eq_true (by omega)
    cases gr with
    | true =>
      go_wp2_with fail
      refine (shown_of HDIV.out _ (HT.out.later HG.out)).mono ?_
      rintro e w2 ⟨rfl, g⟩
      have HG := Lib.hid (HG.out.trans g)
      clear g
      go_wp2_with fail
      go_ret
      exact ⟨rfl, HG.out⟩
    | false =>
      go_wp2_with fail
      refine (shown_of HDIV.out _ (HT.out.later HG.out)).mono ?_
      rintro e w2 ⟨rfl, g⟩
      have HG := Lib.hid (HG.out.trans g)
      clear g
      go_wp2_with fail
      go_ret
      exact ⟨rfl, HG.out⟩
  
  have d1 : decide ((2000 : Int) < (S.size : Int)) = false := decide_eq_false (by omega)
  obtain ⟨rA, rS, rC, hR1, hR2⟩ := HR.out (by omega)
  have HR1 := Lib.hid hR1
  have HR2 := Lib.hid hR2
  clear hR1 hR2 HR hlong
  cases gr with
  | true =>
    go_wp2_with fail
    refine (shown_of HDIV.out _ (HT.out.later HG.out)).mono ?_
    rintro e w2 ⟨rfl, g⟩
    have HG := Lib.hid (HG.out.trans g)
    clear g
    go_wp2_with fail
    go_ret
    exact ⟨rfl, HG.out⟩
  | false =>
    go_wp2_with fail
    refine (HR1.out _).mono ?_
    rintro e w2 ⟨rfl, g⟩
    have x0 := g.keeps x0
    have x1 := g.keeps x1
    have HG := Lib.hid (HG.out.trans g)
    clear g
    have x0w2 := (Gr.new w2 (.cells #[.bool rA, .string rS] 23)).keeps x0
    have x1w2 := (Gr.new w2 (.cells #[.bool rA, .string rS] 23)).keeps x1
    have ne0w2 : ¬ (w.heap.size = w2.heap.size) := ne_of_cell x0
    have ne0w2s : ¬ (w2.heap.size = w.heap.size) := fun e => ne0w2 e.symm
    go_wp2_with fail
    have szw2 : w.heap.size ≤ w2.heap.size := HG.out.size
    obtain ⟨V1, hV1⟩ : ∃ V : World, V = w2.alloc (.cells #[.bool rA, .string rS] 23) := ⟨_, rfl⟩
    have g : Gr w2 V1 := by rw [hV1]; exact Gr.new _ _
    have x0 := g.keeps x0
    have x1 := g.keeps x1
    have HG := Lib.hid (HG.out.trans g)
    clear g
    have a0 : V1.cell? ⟨w2.heap.size, 0, none⟩ = some (.bool rA) := by rw [hV1]; simp [go_sem]
    have fa0 : V1.frozen? ⟨w2.heap.size, 0, none⟩ = false := by rw [hV1]; simp [go_sem]
    have a1 : V1.cell? ⟨w2.heap.size, 1, none⟩ = some (.string rS) := by rw [hV1]; simp [go_sem]
    have fa1 : V1.frozen? ⟨w2.heap.size, 1, none⟩ = false := by rw [hV1]; simp [go_sem]
    rw [← hV1]
    clear hV1
    refine (HR2.out _).mono ?_
    rintro e w3 ⟨rfl, g⟩
    have fa0 := g.frozen a0 fa0
    have fa1 := g.frozen a1 fa1
    have x0 := g.keeps x0
    have x1 := g.keeps x1
    have a0 := g.keeps a0
    have a1 := g.keeps a1
    have HG := Lib.hid (HG.out.trans g)
    clear g
    have x0w3 := (Gr.new w3 (.cells #[.bool rA, .string rS] 23)).keeps x0
    have x1w3 := (Gr.new w3 (.cells #[.bool rA, .string rS] 23)).keeps x1
    have a0w3 := (Gr.new w3 (.cells #[.bool rA, .string rS] 23)).keeps a0
    have a1w3 := (Gr.new w3 (.cells #[.bool rA, .string rS] 23)).keeps a1
    have ne0w3 : ¬ (w.heap.size = w3.heap.size) := ne_of_cell x0
    have ne0w3s : ¬ (w3.heap.size = w.heap.size) := fun e => ne0w3 e.symm
    have ne1w3 : ¬ (w2.heap.size = w3.heap.size) := ne_of_cell a0
    have ne1w3s : ¬ (w3.heap.size = w2.heap.size) := fun e => ne1w3 e.symm
    go_wp2_with fail
    have szw3 : w.heap.size ≤ w3.heap.size := HG.out.size
    obtain ⟨V2, hV2⟩ : ∃ V : World, V = w3.alloc (.cells #[.bool rA, .string rS] 23) := ⟨_, rfl⟩
    have g : Gr w3 V2 := by rw [hV2]; exact Gr.new _ _
    have fa0 := g.frozen a0 fa0
    have fa1 := g.frozen a1 fa1
    have x0 := g.keeps x0
    have x1 := g.keeps x1
    have a0 := g.keeps a0
    have a1 := g.keeps a1
    have HG := Lib.hid (HG.out.trans g)
    clear g
    have b0 : V2.cell? ⟨w3.heap.size, 0, none⟩ = some (.bool rA) := by rw [hV2]; simp [go_sem]
    have fb0 : V2.frozen? ⟨w3.heap.size, 0, none⟩ = false := by rw [hV2]; simp [go_sem]
    have b1 : V2.cell? ⟨w3.heap.size, 1, none⟩ = some (.string rS) := by rw [hV2]; simp [go_sem]
    have fb1 : V2.frozen? ⟨w3.heap.size, 1, none⟩ = false := by rw [hV2]; simp [go_sem]
    rw [← hV2]
    clear hV2
    refine (HT1.out _ (HT.out.later HG.out)).mono ?_
    rintro e w4 ⟨rfl, g⟩
    have fa0 := g.frozen a0 fa0
    have fa1 := g.frozen a1 fa1
    have fb0 := g.frozen b0 fb0
    have fb1 := g.frozen b1 fb1
    have x0 := g.keeps x0
    have x1 := g.keeps x1
    have a0 := g.keeps a0
    have a1 := g.keeps a1
    have b0 := g.keeps b0
    have b1 := g.keeps b1
    have HG := Lib.hid (HG.out.trans g)
    clear g
    go_wp2_with fail
    refine (HT2.out _).mono ?_
    rintro e w5 ⟨rfl, g⟩
    have fa0 := g.frozen a0 fa0
    have fa1 := g.frozen a1 fa1
    have fb0 := g.frozen b0 fb0
    have fb1 := g.frozen b1 fb1
    have x0 := g.keeps x0
    have x1 := g.keeps x1
    have a0 := g.keeps a0
    have a1 := g.keeps a1
    have b0 := g.keeps b0
    have b1 := g.keeps b1
    have HG := Lib.hid (HG.out.trans g)
    clear g
    go_wp2_with fail
    refine (shown_of HDIV.out _ (HT.out.later HG.out)).mono ?_
    rintro e w6 ⟨rfl, g⟩
    have HG := Lib.hid (HG.out.trans g)
    clear g
    go_wp2_with fail
    go_ret
    exact ⟨rfl, HG.out⟩
end Go.Proofs.YtgalgldnhdiggaaDoor

