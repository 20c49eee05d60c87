/- The law WideDivides. -/
import Derived.Test.YtnehcafmebokmaaGreatDoorPRok
import Derived.Test.YtnehcafmebokmaaGreatDoorPRbad
import Derived.Test.YtnehcafmebokmaaGreatDoorPGk
import Derived.Test.YtnehcafmebokmaaGreatDoorPDivr
namespace Go.Proofs.YtnehcafmebokmaaGreatDoor
open Go.RowKit
set_option linter.unusedVariables false

theorem form_zero {neg : Bool} {s : ByteArray} (h : Form neg s) (h0 : s.size ≠ 0) : zOf neg s ≠ 0 := by
  cases neg with
  | false => have := (zOf_pos h).2 ⟨h0, rfl⟩; omega
  | true =>
    intro e
    have e2 := zOf_abs true s
    rw [e] at e2
    have h2 : Form false s := by
      rcases h with ⟨h1, h3⟩ | h1
      · exact absurd h1 h0
      · exact .inr h1
    have h3 := (zOf_pos h2).2 ⟨h0, rfl⟩
    have e3 := zOf_abs false s
    rw [← e2] at e3
    simp at e3
    omega
theorem div_both (neg : Bool) (s : ByteArray) (neg' : Bool) (s' : ByteArray) (hs : s.size ≤ 9223372036854775807) (hs' : s'.size ≤ 9223372036854775807) :
    ∃ (A : Bool) (S : ByteArray) (B : Bool) (T : ByteArray) (C : Int), (∀ W, Calls Tryz.prog 6 #[.agg #[.bool neg, .string s], .agg #[.bool neg', .string s']] W (Div3 A S B T C W)) ∧ (∀ W, Calls Tryz.prog 7 #[.agg #[.bool neg, .string s], .agg #[.bool neg', .string s']] W (Div3 A S B T C W)) := by
  by_cases h : Form neg s ∧ Form neg' s' ∧ s'.size ≠ 0
  · exact ⟨_, _, _, _, _, fun W => div_ok neg s neg' s' W h.1 h.2.1 h.2.2 (form_zero h.2.1 h.2.2), fun W => rdiv_ok neg s neg' s' W h.1 h.2.1 h.2.2 (form_zero h.2.1 h.2.2)⟩
  · exact ⟨_, _, _, _, _, fun W => div_bad neg s neg' s' W hs hs' h, fun W => rdiv_bad neg s neg' s' W hs hs' h⟩
theorem rnd_both (neg : Bool) (s : ByteArray) (neg' : Bool) (s' : ByteArray) (hs : s.size ≤ 9223372036854775807) (hs' : s'.size ≤ 9223372036854775807) :
    ∃ (A : Bool) (S : ByteArray) (C : Int), (∀ W, Calls Tryz.prog 8 #[.agg #[.bool neg, .string s], .agg #[.bool neg', .string s']] W (Res A S C W)) ∧ (∀ W, Calls Tryz.prog 9 #[.agg #[.bool neg, .string s], .agg #[.bool neg', .string s']] W (Res A S C W)) := by
  by_cases h : Form neg s ∧ Form neg' s' ∧ s'.size ≠ 0 ∧ neg' = false
  · exact ⟨_, _, _, fun W => rnd_ok neg s neg' s' W h.1 ⟨h.2.1, (zOf_pos h.2.1).2 h.2.2⟩ hs', fun W => rrnd_ok neg s neg' s' W h.1 h.2.1 h.2.2.1 h.2.2.2⟩
  · refine ⟨_, _, _, fun W => ?_, fun W => rrnd_bad neg s neg' s' W hs hs' h⟩
    by_cases hp : Pos neg' s'
    · exact rndX_of neg s neg' s' _ _ _ W hs' hp fun V => binary_bad neg s neg' s' _ V hs hs' (fun k => h ⟨k.1, k.2, (zOf_pos k.2).1 hp.2⟩)
    · exact rndX_bad neg s neg' s' W hs' hp
theorem bal_both (neg : Bool) (s : ByteArray) (neg' : Bool) (s' : ByteArray) (hs : s.size ≤ 9223372036854775807) (hs' : s'.size ≤ 9223372036854775807) :
    ∃ (A : Bool) (S : ByteArray) (C : Int), (∀ W, Calls Tryz.prog 10 #[.agg #[.bool neg, .string s], .agg #[.bool neg', .string s']] W (Res A S C W)) ∧ (∀ W, Calls Tryz.prog 11 #[.agg #[.bool neg, .string s], .agg #[.bool neg', .string s']] W (Res A S C W)) := by
  by_cases h : Form neg s ∧ Form neg' s' ∧ s'.size ≠ 0 ∧ neg' = false
  · exact ⟨_, _, _, fun W => balX_ok neg s neg' s' W h.1 ⟨h.2.1, (zOf_pos h.2.1).2 h.2.2⟩ hs', fun W => rbal_ok neg s neg' s' W h.1 h.2.1 h.2.2.1 h.2.2.2⟩
  · refine ⟨_, _, _, fun W => ?_, fun W => rbal_bad neg s neg' s' W hs hs' h⟩
    by_cases hp : Pos neg' s'
    · exact balX_of neg s neg' s' _ _ _ W hs' hp fun V => binary_bad neg s neg' s' _ V hs hs' (fun k => h ⟨k.1, k.2, (zOf_pos k.2).1 hp.2⟩)
    · exact balX_bad neg s neg' s' W hs' hp
theorem mod_both (neg : Bool) (s : ByteArray) (n : Int) (hs : s.size ≤ 9223372036854775807) (hn : 0 ≤ n ∧ n ≤ 4294967295) :
    ∃ p c : Int, (∀ W, Calls Tryz.prog 12 #[.agg #[.bool neg, .string s], .int .u32 n] W (PairU p c W)) ∧ (∀ W, Calls Tryz.prog 13 #[.agg #[.bool neg, .string s], .int .u32 n] W (PairU p c W)) := by
  obtain ⟨n, rfl⟩ := Int.eq_ofNat_of_zero_le hn.1
  have hn2 : n < 4294967296 := by omega
  by_cases h : Form neg s ∧ n ≠ 0
  · exact ⟨_, _, fun W => mod_ok neg s n W h.1 hn2 h.2, fun W => rmod_ok neg s n W h.1 hn2 h.2⟩
  · exact ⟨_, _, fun W => mod_bad neg s n W hs hn2 h, fun W => rmod_bad neg s n W hs hn2 h⟩

set_option maxRecDepth 100000 in
set_option maxHeartbeats 4000000 in
theorem divides_all (hdiv : DivOK) (nx : Bool) (x : ByteArray) (ny : Bool) (y : ByteArray) (n : Int) (w : World) (htab : Tab w) (hx : x.size ≤ 9223372036854775807) (hy : y.size ≤ 9223372036854775807) (hn : 0 ≤ n ∧ n ≤ 4294967295) :
    Calls Tryz.prog 3 #[.agg #[.bool nx, .string x], .agg #[.bool ny, .string y], .int .u32 n] w (Truth w) := by
  have HT := Lib.hid htab
  have HDIV := Lib.hid hdiv
  obtain ⟨bQ, sQ, bR, sR, cD, hD1, hD2⟩ := div_both nx x ny y hx hy
  obtain ⟨bN, sN, cN, hN1, hN2⟩ := rnd_both nx x ny y hx hy
  obtain ⟨bA, sA, cA, hA1, hA2⟩ := bal_both nx x ny y hx hy
  obtain ⟨pM, cM, hM1, hM2⟩ := mod_both nx x n hx hn
  have HD1 := Lib.hid hD1
  have HD2 := Lib.hid hD2
  have HN1 := Lib.hid hN1
  have HN2 := Lib.hid hN2
  have HA1 := Lib.hid hA1
  have HA2 := Lib.hid hA2
  have HM1 := Lib.hid hM1
  have HM2 := Lib.hid hM2
  clear htab hdiv hD1 hD2 hN1 hN2 hA1 hA2 hM1 hM2 hn
  go_enter Tryz.func3, Tryz.ntmps3
  go_wp2_with fail
  refine (great_any _ 2 2 [x, y] _ rfl (by simp) (by intro s hs; simp only [List.mem_cons, List.not_mem_nil, or_false] at hs; rcases hs with rfl | rfl <;> assumption) (sizes_2 _ _ _ _ _ _ _ _)).mono ?_
  rintro e w1 ⟨rfl, rfl⟩
  obtain ⟨W, hW⟩ : ∃ W : World, W = (((w.alloc (.cells #[.bool nx, .string x] 23)).alloc (.cells #[.bool ny, .string y] 23)).alloc (.cells #[.bool nx, .string x, .bool ny, .string y] 23)) := ⟨_, rfl⟩
  rw [← hW]
  have g1 : Gr w W := by rw [hW]; exact ((((Gr.refl _).alloc _).alloc _).alloc _)
  have x0 : W.cell? ⟨w.heap.size, 0, none⟩ = some (.bool nx) := by rw [hW]; simp [go_sem]
  have x1 : W.cell? ⟨w.heap.size, 1, none⟩ = some (.string x) := by rw [hW]; simp [go_sem]
  have y0 : W.cell? ⟨w.heap.size + 1, 0, none⟩ = some (.bool ny) := by rw [hW]; simp [go_sem]
  have y1 : W.cell? ⟨w.heap.size + 1, 1, none⟩ = some (.string y) := by rw [hW]; simp [go_sem]
  have z0 : W.cell? ⟨w.heap.size + 1 + 1, 0, none⟩ = some (.bool nx) := by rw [hW]; simp [go_sem]
  have z1 : W.cell? ⟨w.heap.size + 1 + 1, 1, none⟩ = some (.string x) := by rw [hW]; simp [go_sem]
  have z2 : W.cell? ⟨w.heap.size + 1 + 1, 2, none⟩ = some (.bool ny) := by rw [hW]; simp [go_sem]
  have z3 : W.cell? ⟨w.heap.size + 1 + 1, 3, none⟩ = some (.string y) := by rw [hW]; simp [go_sem]
  have hsz : W.heap.size = w.heap.size + 1 + 1 + 1 := by rw [hW]; simp
  have HG := Lib.hid g1
  have HSZ := Lib.hid hsz
  clear hW g1 hsz
  have HBS := Lib.hid (show w.heap.size ≤ w.heap.size from Nat.le_refl _)
  obtain ⟨gr, hgr⟩ : ∃ b, b = isGreat [x, y] := ⟨_, rfl⟩
  rw [← hgr]
  clear hgr z0 z1 z2 z3
  cases gr with
  | true =>
    go_wp2_with fail
    refine (shown_of HDIV.out _ (HT.out.later HG.out)).mono ?_
    rintro e w2 ⟨rfl, g⟩
    have HG := Lib.hid (HG.out.trans g)
    clear g
    go_wp2_with fail
    go_ret
    exact ⟨rfl, HG.out⟩
  | false =>
    have nxy : ¬ (w.heap.size = w.heap.size + 1) := by omega
    have nyx : ¬ (w.heap.size + 1 = w.heap.size) := by omega
    go_wp2_with fail
    refine (HD1.out _).mono ?_
    rintro e w2 ⟨rfl, g⟩
    have x0 := g.keeps x0
    have x1 := g.keeps x1
    have y0 := g.keeps y0
    have y1 := g.keeps y1
    have HG := Lib.hid (HG.out.trans g)
    clear g
    have ne0w2 : ¬ (w.heap.size = w2.heap.size) := ne_of_cell x0
    have ne0w2s : ¬ (w2.heap.size = w.heap.size) := fun e => ne0w2 e.symm
    have ne1w2 : ¬ (w.heap.size + 1 = w2.heap.size) := ne_of_cell y0
    have ne1w2s : ¬ (w2.heap.size = w.heap.size + 1) := fun e => ne1w2 e.symm
    have x0w2 := ((Gr.new w2 (.cells #[.bool bQ, .string sQ] 23)).alloc (.cells #[.bool bR, .string sR] 23)).keeps x0
    have x1w2 := ((Gr.new w2 (.cells #[.bool bQ, .string sQ] 23)).alloc (.cells #[.bool bR, .string sR] 23)).keeps x1
    have y0w2 := ((Gr.new w2 (.cells #[.bool bQ, .string sQ] 23)).alloc (.cells #[.bool bR, .string sR] 23)).keeps y0
    have y1w2 := ((Gr.new w2 (.cells #[.bool bQ, .string sQ] 23)).alloc (.cells #[.bool bR, .string sR] 23)).keeps y1
    go_wp2_with fail
    have szw2 : w.heap.size ≤ w2.heap.size := HG.out.size
    obtain ⟨V1, hV1⟩ : ∃ V : World, V = (w2.alloc (.cells #[.bool bQ, .string sQ] 23)).alloc (.cells #[.bool bR, .string sR] 23) := ⟨_, rfl⟩
    have g : Gr w2 V1 := by rw [hV1]; exact (Gr.new _ _).alloc _
    have x0 := g.keeps x0
    have x1 := g.keeps x1
    have y0 := g.keeps y0
    have y1 := g.keeps y1
    have HG := Lib.hid (HG.out.trans g)
    clear g
    have a0 : V1.cell? ⟨w2.heap.size, 0, none⟩ = some (.bool bQ) := by rw [hV1]; simp [go_sem]
    have fa0 : V1.frozen? ⟨w2.heap.size, 0, none⟩ = false := by rw [hV1]; simp [go_sem]
    have a1 : V1.cell? ⟨w2.heap.size, 1, none⟩ = some (.string sQ) := by rw [hV1]; simp [go_sem]
    have fa1 : V1.frozen? ⟨w2.heap.size, 1, none⟩ = false := by rw [hV1]; simp [go_sem]
    have b0 : V1.cell? ⟨w2.heap.size + 1, 0, none⟩ = some (.bool bR) := by rw [hV1]; simp [go_sem]
    have fb0 : V1.frozen? ⟨w2.heap.size + 1, 0, none⟩ = false := by rw [hV1]; simp [go_sem]
    have b1 : V1.cell? ⟨w2.heap.size + 1, 1, none⟩ = some (.string sR) := by rw [hV1]; simp [go_sem]
    have fb1 : V1.frozen? ⟨w2.heap.size + 1, 1, none⟩ = false := by rw [hV1]; simp [go_sem]
    rw [← hV1]
    clear hV1
    refine (HD2.out _).mono ?_
    rintro e w3 ⟨rfl, g⟩
    have fa0 := g.frozen a0 fa0
    have fa1 := g.frozen a1 fa1
    have fb0 := g.frozen b0 fb0
    have fb1 := g.frozen b1 fb1
    have x0 := g.keeps x0
    have x1 := g.keeps x1
    have y0 := g.keeps y0
    have y1 := g.keeps y1
    have a0 := g.keeps a0
    have a1 := g.keeps a1
    have b0 := g.keeps b0
    have b1 := g.keeps b1
    have HG := Lib.hid (HG.out.trans g)
    clear g
    have ne0w3 : ¬ (w.heap.size = w3.heap.size) := ne_of_cell x0
    have ne0w3s : ¬ (w3.heap.size = w.heap.size) := fun e => ne0w3 e.symm
    have ne1w3 : ¬ (w.heap.size + 1 = w3.heap.size) := ne_of_cell y0
    have ne1w3s : ¬ (w3.heap.size = w.heap.size + 1) := fun e => ne1w3 e.symm
    have ne2w3 : ¬ (w2.heap.size = w3.heap.size) := ne_of_cell a0
    have ne2w3s : ¬ (w3.heap.size = w2.heap.size) := fun e => ne2w3 e.symm
    have ne3w3 : ¬ (w2.heap.size + 1 = w3.heap.size) := ne_of_cell b0
    have ne3w3s : ¬ (w3.heap.size = w2.heap.size + 1) := fun e => ne3w3 e.symm
    have x0w3 := ((Gr.new w3 (.cells #[.bool bQ, .string sQ] 23)).alloc (.cells #[.bool bR, .string sR] 23)).keeps x0
    have x1w3 := ((Gr.new w3 (.cells #[.bool bQ, .string sQ] 23)).alloc (.cells #[.bool bR, .string sR] 23)).keeps x1
    have y0w3 := ((Gr.new w3 (.cells #[.bool bQ, .string sQ] 23)).alloc (.cells #[.bool bR, .string sR] 23)).keeps y0
    have y1w3 := ((Gr.new w3 (.cells #[.bool bQ, .string sQ] 23)).alloc (.cells #[.bool bR, .string sR] 23)).keeps y1
    have a0w3 := ((Gr.new w3 (.cells #[.bool bQ, .string sQ] 23)).alloc (.cells #[.bool bR, .string sR] 23)).keeps a0
    have a1w3 := ((Gr.new w3 (.cells #[.bool bQ, .string sQ] 23)).alloc (.cells #[.bool bR, .string sR] 23)).keeps a1
    have b0w3 := ((Gr.new w3 (.cells #[.bool bQ, .string sQ] 23)).alloc (.cells #[.bool bR, .string sR] 23)).keeps b0
    have b1w3 := ((Gr.new w3 (.cells #[.bool bQ, .string sQ] 23)).alloc (.cells #[.bool bR, .string sR] 23)).keeps b1
    have a23 : ¬ (w2.heap.size = w2.heap.size + 1) := by omega
    have a32 : ¬ (w2.heap.size + 1 = w2.heap.size) := by omega
    go_wp2_with fail
    have szw3 : w.heap.size ≤ w3.heap.size := HG.out.size
    obtain ⟨V2, hV2⟩ : ∃ V : World, V = (w3.alloc (.cells #[.bool bQ, .string sQ] 23)).alloc (.cells #[.bool bR, .string sR] 23) := ⟨_, rfl⟩
    have g : Gr w3 V2 := by rw [hV2]; exact (Gr.new _ _).alloc _
    have fa0 := g.frozen a0 fa0
    have fa1 := g.frozen a1 fa1
    have fb0 := g.frozen b0 fb0
    have fb1 := g.frozen b1 fb1
    have x0 := g.keeps x0
    have x1 := g.keeps x1
    have y0 := g.keeps y0
    have y1 := g.keeps y1
    have a0 := g.keeps a0
    have a1 := g.keeps a1
    have b0 := g.keeps b0
    have b1 := g.keeps b1
    have HG := Lib.hid (HG.out.trans g)
    clear g
    have c0 : V2.cell? ⟨w3.heap.size, 0, none⟩ = some (.bool bQ) := by rw [hV2]; simp [go_sem]
    have fc0 : V2.frozen? ⟨w3.heap.size, 0, none⟩ = false := by rw [hV2]; simp [go_sem]
    have c1 : V2.cell? ⟨w3.heap.size, 1, none⟩ = some (.string sQ) := by rw [hV2]; simp [go_sem]
    have fc1 : V2.frozen? ⟨w3.heap.size, 1, none⟩ = false := by rw [hV2]; simp [go_sem]
    have d0 : V2.cell? ⟨w3.heap.size + 1, 0, none⟩ = some (.bool bR) := by rw [hV2]; simp [go_sem]
    have fd0 : V2.frozen? ⟨w3.heap.size + 1, 0, none⟩ = false := by rw [hV2]; simp [go_sem]
    have d1 : V2.cell? ⟨w3.heap.size + 1, 1, none⟩ = some (.string sR) := by rw [hV2]; simp [go_sem]
    have fd1 : V2.frozen? ⟨w3.heap.size + 1, 1, none⟩ = false := by rw [hV2]; simp [go_sem]
    rw [← hV2]
    clear hV2
    refine (HN1.out _).mono ?_
    rintro e w4 ⟨rfl, g⟩
    have fa0 := g.frozen a0 fa0
    have fa1 := g.frozen a1 fa1
    have fb0 := g.frozen b0 fb0
    have fb1 := g.frozen b1 fb1
    have fc0 := g.frozen c0 fc0
    have fc1 := g.frozen c1 fc1
    have fd0 := g.frozen d0 fd0
    have fd1 := g.frozen d1 fd1
    have x0 := g.keeps x0
    have x1 := g.keeps x1
    have y0 := g.keeps y0
    have y1 := g.keeps y1
    have a0 := g.keeps a0
    have a1 := g.keeps a1
    have b0 := g.keeps b0
    have b1 := g.keeps b1
    have c0 := g.keeps c0
    have c1 := g.keeps c1
    have d0 := g.keeps d0
    have d1 := g.keeps d1
    have HG := Lib.hid (HG.out.trans g)
    clear g
    have x0w4 := (Gr.new w4 (.cells #[.bool bN, .string sN] 23)).keeps x0
    have x1w4 := (Gr.new w4 (.cells #[.bool bN, .string sN] 23)).keeps x1
    have y0w4 := (Gr.new w4 (.cells #[.bool bN, .string sN] 23)).keeps y0
    have y1w4 := (Gr.new w4 (.cells #[.bool bN, .string sN] 23)).keeps y1
    have a0w4 := (Gr.new w4 (.cells #[.bool bN, .string sN] 23)).keeps a0
    have a1w4 := (Gr.new w4 (.cells #[.bool bN, .string sN] 23)).keeps a1
    have b0w4 := (Gr.new w4 (.cells #[.bool bN, .string sN] 23)).keeps b0
    have b1w4 := (Gr.new w4 (.cells #[.bool bN, .string sN] 23)).keeps b1
    have c0w4 := (Gr.new w4 (.cells #[.bool bN, .string sN] 23)).keeps c0
    have c1w4 := (Gr.new w4 (.cells #[.bool bN, .string sN] 23)).keeps c1
    have d0w4 := (Gr.new w4 (.cells #[.bool bN, .string sN] 23)).keeps d0
    have d1w4 := (Gr.new w4 (.cells #[.bool bN, .string sN] 23)).keeps d1
    have ne0w4 : ¬ (w.heap.size = w4.heap.size) := ne_of_cell x0
    have ne0w4s : ¬ (w4.heap.size = w.heap.size) := fun e => ne0w4 e.symm
    have ne1w4 : ¬ (w.heap.size + 1 = w4.heap.size) := ne_of_cell y0
    have ne1w4s : ¬ (w4.heap.size = w.heap.size + 1) := fun e => ne1w4 e.symm
    have ne2w4 : ¬ (w2.heap.size = w4.heap.size) := ne_of_cell a0
    have ne2w4s : ¬ (w4.heap.size = w2.heap.size) := fun e => ne2w4 e.symm
    have ne3w4 : ¬ (w2.heap.size + 1 = w4.heap.size) := ne_of_cell b0
    have ne3w4s : ¬ (w4.heap.size = w2.heap.size + 1) := fun e => ne3w4 e.symm
    have ne4w4 : ¬ (w3.heap.size = w4.heap.size) := ne_of_cell c0
    have ne4w4s : ¬ (w4.heap.size = w3.heap.size) := fun e => ne4w4 e.symm
    have ne5w4 : ¬ (w3.heap.size + 1 = w4.heap.size) := ne_of_cell d0
    have ne5w4s : ¬ (w4.heap.size = w3.heap.size + 1) := fun e => ne5w4 e.symm
    go_wp2_with fail
    have szw4 : w.heap.size ≤ w4.heap.size := HG.out.size
    obtain ⟨V3, hV3⟩ : ∃ V : World, V = w4.alloc (.cells #[.bool bN, .string sN] 23) := ⟨_, rfl⟩
    have g : Gr w4 V3 := by rw [hV3]; exact Gr.new _ _
    have fa0 := g.frozen a0 fa0
    have fa1 := g.frozen a1 fa1
    have fb0 := g.frozen b0 fb0
    have fb1 := g.frozen b1 fb1
    have fc0 := g.frozen c0 fc0
    have fc1 := g.frozen c1 fc1
    have fd0 := g.frozen d0 fd0
    have fd1 := g.frozen d1 fd1
    have x0 := g.keeps x0
    have x1 := g.keeps x1
    have y0 := g.keeps y0
    have y1 := g.keeps y1
    have a0 := g.keeps a0
    have a1 := g.keeps a1
    have b0 := g.keeps b0
    have b1 := g.keeps b1
    have c0 := g.keeps c0
    have c1 := g.keeps c1
    have d0 := g.keeps d0
    have d1 := g.keeps d1
    have HG := Lib.hid (HG.out.trans g)
    clear g
    have h0 : V3.cell? ⟨w4.heap.size, 0, none⟩ = some (.bool bN) := by rw [hV3]; simp [go_sem]
    have fh0 : V3.frozen? ⟨w4.heap.size, 0, none⟩ = false := by rw [hV3]; simp [go_sem]
    have h1 : V3.cell? ⟨w4.heap.size, 1, none⟩ = some (.string sN) := by rw [hV3]; simp [go_sem]
    have fh1 : V3.frozen? ⟨w4.heap.size, 1, none⟩ = false := by rw [hV3]; simp [go_sem]
    rw [← hV3]
    clear hV3
    refine (HN2.out _).mono ?_
    rintro e w5 ⟨rfl, g⟩
    have fa0 := g.frozen a0 fa0
    have fa1 := g.frozen a1 fa1
    have fb0 := g.frozen b0 fb0
    have fb1 := g.frozen b1 fb1
    have fc0 := g.frozen c0 fc0
    have fc1 := g.frozen c1 fc1
    have fd0 := g.frozen d0 fd0
    have fd1 := g.frozen d1 fd1
    have fh0 := g.frozen h0 fh0
    have fh1 := g.frozen h1 fh1
    have x0 := g.keeps x0
    have x1 := g.keeps x1
    have y0 := g.keeps y0
    have y1 := g.keeps y1
    have a0 := g.keeps a0
    have a1 := g.keeps a1
    have b0 := g.keeps b0
    have b1 := g.keeps b1
    have c0 := g.keeps c0
    have c1 := g.keeps c1
    have d0 := g.keeps d0
    have d1 := g.keeps d1
    have h0 := g.keeps h0
    have h1 := g.keeps h1
    have HG := Lib.hid (HG.out.trans g)
    clear g
    have x0w5 := (Gr.new w5 (.cells #[.bool bN, .string sN] 23)).keeps x0
    have x1w5 := (Gr.new w5 (.cells #[.bool bN, .string sN] 23)).keeps x1
    have y0w5 := (Gr.new w5 (.cells #[.bool bN, .string sN] 23)).keeps y0
    have y1w5 := (Gr.new w5 (.cells #[.bool bN, .string sN] 23)).keeps y1
    have a0w5 := (Gr.new w5 (.cells #[.bool bN, .string sN] 23)).keeps a0
    have a1w5 := (Gr.new w5 (.cells #[.bool bN, .string sN] 23)).keeps a1
    have b0w5 := (Gr.new w5 (.cells #[.bool bN, .string sN] 23)).keeps b0
    have b1w5 := (Gr.new w5 (.cells #[.bool bN, .string sN] 23)).keeps b1
    have c0w5 := (Gr.new w5 (.cells #[.bool bN, .string sN] 23)).keeps c0
    have c1w5 := (Gr.new w5 (.cells #[.bool bN, .string sN] 23)).keeps c1
    have d0w5 := (Gr.new w5 (.cells #[.bool bN, .string sN] 23)).keeps d0
    have d1w5 := (Gr.new w5 (.cells #[.bool bN, .string sN] 23)).keeps d1
    have h0w5 := (Gr.new w5 (.cells #[.bool bN, .string sN] 23)).keeps h0
    have h1w5 := (Gr.new w5 (.cells #[.bool bN, .string sN] 23)).keeps h1
    have ne0w5 : ¬ (w.heap.size = w5.heap.size) := ne_of_cell x0
    have ne0w5s : ¬ (w5.heap.size = w.heap.size) := fun e => ne0w5 e.symm
    have ne1w5 : ¬ (w.heap.size + 1 = w5.heap.size) := ne_of_cell y0
    have ne1w5s : ¬ (w5.heap.size = w.heap.size + 1) := fun e => ne1w5 e.symm
    have ne2w5 : ¬ (w2.heap.size = w5.heap.size) := ne_of_cell a0
    have ne2w5s : ¬ (w5.heap.size = w2.heap.size) := fun e => ne2w5 e.symm
    have ne3w5 : ¬ (w2.heap.size + 1 = w5.heap.size) := ne_of_cell b0
    have ne3w5s : ¬ (w5.heap.size = w2.heap.size + 1) := fun e => ne3w5 e.symm
    have ne4w5 : ¬ (w3.heap.size = w5.heap.size) := ne_of_cell c0
    have ne4w5s : ¬ (w5.heap.size = w3.heap.size) := fun e => ne4w5 e.symm
    have ne5w5 : ¬ (w3.heap.size + 1 = w5.heap.size) := ne_of_cell d0
    have ne5w5s : ¬ (w5.heap.size = w3.heap.size + 1) := fun e => ne5w5 e.symm
    have ne6w5 : ¬ (w4.heap.size = w5.heap.size) := ne_of_cell h0
    have ne6w5s : ¬ (w5.heap.size = w4.heap.size) := fun e => ne6w5 e.symm
    go_wp2_with fail
    have szw5 : w.heap.size ≤ w5.heap.size := HG.out.size
    obtain ⟨V4, hV4⟩ : ∃ V : World, V = w5.alloc (.cells #[.bool bN, .string sN] 23) := ⟨_, rfl⟩
    have g : Gr w5 V4 := by rw [hV4]; exact Gr.new _ _
    have fa0 := g.frozen a0 fa0
    have fa1 := g.frozen a1 fa1
    have fb0 := g.frozen b0 fb0
    have fb1 := g.frozen b1 fb1
    have fc0 := g.frozen c0 fc0
    have fc1 := g.frozen c1 fc1
    have fd0 := g.frozen d0 fd0
    have fd1 := g.frozen d1 fd1
    have fh0 := g.frozen h0 fh0
    have fh1 := g.frozen h1 fh1
    have x0 := g.keeps x0
    have x1 := g.keeps x1
    have y0 := g.keeps y0
    have y1 := g.keeps y1
    have a0 := g.keeps a0
    have a1 := g.keeps a1
    have b0 := g.keeps b0
    have b1 := g.keeps b1
    have c0 := g.keeps c0
    have c1 := g.keeps c1
    have d0 := g.keeps d0
    have d1 := g.keeps d1
    have h0 := g.keeps h0
    have h1 := g.keeps h1
    have HG := Lib.hid (HG.out.trans g)
    clear g
    have j0 : V4.cell? ⟨w5.heap.size, 0, none⟩ = some (.bool bN) := by rw [hV4]; simp [go_sem]
    have fj0 : V4.frozen? ⟨w5.heap.size, 0, none⟩ = false := by rw [hV4]; simp [go_sem]
    have j1 : V4.cell? ⟨w5.heap.size, 1, none⟩ = some (.string sN) := by rw [hV4]; simp [go_sem]
    have fj1 : V4.frozen? ⟨w5.heap.size, 1, none⟩ = false := by rw [hV4]; simp [go_sem]
    rw [← hV4]
    clear hV4
    refine (HA1.out _).mono ?_
    rintro e w6 ⟨rfl, g⟩
    have fa0 := g.frozen a0 fa0
    have fa1 := g.frozen a1 fa1
    have fb0 := g.frozen b0 fb0
    have fb1 := g.frozen b1 fb1
    have fc0 := g.frozen c0 fc0
    have fc1 := g.frozen c1 fc1
    have fd0 := g.frozen d0 fd0
    have fd1 := g.frozen d1 fd1
    have fh0 := g.frozen h0 fh0
    have fh1 := g.frozen h1 fh1
    have fj0 := g.frozen j0 fj0
    have fj1 := g.frozen j1 fj1
    have x0 := g.keeps x0
    have x1 := g.keeps x1
    have y0 := g.keeps y0
    have y1 := g.keeps y1
    have a0 := g.keeps a0
    have a1 := g.keeps a1
    have b0 := g.keeps b0
    have b1 := g.keeps b1
    have c0 := g.keeps c0
    have c1 := g.keeps c1
    have d0 := g.keeps d0
    have d1 := g.keeps d1
    have h0 := g.keeps h0
    have h1 := g.keeps h1
    have j0 := g.keeps j0
    have j1 := g.keeps j1
    have HG := Lib.hid (HG.out.trans g)
    clear g
    
    go_wp2_with fail
    obtain ⟨V5, hV5⟩ : ∃ V : World, V = (w6.setCell ⟨w4.heap.size, 0, none⟩ (.bool bA)).setCell ⟨w4.heap.size, 1, none⟩ (.string sA) := ⟨_, rfl⟩
    have kx0 : V5.cell? ⟨w.heap.size, 0, none⟩ = some (.bool nx) := by rw [hV5]; exact keep2 x0 (by assumption)
    have kx1 : V5.cell? ⟨w.heap.size, 1, none⟩ = some (.string x) := by rw [hV5]; exact keep2 x1 (by assumption)
    have ky0 : V5.cell? ⟨w.heap.size + 1, 0, none⟩ = some (.bool ny) := by rw [hV5]; exact keep2 y0 (by assumption)
    have ky1 : V5.cell? ⟨w.heap.size + 1, 1, none⟩ = some (.string y) := by rw [hV5]; exact keep2 y1 (by assumption)
    have kh0 : V5.cell? ⟨w4.heap.size, 0, none⟩ = some (.bool bA) := by rw [hV5]; exact (put2 h0 h1 _ _).1
    have kh1 : V5.cell? ⟨w4.heap.size, 1, none⟩ = some (.string sA) := by rw [hV5]; exact (put2 h0 h1 _ _).2
    have kj0 : V5.cell? ⟨w5.heap.size, 0, none⟩ = some (.bool bN) := by rw [hV5]; exact keep2 j0 (by assumption)
    have kj1 : V5.cell? ⟨w5.heap.size, 1, none⟩ = some (.string sN) := by rw [hV5]; exact keep2 j1 (by assumption)
    have kfh0 : V5.frozen? ⟨w4.heap.size, 0, none⟩ = false := by rw [hV5]; simp only [frozen_set]; exact fh0
    have kfh1 : V5.frozen? ⟨w4.heap.size, 1, none⟩ = false := by rw [hV5]; simp only [frozen_set]; exact fh1
    have kfj0 : V5.frozen? ⟨w5.heap.size, 0, none⟩ = false := by rw [hV5]; simp only [frozen_set]; exact fj0
    have kfj1 : V5.frozen? ⟨w5.heap.size, 1, none⟩ = false := by rw [hV5]; simp only [frozen_set]; exact fj1
    have HG := Lib.hid (show Gr w V5 by rw [hV5]; exact HG.out.put2 (by omega) _ _)
    rw [← hV5]
    clear hV5 x0 x1 y0 y1 h0 h1 j0 j1 fh0 fh1 fj0 fj1
    have x0 := kx0
    have x1 := kx1
    have y0 := ky0
    have y1 := ky1
    have h0 := kh0
    have fh0 := kfh0
    have h1 := kh1
    have fh1 := kfh1
    have j0 := kj0
    have fj0 := kfj0
    have j1 := kj1
    have fj1 := kfj1
    clear kx0 kx1 ky0 ky1 kh0 kh1 kj0 kj1 kfh0 kfh1 kfj0 kfj1
    refine (HA2.out _).mono ?_
    rintro e w7 ⟨rfl, g⟩
    have fh0 := g.frozen h0 fh0
    have fh1 := g.frozen h1 fh1
    have fj0 := g.frozen j0 fj0
    have fj1 := g.frozen j1 fj1
    have x0 := g.keeps x0
    have x1 := g.keeps x1
    have y0 := g.keeps y0
    have y1 := g.keeps y1
    have h0 := g.keeps h0
    have h1 := g.keeps h1
    have j0 := g.keeps j0
    have j1 := g.keeps j1
    have HG := Lib.hid (HG.out.trans g)
    clear g
    go_wp2_with fail
    obtain ⟨V6, hV6⟩ : ∃ V : World, V = (w7.setCell ⟨w5.heap.size, 0, none⟩ (.bool bA)).setCell ⟨w5.heap.size, 1, none⟩ (.string sA) := ⟨_, rfl⟩
    have kx0 : V6.cell? ⟨w.heap.size, 0, none⟩ = some (.bool nx) := by rw [hV6]; exact keep2 x0 (by assumption)
    have kx1 : V6.cell? ⟨w.heap.size, 1, none⟩ = some (.string x) := by rw [hV6]; exact keep2 x1 (by assumption)
    have ky0 : V6.cell? ⟨w.heap.size + 1, 0, none⟩ = some (.bool ny) := by rw [hV6]; exact keep2 y0 (by assumption)
    have ky1 : V6.cell? ⟨w.heap.size + 1, 1, none⟩ = some (.string y) := by rw [hV6]; exact keep2 y1 (by assumption)
    have kh0 : V6.cell? ⟨w4.heap.size, 0, none⟩ = some (.bool bA) := by rw [hV6]; exact keep2 h0 (by assumption)
    have kh1 : V6.cell? ⟨w4.heap.size, 1, none⟩ = some (.string sA) := by rw [hV6]; exact keep2 h1 (by assumption)
    have kj0 : V6.cell? ⟨w5.heap.size, 0, none⟩ = some (.bool bA) := by rw [hV6]; exact (put2 j0 j1 _ _).1
    have kj1 : V6.cell? ⟨w5.heap.size, 1, none⟩ = some (.string sA) := by rw [hV6]; exact (put2 j0 j1 _ _).2
    have kfh0 : V6.frozen? ⟨w4.heap.size, 0, none⟩ = false := by rw [hV6]; simp only [frozen_set]; exact fh0
    have kfh1 : V6.frozen? ⟨w4.heap.size, 1, none⟩ = false := by rw [hV6]; simp only [frozen_set]; exact fh1
    have kfj0 : V6.frozen? ⟨w5.heap.size, 0, none⟩ = false := by rw [hV6]; simp only [frozen_set]; exact fj0
    have kfj1 : V6.frozen? ⟨w5.heap.size, 1, none⟩ = false := by rw [hV6]; simp only [frozen_set]; exact fj1
    have HG := Lib.hid (show Gr w V6 by rw [hV6]; exact HG.out.put2 (by omega) _ _)
    rw [← hV6]
    clear hV6 x0 x1 y0 y1 h0 h1 j0 j1 fh0 fh1 fj0 fj1
    have x0 := kx0
    have x1 := kx1
    have y0 := ky0
    have y1 := ky1
    have h0 := kh0
    have fh0 := kfh0
    have h1 := kh1
    have fh1 := kfh1
    have j0 := kj0
    have fj0 := kfj0
    have j1 := kj1
    have fj1 := kfj1
    clear kx0 kx1 ky0 ky1 kh0 kh1 kj0 kj1 kfh0 kfh1 kfj0 kfj1
    refine (HM1.out _).mono ?_
    rintro e w8 ⟨rfl, g⟩
    have fh0 := g.frozen h0 fh0
    have fh1 := g.frozen h1 fh1
    have fj0 := g.frozen j0 fj0
    have fj1 := g.frozen j1 fj1
    have x0 := g.keeps x0
    have x1 := g.keeps x1
    have y0 := g.keeps y0
    have y1 := g.keeps y1
    have h0 := g.keeps h0
    have h1 := g.keeps h1
    have j0 := g.keeps j0
    have j1 := g.keeps j1
    have HG := Lib.hid (HG.out.trans g)
    clear g
    go_wp2_with fail
    refine (HM2.out _).mono ?_
    rintro e w9 ⟨rfl, g⟩
    have fh0 := g.frozen h0 fh0
    have fh1 := g.frozen h1 fh1
    have fj0 := g.frozen j0 fj0
    have fj1 := g.frozen j1 fj1
    have x0 := g.keeps x0
    have x1 := g.keeps x1
    have y0 := g.keeps y0
    have y1 := g.keeps y1
    have h0 := g.keeps h0
    have h1 := g.keeps h1
    have j0 := g.keeps j0
    have j1 := g.keeps j1
    have HG := Lib.hid (HG.out.trans g)
    clear g
    go_wp2_with fail
    refine (shown_of HDIV.out _ (HT.out.later HG.out)).mono ?_
    rintro e w10 ⟨rfl, g⟩
    have HG := Lib.hid (HG.out.trans g)
    clear g
    go_wp2_with fail
    go_ret
    exact ⟨rfl, HG.out⟩
end Go.Proofs.YtnehcafmebokmaaGreatDoor

