/- The law WideRings: try.sum, try.product, try.equal. -/
import Derived.Test.YtgalgldnhdiggaaDoorPForml
import Derived.Test.YtgalgldnhdiggaaDoorPGg
namespace Go.Proofs.YtgalgldnhdiggaaDoor
open Go.RowKit
set_option linter.unusedVariables false

/-- The value of a 'try'. -/
def tv (n : Bool) (s : ByteArray) (i : Bool) : Value := .agg #[.bool n, .string s, .bool i]
def Tv (n : Bool) (s : ByteArray) (i : Bool) (w : World) (e : Ending) (w' : World) : Prop := e = .returned (tv n s i) ∧ Gr w w'
theorem form_same {n n' : Bool} {s s' : ByteArray} (h : Form n s) (h' : Form n' s') (hz : zOf n s = zOf n' s') : n = n' ∧ s = s' := by
  constructor
  · rw [form_neg h, form_neg h', hz]
  · rw [form_str h, form_str h', hz]
theorem form_cl (z : Int) : Form (fNeg z) (fStr z) ∧ (z.natAbs < Ow.R → zOf (fNeg z) (fStr z) = z) := by
  by_cases h : z.natAbs < Ow.R
  · rw [fNeg_in h, fStr_in h]
    exact ⟨form_bstr z h, fun _ => zOf_bstr z⟩
  · rw [fNeg_out h, fStr_out h]
    refine ⟨?_, fun h2 => absurd h2 h⟩
    have h0 := form_bstr 0 (by unfold Ow.R; exact Nat.pow_pos (by omega))
    have e : bstr (0 : Int).natAbs = ⟨#[]⟩ := by unfold bstr; simp [Ow.byt_zero]
    rw [e] at h0
    exact h0

set_option maxRecDepth 100000 in
set_option maxHeartbeats 4000000 in
theorem try_sum (n : Bool) (s : ByteArray) (i : Bool) (n' : Bool) (s' : ByteArray) (j : Bool) (h : Form n s) (h' : Form n' s') (w : World) :
    Calls Tryd.prog 27 #[.agg #[.bool n, .string s, .bool i], .agg #[.bool n', .string s', .bool j]] w (Tv (fNeg (zOf n s + zOf n' s')) (fStr (zOf n s + zOf n' s')) (i && j && decide ((zOf n s + zOf n' s').natAbs < Ow.R)) w) := by
  have HC := Lib.hid (add_ok n s n' s' · h h')
  obtain ⟨z, hz⟩ : ∃ z, z = zOf n s + zOf n' s' := ⟨_, rfl⟩
  rw [← hz] at HC ⊢
  clear h h' hz
  obtain ⟨A, hA⟩ : ∃ A, A = fNeg z := ⟨_, rfl⟩
  obtain ⟨S, hS⟩ : ∃ S, S = fStr z := ⟨_, rfl⟩
  rw [← hA, ← hS] at HC ⊢
  obtain ⟨k, c, hk, hc⟩ : ∃ (k : Bool) (c : Int), k = decide (z.natAbs < Ow.R) ∧ c = fErr z := ⟨_, _, rfl, rfl⟩
  rw [← hc] at HC
  rw [← hk]
  have hkc : (c == 0) = k := by
    by_cases h : z.natAbs < Ow.R
    · rw [hc, hk, fErr_in h, decide_eq_true h]; rfl
    · rw [hc, hk, fErr_out h, decide_eq_false h]; rfl
  clear hA hS hk hc
  rcases i with _ | _ <;> rcases j with _ | _ <;> rcases k with _ | _
  · go_enter Tryd.func27, Tryd.ntmps27
    go_wp2_with fail
    obtain ⟨W, hW⟩ : ∃ W : World, W = (((w.alloc (.cells #[.bool n, .string s, .bool false] 43)).alloc (.cells #[.bool n', .string s', .bool false] 43)).alloc (.cells #[.bool false, .string ⟨#[]⟩, .bool false] 43)) := ⟨_, rfl⟩
    rw [← hW]
    have g1 : Gr w W := by rw [hW]; exact ((((Gr.refl _).alloc _).alloc _).alloc _)
    have a0 : W.cell? ⟨w.heap.size, 0, none⟩ = some (.bool n) := by rw [hW]; simp [go_sem]
    have a1 : W.cell? ⟨w.heap.size, 1, none⟩ = some (.string s) := by rw [hW]; simp [go_sem]
    have a2 : W.cell? ⟨w.heap.size, 2, none⟩ = some (.bool false) := by rw [hW]; simp [go_sem]
    have b0 : W.cell? ⟨w.heap.size + 1, 0, none⟩ = some (.bool n') := by rw [hW]; simp [go_sem]
    have b1 : W.cell? ⟨w.heap.size + 1, 1, none⟩ = some (.string s') := by rw [hW]; simp [go_sem]
    have b2 : W.cell? ⟨w.heap.size + 1, 2, none⟩ = some (.bool false) := by rw [hW]; simp [go_sem]
    have r0 : W.cell? ⟨w.heap.size + 1 + 1, 0, none⟩ = some (.bool false) := by rw [hW]; simp [go_sem]
    have er0 : W.frozen? ⟨w.heap.size + 1 + 1, 0, none⟩ = false := by rw [hW]; simp [go_sem]
    have r1 : W.cell? ⟨w.heap.size + 1 + 1, 1, none⟩ = some (.string ⟨#[]⟩) := by rw [hW]; simp [go_sem]
    have er1 : W.frozen? ⟨w.heap.size + 1 + 1, 1, none⟩ = false := by rw [hW]; simp [go_sem]
    have r2 : W.cell? ⟨w.heap.size + 1 + 1, 2, none⟩ = some (.bool false) := by rw [hW]; simp [go_sem]
    have er2 : W.frozen? ⟨w.heap.size + 1 + 1, 2, none⟩ = false := by rw [hW]; simp [go_sem]
    have hsz : W.heap.size = w.heap.size + 1 + 1 + 1 := by rw [hW]; simp
    have HG := Lib.hid g1
    have HSZ := Lib.hid hsz
    clear hW g1 hsz
    have fr0 := er0
    have fr1 := er1
    have fr2 := er2
    clear er0 er1 er2
    refine (HC.out _).mono ?_
    rintro e w2 ⟨rfl, g⟩
    have fr0 := g.frozen r0 fr0
    have fr1 := g.frozen r1 fr1
    have fr2 := g.frozen r2 fr2
    have a0 := g.keeps a0
    have a1 := g.keeps a1
    have a2 := g.keeps a2
    have b0 := g.keeps b0
    have b1 := g.keeps b1
    have b2 := g.keeps b2
    have r0 := g.keeps r0
    have r1 := g.keeps r1
    have r2 := g.keeps r2
    have HG := Lib.hid (HG.out.trans g)
    clear g
    have a0w2 := (Gr.new w2 (.cells #[.bool A, .string S] 23)).keeps a0
    have a1w2 := (Gr.new w2 (.cells #[.bool A, .string S] 23)).keeps a1
    have a2w2 := (Gr.new w2 (.cells #[.bool A, .string S] 23)).keeps a2
    have b0w2 := (Gr.new w2 (.cells #[.bool A, .string S] 23)).keeps b0
    have b1w2 := (Gr.new w2 (.cells #[.bool A, .string S] 23)).keeps b1
    have b2w2 := (Gr.new w2 (.cells #[.bool A, .string S] 23)).keeps b2
    have r0w2 := (Gr.new w2 (.cells #[.bool A, .string S] 23)).keeps r0
    have r1w2 := (Gr.new w2 (.cells #[.bool A, .string S] 23)).keeps r1
    have r2w2 := (Gr.new w2 (.cells #[.bool A, .string S] 23)).keeps r2
    have ne0w2 : ¬ (w.heap.size = w2.heap.size) := ne_of_cell a0
    have ne0w2s : ¬ (w2.heap.size = w.heap.size) := fun e => ne0w2 e.symm
    have ne1w2 : ¬ (w.heap.size + 1 = w2.heap.size) := ne_of_cell b0
    have ne1w2s : ¬ (w2.heap.size = w.heap.size + 1) := fun e => ne1w2 e.symm
    have ne2w2 : ¬ (w.heap.size + 1 + 1 = w2.heap.size) := ne_of_cell r0
    have ne2w2s : ¬ (w2.heap.size = w.heap.size + 1 + 1) := fun e => ne2w2 e.symm
    have fr0w2 := (Gr.new w2 (.cells #[.bool A, .string S] 23)).frozen r0 fr0
    have fr1w2 := (Gr.new w2 (.cells #[.bool A, .string S] 23)).frozen r1 fr1
    have fr2w2 := (Gr.new w2 (.cells #[.bool A, .string S] 23)).frozen r2 fr2
    clear a0
    clear a1
    clear a2
    clear b0
    clear b1
    clear b2
    clear r0
    clear r1
    clear r2
    clear fr0 fr1 fr2
    go_wp2_with fail
    refine bodyPost_ret (v := tv A S false) (by simp [tv, results, Tryd.results27, go_sem, r0w2, r1w2, r2w2]) rfl ?_
    exact ⟨rfl, ((HG.out.trans (Gr.new _ _)).put2 (by omega) _ _).setCell (p := ⟨w.heap.size + 1 + 1, 2, none⟩) (by simp only; omega) _⟩
  · go_enter Tryd.func27, Tryd.ntmps27
    go_wp2_with fail
    obtain ⟨W, hW⟩ : ∃ W : World, W = (((w.alloc (.cells #[.bool n, .string s, .bool false] 43)).alloc (.cells #[.bool n', .string s', .bool false] 43)).alloc (.cells #[.bool false, .string ⟨#[]⟩, .bool false] 43)) := ⟨_, rfl⟩
    rw [← hW]
    have g1 : Gr w W := by rw [hW]; exact ((((Gr.refl _).alloc _).alloc _).alloc _)
    have a0 : W.cell? ⟨w.heap.size, 0, none⟩ = some (.bool n) := by rw [hW]; simp [go_sem]
    have a1 : W.cell? ⟨w.heap.size, 1, none⟩ = some (.string s) := by rw [hW]; simp [go_sem]
    have a2 : W.cell? ⟨w.heap.size, 2, none⟩ = some (.bool false) := by rw [hW]; simp [go_sem]
    have b0 : W.cell? ⟨w.heap.size + 1, 0, none⟩ = some (.bool n') := by rw [hW]; simp [go_sem]
    have b1 : W.cell? ⟨w.heap.size + 1, 1, none⟩ = some (.string s') := by rw [hW]; simp [go_sem]
    have b2 : W.cell? ⟨w.heap.size + 1, 2, none⟩ = some (.bool false) := by rw [hW]; simp [go_sem]
    have r0 : W.cell? ⟨w.heap.size + 1 + 1, 0, none⟩ = some (.bool false) := by rw [hW]; simp [go_sem]
    have er0 : W.frozen? ⟨w.heap.size + 1 + 1, 0, none⟩ = false := by rw [hW]; simp [go_sem]
    have r1 : W.cell? ⟨w.heap.size + 1 + 1, 1, none⟩ = some (.string ⟨#[]⟩) := by rw [hW]; simp [go_sem]
    have er1 : W.frozen? ⟨w.heap.size + 1 + 1, 1, none⟩ = false := by rw [hW]; simp [go_sem]
    have r2 : W.cell? ⟨w.heap.size + 1 + 1, 2, none⟩ = some (.bool false) := by rw [hW]; simp [go_sem]
    have er2 : W.frozen? ⟨w.heap.size + 1 + 1, 2, none⟩ = false := by rw [hW]; simp [go_sem]
    have hsz : W.heap.size = w.heap.size + 1 + 1 + 1 := by rw [hW]; simp
    have HG := Lib.hid g1
    have HSZ := Lib.hid hsz
    clear hW g1 hsz
    have fr0 := er0
    have fr1 := er1
    have fr2 := er2
    clear er0 er1 er2
    refine (HC.out _).mono ?_
    rintro e w2 ⟨rfl, g⟩
    have fr0 := g.frozen r0 fr0
    have fr1 := g.frozen r1 fr1
    have fr2 := g.frozen r2 fr2
    have a0 := g.keeps a0
    have a1 := g.keeps a1
    have a2 := g.keeps a2
    have b0 := g.keeps b0
    have b1 := g.keeps b1
    have b2 := g.keeps b2
    have r0 := g.keeps r0
    have r1 := g.keeps r1
    have r2 := g.keeps r2
    have HG := Lib.hid (HG.out.trans g)
    clear g
    have a0w2 := (Gr.new w2 (.cells #[.bool A, .string S] 23)).keeps a0
    have a1w2 := (Gr.new w2 (.cells #[.bool A, .string S] 23)).keeps a1
    have a2w2 := (Gr.new w2 (.cells #[.bool A, .string S] 23)).keeps a2
    have b0w2 := (Gr.new w2 (.cells #[.bool A, .string S] 23)).keeps b0
    have b1w2 := (Gr.new w2 (.cells #[.bool A, .string S] 23)).keeps b1
    have b2w2 := (Gr.new w2 (.cells #[.bool A, .string S] 23)).keeps b2
    have r0w2 := (Gr.new w2 (.cells #[.bool A, .string S] 23)).keeps r0
    have r1w2 := (Gr.new w2 (.cells #[.bool A, .string S] 23)).keeps r1
    have r2w2 := (Gr.new w2 (.cells #[.bool A, .string S] 23)).keeps r2
    have ne0w2 : ¬ (w.heap.size = w2.heap.size) := ne_of_cell a0
    have ne0w2s : ¬ (w2.heap.size = w.heap.size) := fun e => ne0w2 e.symm
    have ne1w2 : ¬ (w.heap.size + 1 = w2.heap.size) := ne_of_cell b0
    have ne1w2s : ¬ (w2.heap.size = w.heap.size + 1) := fun e => ne1w2 e.symm
    have ne2w2 : ¬ (w.heap.size + 1 + 1 = w2.heap.size) := ne_of_cell r0
    have ne2w2s : ¬ (w2.heap.size = w.heap.size + 1 + 1) := fun e => ne2w2 e.symm
    have fr0w2 := (Gr.new w2 (.cells #[.bool A, .string S] 23)).frozen r0 fr0
    have fr1w2 := (Gr.new w2 (.cells #[.bool A, .string S] 23)).frozen r1 fr1
    have fr2w2 := (Gr.new w2 (.cells #[.bool A, .string S] 23)).frozen r2 fr2
    clear a0
    clear a1
    clear a2
    clear b0
    clear b1
    clear b2
    clear r0
    clear r1
    clear r2
    clear fr0 fr1 fr2
    go_wp2_with fail
    refine bodyPost_ret (v := tv A S false) (by simp [tv, results, Tryd.results27, go_sem, r0w2, r1w2, r2w2]) rfl ?_
    exact ⟨rfl, ((HG.out.trans (Gr.new _ _)).put2 (by omega) _ _).setCell (p := ⟨w.heap.size + 1 + 1, 2, none⟩) (by simp only; omega) _⟩
  · go_enter Tryd.func27, Tryd.ntmps27
    go_wp2_with fail
    obtain ⟨W, hW⟩ : ∃ W : World, W = (((w.alloc (.cells #[.bool n, .string s, .bool false] 43)).alloc (.cells #[.bool n', .string s', .bool true] 43)).alloc (.cells #[.bool false, .string ⟨#[]⟩, .bool false] 43)) := ⟨_, rfl⟩
    rw [← hW]
    have g1 : Gr w W := by rw [hW]; exact ((((Gr.refl _).alloc _).alloc _).alloc _)
    have a0 : W.cell? ⟨w.heap.size, 0, none⟩ = some (.bool n) := by rw [hW]; simp [go_sem]
    have a1 : W.cell? ⟨w.heap.size, 1, none⟩ = some (.string s) := by rw [hW]; simp [go_sem]
    have a2 : W.cell? ⟨w.heap.size, 2, none⟩ = some (.bool false) := by rw [hW]; simp [go_sem]
    have b0 : W.cell? ⟨w.heap.size + 1, 0, none⟩ = some (.bool n') := by rw [hW]; simp [go_sem]
    have b1 : W.cell? ⟨w.heap.size + 1, 1, none⟩ = some (.string s') := by rw [hW]; simp [go_sem]
    have b2 : W.cell? ⟨w.heap.size + 1, 2, none⟩ = some (.bool true) := by rw [hW]; simp [go_sem]
    have r0 : W.cell? ⟨w.heap.size + 1 + 1, 0, none⟩ = some (.bool false) := by rw [hW]; simp [go_sem]
    have er0 : W.frozen? ⟨w.heap.size + 1 + 1, 0, none⟩ = false := by rw [hW]; simp [go_sem]
    have r1 : W.cell? ⟨w.heap.size + 1 + 1, 1, none⟩ = some (.string ⟨#[]⟩) := by rw [hW]; simp [go_sem]
    have er1 : W.frozen? ⟨w.heap.size + 1 + 1, 1, none⟩ = false := by rw [hW]; simp [go_sem]
    have r2 : W.cell? ⟨w.heap.size + 1 + 1, 2, none⟩ = some (.bool false) := by rw [hW]; simp [go_sem]
    have er2 : W.frozen? ⟨w.heap.size + 1 + 1, 2, none⟩ = false := by rw [hW]; simp [go_sem]
    have hsz : W.heap.size = w.heap.size + 1 + 1 + 1 := by rw [hW]; simp
    have HG := Lib.hid g1
    have HSZ := Lib.hid hsz
    clear hW g1 hsz
    have fr0 := er0
    have fr1 := er1
    have fr2 := er2
    clear er0 er1 er2
    refine (HC.out _).mono ?_
    rintro e w2 ⟨rfl, g⟩
    have fr0 := g.frozen r0 fr0
    have fr1 := g.frozen r1 fr1
    have fr2 := g.frozen r2 fr2
    have a0 := g.keeps a0
    have a1 := g.keeps a1
    have a2 := g.keeps a2
    have b0 := g.keeps b0
    have b1 := g.keeps b1
    have b2 := g.keeps b2
    have r0 := g.keeps r0
    have r1 := g.keeps r1
    have r2 := g.keeps r2
    have HG := Lib.hid (HG.out.trans g)
    clear g
    have a0w2 := (Gr.new w2 (.cells #[.bool A, .string S] 23)).keeps a0
    have a1w2 := (Gr.new w2 (.cells #[.bool A, .string S] 23)).keeps a1
    have a2w2 := (Gr.new w2 (.cells #[.bool A, .string S] 23)).keeps a2
    have b0w2 := (Gr.new w2 (.cells #[.bool A, .string S] 23)).keeps b0
    have b1w2 := (Gr.new w2 (.cells #[.bool A, .string S] 23)).keeps b1
    have b2w2 := (Gr.new w2 (.cells #[.bool A, .string S] 23)).keeps b2
    have r0w2 := (Gr.new w2 (.cells #[.bool A, .string S] 23)).keeps r0
    have r1w2 := (Gr.new w2 (.cells #[.bool A, .string S] 23)).keeps r1
    have r2w2 := (Gr.new w2 (.cells #[.bool A, .string S] 23)).keeps r2
    have ne0w2 : ¬ (w.heap.size = w2.heap.size) := ne_of_cell a0
    have ne0w2s : ¬ (w2.heap.size = w.heap.size) := fun e => ne0w2 e.symm
    have ne1w2 : ¬ (w.heap.size + 1 = w2.heap.size) := ne_of_cell b0
    have ne1w2s : ¬ (w2.heap.size = w.heap.size + 1) := fun e => ne1w2 e.symm
    have ne2w2 : ¬ (w.heap.size + 1 + 1 = w2.heap.size) := ne_of_cell r0
    have ne2w2s : ¬ (w2.heap.size = w.heap.size + 1 + 1) := fun e => ne2w2 e.symm
    have fr0w2 := (Gr.new w2 (.cells #[.bool A, .string S] 23)).frozen r0 fr0
    have fr1w2 := (Gr.new w2 (.cells #[.bool A, .string S] 23)).frozen r1 fr1
    have fr2w2 := (Gr.new w2 (.cells #[.bool A, .string S] 23)).frozen r2 fr2
    clear a0
    clear a1
    clear a2
    clear b0
    clear b1
    clear b2
    clear r0
    clear r1
    clear r2
    clear fr0 fr1 fr2
    go_wp2_with fail
    refine bodyPost_ret (v := tv A S false) (by simp [tv, results, Tryd.results27, go_sem, r0w2, r1w2, r2w2]) rfl ?_
    exact ⟨rfl, ((HG.out.trans (Gr.new _ _)).put2 (by omega) _ _).setCell (p := ⟨w.heap.size + 1 + 1, 2, none⟩) (by simp only; omega) _⟩
  · go_enter Tryd.func27, Tryd.ntmps27
    go_wp2_with fail
    obtain ⟨W, hW⟩ : ∃ W : World, W = (((w.alloc (.cells #[.bool n, .string s, .bool false] 43)).alloc (.cells #[.bool n', .string s', .bool true] 43)).alloc (.cells #[.bool false, .string ⟨#[]⟩, .bool false] 43)) := ⟨_, rfl⟩
    rw [← hW]
    have g1 : Gr w W := by rw [hW]; exact ((((Gr.refl _).alloc _).alloc _).alloc _)
    have a0 : W.cell? ⟨w.heap.size, 0, none⟩ = some (.bool n) := by rw [hW]; simp [go_sem]
    have a1 : W.cell? ⟨w.heap.size, 1, none⟩ = some (.string s) := by rw [hW]; simp [go_sem]
    have a2 : W.cell? ⟨w.heap.size, 2, none⟩ = some (.bool false) := by rw [hW]; simp [go_sem]
    have b0 : W.cell? ⟨w.heap.size + 1, 0, none⟩ = some (.bool n') := by rw [hW]; simp [go_sem]
    have b1 : W.cell? ⟨w.heap.size + 1, 1, none⟩ = some (.string s') := by rw [hW]; simp [go_sem]
    have b2 : W.cell? ⟨w.heap.size + 1, 2, none⟩ = some (.bool true) := by rw [hW]; simp [go_sem]
    have r0 : W.cell? ⟨w.heap.size + 1 + 1, 0, none⟩ = some (.bool false) := by rw [hW]; simp [go_sem]
    have er0 : W.frozen? ⟨w.heap.size + 1 + 1, 0, none⟩ = false := by rw [hW]; simp [go_sem]
    have r1 : W.cell? ⟨w.heap.size + 1 + 1, 1, none⟩ = some (.string ⟨#[]⟩) := by rw [hW]; simp [go_sem]
    have er1 : W.frozen? ⟨w.heap.size + 1 + 1, 1, none⟩ = false := by rw [hW]; simp [go_sem]
    have r2 : W.cell? ⟨w.heap.size + 1 + 1, 2, none⟩ = some (.bool false) := by rw [hW]; simp [go_sem]
    have er2 : W.frozen? ⟨w.heap.size + 1 + 1, 2, none⟩ = false := by rw [hW]; simp [go_sem]
    have hsz : W.heap.size = w.heap.size + 1 + 1 + 1 := by rw [hW]; simp
    have HG := Lib.hid g1
    have HSZ := Lib.hid hsz
    clear hW g1 hsz
    have fr0 := er0
    have fr1 := er1
    have fr2 := er2
    clear er0 er1 er2
    refine (HC.out _).mono ?_
    rintro e w2 ⟨rfl, g⟩
    have fr0 := g.frozen r0 fr0
    have fr1 := g.frozen r1 fr1
    have fr2 := g.frozen r2 fr2
    have a0 := g.keeps a0
    have a1 := g.keeps a1
    have a2 := g.keeps a2
    have b0 := g.keeps b0
    have b1 := g.keeps b1
    have b2 := g.keeps b2
    have r0 := g.keeps r0
    have r1 := g.keeps r1
    have r2 := g.keeps r2
    have HG := Lib.hid (HG.out.trans g)
    clear g
    have a0w2 := (Gr.new w2 (.cells #[.bool A, .string S] 23)).keeps a0
    have a1w2 := (Gr.new w2 (.cells #[.bool A, .string S] 23)).keeps a1
    have a2w2 := (Gr.new w2 (.cells #[.bool A, .string S] 23)).keeps a2
    have b0w2 := (Gr.new w2 (.cells #[.bool A, .string S] 23)).keeps b0
    have b1w2 := (Gr.new w2 (.cells #[.bool A, .string S] 23)).keeps b1
    have b2w2 := (Gr.new w2 (.cells #[.bool A, .string S] 23)).keeps b2
    have r0w2 := (Gr.new w2 (.cells #[.bool A, .string S] 23)).keeps r0
    have r1w2 := (Gr.new w2 (.cells #[.bool A, .string S] 23)).keeps r1
    have r2w2 := (Gr.new w2 (.cells #[.bool A, .string S] 23)).keeps r2
    have ne0w2 : ¬ (w.heap.size = w2.heap.size) := ne_of_cell a0
    have ne0w2s : ¬ (w2.heap.size = w.heap.size) := fun e => ne0w2 e.symm
    have ne1w2 : ¬ (w.heap.size + 1 = w2.heap.size) := ne_of_cell b0
    have ne1w2s : ¬ (w2.heap.size = w.heap.size + 1) := fun e => ne1w2 e.symm
    have ne2w2 : ¬ (w.heap.size + 1 + 1 = w2.heap.size) := ne_of_cell r0
    have ne2w2s : ¬ (w2.heap.size = w.heap.size + 1 + 1) := fun e => ne2w2 e.symm
    have fr0w2 := (Gr.new w2 (.cells #[.bool A, .string S] 23)).frozen r0 fr0
    have fr1w2 := (Gr.new w2 (.cells #[.bool A, .string S] 23)).frozen r1 fr1
    have fr2w2 := (Gr.new w2 (.cells #[.bool A, .string S] 23)).frozen r2 fr2
    clear a0
    clear a1
    clear a2
    clear b0
    clear b1
    clear b2
    clear r0
    clear r1
    clear r2
    clear fr0 fr1 fr2
    go_wp2_with fail
    refine bodyPost_ret (v := tv A S false) (by simp [tv, results, Tryd.results27, go_sem, r0w2, r1w2, r2w2]) rfl ?_
    exact ⟨rfl, ((HG.out.trans (Gr.new _ _)).put2 (by omega) _ _).setCell (p := ⟨w.heap.size + 1 + 1, 2, none⟩) (by simp only; omega) _⟩
  · go_enter Tryd.func27, Tryd.ntmps27
    go_wp2_with fail
    obtain ⟨W, hW⟩ : ∃ W : World, W = (((w.alloc (.cells #[.bool n, .string s, .bool true] 43)).alloc (.cells #[.bool n', .string s', .bool false] 43)).alloc (.cells #[.bool false, .string ⟨#[]⟩, .bool false] 43)) := ⟨_, rfl⟩
    rw [← hW]
    have g1 : Gr w W := by rw [hW]; exact ((((Gr.refl _).alloc _).alloc _).alloc _)
    have a0 : W.cell? ⟨w.heap.size, 0, none⟩ = some (.bool n) := by rw [hW]; simp [go_sem]
    have a1 : W.cell? ⟨w.heap.size, 1, none⟩ = some (.string s) := by rw [hW]; simp [go_sem]
    have a2 : W.cell? ⟨w.heap.size, 2, none⟩ = some (.bool true) := by rw [hW]; simp [go_sem]
    have b0 : W.cell? ⟨w.heap.size + 1, 0, none⟩ = some (.bool n') := by rw [hW]; simp [go_sem]
    have b1 : W.cell? ⟨w.heap.size + 1, 1, none⟩ = some (.string s') := by rw [hW]; simp [go_sem]
    have b2 : W.cell? ⟨w.heap.size + 1, 2, none⟩ = some (.bool false) := by rw [hW]; simp [go_sem]
    have r0 : W.cell? ⟨w.heap.size + 1 + 1, 0, none⟩ = some (.bool false) := by rw [hW]; simp [go_sem]
    have er0 : W.frozen? ⟨w.heap.size + 1 + 1, 0, none⟩ = false := by rw [hW]; simp [go_sem]
    have r1 : W.cell? ⟨w.heap.size + 1 + 1, 1, none⟩ = some (.string ⟨#[]⟩) := by rw [hW]; simp [go_sem]
    have er1 : W.frozen? ⟨w.heap.size + 1 + 1, 1, none⟩ = false := by rw [hW]; simp [go_sem]
    have r2 : W.cell? ⟨w.heap.size + 1 + 1, 2, none⟩ = some (.bool false) := by rw [hW]; simp [go_sem]
    have er2 : W.frozen? ⟨w.heap.size + 1 + 1, 2, none⟩ = false := by rw [hW]; simp [go_sem]
    have hsz : W.heap.size = w.heap.size + 1 + 1 + 1 := by rw [hW]; simp
    have HG := Lib.hid g1
    have HSZ := Lib.hid hsz
    clear hW g1 hsz
    have fr0 := er0
    have fr1 := er1
    have fr2 := er2
    clear er0 er1 er2
    refine (HC.out _).mono ?_
    rintro e w2 ⟨rfl, g⟩
    have fr0 := g.frozen r0 fr0
    have fr1 := g.frozen r1 fr1
    have fr2 := g.frozen r2 fr2
    have a0 := g.keeps a0
    have a1 := g.keeps a1
    have a2 := g.keeps a2
    have b0 := g.keeps b0
    have b1 := g.keeps b1
    have b2 := g.keeps b2
    have r0 := g.keeps r0
    have r1 := g.keeps r1
    have r2 := g.keeps r2
    have HG := Lib.hid (HG.out.trans g)
    clear g
    have a0w2 := (Gr.new w2 (.cells #[.bool A, .string S] 23)).keeps a0
    have a1w2 := (Gr.new w2 (.cells #[.bool A, .string S] 23)).keeps a1
    have a2w2 := (Gr.new w2 (.cells #[.bool A, .string S] 23)).keeps a2
    have b0w2 := (Gr.new w2 (.cells #[.bool A, .string S] 23)).keeps b0
    have b1w2 := (Gr.new w2 (.cells #[.bool A, .string S] 23)).keeps b1
    have b2w2 := (Gr.new w2 (.cells #[.bool A, .string S] 23)).keeps b2
    have r0w2 := (Gr.new w2 (.cells #[.bool A, .string S] 23)).keeps r0
    have r1w2 := (Gr.new w2 (.cells #[.bool A, .string S] 23)).keeps r1
    have r2w2 := (Gr.new w2 (.cells #[.bool A, .string S] 23)).keeps r2
    have ne0w2 : ¬ (w.heap.size = w2.heap.size) := ne_of_cell a0
    have ne0w2s : ¬ (w2.heap.size = w.heap.size) := fun e => ne0w2 e.symm
    have ne1w2 : ¬ (w.heap.size + 1 = w2.heap.size) := ne_of_cell b0
    have ne1w2s : ¬ (w2.heap.size = w.heap.size + 1) := fun e => ne1w2 e.symm
    have ne2w2 : ¬ (w.heap.size + 1 + 1 = w2.heap.size) := ne_of_cell r0
    have ne2w2s : ¬ (w2.heap.size = w.heap.size + 1 + 1) := fun e => ne2w2 e.symm
    have fr0w2 := (Gr.new w2 (.cells #[.bool A, .string S] 23)).frozen r0 fr0
    have fr1w2 := (Gr.new w2 (.cells #[.bool A, .string S] 23)).frozen r1 fr1
    have fr2w2 := (Gr.new w2 (.cells #[.bool A, .string S] 23)).frozen r2 fr2
    clear a0
    clear a1
    clear a2
    clear b0
    clear b1
    clear b2
    clear r0
    clear r1
    clear r2
    clear fr0 fr1 fr2
    go_wp2_with fail
    refine bodyPost_ret (v := tv A S false) (by simp [tv, results, Tryd.results27, go_sem, r0w2, r1w2, r2w2]) rfl ?_
    exact ⟨rfl, ((HG.out.trans (Gr.new _ _)).put2 (by omega) _ _).setCell (p := ⟨w.heap.size + 1 + 1, 2, none⟩) (by simp only; omega) _⟩
  · go_enter Tryd.func27, Tryd.ntmps27
    go_wp2_with fail
    obtain ⟨W, hW⟩ : ∃ W : World, W = (((w.alloc (.cells #[.bool n, .string s, .bool true] 43)).alloc (.cells #[.bool n', .string s', .bool false] 43)).alloc (.cells #[.bool false, .string ⟨#[]⟩, .bool false] 43)) := ⟨_, rfl⟩
    rw [← hW]
    have g1 : Gr w W := by rw [hW]; exact ((((Gr.refl _).alloc _).alloc _).alloc _)
    have a0 : W.cell? ⟨w.heap.size, 0, none⟩ = some (.bool n) := by rw [hW]; simp [go_sem]
    have a1 : W.cell? ⟨w.heap.size, 1, none⟩ = some (.string s) := by rw [hW]; simp [go_sem]
    have a2 : W.cell? ⟨w.heap.size, 2, none⟩ = some (.bool true) := by rw [hW]; simp [go_sem]
    have b0 : W.cell? ⟨w.heap.size + 1, 0, none⟩ = some (.bool n') := by rw [hW]; simp [go_sem]
    have b1 : W.cell? ⟨w.heap.size + 1, 1, none⟩ = some (.string s') := by rw [hW]; simp [go_sem]
    have b2 : W.cell? ⟨w.heap.size + 1, 2, none⟩ = some (.bool false) := by rw [hW]; simp [go_sem]
    have r0 : W.cell? ⟨w.heap.size + 1 + 1, 0, none⟩ = some (.bool false) := by rw [hW]; simp [go_sem]
    have er0 : W.frozen? ⟨w.heap.size + 1 + 1, 0, none⟩ = false := by rw [hW]; simp [go_sem]
    have r1 : W.cell? ⟨w.heap.size + 1 + 1, 1, none⟩ = some (.string ⟨#[]⟩) := by rw [hW]; simp [go_sem]
    have er1 : W.frozen? ⟨w.heap.size + 1 + 1, 1, none⟩ = false := by rw [hW]; simp [go_sem]
    have r2 : W.cell? ⟨w.heap.size + 1 + 1, 2, none⟩ = some (.bool false) := by rw [hW]; simp [go_sem]
    have er2 : W.frozen? ⟨w.heap.size + 1 + 1, 2, none⟩ = false := by rw [hW]; simp [go_sem]
    have hsz : W.heap.size = w.heap.size + 1 + 1 + 1 := by rw [hW]; simp
    have HG := Lib.hid g1
    have HSZ := Lib.hid hsz
    clear hW g1 hsz
    have fr0 := er0
    have fr1 := er1
    have fr2 := er2
    clear er0 er1 er2
    refine (HC.out _).mono ?_
    rintro e w2 ⟨rfl, g⟩
    have fr0 := g.frozen r0 fr0
    have fr1 := g.frozen r1 fr1
    have fr2 := g.frozen r2 fr2
    have a0 := g.keeps a0
    have a1 := g.keeps a1
    have a2 := g.keeps a2
    have b0 := g.keeps b0
    have b1 := g.keeps b1
    have b2 := g.keeps b2
    have r0 := g.keeps r0
    have r1 := g.keeps r1
    have r2 := g.keeps r2
    have HG := Lib.hid (HG.out.trans g)
    clear g
    have a0w2 := (Gr.new w2 (.cells #[.bool A, .string S] 23)).keeps a0
    have a1w2 := (Gr.new w2 (.cells #[.bool A, .string S] 23)).keeps a1
    have a2w2 := (Gr.new w2 (.cells #[.bool A, .string S] 23)).keeps a2
    have b0w2 := (Gr.new w2 (.cells #[.bool A, .string S] 23)).keeps b0
    have b1w2 := (Gr.new w2 (.cells #[.bool A, .string S] 23)).keeps b1
    have b2w2 := (Gr.new w2 (.cells #[.bool A, .string S] 23)).keeps b2
    have r0w2 := (Gr.new w2 (.cells #[.bool A, .string S] 23)).keeps r0
    have r1w2 := (Gr.new w2 (.cells #[.bool A, .string S] 23)).keeps r1
    have r2w2 := (Gr.new w2 (.cells #[.bool A, .string S] 23)).keeps r2
    have ne0w2 : ¬ (w.heap.size = w2.heap.size) := ne_of_cell a0
    have ne0w2s : ¬ (w2.heap.size = w.heap.size) := fun e => ne0w2 e.symm
    have ne1w2 : ¬ (w.heap.size + 1 = w2.heap.size) := ne_of_cell b0
    have ne1w2s : ¬ (w2.heap.size = w.heap.size + 1) := fun e => ne1w2 e.symm
    have ne2w2 : ¬ (w.heap.size + 1 + 1 = w2.heap.size) := ne_of_cell r0
    have ne2w2s : ¬ (w2.heap.size = w.heap.size + 1 + 1) := fun e => ne2w2 e.symm
    have fr0w2 := (Gr.new w2 (.cells #[.bool A, .string S] 23)).frozen r0 fr0
    have fr1w2 := (Gr.new w2 (.cells #[.bool A, .string S] 23)).frozen r1 fr1
    have fr2w2 := (Gr.new w2 (.cells #[.bool A, .string S] 23)).frozen r2 fr2
    clear a0
    clear a1
    clear a2
    clear b0
    clear b1
    clear b2
    clear r0
    clear r1
    clear r2
    clear fr0 fr1 fr2
    go_wp2_with fail
    refine bodyPost_ret (v := tv A S false) (by simp [tv, results, Tryd.results27, go_sem, r0w2, r1w2, r2w2]) rfl ?_
    exact ⟨rfl, ((HG.out.trans (Gr.new _ _)).put2 (by omega) _ _).setCell (p := ⟨w.heap.size + 1 + 1, 2, none⟩) (by simp only; omega) _⟩
  · go_enter Tryd.func27, Tryd.ntmps27
    go_wp2_with fail
    obtain ⟨W, hW⟩ : ∃ W : World, W = (((w.alloc (.cells #[.bool n, .string s, .bool true] 43)).alloc (.cells #[.bool n', .string s', .bool true] 43)).alloc (.cells #[.bool false, .string ⟨#[]⟩, .bool false] 43)) := ⟨_, rfl⟩
    rw [← hW]
    have g1 : Gr w W := by rw [hW]; exact ((((Gr.refl _).alloc _).alloc _).alloc _)
    have a0 : W.cell? ⟨w.heap.size, 0, none⟩ = some (.bool n) := by rw [hW]; simp [go_sem]
    have a1 : W.cell? ⟨w.heap.size, 1, none⟩ = some (.string s) := by rw [hW]; simp [go_sem]
    have a2 : W.cell? ⟨w.heap.size, 2, none⟩ = some (.bool true) := by rw [hW]; simp [go_sem]
    have b0 : W.cell? ⟨w.heap.size + 1, 0, none⟩ = some (.bool n') := by rw [hW]; simp [go_sem]
    have b1 : W.cell? ⟨w.heap.size + 1, 1, none⟩ = some (.string s') := by rw [hW]; simp [go_sem]
    have b2 : W.cell? ⟨w.heap.size + 1, 2, none⟩ = some (.bool true) := by rw [hW]; simp [go_sem]
    have r0 : W.cell? ⟨w.heap.size + 1 + 1, 0, none⟩ = some (.bool false) := by rw [hW]; simp [go_sem]
    have er0 : W.frozen? ⟨w.heap.size + 1 + 1, 0, none⟩ = false := by rw [hW]; simp [go_sem]
    have r1 : W.cell? ⟨w.heap.size + 1 + 1, 1, none⟩ = some (.string ⟨#[]⟩) := by rw [hW]; simp [go_sem]
    have er1 : W.frozen? ⟨w.heap.size + 1 + 1, 1, none⟩ = false := by rw [hW]; simp [go_sem]
    have r2 : W.cell? ⟨w.heap.size + 1 + 1, 2, none⟩ = some (.bool false) := by rw [hW]; simp [go_sem]
    have er2 : W.frozen? ⟨w.heap.size + 1 + 1, 2, none⟩ = false := by rw [hW]; simp [go_sem]
    have hsz : W.heap.size = w.heap.size + 1 + 1 + 1 := by rw [hW]; simp
    have HG := Lib.hid g1
    have HSZ := Lib.hid hsz
    clear hW g1 hsz
    have fr0 := er0
    have fr1 := er1
    have fr2 := er2
    clear er0 er1 er2
    refine (HC.out _).mono ?_
    rintro e w2 ⟨rfl, g⟩
    have fr0 := g.frozen r0 fr0
    have fr1 := g.frozen r1 fr1
    have fr2 := g.frozen r2 fr2
    have a0 := g.keeps a0
    have a1 := g.keeps a1
    have a2 := g.keeps a2
    have b0 := g.keeps b0
    have b1 := g.keeps b1
    have b2 := g.keeps b2
    have r0 := g.keeps r0
    have r1 := g.keeps r1
    have r2 := g.keeps r2
    have HG := Lib.hid (HG.out.trans g)
    clear g
    have a0w2 := (Gr.new w2 (.cells #[.bool A, .string S] 23)).keeps a0
    have a1w2 := (Gr.new w2 (.cells #[.bool A, .string S] 23)).keeps a1
    have a2w2 := (Gr.new w2 (.cells #[.bool A, .string S] 23)).keeps a2
    have b0w2 := (Gr.new w2 (.cells #[.bool A, .string S] 23)).keeps b0
    have b1w2 := (Gr.new w2 (.cells #[.bool A, .string S] 23)).keeps b1
    have b2w2 := (Gr.new w2 (.cells #[.bool A, .string S] 23)).keeps b2
    have r0w2 := (Gr.new w2 (.cells #[.bool A, .string S] 23)).keeps r0
    have r1w2 := (Gr.new w2 (.cells #[.bool A, .string S] 23)).keeps r1
    have r2w2 := (Gr.new w2 (.cells #[.bool A, .string S] 23)).keeps r2
    have ne0w2 : ¬ (w.heap.size = w2.heap.size) := ne_of_cell a0
    have ne0w2s : ¬ (w2.heap.size = w.heap.size) := fun e => ne0w2 e.symm
    have ne1w2 : ¬ (w.heap.size + 1 = w2.heap.size) := ne_of_cell b0
    have ne1w2s : ¬ (w2.heap.size = w.heap.size + 1) := fun e => ne1w2 e.symm
    have ne2w2 : ¬ (w.heap.size + 1 + 1 = w2.heap.size) := ne_of_cell r0
    have ne2w2s : ¬ (w2.heap.size = w.heap.size + 1 + 1) := fun e => ne2w2 e.symm
    have fr0w2 := (Gr.new w2 (.cells #[.bool A, .string S] 23)).frozen r0 fr0
    have fr1w2 := (Gr.new w2 (.cells #[.bool A, .string S] 23)).frozen r1 fr1
    have fr2w2 := (Gr.new w2 (.cells #[.bool A, .string S] 23)).frozen r2 fr2
    clear a0
    clear a1
    clear a2
    clear b0
    clear b1
    clear b2
    clear r0
    clear r1
    clear r2
    clear fr0 fr1 fr2
    go_wp2_with fail
    refine bodyPost_ret (v := tv A S false) (by simp [tv, results, Tryd.results27, go_sem, r0w2, r1w2, r2w2]) rfl ?_
    exact ⟨rfl, ((HG.out.trans (Gr.new _ _)).put2 (by omega) _ _).setCell (p := ⟨w.heap.size + 1 + 1, 2, none⟩) (by simp only; omega) _⟩
  · go_enter Tryd.func27, Tryd.ntmps27
    go_wp2_with fail
    obtain ⟨W, hW⟩ : ∃ W : World, W = (((w.alloc (.cells #[.bool n, .string s, .bool true] 43)).alloc (.cells #[.bool n', .string s', .bool true] 43)).alloc (.cells #[.bool false, .string ⟨#[]⟩, .bool false] 43)) := ⟨_, rfl⟩
    rw [← hW]
    have g1 : Gr w W := by rw [hW]; exact ((((Gr.refl _).alloc _).alloc _).alloc _)
    have a0 : W.cell? ⟨w.heap.size, 0, none⟩ = some (.bool n) := by rw [hW]; simp [go_sem]
    have a1 : W.cell? ⟨w.heap.size, 1, none⟩ = some (.string s) := by rw [hW]; simp [go_sem]
    have a2 : W.cell? ⟨w.heap.size, 2, none⟩ = some (.bool true) := by rw [hW]; simp [go_sem]
    have b0 : W.cell? ⟨w.heap.size + 1, 0, none⟩ = some (.bool n') := by rw [hW]; simp [go_sem]
    have b1 : W.cell? ⟨w.heap.size + 1, 1, none⟩ = some (.string s') := by rw [hW]; simp [go_sem]
    have b2 : W.cell? ⟨w.heap.size + 1, 2, none⟩ = some (.bool true) := by rw [hW]; simp [go_sem]
    have r0 : W.cell? ⟨w.heap.size + 1 + 1, 0, none⟩ = some (.bool false) := by rw [hW]; simp [go_sem]
    have er0 : W.frozen? ⟨w.heap.size + 1 + 1, 0, none⟩ = false := by rw [hW]; simp [go_sem]
    have r1 : W.cell? ⟨w.heap.size + 1 + 1, 1, none⟩ = some (.string ⟨#[]⟩) := by rw [hW]; simp [go_sem]
    have er1 : W.frozen? ⟨w.heap.size + 1 + 1, 1, none⟩ = false := by rw [hW]; simp [go_sem]
    have r2 : W.cell? ⟨w.heap.size + 1 + 1, 2, none⟩ = some (.bool false) := by rw [hW]; simp [go_sem]
    have er2 : W.frozen? ⟨w.heap.size + 1 + 1, 2, none⟩ = false := by rw [hW]; simp [go_sem]
    have hsz : W.heap.size = w.heap.size + 1 + 1 + 1 := by rw [hW]; simp
    have HG := Lib.hid g1
    have HSZ := Lib.hid hsz
    clear hW g1 hsz
    have fr0 := er0
    have fr1 := er1
    have fr2 := er2
    clear er0 er1 er2
    refine (HC.out _).mono ?_
    rintro e w2 ⟨rfl, g⟩
    have fr0 := g.frozen r0 fr0
    have fr1 := g.frozen r1 fr1
    have fr2 := g.frozen r2 fr2
    have a0 := g.keeps a0
    have a1 := g.keeps a1
    have a2 := g.keeps a2
    have b0 := g.keeps b0
    have b1 := g.keeps b1
    have b2 := g.keeps b2
    have r0 := g.keeps r0
    have r1 := g.keeps r1
    have r2 := g.keeps r2
    have HG := Lib.hid (HG.out.trans g)
    clear g
    have a0w2 := (Gr.new w2 (.cells #[.bool A, .string S] 23)).keeps a0
    have a1w2 := (Gr.new w2 (.cells #[.bool A, .string S] 23)).keeps a1
    have a2w2 := (Gr.new w2 (.cells #[.bool A, .string S] 23)).keeps a2
    have b0w2 := (Gr.new w2 (.cells #[.bool A, .string S] 23)).keeps b0
    have b1w2 := (Gr.new w2 (.cells #[.bool A, .string S] 23)).keeps b1
    have b2w2 := (Gr.new w2 (.cells #[.bool A, .string S] 23)).keeps b2
    have r0w2 := (Gr.new w2 (.cells #[.bool A, .string S] 23)).keeps r0
    have r1w2 := (Gr.new w2 (.cells #[.bool A, .string S] 23)).keeps r1
    have r2w2 := (Gr.new w2 (.cells #[.bool A, .string S] 23)).keeps r2
    have ne0w2 : ¬ (w.heap.size = w2.heap.size) := ne_of_cell a0
    have ne0w2s : ¬ (w2.heap.size = w.heap.size) := fun e => ne0w2 e.symm
    have ne1w2 : ¬ (w.heap.size + 1 = w2.heap.size) := ne_of_cell b0
    have ne1w2s : ¬ (w2.heap.size = w.heap.size + 1) := fun e => ne1w2 e.symm
    have ne2w2 : ¬ (w.heap.size + 1 + 1 = w2.heap.size) := ne_of_cell r0
    have ne2w2s : ¬ (w2.heap.size = w.heap.size + 1 + 1) := fun e => ne2w2 e.symm
    have fr0w2 := (Gr.new w2 (.cells #[.bool A, .string S] 23)).frozen r0 fr0
    have fr1w2 := (Gr.new w2 (.cells #[.bool A, .string S] 23)).frozen r1 fr1
    have fr2w2 := (Gr.new w2 (.cells #[.bool A, .string S] 23)).frozen r2 fr2
    clear a0
    clear a1
    clear a2
    clear b0
    clear b1
    clear b2
    clear r0
    clear r1
    clear r2
    clear fr0 fr1 fr2
    go_wp2_with fail
    refine bodyPost_ret (v := tv A S true) (by simp [tv, results, Tryd.results27, go_sem, r0w2, r1w2, r2w2]) rfl ?_
    exact ⟨rfl, ((HG.out.trans (Gr.new _ _)).put2 (by omega) _ _).setCell (p := ⟨w.heap.size + 1 + 1, 2, none⟩) (by simp only; omega) _⟩

set_option maxRecDepth 100000 in
set_option maxHeartbeats 4000000 in
theorem try_product (n : Bool) (s : ByteArray) (i : Bool) (n' : Bool) (s' : ByteArray) (j : Bool) (h : Form n s) (h' : Form n' s') (w : World) :
    Calls Tryd.prog 29 #[.agg #[.bool n, .string s, .bool i], .agg #[.bool n', .string s', .bool j]] w (Tv (fNeg (zOf n s * zOf n' s')) (fStr (zOf n s * zOf n' s')) (i && j && decide ((zOf n s * zOf n' s').natAbs < Ow.R)) w) := by
  have HC := Lib.hid (mul_ok n s n' s' · h h')
  obtain ⟨z, hz⟩ : ∃ z, z = zOf n s * zOf n' s' := ⟨_, rfl⟩
  rw [← hz] at HC ⊢
  clear h h' hz
  obtain ⟨A, hA⟩ : ∃ A, A = fNeg z := ⟨_, rfl⟩
  obtain ⟨S, hS⟩ : ∃ S, S = fStr z := ⟨_, rfl⟩
  rw [← hA, ← hS] at HC ⊢
  obtain ⟨k, c, hk, hc⟩ : ∃ (k : Bool) (c : Int), k = decide (z.natAbs < Ow.R) ∧ c = fErr z := ⟨_, _, rfl, rfl⟩
  rw [← hc] at HC
  rw [← hk]
  have hkc : (c == 0) = k := by
    by_cases h : z.natAbs < Ow.R
    · rw [hc, hk, fErr_in h, decide_eq_true h]; rfl
    · rw [hc, hk, fErr_out h, decide_eq_false h]; rfl
  clear hA hS hk hc
  rcases i with _ | _ <;> rcases j with _ | _ <;> rcases k with _ | _
  · go_enter Tryd.func29, Tryd.ntmps29
    go_wp2_with fail
    obtain ⟨W, hW⟩ : ∃ W : World, W = (((w.alloc (.cells #[.bool n, .string s, .bool false] 43)).alloc (.cells #[.bool n', .string s', .bool false] 43)).alloc (.cells #[.bool false, .string ⟨#[]⟩, .bool false] 43)) := ⟨_, rfl⟩
    rw [← hW]
    have g1 : Gr w W := by rw [hW]; exact ((((Gr.refl _).alloc _).alloc _).alloc _)
    have a0 : W.cell? ⟨w.heap.size, 0, none⟩ = some (.bool n) := by rw [hW]; simp [go_sem]
    have a1 : W.cell? ⟨w.heap.size, 1, none⟩ = some (.string s) := by rw [hW]; simp [go_sem]
    have a2 : W.cell? ⟨w.heap.size, 2, none⟩ = some (.bool false) := by rw [hW]; simp [go_sem]
    have b0 : W.cell? ⟨w.heap.size + 1, 0, none⟩ = some (.bool n') := by rw [hW]; simp [go_sem]
    have b1 : W.cell? ⟨w.heap.size + 1, 1, none⟩ = some (.string s') := by rw [hW]; simp [go_sem]
    have b2 : W.cell? ⟨w.heap.size + 1, 2, none⟩ = some (.bool false) := by rw [hW]; simp [go_sem]
    have r0 : W.cell? ⟨w.heap.size + 1 + 1, 0, none⟩ = some (.bool false) := by rw [hW]; simp [go_sem]
    have er0 : W.frozen? ⟨w.heap.size + 1 + 1, 0, none⟩ = false := by rw [hW]; simp [go_sem]
    have r1 : W.cell? ⟨w.heap.size + 1 + 1, 1, none⟩ = some (.string ⟨#[]⟩) := by rw [hW]; simp [go_sem]
    have er1 : W.frozen? ⟨w.heap.size + 1 + 1, 1, none⟩ = false := by rw [hW]; simp [go_sem]
    have r2 : W.cell? ⟨w.heap.size + 1 + 1, 2, none⟩ = some (.bool false) := by rw [hW]; simp [go_sem]
    have er2 : W.frozen? ⟨w.heap.size + 1 + 1, 2, none⟩ = false := by rw [hW]; simp [go_sem]
    have hsz : W.heap.size = w.heap.size + 1 + 1 + 1 := by rw [hW]; simp
    have HG := Lib.hid g1
    have HSZ := Lib.hid hsz
    clear hW g1 hsz
    have fr0 := er0
    have fr1 := er1
    have fr2 := er2
    clear er0 er1 er2
    refine (HC.out _).mono ?_
    rintro e w2 ⟨rfl, g⟩
    have fr0 := g.frozen r0 fr0
    have fr1 := g.frozen r1 fr1
    have fr2 := g.frozen r2 fr2
    have a0 := g.keeps a0
    have a1 := g.keeps a1
    have a2 := g.keeps a2
    have b0 := g.keeps b0
    have b1 := g.keeps b1
    have b2 := g.keeps b2
    have r0 := g.keeps r0
    have r1 := g.keeps r1
    have r2 := g.keeps r2
    have HG := Lib.hid (HG.out.trans g)
    clear g
    have a0w2 := (Gr.new w2 (.cells #[.bool A, .string S] 23)).keeps a0
    have a1w2 := (Gr.new w2 (.cells #[.bool A, .string S] 23)).keeps a1
    have a2w2 := (Gr.new w2 (.cells #[.bool A, .string S] 23)).keeps a2
    have b0w2 := (Gr.new w2 (.cells #[.bool A, .string S] 23)).keeps b0
    have b1w2 := (Gr.new w2 (.cells #[.bool A, .string S] 23)).keeps b1
    have b2w2 := (Gr.new w2 (.cells #[.bool A, .string S] 23)).keeps b2
    have r0w2 := (Gr.new w2 (.cells #[.bool A, .string S] 23)).keeps r0
    have r1w2 := (Gr.new w2 (.cells #[.bool A, .string S] 23)).keeps r1
    have r2w2 := (Gr.new w2 (.cells #[.bool A, .string S] 23)).keeps r2
    have ne0w2 : ¬ (w.heap.size = w2.heap.size) := ne_of_cell a0
    have ne0w2s : ¬ (w2.heap.size = w.heap.size) := fun e => ne0w2 e.symm
    have ne1w2 : ¬ (w.heap.size + 1 = w2.heap.size) := ne_of_cell b0
    have ne1w2s : ¬ (w2.heap.size = w.heap.size + 1) := fun e => ne1w2 e.symm
    have ne2w2 : ¬ (w.heap.size + 1 + 1 = w2.heap.size) := ne_of_cell r0
    have ne2w2s : ¬ (w2.heap.size = w.heap.size + 1 + 1) := fun e => ne2w2 e.symm
    have fr0w2 := (Gr.new w2 (.cells #[.bool A, .string S] 23)).frozen r0 fr0
    have fr1w2 := (Gr.new w2 (.cells #[.bool A, .string S] 23)).frozen r1 fr1
    have fr2w2 := (Gr.new w2 (.cells #[.bool A, .string S] 23)).frozen r2 fr2
    clear a0
    clear a1
    clear a2
    clear b0
    clear b1
    clear b2
    clear r0
    clear r1
    clear r2
    clear fr0 fr1 fr2
    go_wp2_with fail
    refine bodyPost_ret (v := tv A S false) (by simp [tv, results, Tryd.results29, go_sem, r0w2, r1w2, r2w2]) rfl ?_
    exact ⟨rfl, ((HG.out.trans (Gr.new _ _)).put2 (by omega) _ _).setCell (p := ⟨w.heap.size + 1 + 1, 2, none⟩) (by simp only; omega) _⟩
  · go_enter Tryd.func29, Tryd.ntmps29
    go_wp2_with fail
    obtain ⟨W, hW⟩ : ∃ W : World, W = (((w.alloc (.cells #[.bool n, .string s, .bool false] 43)).alloc (.cells #[.bool n', .string s', .bool false] 43)).alloc (.cells #[.bool false, .string ⟨#[]⟩, .bool false] 43)) := ⟨_, rfl⟩
    rw [← hW]
    have g1 : Gr w W := by rw [hW]; exact ((((Gr.refl _).alloc _).alloc _).alloc _)
    have a0 : W.cell? ⟨w.heap.size, 0, none⟩ = some (.bool n) := by rw [hW]; simp [go_sem]
    have a1 : W.cell? ⟨w.heap.size, 1, none⟩ = some (.string s) := by rw [hW]; simp [go_sem]
    have a2 : W.cell? ⟨w.heap.size, 2, none⟩ = some (.bool false) := by rw [hW]; simp [go_sem]
    have b0 : W.cell? ⟨w.heap.size + 1, 0, none⟩ = some (.bool n') := by rw [hW]; simp [go_sem]
    have b1 : W.cell? ⟨w.heap.size + 1, 1, none⟩ = some (.string s') := by rw [hW]; simp [go_sem]
    have b2 : W.cell? ⟨w.heap.size + 1, 2, none⟩ = some (.bool false) := by rw [hW]; simp [go_sem]
    have r0 : W.cell? ⟨w.heap.size + 1 + 1, 0, none⟩ = some (.bool false) := by rw [hW]; simp [go_sem]
    have er0 : W.frozen? ⟨w.heap.size + 1 + 1, 0, none⟩ = false := by rw [hW]; simp [go_sem]
    have r1 : W.cell? ⟨w.heap.size + 1 + 1, 1, none⟩ = some (.string ⟨#[]⟩) := by rw [hW]; simp [go_sem]
    have er1 : W.frozen? ⟨w.heap.size + 1 + 1, 1, none⟩ = false := by rw [hW]; simp [go_sem]
    have r2 : W.cell? ⟨w.heap.size + 1 + 1, 2, none⟩ = some (.bool false) := by rw [hW]; simp [go_sem]
    have er2 : W.frozen? ⟨w.heap.size + 1 + 1, 2, none⟩ = false := by rw [hW]; simp [go_sem]
    have hsz : W.heap.size = w.heap.size + 1 + 1 + 1 := by rw [hW]; simp
    have HG := Lib.hid g1
    have HSZ := Lib.hid hsz
    clear hW g1 hsz
    have fr0 := er0
    have fr1 := er1
    have fr2 := er2
    clear er0 er1 er2
    refine (HC.out _).mono ?_
    rintro e w2 ⟨rfl, g⟩
    have fr0 := g.frozen r0 fr0
    have fr1 := g.frozen r1 fr1
    have fr2 := g.frozen r2 fr2
    have a0 := g.keeps a0
    have a1 := g.keeps a1
    have a2 := g.keeps a2
    have b0 := g.keeps b0
    have b1 := g.keeps b1
    have b2 := g.keeps b2
    have r0 := g.keeps r0
    have r1 := g.keeps r1
    have r2 := g.keeps r2
    have HG := Lib.hid (HG.out.trans g)
    clear g
    have a0w2 := (Gr.new w2 (.cells #[.bool A, .string S] 23)).keeps a0
    have a1w2 := (Gr.new w2 (.cells #[.bool A, .string S] 23)).keeps a1
    have a2w2 := (Gr.new w2 (.cells #[.bool A, .string S] 23)).keeps a2
    have b0w2 := (Gr.new w2 (.cells #[.bool A, .string S] 23)).keeps b0
    have b1w2 := (Gr.new w2 (.cells #[.bool A, .string S] 23)).keeps b1
    have b2w2 := (Gr.new w2 (.cells #[.bool A, .string S] 23)).keeps b2
    have r0w2 := (Gr.new w2 (.cells #[.bool A, .string S] 23)).keeps r0
    have r1w2 := (Gr.new w2 (.cells #[.bool A, .string S] 23)).keeps r1
    have r2w2 := (Gr.new w2 (.cells #[.bool A, .string S] 23)).keeps r2
    have ne0w2 : ¬ (w.heap.size = w2.heap.size) := ne_of_cell a0
    have ne0w2s : ¬ (w2.heap.size = w.heap.size) := fun e => ne0w2 e.symm
    have ne1w2 : ¬ (w.heap.size + 1 = w2.heap.size) := ne_of_cell b0
    have ne1w2s : ¬ (w2.heap.size = w.heap.size + 1) := fun e => ne1w2 e.symm
    have ne2w2 : ¬ (w.heap.size + 1 + 1 = w2.heap.size) := ne_of_cell r0
    have ne2w2s : ¬ (w2.heap.size = w.heap.size + 1 + 1) := fun e => ne2w2 e.symm
    have fr0w2 := (Gr.new w2 (.cells #[.bool A, .string S] 23)).frozen r0 fr0
    have fr1w2 := (Gr.new w2 (.cells #[.bool A, .string S] 23)).frozen r1 fr1
    have fr2w2 := (Gr.new w2 (.cells #[.bool A, .string S] 23)).frozen r2 fr2
    clear a0
    clear a1
    clear a2
    clear b0
    clear b1
    clear b2
    clear r0
    clear r1
    clear r2
    clear fr0 fr1 fr2
    go_wp2_with fail
    refine bodyPost_ret (v := tv A S false) (by simp [tv, results, Tryd.results29, go_sem, r0w2, r1w2, r2w2]) rfl ?_
    exact ⟨rfl, ((HG.out.trans (Gr.new _ _)).put2 (by omega) _ _).setCell (p := ⟨w.heap.size + 1 + 1, 2, none⟩) (by simp only; omega) _⟩
  · go_enter Tryd.func29, Tryd.ntmps29
    go_wp2_with fail
    obtain ⟨W, hW⟩ : ∃ W : World, W = (((w.alloc (.cells #[.bool n, .string s, .bool false] 43)).alloc (.cells #[.bool n', .string s', .bool true] 43)).alloc (.cells #[.bool false, .string ⟨#[]⟩, .bool false] 43)) := ⟨_, rfl⟩
    rw [← hW]
    have g1 : Gr w W := by rw [hW]; exact ((((Gr.refl _).alloc _).alloc _).alloc _)
    have a0 : W.cell? ⟨w.heap.size, 0, none⟩ = some (.bool n) := by rw [hW]; simp [go_sem]
    have a1 : W.cell? ⟨w.heap.size, 1, none⟩ = some (.string s) := by rw [hW]; simp [go_sem]
    have a2 : W.cell? ⟨w.heap.size, 2, none⟩ = some (.bool false) := by rw [hW]; simp [go_sem]
    have b0 : W.cell? ⟨w.heap.size + 1, 0, none⟩ = some (.bool n') := by rw [hW]; simp [go_sem]
    have b1 : W.cell? ⟨w.heap.size + 1, 1, none⟩ = some (.string s') := by rw [hW]; simp [go_sem]
    have b2 : W.cell? ⟨w.heap.size + 1, 2, none⟩ = some (.bool true) := by rw [hW]; simp [go_sem]
    have r0 : W.cell? ⟨w.heap.size + 1 + 1, 0, none⟩ = some (.bool false) := by rw [hW]; simp [go_sem]
    have er0 : W.frozen? ⟨w.heap.size + 1 + 1, 0, none⟩ = false := by rw [hW]; simp [go_sem]
    have r1 : W.cell? ⟨w.heap.size + 1 + 1, 1, none⟩ = some (.string ⟨#[]⟩) := by rw [hW]; simp [go_sem]
    have er1 : W.frozen? ⟨w.heap.size + 1 + 1, 1, none⟩ = false := by rw [hW]; simp [go_sem]
    have r2 : W.cell? ⟨w.heap.size + 1 + 1, 2, none⟩ = some (.bool false) := by rw [hW]; simp [go_sem]
    have er2 : W.frozen? ⟨w.heap.size + 1 + 1, 2, none⟩ = false := by rw [hW]; simp [go_sem]
    have hsz : W.heap.size = w.heap.size + 1 + 1 + 1 := by rw [hW]; simp
    have HG := Lib.hid g1
    have HSZ := Lib.hid hsz
    clear hW g1 hsz
    have fr0 := er0
    have fr1 := er1
    have fr2 := er2
    clear er0 er1 er2
    refine (HC.out _).mono ?_
    rintro e w2 ⟨rfl, g⟩
    have fr0 := g.frozen r0 fr0
    have fr1 := g.frozen r1 fr1
    have fr2 := g.frozen r2 fr2
    have a0 := g.keeps a0
    have a1 := g.keeps a1
    have a2 := g.keeps a2
    have b0 := g.keeps b0
    have b1 := g.keeps b1
    have b2 := g.keeps b2
    have r0 := g.keeps r0
    have r1 := g.keeps r1
    have r2 := g.keeps r2
    have HG := Lib.hid (HG.out.trans g)
    clear g
    have a0w2 := (Gr.new w2 (.cells #[.bool A, .string S] 23)).keeps a0
    have a1w2 := (Gr.new w2 (.cells #[.bool A, .string S] 23)).keeps a1
    have a2w2 := (Gr.new w2 (.cells #[.bool A, .string S] 23)).keeps a2
    have b0w2 := (Gr.new w2 (.cells #[.bool A, .string S] 23)).keeps b0
    have b1w2 := (Gr.new w2 (.cells #[.bool A, .string S] 23)).keeps b1
    have b2w2 := (Gr.new w2 (.cells #[.bool A, .string S] 23)).keeps b2
    have r0w2 := (Gr.new w2 (.cells #[.bool A, .string S] 23)).keeps r0
    have r1w2 := (Gr.new w2 (.cells #[.bool A, .string S] 23)).keeps r1
    have r2w2 := (Gr.new w2 (.cells #[.bool A, .string S] 23)).keeps r2
    have ne0w2 : ¬ (w.heap.size = w2.heap.size) := ne_of_cell a0
    have ne0w2s : ¬ (w2.heap.size = w.heap.size) := fun e => ne0w2 e.symm
    have ne1w2 : ¬ (w.heap.size + 1 = w2.heap.size) := ne_of_cell b0
    have ne1w2s : ¬ (w2.heap.size = w.heap.size + 1) := fun e => ne1w2 e.symm
    have ne2w2 : ¬ (w.heap.size + 1 + 1 = w2.heap.size) := ne_of_cell r0
    have ne2w2s : ¬ (w2.heap.size = w.heap.size + 1 + 1) := fun e => ne2w2 e.symm
    have fr0w2 := (Gr.new w2 (.cells #[.bool A, .string S] 23)).frozen r0 fr0
    have fr1w2 := (Gr.new w2 (.cells #[.bool A, .string S] 23)).frozen r1 fr1
    have fr2w2 := (Gr.new w2 (.cells #[.bool A, .string S] 23)).frozen r2 fr2
    clear a0
    clear a1
    clear a2
    clear b0
    clear b1
    clear b2
    clear r0
    clear r1
    clear r2
    clear fr0 fr1 fr2
    go_wp2_with fail
    refine bodyPost_ret (v := tv A S false) (by simp [tv, results, Tryd.results29, go_sem, r0w2, r1w2, r2w2]) rfl ?_
    exact ⟨rfl, ((HG.out.trans (Gr.new _ _)).put2 (by omega) _ _).setCell (p := ⟨w.heap.size + 1 + 1, 2, none⟩) (by simp only; omega) _⟩
  · go_enter Tryd.func29, Tryd.ntmps29
    go_wp2_with fail
    obtain ⟨W, hW⟩ : ∃ W : World, W = (((w.alloc (.cells #[.bool n, .string s, .bool false] 43)).alloc (.cells #[.bool n', .string s', .bool true] 43)).alloc (.cells #[.bool false, .string ⟨#[]⟩, .bool false] 43)) := ⟨_, rfl⟩
    rw [← hW]
    have g1 : Gr w W := by rw [hW]; exact ((((Gr.refl _).alloc _).alloc _).alloc _)
    have a0 : W.cell? ⟨w.heap.size, 0, none⟩ = some (.bool n) := by rw [hW]; simp [go_sem]
    have a1 : W.cell? ⟨w.heap.size, 1, none⟩ = some (.string s) := by rw [hW]; simp [go_sem]
    have a2 : W.cell? ⟨w.heap.size, 2, none⟩ = some (.bool false) := by rw [hW]; simp [go_sem]
    have b0 : W.cell? ⟨w.heap.size + 1, 0, none⟩ = some (.bool n') := by rw [hW]; simp [go_sem]
    have b1 : W.cell? ⟨w.heap.size + 1, 1, none⟩ = some (.string s') := by rw [hW]; simp [go_sem]
    have b2 : W.cell? ⟨w.heap.size + 1, 2, none⟩ = some (.bool true) := by rw [hW]; simp [go_sem]
    have r0 : W.cell? ⟨w.heap.size + 1 + 1, 0, none⟩ = some (.bool false) := by rw [hW]; simp [go_sem]
    have er0 : W.frozen? ⟨w.heap.size + 1 + 1, 0, none⟩ = false := by rw [hW]; simp [go_sem]
    have r1 : W.cell? ⟨w.heap.size + 1 + 1, 1, none⟩ = some (.string ⟨#[]⟩) := by rw [hW]; simp [go_sem]
    have er1 : W.frozen? ⟨w.heap.size + 1 + 1, 1, none⟩ = false := by rw [hW]; simp [go_sem]
    have r2 : W.cell? ⟨w.heap.size + 1 + 1, 2, none⟩ = some (.bool false) := by rw [hW]; simp [go_sem]
    have er2 : W.frozen? ⟨w.heap.size + 1 + 1, 2, none⟩ = false := by rw [hW]; simp [go_sem]
    have hsz : W.heap.size = w.heap.size + 1 + 1 + 1 := by rw [hW]; simp
    have HG := Lib.hid g1
    have HSZ := Lib.hid hsz
    clear hW g1 hsz
    have fr0 := er0
    have fr1 := er1
    have fr2 := er2
    clear er0 er1 er2
    refine (HC.out _).mono ?_
    rintro e w2 ⟨rfl, g⟩
    have fr0 := g.frozen r0 fr0
    have fr1 := g.frozen r1 fr1
    have fr2 := g.frozen r2 fr2
    have a0 := g.keeps a0
    have a1 := g.keeps a1
    have a2 := g.keeps a2
    have b0 := g.keeps b0
    have b1 := g.keeps b1
    have b2 := g.keeps b2
    have r0 := g.keeps r0
    have r1 := g.keeps r1
    have r2 := g.keeps r2
    have HG := Lib.hid (HG.out.trans g)
    clear g
    have a0w2 := (Gr.new w2 (.cells #[.bool A, .string S] 23)).keeps a0
    have a1w2 := (Gr.new w2 (.cells #[.bool A, .string S] 23)).keeps a1
    have a2w2 := (Gr.new w2 (.cells #[.bool A, .string S] 23)).keeps a2
    have b0w2 := (Gr.new w2 (.cells #[.bool A, .string S] 23)).keeps b0
    have b1w2 := (Gr.new w2 (.cells #[.bool A, .string S] 23)).keeps b1
    have b2w2 := (Gr.new w2 (.cells #[.bool A, .string S] 23)).keeps b2
    have r0w2 := (Gr.new w2 (.cells #[.bool A, .string S] 23)).keeps r0
    have r1w2 := (Gr.new w2 (.cells #[.bool A, .string S] 23)).keeps r1
    have r2w2 := (Gr.new w2 (.cells #[.bool A, .string S] 23)).keeps r2
    have ne0w2 : ¬ (w.heap.size = w2.heap.size) := ne_of_cell a0
    have ne0w2s : ¬ (w2.heap.size = w.heap.size) := fun e => ne0w2 e.symm
    have ne1w2 : ¬ (w.heap.size + 1 = w2.heap.size) := ne_of_cell b0
    have ne1w2s : ¬ (w2.heap.size = w.heap.size + 1) := fun e => ne1w2 e.symm
    have ne2w2 : ¬ (w.heap.size + 1 + 1 = w2.heap.size) := ne_of_cell r0
    have ne2w2s : ¬ (w2.heap.size = w.heap.size + 1 + 1) := fun e => ne2w2 e.symm
    have fr0w2 := (Gr.new w2 (.cells #[.bool A, .string S] 23)).frozen r0 fr0
    have fr1w2 := (Gr.new w2 (.cells #[.bool A, .string S] 23)).frozen r1 fr1
    have fr2w2 := (Gr.new w2 (.cells #[.bool A, .string S] 23)).frozen r2 fr2
    clear a0
    clear a1
    clear a2
    clear b0
    clear b1
    clear b2
    clear r0
    clear r1
    clear r2
    clear fr0 fr1 fr2
    go_wp2_with fail
    refine bodyPost_ret (v := tv A S false) (by simp [tv, results, Tryd.results29, go_sem, r0w2, r1w2, r2w2]) rfl ?_
    exact ⟨rfl, ((HG.out.trans (Gr.new _ _)).put2 (by omega) _ _).setCell (p := ⟨w.heap.size + 1 + 1, 2, none⟩) (by simp only; omega) _⟩
  · go_enter Tryd.func29, Tryd.ntmps29
    go_wp2_with fail
    obtain ⟨W, hW⟩ : ∃ W : World, W = (((w.alloc (.cells #[.bool n, .string s, .bool true] 43)).alloc (.cells #[.bool n', .string s', .bool false] 43)).alloc (.cells #[.bool false, .string ⟨#[]⟩, .bool false] 43)) := ⟨_, rfl⟩
    rw [← hW]
    have g1 : Gr w W := by rw [hW]; exact ((((Gr.refl _).alloc _).alloc _).alloc _)
    have a0 : W.cell? ⟨w.heap.size, 0, none⟩ = some (.bool n) := by rw [hW]; simp [go_sem]
    have a1 : W.cell? ⟨w.heap.size, 1, none⟩ = some (.string s) := by rw [hW]; simp [go_sem]
    have a2 : W.cell? ⟨w.heap.size, 2, none⟩ = some (.bool true) := by rw [hW]; simp [go_sem]
    have b0 : W.cell? ⟨w.heap.size + 1, 0, none⟩ = some (.bool n') := by rw [hW]; simp [go_sem]
    have b1 : W.cell? ⟨w.heap.size + 1, 1, none⟩ = some (.string s') := by rw [hW]; simp [go_sem]
    have b2 : W.cell? ⟨w.heap.size + 1, 2, none⟩ = some (.bool false) := by rw [hW]; simp [go_sem]
    have r0 : W.cell? ⟨w.heap.size + 1 + 1, 0, none⟩ = some (.bool false) := by rw [hW]; simp [go_sem]
    have er0 : W.frozen? ⟨w.heap.size + 1 + 1, 0, none⟩ = false := by rw [hW]; simp [go_sem]
    have r1 : W.cell? ⟨w.heap.size + 1 + 1, 1, none⟩ = some (.string ⟨#[]⟩) := by rw [hW]; simp [go_sem]
    have er1 : W.frozen? ⟨w.heap.size + 1 + 1, 1, none⟩ = false := by rw [hW]; simp [go_sem]
    have r2 : W.cell? ⟨w.heap.size + 1 + 1, 2, none⟩ = some (.bool false) := by rw [hW]; simp [go_sem]
    have er2 : W.frozen? ⟨w.heap.size + 1 + 1, 2, none⟩ = false := by rw [hW]; simp [go_sem]
    have hsz : W.heap.size = w.heap.size + 1 + 1 + 1 := by rw [hW]; simp
    have HG := Lib.hid g1
    have HSZ := Lib.hid hsz
    clear hW g1 hsz
    have fr0 := er0
    have fr1 := er1
    have fr2 := er2
    clear er0 er1 er2
    refine (HC.out _).mono ?_
    rintro e w2 ⟨rfl, g⟩
    have fr0 := g.frozen r0 fr0
    have fr1 := g.frozen r1 fr1
    have fr2 := g.frozen r2 fr2
    have a0 := g.keeps a0
    have a1 := g.keeps a1
    have a2 := g.keeps a2
    have b0 := g.keeps b0
    have b1 := g.keeps b1
    have b2 := g.keeps b2
    have r0 := g.keeps r0
    have r1 := g.keeps r1
    have r2 := g.keeps r2
    have HG := Lib.hid (HG.out.trans g)
    clear g
    have a0w2 := (Gr.new w2 (.cells #[.bool A, .string S] 23)).keeps a0
    have a1w2 := (Gr.new w2 (.cells #[.bool A, .string S] 23)).keeps a1
    have a2w2 := (Gr.new w2 (.cells #[.bool A, .string S] 23)).keeps a2
    have b0w2 := (Gr.new w2 (.cells #[.bool A, .string S] 23)).keeps b0
    have b1w2 := (Gr.new w2 (.cells #[.bool A, .string S] 23)).keeps b1
    have b2w2 := (Gr.new w2 (.cells #[.bool A, .string S] 23)).keeps b2
    have r0w2 := (Gr.new w2 (.cells #[.bool A, .string S] 23)).keeps r0
    have r1w2 := (Gr.new w2 (.cells #[.bool A, .string S] 23)).keeps r1
    have r2w2 := (Gr.new w2 (.cells #[.bool A, .string S] 23)).keeps r2
    have ne0w2 : ¬ (w.heap.size = w2.heap.size) := ne_of_cell a0
    have ne0w2s : ¬ (w2.heap.size = w.heap.size) := fun e => ne0w2 e.symm
    have ne1w2 : ¬ (w.heap.size + 1 = w2.heap.size) := ne_of_cell b0
    have ne1w2s : ¬ (w2.heap.size = w.heap.size + 1) := fun e => ne1w2 e.symm
    have ne2w2 : ¬ (w.heap.size + 1 + 1 = w2.heap.size) := ne_of_cell r0
    have ne2w2s : ¬ (w2.heap.size = w.heap.size + 1 + 1) := fun e => ne2w2 e.symm
    have fr0w2 := (Gr.new w2 (.cells #[.bool A, .string S] 23)).frozen r0 fr0
    have fr1w2 := (Gr.new w2 (.cells #[.bool A, .string S] 23)).frozen r1 fr1
    have fr2w2 := (Gr.new w2 (.cells #[.bool A, .string S] 23)).frozen r2 fr2
    clear a0
    clear a1
    clear a2
    clear b0
    clear b1
    clear b2
    clear r0
    clear r1
    clear r2
    clear fr0 fr1 fr2
    go_wp2_with fail
    refine bodyPost_ret (v := tv A S false) (by simp [tv, results, Tryd.results29, go_sem, r0w2, r1w2, r2w2]) rfl ?_
    exact ⟨rfl, ((HG.out.trans (Gr.new _ _)).put2 (by omega) _ _).setCell (p := ⟨w.heap.size + 1 + 1, 2, none⟩) (by simp only; omega) _⟩
  · go_enter Tryd.func29, Tryd.ntmps29
    go_wp2_with fail
    obtain ⟨W, hW⟩ : ∃ W : World, W = (((w.alloc (.cells #[.bool n, .string s, .bool true] 43)).alloc (.cells #[.bool n', .string s', .bool false] 43)).alloc (.cells #[.bool false, .string ⟨#[]⟩, .bool false] 43)) := ⟨_, rfl⟩
    rw [← hW]
    have g1 : Gr w W := by rw [hW]; exact ((((Gr.refl _).alloc _).alloc _).alloc _)
    have a0 : W.cell? ⟨w.heap.size, 0, none⟩ = some (.bool n) := by rw [hW]; simp [go_sem]
    have a1 : W.cell? ⟨w.heap.size, 1, none⟩ = some (.string s) := by rw [hW]; simp [go_sem]
    have a2 : W.cell? ⟨w.heap.size, 2, none⟩ = some (.bool true) := by rw [hW]; simp [go_sem]
    have b0 : W.cell? ⟨w.heap.size + 1, 0, none⟩ = some (.bool n') := by rw [hW]; simp [go_sem]
    have b1 : W.cell? ⟨w.heap.size + 1, 1, none⟩ = some (.string s') := by rw [hW]; simp [go_sem]
    have b2 : W.cell? ⟨w.heap.size + 1, 2, none⟩ = some (.bool false) := by rw [hW]; simp [go_sem]
    have r0 : W.cell? ⟨w.heap.size + 1 + 1, 0, none⟩ = some (.bool false) := by rw [hW]; simp [go_sem]
    have er0 : W.frozen? ⟨w.heap.size + 1 + 1, 0, none⟩ = false := by rw [hW]; simp [go_sem]
    have r1 : W.cell? ⟨w.heap.size + 1 + 1, 1, none⟩ = some (.string ⟨#[]⟩) := by rw [hW]; simp [go_sem]
    have er1 : W.frozen? ⟨w.heap.size + 1 + 1, 1, none⟩ = false := by rw [hW]; simp [go_sem]
    have r2 : W.cell? ⟨w.heap.size + 1 + 1, 2, none⟩ = some (.bool false) := by rw [hW]; simp [go_sem]
    have er2 : W.frozen? ⟨w.heap.size + 1 + 1, 2, none⟩ = false := by rw [hW]; simp [go_sem]
    have hsz : W.heap.size = w.heap.size + 1 + 1 + 1 := by rw [hW]; simp
    have HG := Lib.hid g1
    have HSZ := Lib.hid hsz
    clear hW g1 hsz
    have fr0 := er0
    have fr1 := er1
    have fr2 := er2
    clear er0 er1 er2
    refine (HC.out _).mono ?_
    rintro e w2 ⟨rfl, g⟩
    have fr0 := g.frozen r0 fr0
    have fr1 := g.frozen r1 fr1
    have fr2 := g.frozen r2 fr2
    have a0 := g.keeps a0
    have a1 := g.keeps a1
    have a2 := g.keeps a2
    have b0 := g.keeps b0
    have b1 := g.keeps b1
    have b2 := g.keeps b2
    have r0 := g.keeps r0
    have r1 := g.keeps r1
    have r2 := g.keeps r2
    have HG := Lib.hid (HG.out.trans g)
    clear g
    have a0w2 := (Gr.new w2 (.cells #[.bool A, .string S] 23)).keeps a0
    have a1w2 := (Gr.new w2 (.cells #[.bool A, .string S] 23)).keeps a1
    have a2w2 := (Gr.new w2 (.cells #[.bool A, .string S] 23)).keeps a2
    have b0w2 := (Gr.new w2 (.cells #[.bool A, .string S] 23)).keeps b0
    have b1w2 := (Gr.new w2 (.cells #[.bool A, .string S] 23)).keeps b1
    have b2w2 := (Gr.new w2 (.cells #[.bool A, .string S] 23)).keeps b2
    have r0w2 := (Gr.new w2 (.cells #[.bool A, .string S] 23)).keeps r0
    have r1w2 := (Gr.new w2 (.cells #[.bool A, .string S] 23)).keeps r1
    have r2w2 := (Gr.new w2 (.cells #[.bool A, .string S] 23)).keeps r2
    have ne0w2 : ¬ (w.heap.size = w2.heap.size) := ne_of_cell a0
    have ne0w2s : ¬ (w2.heap.size = w.heap.size) := fun e => ne0w2 e.symm
    have ne1w2 : ¬ (w.heap.size + 1 = w2.heap.size) := ne_of_cell b0
    have ne1w2s : ¬ (w2.heap.size = w.heap.size + 1) := fun e => ne1w2 e.symm
    have ne2w2 : ¬ (w.heap.size + 1 + 1 = w2.heap.size) := ne_of_cell r0
    have ne2w2s : ¬ (w2.heap.size = w.heap.size + 1 + 1) := fun e => ne2w2 e.symm
    have fr0w2 := (Gr.new w2 (.cells #[.bool A, .string S] 23)).frozen r0 fr0
    have fr1w2 := (Gr.new w2 (.cells #[.bool A, .string S] 23)).frozen r1 fr1
    have fr2w2 := (Gr.new w2 (.cells #[.bool A, .string S] 23)).frozen r2 fr2
    clear a0
    clear a1
    clear a2
    clear b0
    clear b1
    clear b2
    clear r0
    clear r1
    clear r2
    clear fr0 fr1 fr2
    go_wp2_with fail
    refine bodyPost_ret (v := tv A S false) (by simp [tv, results, Tryd.results29, go_sem, r0w2, r1w2, r2w2]) rfl ?_
    exact ⟨rfl, ((HG.out.trans (Gr.new _ _)).put2 (by omega) _ _).setCell (p := ⟨w.heap.size + 1 + 1, 2, none⟩) (by simp only; omega) _⟩
  · go_enter Tryd.func29, Tryd.ntmps29
    go_wp2_with fail
    obtain ⟨W, hW⟩ : ∃ W : World, W = (((w.alloc (.cells #[.bool n, .string s, .bool true] 43)).alloc (.cells #[.bool n', .string s', .bool true] 43)).alloc (.cells #[.bool false, .string ⟨#[]⟩, .bool false] 43)) := ⟨_, rfl⟩
    rw [← hW]
    have g1 : Gr w W := by rw [hW]; exact ((((Gr.refl _).alloc _).alloc _).alloc _)
    have a0 : W.cell? ⟨w.heap.size, 0, none⟩ = some (.bool n) := by rw [hW]; simp [go_sem]
    have a1 : W.cell? ⟨w.heap.size, 1, none⟩ = some (.string s) := by rw [hW]; simp [go_sem]
    have a2 : W.cell? ⟨w.heap.size, 2, none⟩ = some (.bool true) := by rw [hW]; simp [go_sem]
    have b0 : W.cell? ⟨w.heap.size + 1, 0, none⟩ = some (.bool n') := by rw [hW]; simp [go_sem]
    have b1 : W.cell? ⟨w.heap.size + 1, 1, none⟩ = some (.string s') := by rw [hW]; simp [go_sem]
    have b2 : W.cell? ⟨w.heap.size + 1, 2, none⟩ = some (.bool true) := by rw [hW]; simp [go_sem]
    have r0 : W.cell? ⟨w.heap.size + 1 + 1, 0, none⟩ = some (.bool false) := by rw [hW]; simp [go_sem]
    have er0 : W.frozen? ⟨w.heap.size + 1 + 1, 0, none⟩ = false := by rw [hW]; simp [go_sem]
    have r1 : W.cell? ⟨w.heap.size + 1 + 1, 1, none⟩ = some (.string ⟨#[]⟩) := by rw [hW]; simp [go_sem]
    have er1 : W.frozen? ⟨w.heap.size + 1 + 1, 1, none⟩ = false := by rw [hW]; simp [go_sem]
    have r2 : W.cell? ⟨w.heap.size + 1 + 1, 2, none⟩ = some (.bool false) := by rw [hW]; simp [go_sem]
    have er2 : W.frozen? ⟨w.heap.size + 1 + 1, 2, none⟩ = false := by rw [hW]; simp [go_sem]
    have hsz : W.heap.size = w.heap.size + 1 + 1 + 1 := by rw [hW]; simp
    have HG := Lib.hid g1
    have HSZ := Lib.hid hsz
    clear hW g1 hsz
    have fr0 := er0
    have fr1 := er1
    have fr2 := er2
    clear er0 er1 er2
    refine (HC.out _).mono ?_
    rintro e w2 ⟨rfl, g⟩
    have fr0 := g.frozen r0 fr0
    have fr1 := g.frozen r1 fr1
    have fr2 := g.frozen r2 fr2
    have a0 := g.keeps a0
    have a1 := g.keeps a1
    have a2 := g.keeps a2
    have b0 := g.keeps b0
    have b1 := g.keeps b1
    have b2 := g.keeps b2
    have r0 := g.keeps r0
    have r1 := g.keeps r1
    have r2 := g.keeps r2
    have HG := Lib.hid (HG.out.trans g)
    clear g
    have a0w2 := (Gr.new w2 (.cells #[.bool A, .string S] 23)).keeps a0
    have a1w2 := (Gr.new w2 (.cells #[.bool A, .string S] 23)).keeps a1
    have a2w2 := (Gr.new w2 (.cells #[.bool A, .string S] 23)).keeps a2
    have b0w2 := (Gr.new w2 (.cells #[.bool A, .string S] 23)).keeps b0
    have b1w2 := (Gr.new w2 (.cells #[.bool A, .string S] 23)).keeps b1
    have b2w2 := (Gr.new w2 (.cells #[.bool A, .string S] 23)).keeps b2
    have r0w2 := (Gr.new w2 (.cells #[.bool A, .string S] 23)).keeps r0
    have r1w2 := (Gr.new w2 (.cells #[.bool A, .string S] 23)).keeps r1
    have r2w2 := (Gr.new w2 (.cells #[.bool A, .string S] 23)).keeps r2
    have ne0w2 : ¬ (w.heap.size = w2.heap.size) := ne_of_cell a0
    have ne0w2s : ¬ (w2.heap.size = w.heap.size) := fun e => ne0w2 e.symm
    have ne1w2 : ¬ (w.heap.size + 1 = w2.heap.size) := ne_of_cell b0
    have ne1w2s : ¬ (w2.heap.size = w.heap.size + 1) := fun e => ne1w2 e.symm
    have ne2w2 : ¬ (w.heap.size + 1 + 1 = w2.heap.size) := ne_of_cell r0
    have ne2w2s : ¬ (w2.heap.size = w.heap.size + 1 + 1) := fun e => ne2w2 e.symm
    have fr0w2 := (Gr.new w2 (.cells #[.bool A, .string S] 23)).frozen r0 fr0
    have fr1w2 := (Gr.new w2 (.cells #[.bool A, .string S] 23)).frozen r1 fr1
    have fr2w2 := (Gr.new w2 (.cells #[.bool A, .string S] 23)).frozen r2 fr2
    clear a0
    clear a1
    clear a2
    clear b0
    clear b1
    clear b2
    clear r0
    clear r1
    clear r2
    clear fr0 fr1 fr2
    go_wp2_with fail
    refine bodyPost_ret (v := tv A S false) (by simp [tv, results, Tryd.results29, go_sem, r0w2, r1w2, r2w2]) rfl ?_
    exact ⟨rfl, ((HG.out.trans (Gr.new _ _)).put2 (by omega) _ _).setCell (p := ⟨w.heap.size + 1 + 1, 2, none⟩) (by simp only; omega) _⟩
  · go_enter Tryd.func29, Tryd.ntmps29
    go_wp2_with fail
    obtain ⟨W, hW⟩ : ∃ W : World, W = (((w.alloc (.cells #[.bool n, .string s, .bool true] 43)).alloc (.cells #[.bool n', .string s', .bool true] 43)).alloc (.cells #[.bool false, .string ⟨#[]⟩, .bool false] 43)) := ⟨_, rfl⟩
    rw [← hW]
    have g1 : Gr w W := by rw [hW]; exact ((((Gr.refl _).alloc _).alloc _).alloc _)
    have a0 : W.cell? ⟨w.heap.size, 0, none⟩ = some (.bool n) := by rw [hW]; simp [go_sem]
    have a1 : W.cell? ⟨w.heap.size, 1, none⟩ = some (.string s) := by rw [hW]; simp [go_sem]
    have a2 : W.cell? ⟨w.heap.size, 2, none⟩ = some (.bool true) := by rw [hW]; simp [go_sem]
    have b0 : W.cell? ⟨w.heap.size + 1, 0, none⟩ = some (.bool n') := by rw [hW]; simp [go_sem]
    have b1 : W.cell? ⟨w.heap.size + 1, 1, none⟩ = some (.string s') := by rw [hW]; simp [go_sem]
    have b2 : W.cell? ⟨w.heap.size + 1, 2, none⟩ = some (.bool true) := by rw [hW]; simp [go_sem]
    have r0 : W.cell? ⟨w.heap.size + 1 + 1, 0, none⟩ = some (.bool false) := by rw [hW]; simp [go_sem]
    have er0 : W.frozen? ⟨w.heap.size + 1 + 1, 0, none⟩ = false := by rw [hW]; simp [go_sem]
    have r1 : W.cell? ⟨w.heap.size + 1 + 1, 1, none⟩ = some (.string ⟨#[]⟩) := by rw [hW]; simp [go_sem]
    have er1 : W.frozen? ⟨w.heap.size + 1 + 1, 1, none⟩ = false := by rw [hW]; simp [go_sem]
    have r2 : W.cell? ⟨w.heap.size + 1 + 1, 2, none⟩ = some (.bool false) := by rw [hW]; simp [go_sem]
    have er2 : W.frozen? ⟨w.heap.size + 1 + 1, 2, none⟩ = false := by rw [hW]; simp [go_sem]
    have hsz : W.heap.size = w.heap.size + 1 + 1 + 1 := by rw [hW]; simp
    have HG := Lib.hid g1
    have HSZ := Lib.hid hsz
    clear hW g1 hsz
    have fr0 := er0
    have fr1 := er1
    have fr2 := er2
    clear er0 er1 er2
    refine (HC.out _).mono ?_
    rintro e w2 ⟨rfl, g⟩
    have fr0 := g.frozen r0 fr0
    have fr1 := g.frozen r1 fr1
    have fr2 := g.frozen r2 fr2
    have a0 := g.keeps a0
    have a1 := g.keeps a1
    have a2 := g.keeps a2
    have b0 := g.keeps b0
    have b1 := g.keeps b1
    have b2 := g.keeps b2
    have r0 := g.keeps r0
    have r1 := g.keeps r1
    have r2 := g.keeps r2
    have HG := Lib.hid (HG.out.trans g)
    clear g
    have a0w2 := (Gr.new w2 (.cells #[.bool A, .string S] 23)).keeps a0
    have a1w2 := (Gr.new w2 (.cells #[.bool A, .string S] 23)).keeps a1
    have a2w2 := (Gr.new w2 (.cells #[.bool A, .string S] 23)).keeps a2
    have b0w2 := (Gr.new w2 (.cells #[.bool A, .string S] 23)).keeps b0
    have b1w2 := (Gr.new w2 (.cells #[.bool A, .string S] 23)).keeps b1
    have b2w2 := (Gr.new w2 (.cells #[.bool A, .string S] 23)).keeps b2
    have r0w2 := (Gr.new w2 (.cells #[.bool A, .string S] 23)).keeps r0
    have r1w2 := (Gr.new w2 (.cells #[.bool A, .string S] 23)).keeps r1
    have r2w2 := (Gr.new w2 (.cells #[.bool A, .string S] 23)).keeps r2
    have ne0w2 : ¬ (w.heap.size = w2.heap.size) := ne_of_cell a0
    have ne0w2s : ¬ (w2.heap.size = w.heap.size) := fun e => ne0w2 e.symm
    have ne1w2 : ¬ (w.heap.size + 1 = w2.heap.size) := ne_of_cell b0
    have ne1w2s : ¬ (w2.heap.size = w.heap.size + 1) := fun e => ne1w2 e.symm
    have ne2w2 : ¬ (w.heap.size + 1 + 1 = w2.heap.size) := ne_of_cell r0
    have ne2w2s : ¬ (w2.heap.size = w.heap.size + 1 + 1) := fun e => ne2w2 e.symm
    have fr0w2 := (Gr.new w2 (.cells #[.bool A, .string S] 23)).frozen r0 fr0
    have fr1w2 := (Gr.new w2 (.cells #[.bool A, .string S] 23)).frozen r1 fr1
    have fr2w2 := (Gr.new w2 (.cells #[.bool A, .string S] 23)).frozen r2 fr2
    clear a0
    clear a1
    clear a2
    clear b0
    clear b1
    clear b2
    clear r0
    clear r1
    clear r2
    clear fr0 fr1 fr2
    go_wp2_with fail
    refine bodyPost_ret (v := tv A S true) (by simp [tv, results, Tryd.results29, go_sem, r0w2, r1w2, r2w2]) rfl ?_
    exact ⟨rfl, ((HG.out.trans (Gr.new _ _)).put2 (by omega) _ _).setCell (p := ⟨w.heap.size + 1 + 1, 2, none⟩) (by simp only; omega) _⟩

set_option maxRecDepth 100000 in
set_option maxHeartbeats 4000000 in
theorem try_equal (n : Bool) (s : ByteArray) (i : Bool) (n' : Bool) (s' : ByteArray) (j : Bool) (h : i = true → j = true → n = n' ∧ s = s') (w : World) :
    Calls Tryd.prog 28 #[.agg #[.bool n, .string s, .bool i], .agg #[.bool n', .string s', .bool j]] w (Truth w) := by
  cases i with
  | false =>
    clear h
    cases j
    · go_enter Tryd.func28, Tryd.ntmps28
      obtain ⟨W, hW⟩ : ∃ W : World, W = ((w.alloc (.cells #[.bool n, .string s, .bool false] 43)).alloc (.cells #[.bool n', .string s', .bool false] 43)) := ⟨_, rfl⟩
      have g1 : Gr w W := by rw [hW]; exact (Gr.new w _).alloc _
      have a0 : W.cell? ⟨w.heap.size, 0, none⟩ = some (.bool n) := by rw [hW]; simp [go_sem]
      have a1 : W.cell? ⟨w.heap.size, 1, none⟩ = some (.string s) := by rw [hW]; simp [go_sem]
      have a2 : W.cell? ⟨w.heap.size, 2, none⟩ = some (.bool false) := by rw [hW]; simp [go_sem]
      have b0 : W.cell? ⟨w.heap.size + 1, 0, none⟩ = some (.bool n') := by rw [hW]; simp [go_sem]
      have b1 : W.cell? ⟨w.heap.size + 1, 1, none⟩ = some (.string s') := by rw [hW]; simp [go_sem]
      have b2 : W.cell? ⟨w.heap.size + 1, 2, none⟩ = some (.bool false) := by rw [hW]; simp [go_sem]
      rw [hW] at a0 a1 a2 b0 b1 b2 g1
      have HG := Lib.hid g1
      clear hW g1 W
      go_wp2_with fail
      go_ret
      exact ⟨rfl, HG.out⟩
    · go_enter Tryd.func28, Tryd.ntmps28
      obtain ⟨W, hW⟩ : ∃ W : World, W = ((w.alloc (.cells #[.bool n, .string s, .bool false] 43)).alloc (.cells #[.bool n', .string s', .bool true] 43)) := ⟨_, rfl⟩
      have g1 : Gr w W := by rw [hW]; exact (Gr.new w _).alloc _
      have a0 : W.cell? ⟨w.heap.size, 0, none⟩ = some (.bool n) := by rw [hW]; simp [go_sem]
      have a1 : W.cell? ⟨w.heap.size, 1, none⟩ = some (.string s) := by rw [hW]; simp [go_sem]
      have a2 : W.cell? ⟨w.heap.size, 2, none⟩ = some (.bool false) := by rw [hW]; simp [go_sem]
      have b0 : W.cell? ⟨w.heap.size + 1, 0, none⟩ = some (.bool n') := by rw [hW]; simp [go_sem]
      have b1 : W.cell? ⟨w.heap.size + 1, 1, none⟩ = some (.string s') := by rw [hW]; simp [go_sem]
      have b2 : W.cell? ⟨w.heap.size + 1, 2, none⟩ = some (.bool true) := by rw [hW]; simp [go_sem]
      rw [hW] at a0 a1 a2 b0 b1 b2 g1
      have HG := Lib.hid g1
      clear hW g1 W
      go_wp2_with fail
      go_ret
      exact ⟨rfl, HG.out⟩
  | true =>
    cases j with
    | false =>
      clear h
      go_enter Tryd.func28, Tryd.ntmps28
      obtain ⟨W, hW⟩ : ∃ W : World, W = ((w.alloc (.cells #[.bool n, .string s, .bool true] 43)).alloc (.cells #[.bool n', .string s', .bool false] 43)) := ⟨_, rfl⟩
      have g1 : Gr w W := by rw [hW]; exact (Gr.new w _).alloc _
      have a0 : W.cell? ⟨w.heap.size, 0, none⟩ = some (.bool n) := by rw [hW]; simp [go_sem]
      have a1 : W.cell? ⟨w.heap.size, 1, none⟩ = some (.string s) := by rw [hW]; simp [go_sem]
      have a2 : W.cell? ⟨w.heap.size, 2, none⟩ = some (.bool true) := by rw [hW]; simp [go_sem]
      have b0 : W.cell? ⟨w.heap.size + 1, 0, none⟩ = some (.bool n') := by rw [hW]; simp [go_sem]
      have b1 : W.cell? ⟨w.heap.size + 1, 1, none⟩ = some (.string s') := by rw [hW]; simp [go_sem]
      have b2 : W.cell? ⟨w.heap.size + 1, 2, none⟩ = some (.bool false) := by rw [hW]; simp [go_sem]
      rw [hW] at a0 a1 a2 b0 b1 b2 g1
      have HG := Lib.hid g1
      clear hW g1 W
      go_wp2_with fail
      go_ret
      exact ⟨rfl, HG.out⟩
    | true =>
      obtain ⟨rfl, rfl⟩ := h rfl rfl
      clear h
      go_enter Tryd.func28, Tryd.ntmps28
      obtain ⟨W, hW⟩ : ∃ W : World, W = ((w.alloc (.cells #[.bool n, .string s, .bool true] 43)).alloc (.cells #[.bool n, .string s, .bool true] 43)) := ⟨_, rfl⟩
      have g1 : Gr w W := by rw [hW]; exact (Gr.new w _).alloc _
      have a0 : W.cell? ⟨w.heap.size, 0, none⟩ = some (.bool n) := by rw [hW]; simp [go_sem]
      have a1 : W.cell? ⟨w.heap.size, 1, none⟩ = some (.string s) := by rw [hW]; simp [go_sem]
      have a2 : W.cell? ⟨w.heap.size, 2, none⟩ = some (.bool true) := by rw [hW]; simp [go_sem]
      have b0 : W.cell? ⟨w.heap.size + 1, 0, none⟩ = some (.bool n) := by rw [hW]; simp [go_sem]
      have b1 : W.cell? ⟨w.heap.size + 1, 1, none⟩ = some (.string s) := by rw [hW]; simp [go_sem]
      have b2 : W.cell? ⟨w.heap.size + 1, 2, none⟩ = some (.bool true) := by rw [hW]; simp [go_sem]
      rw [hW] at a0 a1 a2 b0 b1 b2 g1
      have HG := Lib.hid g1
      clear hW g1 W
      go_wp2_with fail
      go_ret
      exact ⟨rfl, HG.out⟩
end Go.Proofs.YtgalgldnhdiggaaDoor

