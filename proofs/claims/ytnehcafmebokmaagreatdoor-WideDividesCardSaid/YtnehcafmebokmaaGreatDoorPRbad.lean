/- The reference: the invalid cases of Div, Round, Balanced. -/
import Derived.Test.YtnehcafmebokmaaGreatDoorPRnd
namespace Go.Proofs.YtnehcafmebokmaaGreatDoor
open Go.RowKit
set_option linter.unusedVariables false

set_option maxRecDepth 100000 in
set_option maxHeartbeats 2000000 in
theorem rdiv_bad (neg : Bool) (s : ByteArray) (neg' : Bool) (s' : ByteArray) (w : World) (hs : s.size ≤ 9223372036854775807) (hs' : s'.size ≤ 9223372036854775807) (h : ¬ (Form neg s ∧ Form neg' s' ∧ s'.size ≠ 0)) :
    Calls Tryz.prog 7 #[.agg #[.bool neg, .string s], .agg #[.bool neg', .string s']] w (Div3 false ⟨#[]⟩ false ⟨#[]⟩ 2 w) := by
  have HF := Lib.hid h
  clear h
  go_enter Tryz.func7, Tryz.ntmps7
  go_wp2_with fail
  obtain ⟨W, hW⟩ : ∃ W : World, W = ((((w.alloc (.cells #[.bool neg, .string s] 23)).alloc (.cells #[.bool neg', .string s'] 23)).alloc (.cells #[.bool false, .string ⟨#[]⟩] 23)).alloc (.cells #[.bool false, .string ⟨#[]⟩] 23)) := ⟨_, rfl⟩
  rw [← hW]
  have g1 : Gr w W := by rw [hW]; exact (((((Gr.refl _).alloc _).alloc _).alloc _).alloc _)
  have x0 : W.cell? ⟨w.heap.size, 0, none⟩ = some (.bool neg) := by rw [hW]; simp [go_sem]
  have x1 : W.cell? ⟨w.heap.size, 1, none⟩ = some (.string s) := by rw [hW]; simp [go_sem]
  have y0 : W.cell? ⟨w.heap.size + 1, 0, none⟩ = some (.bool neg') := by rw [hW]; simp [go_sem]
  have y1 : W.cell? ⟨w.heap.size + 1, 1, none⟩ = some (.string s') := by rw [hW]; simp [go_sem]
  have r0 : W.cell? ⟨w.heap.size + 1 + 1, 0, none⟩ = some (.bool false) := by rw [hW]; simp [go_sem]
  have er0 : W.frozen? ⟨w.heap.size + 1 + 1, 0, none⟩ = false := by rw [hW]; simp [go_sem]
  have r1 : W.cell? ⟨w.heap.size + 1 + 1, 1, none⟩ = some (.string ⟨#[]⟩) := by rw [hW]; simp [go_sem]
  have er1 : W.frozen? ⟨w.heap.size + 1 + 1, 1, none⟩ = false := by rw [hW]; simp [go_sem]
  have c0 : W.cell? ⟨w.heap.size + 1 + 1 + 1, 0, none⟩ = some (.bool false) := by rw [hW]; simp [go_sem]
  have ec0 : W.frozen? ⟨w.heap.size + 1 + 1 + 1, 0, none⟩ = false := by rw [hW]; simp [go_sem]
  have c1 : W.cell? ⟨w.heap.size + 1 + 1 + 1, 1, none⟩ = some (.string ⟨#[]⟩) := by rw [hW]; simp [go_sem]
  have ec1 : W.frozen? ⟨w.heap.size + 1 + 1 + 1, 1, none⟩ = false := by rw [hW]; simp [go_sem]
  have hsz : W.heap.size = w.heap.size + 1 + 1 + 1 + 1 := by rw [hW]; simp
  have HG := Lib.hid g1
  have HSZ := Lib.hid hsz
  clear hW g1 hsz
  have n1 : ¬ (w.heap.size + 1 + 1 = w.heap.size + 1 + 1 + 1) := by omega
  have n2 : ¬ (w.heap.size + 1 + 1 + 1 = w.heap.size + 1 + 1) := by omega
  refine (rvalid_any neg s _ hs).mono ?_
  rintro e w1 ⟨r, rfl, hr, g⟩
  have HR := Lib.hid hr
  have er0 := g.frozen r0 er0
  have er1 := g.frozen r1 er1
  have ec0 := g.frozen c0 ec0
  have ec1 := g.frozen c1 ec1
  have x0 := g.keeps x0
  have x1 := g.keeps x1
  have y0 := g.keeps y0
  have y1 := g.keeps y1
  have r0 := g.keeps r0
  have r1 := g.keeps r1
  have c0 := g.keeps c0
  have c1 := g.keeps c1
  have HG := Lib.hid (HG.out.trans g)
  clear hr g
  cases r with
  | false =>
    go_wp2_with fail
    refine bodyPost_ret (v := .tuple #[.agg #[.bool false, .string ⟨#[]⟩], .agg #[.bool false, .string ⟨#[]⟩], .int .i64 2]) (by simp [results, Tryz.results7, go_sem, r0, r1, c0, c1]) rfl ?_
    exact ⟨rfl, (HG.out.put2 (by omega) _ _).put2 (by omega) _ _⟩
  | true =>
    go_wp2_with fail
    refine (rvalid_any neg' s' _ hs').mono ?_
    rintro e w2 ⟨r, rfl, hr, g⟩
    have HR2 := Lib.hid hr
    have er0 := g.frozen r0 er0
    have er1 := g.frozen r1 er1
    have ec0 := g.frozen c0 ec0
    have ec1 := g.frozen c1 ec1
    have x0 := g.keeps x0
    have x1 := g.keeps x1
    have y0 := g.keeps y0
    have y1 := g.keeps y1
    have r0 := g.keeps r0
    have r1 := g.keeps r1
    have c0 := g.keeps c0
    have c1 := g.keeps c1
    have HG := Lib.hid (HG.out.trans g)
    clear hr g
    cases r with
    | false =>
      go_wp2_with fail
      refine bodyPost_ret (v := .tuple #[.agg #[.bool false, .string ⟨#[]⟩], .agg #[.bool false, .string ⟨#[]⟩], .int .i64 2]) (by simp [results, Tryz.results7, go_sem, r0, r1, c0, c1]) rfl ?_
      exact ⟨rfl, (HG.out.put2 (by omega) _ _).put2 (by omega) _ _⟩
    | true =>
      have h0 : s'.size = 0 := Classical.byContradiction fun h0 => HF.out ⟨HR.out.1 (by simp), HR2.out.1 (by simp), h0⟩
      have he : s'.toList.isEmpty = true := by rw [empty_iff]; simpa using h0
      clear h0
      go_wp2_with fail
      refine bodyPost_ret (v := .tuple #[.agg #[.bool false, .string ⟨#[]⟩], .agg #[.bool false, .string ⟨#[]⟩], .int .i64 2]) (by simp [results, Tryz.results7, go_sem, r0, r1, c0, c1]) rfl ?_
      exact ⟨rfl, (HG.out.put2 (by omega) _ _).put2 (by omega) _ _⟩

set_option maxRecDepth 100000 in
set_option maxHeartbeats 2000000 in
theorem rrnd_bad (neg : Bool) (s : ByteArray) (neg' : Bool) (s' : ByteArray) (w : World) (hs : s.size ≤ 9223372036854775807) (hs' : s'.size ≤ 9223372036854775807) (h : ¬ (Form neg s ∧ Form neg' s' ∧ s'.size ≠ 0 ∧ neg' = false)) :
    Calls Tryz.prog 9 #[.agg #[.bool neg, .string s], .agg #[.bool neg', .string s']] w (Res false ⟨#[]⟩ 2 w) := by
  have HF := Lib.hid h
  clear h
  go_enter Tryz.func9, Tryz.ntmps9
  go_wp2_with fail
  obtain ⟨W, hW⟩ : ∃ W : World, W = (((w.alloc (.cells #[.bool neg, .string s] 23)).alloc (.cells #[.bool neg', .string s'] 23)).alloc (.cells #[.bool false, .string ⟨#[]⟩] 23)) := ⟨_, rfl⟩
  rw [← hW]
  have g1 : Gr w W := by rw [hW]; exact ((((Gr.refl _).alloc _).alloc _).alloc _)
  have x0 : W.cell? ⟨w.heap.size, 0, none⟩ = some (.bool neg) := by rw [hW]; simp [go_sem]
  have x1 : W.cell? ⟨w.heap.size, 1, none⟩ = some (.string s) := by rw [hW]; simp [go_sem]
  have y0 : W.cell? ⟨w.heap.size + 1, 0, none⟩ = some (.bool neg') := by rw [hW]; simp [go_sem]
  have y1 : W.cell? ⟨w.heap.size + 1, 1, none⟩ = some (.string s') := by rw [hW]; simp [go_sem]
  have r0 : W.cell? ⟨w.heap.size + 1 + 1, 0, none⟩ = some (.bool false) := by rw [hW]; simp [go_sem]
  have er0 : W.frozen? ⟨w.heap.size + 1 + 1, 0, none⟩ = false := by rw [hW]; simp [go_sem]
  have r1 : W.cell? ⟨w.heap.size + 1 + 1, 1, none⟩ = some (.string ⟨#[]⟩) := by rw [hW]; simp [go_sem]
  have er1 : W.frozen? ⟨w.heap.size + 1 + 1, 1, none⟩ = false := by rw [hW]; simp [go_sem]
  have hsz : W.heap.size = w.heap.size + 1 + 1 + 1 := by rw [hW]; simp
  have HG := Lib.hid g1
  have HSZ := Lib.hid hsz
  clear hW g1 hsz
  refine (rvalid_any neg s _ hs).mono ?_
  rintro e w1 ⟨r, rfl, hr, g⟩
  have HR := Lib.hid hr
  have er0 := g.frozen r0 er0
  have er1 := g.frozen r1 er1
  have x0 := g.keeps x0
  have x1 := g.keeps x1
  have y0 := g.keeps y0
  have y1 := g.keeps y1
  have r0 := g.keeps r0
  have r1 := g.keeps r1
  have HG := Lib.hid (HG.out.trans g)
  clear hr g
  cases r with
  | false =>
    go_wp2_with fail
    refine bodyPost_ret (v := .tuple #[.agg #[.bool false, .string ⟨#[]⟩], .int .i64 2]) (by simp [results, Tryz.results9, go_sem, r0, r1]) rfl ?_
    exact ⟨rfl, HG.out.put2 (by omega) _ _⟩
  | true =>
    go_wp2_with fail
    refine (rvalid_any neg' s' _ hs').mono ?_
    rintro e w2 ⟨r, rfl, hr, g⟩
    have HR2 := Lib.hid hr
    have er0 := g.frozen r0 er0
    have er1 := g.frozen r1 er1
    have x0 := g.keeps x0
    have x1 := g.keeps x1
    have y0 := g.keeps y0
    have y1 := g.keeps y1
    have r0 := g.keeps r0
    have r1 := g.keeps r1
    have HG := Lib.hid (HG.out.trans g)
    clear hr g
    cases r with
    | false =>
      go_wp2_with fail
      refine bodyPost_ret (v := .tuple #[.agg #[.bool false, .string ⟨#[]⟩], .int .i64 2]) (by simp [results, Tryz.results9, go_sem, r0, r1]) rfl ?_
      exact ⟨rfl, HG.out.put2 (by omega) _ _⟩
    | true =>
      by_cases h0 : s'.size = 0
      · have he : s'.toList.isEmpty = true := by rw [empty_iff]; simpa using h0
        clear h0
        go_wp2_with fail
        refine bodyPost_ret (v := .tuple #[.agg #[.bool false, .string ⟨#[]⟩], .int .i64 2]) (by simp [results, Tryz.results9, go_sem, r0, r1]) rfl ?_
        exact ⟨rfl, HG.out.put2 (by omega) _ _⟩
      · have he : s'.toList.isEmpty = false := by rw [empty_iff]; simpa using h0
        obtain rfl : neg' = true := by
          cases neg'
          · exact absurd ⟨HR.out.1 (by simp), HR2.out.1 (by simp), h0, rfl⟩ HF.out
          · rfl
        clear h0
        go_wp2_with fail
        refine bodyPost_ret (v := .tuple #[.agg #[.bool false, .string ⟨#[]⟩], .int .i64 2]) (by simp [results, Tryz.results9, go_sem, r0, r1]) rfl ?_
        exact ⟨rfl, HG.out.put2 (by omega) _ _⟩

set_option maxRecDepth 100000 in
set_option maxHeartbeats 2000000 in
theorem rbal_bad (neg : Bool) (s : ByteArray) (neg' : Bool) (s' : ByteArray) (w : World) (hs : s.size ≤ 9223372036854775807) (hs' : s'.size ≤ 9223372036854775807) (h : ¬ (Form neg s ∧ Form neg' s' ∧ s'.size ≠ 0 ∧ neg' = false)) :
    Calls Tryz.prog 11 #[.agg #[.bool neg, .string s], .agg #[.bool neg', .string s']] w (Res false ⟨#[]⟩ 2 w) := by
  have HF := Lib.hid h
  clear h
  go_enter Tryz.func11, Tryz.ntmps11
  go_wp2_with fail
  obtain ⟨W, hW⟩ : ∃ W : World, W = (((w.alloc (.cells #[.bool neg, .string s] 23)).alloc (.cells #[.bool neg', .string s'] 23)).alloc (.cells #[.bool false, .string ⟨#[]⟩] 23)) := ⟨_, rfl⟩
  rw [← hW]
  have g1 : Gr w W := by rw [hW]; exact ((((Gr.refl _).alloc _).alloc _).alloc _)
  have x0 : W.cell? ⟨w.heap.size, 0, none⟩ = some (.bool neg) := by rw [hW]; simp [go_sem]
  have x1 : W.cell? ⟨w.heap.size, 1, none⟩ = some (.string s) := by rw [hW]; simp [go_sem]
  have y0 : W.cell? ⟨w.heap.size + 1, 0, none⟩ = some (.bool neg') := by rw [hW]; simp [go_sem]
  have y1 : W.cell? ⟨w.heap.size + 1, 1, none⟩ = some (.string s') := by rw [hW]; simp [go_sem]
  have r0 : W.cell? ⟨w.heap.size + 1 + 1, 0, none⟩ = some (.bool false) := by rw [hW]; simp [go_sem]
  have er0 : W.frozen? ⟨w.heap.size + 1 + 1, 0, none⟩ = false := by rw [hW]; simp [go_sem]
  have r1 : W.cell? ⟨w.heap.size + 1 + 1, 1, none⟩ = some (.string ⟨#[]⟩) := by rw [hW]; simp [go_sem]
  have er1 : W.frozen? ⟨w.heap.size + 1 + 1, 1, none⟩ = false := by rw [hW]; simp [go_sem]
  have hsz : W.heap.size = w.heap.size + 1 + 1 + 1 := by rw [hW]; simp
  have HG := Lib.hid g1
  have HSZ := Lib.hid hsz
  clear hW g1 hsz
  refine (rvalid_any neg s _ hs).mono ?_
  rintro e w1 ⟨r, rfl, hr, g⟩
  have HR := Lib.hid hr
  have er0 := g.frozen r0 er0
  have er1 := g.frozen r1 er1
  have x0 := g.keeps x0
  have x1 := g.keeps x1
  have y0 := g.keeps y0
  have y1 := g.keeps y1
  have r0 := g.keeps r0
  have r1 := g.keeps r1
  have HG := Lib.hid (HG.out.trans g)
  clear hr g
  cases r with
  | false =>
    go_wp2_with fail
    refine bodyPost_ret (v := .tuple #[.agg #[.bool false, .string ⟨#[]⟩], .int .i64 2]) (by simp [results, Tryz.results11, go_sem, r0, r1]) rfl ?_
    exact ⟨rfl, HG.out.put2 (by omega) _ _⟩
  | true =>
    go_wp2_with fail
    refine (rvalid_any neg' s' _ hs').mono ?_
    rintro e w2 ⟨r, rfl, hr, g⟩
    have HR2 := Lib.hid hr
    have er0 := g.frozen r0 er0
    have er1 := g.frozen r1 er1
    have x0 := g.keeps x0
    have x1 := g.keeps x1
    have y0 := g.keeps y0
    have y1 := g.keeps y1
    have r0 := g.keeps r0
    have r1 := g.keeps r1
    have HG := Lib.hid (HG.out.trans g)
    clear hr g
    cases r with
    | false =>
      go_wp2_with fail
      refine bodyPost_ret (v := .tuple #[.agg #[.bool false, .string ⟨#[]⟩], .int .i64 2]) (by simp [results, Tryz.results11, go_sem, r0, r1]) rfl ?_
      exact ⟨rfl, HG.out.put2 (by omega) _ _⟩
    | true =>
      by_cases h0 : s'.size = 0
      · have he : s'.toList.isEmpty = true := by rw [empty_iff]; simpa using h0
        clear h0
        go_wp2_with fail
        refine bodyPost_ret (v := .tuple #[.agg #[.bool false, .string ⟨#[]⟩], .int .i64 2]) (by simp [results, Tryz.results11, go_sem, r0, r1]) rfl ?_
        exact ⟨rfl, HG.out.put2 (by omega) _ _⟩
      · have he : s'.toList.isEmpty = false := by rw [empty_iff]; simpa using h0
        obtain rfl : neg' = true := by
          cases neg'
          · exact absurd ⟨HR.out.1 (by simp), HR2.out.1 (by simp), h0, rfl⟩ HF.out
          · rfl
        clear h0
        go_wp2_with fail
        refine bodyPost_ret (v := .tuple #[.agg #[.bool false, .string ⟨#[]⟩], .int .i64 2]) (by simp [results, Tryz.results11, go_sem, r0, r1]) rfl ?_
        exact ⟨rfl, HG.out.put2 (by omega) _ _⟩
end Go.Proofs.YtnehcafmebokmaaGreatDoor

