import Derived.Test.YtfpdemmdkiohhaaSb
import Derived.Test.YtfpdemmdkiohhaaZF
/- The law ResidueSystems. -/
namespace Go.Proofs.Ytfpdemmdkiohhaa.Mo
open Go.RowKit
set_option linter.unusedVariables false

theorem hasP_low {b : Nat} {W : World} {v : Value} {l : List Int} (h : HasP W v l) (hf : ∀ B, some B = v.ownBlock → b ≤ B) {p : Addr} (hp : p.block < b) (u : Value) : HasP (W.setCell p u) v l := by
  obtain ⟨h1, a, cap, rfl, h2, h3, h4⟩ := h
  refine ⟨h1, a, cap, rfl, h2, h3, fun i hi => ?_⟩
  obtain ⟨g, o, rfl, hc⟩ := h4 i hi
  have := hf g rfl
  exact ⟨g, o, rfl, (Lo.cell_far (fun e => by have := congrArg Addr.block e; simp at this; omega) _).trans hc⟩
/-- A system behind b. -/
def SysF (b : Nat) (W : World) (S : Nat) (l : List Int) : Prop := b ≤ S ∧ ∃ v, W.cell? ⟨S, 0, none⟩ = some v ∧ HasP W v l ∧ (∀ B, some B = v.ownBlock → b ≤ B) ∧ W.cell? ⟨S, 1, none⟩ = some (.pointer (some ⟨S, 0, none⟩))
theorem SysF.isSys {b : Nat} {W : World} {S : Nat} {l : List Int} (h : SysF b W S l) : IsSys W S l := by
  obtain ⟨-, v, h1, h2, -, h3⟩ := h
  exact ⟨v, h1, h2, h3⟩
theorem SysF.later {b : Nat} {W W' : World} {S : Nat} {l : List Int} (h : SysF b W S l) (g : Gr W W') : SysF b W' S l := by
  obtain ⟨h0, v, h1, h2, h3, h4⟩ := h
  exact ⟨h0, v, g.keeps h1, h2.later g, h3, g.keeps h4⟩
theorem SysF.low {b : Nat} {W : World} {S : Nat} {l : List Int} (h : SysF b W S l) {p : Addr} (hp : p.block < b) (u : Value) : SysF b (W.setCell p u) S l := by
  obtain ⟨h0, v, h1, h2, h3, h4⟩ := h
  have hne : ∀ o, p ≠ ⟨S, o, none⟩ := fun o e => by rw [e] at hp; simp at hp; omega
  exact ⟨h0, v, (Lo.cell_far (hne 0) _).trans h1, hasP_low h2 h3 hp u, h3, (Lo.cell_far (hne 1) _).trans h4⟩
theorem RefSys.low {b : Nat} {W : World} {R : Nat} {l : List Int} (h : RefSys b W R l) {p : Addr} (hp : p.block < b) (u : Value) : RefSys b (W.setCell p u) R l := by
  obtain ⟨h0, v, h1, h2, h3, h4, h5⟩ := h
  have hne : ∀ o, p ≠ ⟨R, o, none⟩ := fun o e => by rw [e] at hp; simp at hp; omega
  exact ⟨h0, v, (Lo.cell_far (hne 0) _).trans h1, hasP_low h2 h3 hp u, h3, (Lo.cell_far (hne 1) _).trans h4, (Lo.cell_far (hne 2) _).trans h5⟩
/-- What New returns: memory of its own. -/
def NewSysF (l : List Int) (w : World) (e : Ending) (w' : World) : Prop := Gr w w' ∧ ((Dis l ∧ ∃ S, e = .returned (.tuple #[.pointer (some ⟨S, 0, none⟩), .int .i64 0]) ∧ SysF w.heap.size w' S l) ∨ (¬ Dis l ∧ e = .returned (.tuple #[.pointer none, .int .i64 2])))
set_option maxRecDepth 100000 in
set_option maxHeartbeats 2000000 in
theorem new_fresh (l : List Int) (v : Value) (w : World) (hv : HasP w v l) : Calls Try.prog 9 #[v] w (NewSysF l w) := by
  have HV := Lib.hid hv
  obtain ⟨-, xa, ca, rfl, -, -, -⟩ := hv
  go_enter Try.func9, Try.ntmps9
  go_wp2_with fail
  refine (distinct_any l _ _ HV.out).mono ?_
  rintro e w1 ⟨b, rfl, hb, hg⟩
  have HB := Lib.hid hb
  have HG := Lib.hid hg
  clear hb hg
  cases b with
  | false =>
    go_wp2_with fail
    go_ret2
    exact ⟨HG.out, .inr ⟨fun h => by have := HB.out.2 h; simp at this, rfl⟩⟩
  | true =>
    have HD := Lib.hid (HB.out.1 (by simp))
    go_wp2_with fail
    refine (clone_any l _ _ (HV.out.later HG.out) HD.out.1 (by have := HD.out.2.1; omega)).mono ?_
    rintro e w2 ⟨a, n, c, rfl, hp, hf, hg⟩
    have HP := Lib.hid hp
    have HF := Lib.hid hf
    have HG2 := Lib.hid (HG.out.trans hg)
    clear hp hf hg
    go_wp2_with fail
    go_ret2
    have hg3 : Gr w2 (w2.alloc (.cells #[.slice a n c, .pointer (some ⟨w2.heap.size, 0, none⟩)] 61)) := Gr.new _ _
    refine ⟨HG2.out.trans hg3, .inl ⟨HD.out, w2.heap.size, rfl, ⟨HG2.out.size, .slice a n c, by simp [go_sem], HP.out.later hg3, fun B hB => ?_, by simp [go_sem]⟩⟩⟩
    rcases a with _ | p
    · simp [Value.ownBlock] at hB
    · obtain rfl : B = p.block := by simpa [Value.ownBlock] using hB
      exact Nat.le_trans HG.out.size (HF.out p rfl)

/-- Memory of the call's own. -/
def NewO (l : List Int) (w : World) (e : Ending) (w' : World) : Prop := ∃ g c, e = .returned (.slice (some ⟨g, 0, none⟩) l.length c) ∧ Row w' g l ∧ w.heap.size ≤ g ∧ l.length ≤ c ∧ c ≤ 9223372036854775807 ∧ Gr w w'
set_option maxRecDepth 100000 in
set_option maxHeartbeats 2000000 in
theorem cloneB_row (l : List Int) (v : Value) (w : World) (hv : HasP w v l) (h1 : 1 ≤ l.length) (h2 : l.length ≤ 1000000) : Calls Try.prog 34 #[v] w (NewO l w) := by
  obtain ⟨-, xa, ca, rfl, -, -, hc⟩ := id hv
  obtain ⟨gx, ox, rfl, -⟩ := hc 0 (by omega)
  obtain ⟨n, hn⟩ : ∃ n, n = l.length := ⟨_, rfl⟩
  rw [← hn] at hv
  have HV := Lib.hid hv
  have HN := Lib.hid hn
  have HOZ := Lib.hid (Own1.start w w.heap.size (Nat.le_refl _))
  have HGZ := Lib.hid (Gr.new w (.cells #[] 33))
  have heq := eql_nilB w (some ⟨gx, ox, none⟩) n ca
  have HLL := Lib.hid (show ([] : List Int).length + l.length ≤ 1000000 by simpa using h2)
  rw [← hn]
  clear hv hc h2 hn
  go_enter Try.func34, Try.ntmps34
  go_wp2_with (at_builtin; refine wpList_appB rfl (.tmp 5) (.tmp 6) rfl rfl w.heap.size _ [] rfl HOZ.out _ l rfl (HV.out.later HGZ.out) HLL.out (by simp) ?_; intro v' w1 hown hgrow; rw [List.nil_append] at hown; have HO := Lib.hid hown; have HG := Lib.hid (show Gr w w1 from grown_own HGZ.out HOZ.out hgrow (Nat.le_refl _)); clear hown hgrow)
  go_ret
  obtain ⟨g, c, rfl, hg1, hg2, hg3, hrow⟩ := HO.out.row (by have := HN.out; omega)
  exact ⟨g, c, rfl, hrow, hg1, hg2, hg3, HG.out⟩

set_option maxRecDepth 100000 in
set_option maxHeartbeats 1000000 in
theorem moduli_row (S : Nat) (l : List Int) (w : World) (h : IsSys w S l) (hs : Sys l) : Calls Try.prog 12 #[.pointer (some ⟨S, 0, none⟩)] w (NewO l w) := by
  have H := Lib.hid h
  have HS := Lib.hid hs
  clear h hs
  go_enter Try.func12, Try.ntmps12
  go_wp2_with fail
  refine (made_yes S l _ H.out).mono ?_
  rintro e w1 ⟨rfl, hg⟩
  have HG := Lib.hid hg
  obtain ⟨v, h0, h1, -⟩ := H.out.later hg
  have HV := Lib.hid h1
  obtain ⟨-, xa, ca, rfl, -, -, -⟩ := h1
  clear hg
  go_wp2_with fail
  refine (cloneB_row l _ _ HV.out HS.out.2.2.2.1 (by have := HS.out.2.2.2.2; omega)).mono ?_
  rintro e w2 ⟨g, c, rfl, hrow, hg1, hg2, hg3, hg⟩
  have HR := Lib.hid hrow
  have HG2 := Lib.hid (HG.out.trans hg)
  have hg1 := Nat.le_trans HG.out.size hg1
  have HX := Lib.hid (And.intro hg1 (And.intro hg2 hg3))
  clear hrow hg hg1 hg2 hg3
  obtain ⟨n, hn⟩ : ∃ n, n = l.length := ⟨_, rfl⟩
  rw [← hn]
  have HN := Lib.hid hn
  clear hn
  go_wp2_with fail
  go_ret
  exact ⟨g, c, by rw [HN.out]; rfl, HR.out, HX.out.1, HX.out.2.1, HX.out.2.2, HG2.out⟩

set_option maxRecDepth 100000 in
set_option maxHeartbeats 8000000 in
theorem residueSystems_all (l : List Int) (v : Value) (w : World) (hv : HasP w v l) (hlm : l.length ≤ 9223372036854775807) : Calls Try.prog 3 #[v] w (Tru w) := by
  obtain ⟨-, xa, ca, rfl, -, -, -⟩ := id hv
  obtain ⟨n, hn⟩ : ∃ n, n = l.length := ⟨_, rfl⟩
  rw [← hn] at hv hlm ⊢
  have HV := Lib.hid hv
  have HN := Lib.hid hn
  clear hv hn
  by_cases h40 : 40 < n
  · have i1 : (n : Int) > 40 := by omega
    go_enter Try.func3, Try.ntmps3
    go_wp2_with fail
    refine (shown_any _).mono ?_
    rintro e w2 ⟨rfl, hg⟩
    have HG := Lib.hid hg
    clear hg
    go_wp2_with fail
    go_ret
    exact ⟨rfl, HG.out⟩
  have i1 : ¬ (n : Int) > 40 := by omega
  go_enter Try.func3, Try.ntmps3
  go_wp2_with fail
  refine (lent_any l _ _ HV.out (by have := HN.out; omega)).mono ?_
  rintro e w1 hl
  rcases hl with ⟨⟨_, _, hnil⟩, hl0, rfl, hg⟩ | ⟨⟨ga, _, _, hsome⟩, gb, cb, rfl, hcb, hcb2, hgb, hrow, hg⟩
  · -- no numbers
    cases hnil
    subst hl0
    obtain rfl : n = 0 := HN.out
    have hnd : ¬ Dis [] := fun h => by have := h.1; simp at this
    have HG1 := Lib.hid hg
    clear hg
    go_wp2_with fail
    refine (new_fresh [] _ _ (HasP.nil _)).mono ?_
    rintro e w2 ⟨hg, (⟨hd, -⟩ | ⟨-, rfl⟩)⟩
    · exact absurd hd hnd
    have HG2 := Lib.hid (HG1.out.trans hg)
    clear hg
    go_wp2_with fail
    refine (rnew_any [] _ _ (HV.out.later HG2.out)).mono ?_
    rintro e w3 ⟨hg, (⟨hd, -⟩ | ⟨-, rfl⟩)⟩
    · exact absurd hd hnd
    have HG3 := Lib.hid (HG2.out.trans hg)
    clear hg
    go_wp2_with fail
    refine (keptNil_any _ _ (HV.out.later HG3.out)).mono ?_
    rintro e w4 ⟨rfl, hg⟩
    have HG4 := Lib.hid (HG3.out.trans hg)
    clear hg
    go_wp2_with fail
    refine (shown_any _).mono ?_
    rintro e w5 ⟨rfl, hg⟩
    have HG5 := Lib.hid (HG4.out.trans hg)
    clear hg
    go_wp2_with fail
    go_ret
    exact ⟨rfl, HG5.out⟩
  cases hsome
  have HG1 := Lib.hid hg
  have HR1 := Lib.hid hrow
  have HGB := Lib.hid hgb
  have HOWN := Lib.hid (show HasP w1 (.slice (some ⟨gb, 0, none⟩) l.length cb) l from by
    have h1 := (hrow.hasP (cap := cb) (by simpa using hcb) hcb2).take (k := l.length) (by simp)
    rwa [List.take_left] at h1)
  have hcn : n + 1 ≤ cb := by rw [HN.out]; exact hcb
  have hblt := hrow.lt
  rw [← HN.out] at HOWN ⊢
  clear hg hrow hgb hcb
  go_wp2_with fail
  refine (new_fresh l _ _ HOWN.out).mono ?_
  rintro e w2 ⟨hg, hc⟩
  have HG2 := Lib.hid (HG1.out.trans hg)
  have HR2 := Lib.hid (HR1.out.later hg)
  have hblt2 : gb < w2.heap.size := Nat.lt_of_lt_of_le hblt hg.size
  clear hg
  rcases hc with ⟨hd, S, rfl, hs⟩ | ⟨hnd, rfl⟩
  rotate_left
  · have HND := Lib.hid hnd
    clear hnd
    go_wp2_with fail
    refine (rnew_any l _ _ (HV.out.later HG2.out)).mono ?_
    rintro e w3 ⟨hg, (⟨hd, -⟩ | ⟨-, rfl⟩)⟩
    · exact absurd hd HND.out
    have HG3 := Lib.hid (HG2.out.trans hg)
    have HR3 := Lib.hid (HR2.out.later hg)
    clear hg
    go_wp2_with fail
    refine (kept_any gb n cb l _ _ HN.out hcn hcb2 HR3.out (HV.out.later HG3.out) (by have := HN.out; omega) ⟨_, _, _, rfl⟩).mono ?_
    rintro e w4 ⟨rfl, hg⟩
    have HG4 := Lib.hid (HG3.out.trans hg)
    clear hg
    go_wp2_with fail
    refine (shown_any _).mono ?_
    rintro e w5 ⟨rfl, hg⟩
    have HG5 := Lib.hid (HG4.out.trans hg)
    clear hg
    go_wp2_with fail
    go_ret
    exact ⟨rfl, HG5.out⟩
  have HD := Lib.hid hd
  have HS2 := Lib.hid hs
  have hn1 : 1 ≤ n := by have := hd.1; have := HN.out; omega
  clear hd hs
  go_wp2_with fail
  refine (rnew_any l _ _ (HV.out.later HG2.out)).mono ?_
  rintro e w3 ⟨hg, (⟨-, R, rfl, hr⟩ | ⟨hd, -⟩)⟩
  rotate_left
  · exact absurd HD.out hd
  have HG3 := Lib.hid (HG2.out.trans hg)
  have HR3 := Lib.hid (HR2.out.later hg)
  have HS3 := Lib.hid (HS2.out.later hg)
  have HRF3 := Lib.hid hr
  clear hg hr
  go_wp2_with fail
  refine (kept_any gb n cb l _ _ HN.out hcn hcb2 HR3.out (HV.out.later HG3.out) (by have := HN.out; omega) ⟨_, _, _, rfl⟩).mono ?_
  rintro e w4 ⟨rfl, hg⟩
  have HG4 := Lib.hid (HG3.out.trans hg)
  have HS4 := Lib.hid (HS3.out.later hg)
  have HRF4 := Lib.hid (HRF3.out.later hg)
  have HR4 := Lib.hid (HR3.out.later hg)
  clear hg
  have hn0 : (0 : Int) < (n : Int) := by omega
  have b0 := HR4.out.cell (j := 0) (by simp)
  have bf := HR4.out.frozen 0
  go_wp2_with fail
  have HG5 := Lib.hid (HG4.out.setCell (p := ⟨gb, 0, none⟩) HGB.out (.int .u32 4))
  have HS5 := Lib.hid (HS4.out.low (p := ⟨gb, 0, none⟩) hblt (.int .u32 4))
  have HRF5 := Lib.hid (HRF4.out.low (p := ⟨gb, 0, none⟩) hblt2 (.int .u32 4))
  clear b0 bf
  generalize w4.setCell ⟨gb, 0, none⟩ (.int .u32 4) = w5 at *
  refine (moduli_row S l _ HS5.out.isSys HD.out.sys).mono ?_
  rintro e w6 ⟨gl, cl, rfl, hrow, hl1, hl2, hl3, hg⟩
  rw [← HN.out] at hl2 ⊢
  have HG6 := Lib.hid hg
  have HS6 := Lib.hid (HS5.out.later hg)
  have HRF6 := Lib.hid (HRF5.out.later hg)
  have HL6 := Lib.hid hrow
  have HSZ := Lib.hid (And.intro hl1 HG5.out.size)
  have HLP := Lib.hid (show HasP w6 (.slice (some ⟨gl, 0, none⟩) n cl) l from by rw [HN.out]; exact hrow.hasP (by rw [← HN.out]; exact hl2) hl3)
  clear hg hrow hl1
  obtain ⟨-, vr, y0, hvp, -, y1, y2⟩ := HRF6.out
  have HVP := Lib.hid hvp
  obtain ⟨-, xr, cr, rfl, -, -, -⟩ := hvp
  rw [← HN.out] at y0 HVP
  have HLL := Lib.hid (show l.length ≤ 1000000 by have := HN.out; omega)
  have gd : Gr w6 w6.drew := (Gr.refl w6).drew
  have y0 := gd.keeps y0
  have y1 := gd.keeps y1
  have y2 := gd.keeps y2
  have HLP := Lib.hid (HLP.out.later gd)
  have HVP := Lib.hid (HVP.out.later gd)
  have HS6 := Lib.hid (HS6.out.later gd)
  have HRF6 := Lib.hid (HRF6.out.later gd)
  have HL6 := Lib.hid (HL6.out.later gd)
  have HG6 := Lib.hid (HG6.out.trans gd)
  clear gd
  go_upto_region 13 with (fail)
  go_region_held3 (fun w' => w'.cell? ⟨R, 0, none⟩ = some (.slice xr n cr) ∧ w'.cell? ⟨R, 1, none⟩ = some (.bool (decide (Or.pr l < 0))) ∧ w'.cell? ⟨R, 2, none⟩ = some (.string (bstr (Or.pr l).natAbs))) (first | exact ⟨y0, y1, y2⟩ | go_keep)
    (first
      | (go_at_call 13; (with_reducible refine (same_any l l _ _ _ HLP.out HVP.out HLL.out HLL.out).mono ?_); rintro e w' ⟨rfl, g⟩; rw [decide_eq_true (rfl : l = l)]; have y0 := g.keeps y0; have y1 := g.keeps y1; have y2 := g.keeps y2; have HS6 := Lib.hid (HS6.out.later g); have HRF6 := Lib.hid (HRF6.out.later g); have HL6 := Lib.hid (HL6.out.later g); have HG6 := Lib.hid (HG6.out.trans g); clear g)
      | (go_at_call 14; (with_reducible refine (product_any S l _ HS6.out.isSys HD.out.sys).mono ?_); rintro e w' ⟨rfl, g⟩; unfold wv; have y0 := g.keeps y0; have y1 := g.keeps y1; have y2 := g.keeps y2; have HS6 := Lib.hid (HS6.out.later g); have HRF6 := Lib.hid (HRF6.out.later g); have HL6 := Lib.hid (HL6.out.later g); have HG6 := Lib.hid (HG6.out.trans g); clear g))
  all_goals
    clear y0 y1 y2
    have b0 := HL6.out.cell (j := 0) (by have := HN.out; omega)
    have bf := HL6.out.frozen 0
    go_wp2_with fail
    have hg7 := HG6.out.setCell (p := ⟨gl, 0, none⟩) HSZ.out.1 (.int .u32 9)
    have HG7 := Lib.hid (HG5.out.trans hg7)
    have HS7 := Lib.hid (HS5.out.later hg7)
    have HRF7 := Lib.hid (HRF5.out.later hg7)
    clear b0 bf hg7
    generalize w'.setCell ⟨gl, 0, none⟩ (.int .u32 9) = w7 at *
    obtain ⟨-, vr, y0, hvp, -, -, -⟩ := HRF7.out
    have HVP := Lib.hid hvp
    obtain ⟨-, xr, cr, rfl, -, -, -⟩ := hvp
    rw [← HN.out] at y0 HVP
    have gd : Gr w7 w7.drew := (Gr.refl w7).drew
    have y0 := gd.keeps y0
    have HVP := Lib.hid (HVP.out.later gd)
    have HS7 := Lib.hid (HS7.out.later gd)
    have HG7 := Lib.hid (HG7.out.trans gd)
    clear gd
    go_upto_region 16 with (fail)
    go_region_held3 (fun w' => w'.cell? ⟨R, 0, none⟩ = some (.slice xr n cr)) (first | exact y0 | go_keep)
      (first
        | (go_at_call 12; (with_reducible refine (moduli_row S l _ HS7.out.isSys HD.out.sys).mono ?_); rintro e w' ⟨gm, cm, rfl, hrow, hm1, hm2, hm3, g⟩; have HMP := Lib.hid (hrow.hasP hm2 hm3); rw [← HN.out] at HMP ⊢; have y0 := g.keeps y0; have HVP := Lib.hid (HVP.out.later g); have HG7 := Lib.hid (HG7.out.trans g); clear g hrow hm1 hm2 hm3)
        | (go_at_call 13; (with_reducible refine (same_any l l _ _ _ HMP.out HVP.out HLL.out HLL.out).mono ?_); rintro e w' ⟨rfl, g⟩; rw [decide_eq_true (rfl : l = l)]; have y0 := g.keeps y0; have HG7 := Lib.hid (HG7.out.trans g); clear g)
        | (go_at_call 7; (with_reducible refine (shown_any _).mono ?_); rintro e w' ⟨rfl, g⟩; have y0 := g.keeps y0; have HG7 := Lib.hid (HG7.out.trans g); clear g))
    all_goals
      go_wp2_with fail
      go_ret
      exact ⟨rfl, HG7.out⟩
end Go.Proofs.Ytfpdemmdkiohhaa.Mo
