import Derived.Test.YtlfiakpmnkhcdaaGreatLJk
/- Package ring: operations on all rows of an element, or of two. -/
namespace Go.Proofs.YtlfiakpmnkhcdaaGreat.Mo
open Go.RowKit Go.Shelf
set_option linter.unusedVariables false

set_option maxRecDepth 100000 in
set_option maxHeartbeats 2000000 in
theorem unary1_any (fo : Nat) (capo : Array Value) (G : Int → List Int → List Int) (bo ba : Nat) (i : Nat) (m : Int) (uA : Value) (rows : List (List Int)) (w : World) (hi : i < rows.length) (hA : HasR w uA rows) (ho : w.cell? ⟨bo, 0, none⟩ = some (.func (.func fo) #[] capo)) (ha : w.cell? ⟨ba, 2, none⟩ = some uA)
    (hen : ∀ (args : Array Value) (w : World), (callFunc fo args).run Tryz.prog w = .ok (.enter fo args) w)
    (hop : ∀ u W, Gr w W → HasP W u (rw_ rows i) → Calls Tryz.prog fo (#[.int .u32 m, u] ++ capo) W (NewP (G m (rw_ rows i)) W)) :
    Calls Tryz.prog 96 #[.int .i64 i, .int .u32 m, .pointer (some ⟨bo, 0, none⟩), .pointer (some ⟨ba, 0, none⟩)] w (NewP (G m (rw_ rows i)) w) := by
  obtain ⟨xA, cA, rfl⟩ := hA.form
  generalize hnA : rows.length = nA at *
  obtain ⟨g, o, x, n, c, rfl, hc, hn, hp⟩ := HasB.at_ hA (i := i) (by rw [hnA]; exact hi)
  have HOP := Lib.hid (hop (.slice x n c) w.drew (Below.drew (Gr.refl w)) (hp.later (Below.drew (Gr.refl w))))
  have i0 : (0 : Int) ≤ (i : Int) := by omega
  have i1 : (i : Int) < (nA : Int) := by omega
  clear hA hp hn hop hnA
  go_enter Tryz.func96, Tryz.ntmps96
  go_wp2_with fail
  go_region_held3 (fun wz => wz.cell? ⟨bo, 0, none⟩ = some (.func (.func fo) #[] capo) ∧ wz.cell? ⟨ba, 2, none⟩ = some (.slice (some ⟨g, o, none⟩) nA cA) ∧ wz.cell? ⟨g, o + i, none⟩ = some (.slice x n c)) (go_keep)
    ((refine HOP.out.mono ?_; rintro e w1 ⟨xr, nr, cr, rfl, hpr, hfr, hgr⟩; have H1 := Lib.hid (And.intro hpr (And.intro hfr hgr)); have hgr' : Gr w w1 := Gr.trans (Below.drew (Gr.refl w)) hgr; have ho := hgr'.keeps ho; have ha := hgr'.keeps ha; have hc := hgr'.keeps hc; clear hpr hfr hgr hgr'))
  go_wp2_with fail
  go_ret
  exact ⟨xr, nr, cr, rfl, H1.out.1, H1.out.2.1, Gr.trans (Below.drew (Gr.refl w)) H1.out.2.2⟩
/-- An element and an error. -/
def ResE (c : Int) (lv : Int) (sp : Bool) (ls : List (List Int)) (w : World) (e : Ending) (w' : World) : Prop :=
  ∃ lv' sp' ls' u, e = .returned (.tuple #[.agg #[.int .i64 lv', .bool sp', u], .int .i64 c]) ∧ ((c = 0 ∧ lv' = lv ∧ sp' = sp ∧ ls' = ls) ∨ (c = 2 ∧ lv' = 0 ∧ sp' = false ∧ ls' = [])) ∧ HasB w' w.heap.size w'.heap.size u ls' ∧ Gr w w'
theorem mods_ok {N : Int} {ch : List Int} {S : Int} {lv : Nat} {sp : Bool} (hv : VP N ch S) (he : EX ch S lv sp) {j : Nat} (hj : j < (Oj.mods ch S lv sp).length) : okM' (Op.cf (Oj.mods ch S lv sp) j) := by
  obtain ⟨_, h1, h2, h3⟩ := hv
  obtain ⟨e1, e2, e3⟩ := he
  have e2 : lv ≤ ch.length := by omega
  have key : ∀ i, i < (allM ch S).length → okM' (Op.cf (allM ch S) i) := fun i hi => ⟨(h3 i hi).1, (h3 i hi).2.1⟩
  have hl := Oj.mods_len (S := S) (sp := sp) e2
  have hl2 := Oj.mods_len (S := S) (lv := ch.length) (sp := S != 0) (Nat.le_refl _)
  by_cases h : j < lv
  · rw [Oj.mods_lo e2 h]
    have := key j (by unfold allM; rw [hl2]; omega)
    rwa [allM, Oj.mods_lo (Nat.le_refl _) (by omega)] at this
  · cases sp with
    | false => simp at hl; omega
    | true =>
      have hS : (S != 0) = true := by simpa using e3 rfl
      have : j = lv := by simp at hl; omega
      subst this
      rw [Oj.mods_hi e2]
      have := key ch.length (by unfold allM; rw [hl2, hS]; simp)
      rwa [allM, hS, Oj.mods_hi (Nat.le_refl _)] at this

set_option maxRecDepth 100000 in
set_option maxHeartbeats 4000000 in
theorem unary_any (N p1 p2 : Int) (xC : Option Addr) (nC cC : Nat) (S p5 p6 : Int) (lv : Int) (sp : Bool) (ch : List Int) (uA : Value) (rows : List (List Int)) (fo : Nat) (capo : Array Value) (G : Int → List Int → List Int) (w : World) (h3 : ch.length ≤ 1000) (hC : HasP w (.slice xC nC cC) ch) (hS : 0 ≤ S ∧ S < 4294967296) (hA : HasR w uA rows)
    (hen : ∀ (args : Array Value) (w : World), (callFunc fo args).run Tryz.prog w = .ok (.enter fo args) w)
    (hop : VP N ch S → ∀ m l u W, Gr w W → okM' m → (l.length : Int) = N → HasP W u l → Calls Tryz.prog fo (#[.int .u32 m, u] ++ capo) W (NewP (G m l) W)) :
    Calls Tryz.prog 51 #[.agg #[.int .i64 N, .int .u32 p1, .int .i64 p2, .slice xC nC cC, .int .u32 S, .int .i64 p5, .int .u32 p6], .agg #[.int .i64 lv, .bool sp, uA], .func (.func fo) #[] capo] w (ResE (chkE N ch S lv sp rows) lv sp (rwA (Oj.mods ch S lv.toNat sp) (fun i m => G m (rw_ rows i))) w) := by
  obtain ⟨xA, cA, rfl⟩ := hA.form
  generalize hnA : rows.length = nA at *
  have HNA := Lib.hid hnA
  have HC := Lib.hid hC
  have HA := Lib.hid hA
  have HS := Lib.hid hS
  have HOP := Lib.hid hop
  clear hC hA hS hop hnA
  obtain ⟨W4, hW4⟩ : ∃ W4, W4 = (((w.alloc (.cells #[.int .i64 N, .int .u32 p1, .int .i64 p2, .slice xC nC cC, .int .u32 S, .int .i64 p5, .int .u32 p6] 25)).alloc (.cells #[.int .i64 lv, .bool sp, .slice xA nA cA] 28)).alloc (.cells #[.func (.func fo) #[] capo] 70)).alloc (.cells #[.int .i64 0, .bool false, .slice none 0 0] 28) := ⟨_, rfl⟩
  have HG4 := Lib.hid (show Gr w W4 by rw [hW4]; exact (((Gr.new w _).alloc _).alloc _).alloc _)
  have HBP := Lib.hid (show Blk W4 w.heap.size 25 #[.int .i64 N, .int .u32 p1, .int .i64 p2, .slice xC nC cC, .int .u32 S, .int .i64 p5, .int .u32 p6] by rw [hW4]; exact (((Blk.new w _ _).gr (Gr.new _ _)).gr (Gr.new _ _)).gr (Gr.new _ _))
  have HBE := Lib.hid (show Blk W4 (w.heap.size + 1) 28 #[.int .i64 lv, .bool sp, .slice xA nA cA] by
    rw [hW4]
    have b := Blk.new (w.alloc (.cells #[.int .i64 N, .int .u32 p1, .int .i64 p2, .slice xC nC cC, .int .u32 S, .int .i64 p5, .int .u32 p6] 25)) 28 #[.int .i64 lv, .bool sp, .slice xA nA cA]
    rw [World.size_alloc] at b
    exact (b.gr (Gr.new _ _)).gr (Gr.new _ _))
  have HBO := Lib.hid (show Boxed W4 (w.heap.size + 2) 70 (.func (.func fo) #[] capo) by
    rw [hW4]
    have b := Boxed.new ((w.alloc (.cells #[.int .i64 N, .int .u32 p1, .int .i64 p2, .slice xC nC cC, .int .u32 S, .int .i64 p5, .int .u32 p6] 25)).alloc (.cells #[.int .i64 lv, .bool sp, .slice xA nA cA] 28)) 70 (.func (.func fo) #[] capo)
    rw [World.size_alloc, World.size_alloc] at b
    exact b.alloc _)
  have HBR := Lib.hid (show Blk W4 (w.heap.size + 3) 28 #[.int .i64 0, .bool false, .slice none 0 0] by
    rw [hW4]
    have b := Blk.new (((w.alloc (.cells #[.int .i64 N, .int .u32 p1, .int .i64 p2, .slice xC nC cC, .int .u32 S, .int .i64 p5, .int .u32 p6] 25)).alloc (.cells #[.int .i64 lv, .bool sp, .slice xA nA cA] 28)).alloc (.cells #[.func (.func fo) #[] capo] 70)) 28 #[.int .i64 0, .bool false, .slice none 0 0]
    rw [World.size_alloc, World.size_alloc, World.size_alloc] at b
    exact b)
  go_enter Tryz.func51, Tryz.ntmps51
  go_wp2_with fail
  rw [← hW4]
  refine (pCheck_any N p1 p2 xC nC cC S p5 p6 lv sp ch _ rows _ h3 (HC.out.later HG4.out) HS.out (HA.out.later HG4.out)).mono ?_
  rintro e w1 ⟨rfl, hg1⟩
  have HG1 := Lib.hid (HG4.out.trans hg1)
  have HBP1 := Lib.hid (HBP.out.gr hg1)
  have HBE1 := Lib.hid (HBE.out.gr hg1)
  have HBO1 := Lib.hid (boxed_gr HBO.out hg1)
  have HBR1 := Lib.hid (HBR.out.gr hg1)
  obtain ⟨q0, q1, q2, q3, q4, q5, q6⟩ := HBP1.out.p7
  obtain ⟨k0, k1, k2⟩ := HBE1.out.p3
  obtain ⟨r0, r1, r2⟩ := HBR1.out.p3
  obtain ⟨f0, f1, f2⟩ := HBR1.out.f3
  clear hg1 hW4
  by_cases hok : VP N ch S ∧ EV N ch S lv sp rows
  · obtain ⟨n, rfl⟩ := Int.eq_ofNat_of_zero_le (show 0 ≤ lv by have := hok.2.1.1; omega)
    have HOK := Lib.hid hok
    have hE0 : chkE N ch S n sp rows = 0 := if_pos hok
    have HE0 := Lib.hid hE0
    rw [hE0]
    clear hok hE0
    go_wp2_with fail
    refine (element_any N p1 p2 xC nC cC S p5 p6 n sp ch 96 #[.pointer (some ⟨w.heap.size + 2, 0, none⟩), .pointer (some ⟨w.heap.size + 1, 0, none⟩)] (fun i m => G m (rw_ rows i)) w1 (by have := HOK.out.2.1.1; omega) (by have := HOK.out.2.1.2.1; omega) h3 (HC.out.later HG1.out) (enters_of Tryz.func96 (by kernel_rfl) rfl) (fun i j hi hj W hW => ?_)).mono ?_
    · have hM := mods_ok HOK.out.1 HOK.out.2.1 hj
      have hE := HOK.out.2.2
      have hi' : i < rows.length := by rw [hE.1]; exact hi
      exact unary1_any fo capo G (w.heap.size + 2) (w.heap.size + 1) i _ _ rows W hi' ((HA.out.later HG1.out).later hW) (boxed_gr HBO1.out hW).cell (HBE1.out.gr hW).p3.2.2 hen
        (fun u W' hW' hu => HOP.out HOK.out.1 _ _ u W' ((HG1.out.trans hW).trans hW') hM (hE.2 i hi).1 hu)
    · rintro e w2 ⟨u, rfl, hb, hg2⟩
      have HB := Lib.hid hb
      have HG2 := Lib.hid (HG1.out.trans hg2)
      have HBR2 := Lib.hid (HBR1.out.gr hg2)
      obtain ⟨r0, r1, r2⟩ := HBR2.out.p3
      obtain ⟨f0, f1, f2⟩ := HBR2.out.f3
      have HSZ := Lib.hid HG1.out.size
      have HSZ1 := Lib.hid HBR1.out.lt
      obtain ⟨xu, cu, rfl⟩ := hb.form
      generalize hlu : (rwA (Oj.mods ch S n sp) (fun i m => G m (rw_ rows i))).length = nu at *
      have HLU := Lib.hid hlu
      clear hb hg2 q0 q1 q2 q3 q4 q5 q6 k0 k1 k2 hlu
      go_wp2_with fail
      have hr := ((HBR2.out.set 0 (.int .i64 n)).set 1 (.bool sp)).set 2 (.slice xu nu cu)
      obtain ⟨e0, e1, e2⟩ := (show Blk _ _ _ #[.int .i64 n, .bool sp, .slice xu nu cu] from hr).p3
      refine bodyPost_ret (v := .tuple #[.agg #[.int .i64 n, .bool sp, .slice xu nu cu], .int .i64 0]) (by simp only [Nat.add_assoc, Nat.reduceAdd]; simp [results, Tryz.results51, go_sem, e0, e1, e2]) rfl ?_
      refine ⟨n, sp, _, _, by rw [HE0.out], .inl ⟨HE0.out, rfl, rfl, rfl⟩, ?_, ((HG2.out.setCell (p := ⟨w.heap.size + 3, 0, none⟩) (by simp) _).setCell (p := ⟨w.heap.size + 3, 1, none⟩) (by simp) _).setCell (p := ⟨w.heap.size + 3, 2, none⟩) (by simp) _⟩
      have hsz := HSZ.out
      have hsz1 := HSZ1.out
      have hb := HB.out
      have h1 := ((hb.grown (grown_cell w2 (w.heap.size + 3) 0 (.int .i64 n)) (fun r e => by cases e; exact .inl (by omega))).grown (grown_cell _ (w.heap.size + 3) 1 (.bool sp)) (fun r e => by cases e; exact .inl (by omega))).grown (grown_cell _ (w.heap.size + 3) 2 (.slice xu nu cu)) (fun r e => by cases e; exact .inl (by omega))
      exact (h1.mono (by omega) (Nat.le_refl _)).cut
  · have hE0 : chkE N ch S lv sp rows = 2 := if_neg hok
    have HE0 := Lib.hid hE0
    rw [hE0]
    clear hok hE0
    go_wp2_with fail
    have hr := ((HBR1.out.set 0 (.int .i64 0)).set 1 (.bool false)).set 2 (.slice none 0 0)
    obtain ⟨e0, e1, e2⟩ := (show Blk _ _ _ #[.int .i64 0, .bool false, .slice none 0 0] from hr).p3
    refine bodyPost_ret (v := .tuple #[.agg #[.int .i64 0, .bool false, .slice none 0 0], .int .i64 2]) (by simp only [Nat.add_assoc, Nat.reduceAdd]; simp [results, Tryz.results51, go_sem, e0, e1, e2]) rfl ?_
    exact ⟨0, false, [], _, by rw [HE0.out], .inr ⟨HE0.out, rfl, rfl, rfl⟩, HasB.nil _ _ _, ((HG1.out.setCell (p := ⟨w.heap.size + 3, 0, none⟩) (by simp) _).setCell (p := ⟨w.heap.size + 3, 1, none⟩) (by simp) _).setCell (p := ⟨w.heap.size + 3, 2, none⟩) (by simp) _⟩
end Go.Proofs.YtlfiakpmnkhcdaaGreat.Mo
