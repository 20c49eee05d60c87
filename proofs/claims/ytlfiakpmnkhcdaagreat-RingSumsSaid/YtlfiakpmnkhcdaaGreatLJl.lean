import Derived.Test.YtlfiakpmnkhcdaaGreatLJk
/- Package ring: operations on all rows of an element, or of two. -/
namespace Go.Proofs.YtlfiakpmnkhcdaaGreat.Mo
open Go.RowKit Go.Shelf
set_option linter.unusedVariables false

set_option maxRecDepth 100000 in
set_option maxHeartbeats 2000000 in
theorem binary1_any (fo : Nat) (capo : Array Value) (G : Int → List Int → List Int → List Int) (bo ba bb : Nat) (i : Nat) (m : Int) (uA uB : Value) (rA rB : List (List Int)) (w : World) (hi : i < rA.length) (hj : i < rB.length) (hA : HasR w uA rA) (hB : HasR w uB rB) (ho : w.cell? ⟨bo, 0, none⟩ = some (.func (.func fo) #[] capo)) (ha : w.cell? ⟨ba, 2, none⟩ = some uA) (hb : w.cell? ⟨bb, 2, none⟩ = some uB)
    (hen : ∀ (args : Array Value) (w : World), (callFunc fo args).run Tryz.prog w = .ok (.enter fo args) w)
    (hop : ∀ u v W, Gr w W → HasP W u (rw_ rA i) → HasP W v (rw_ rB i) → Calls Tryz.prog fo (#[.int .u32 m, u, v] ++ capo) W (NewP (G m (rw_ rA i) (rw_ rB i)) W)) :
    Calls Tryz.prog 98 #[.int .i64 i, .int .u32 m, .pointer (some ⟨bo, 0, none⟩), .pointer (some ⟨ba, 0, none⟩), .pointer (some ⟨bb, 0, none⟩)] w (NewP (G m (rw_ rA i) (rw_ rB i)) w) := by
  obtain ⟨xA, cA, rfl⟩ := hA.form
  obtain ⟨xB, cB, rfl⟩ := hB.form
  generalize hnA : rA.length = nA at *
  generalize hnB : rB.length = nB at *
  obtain ⟨g, o, x, n, c, rfl, hc, hn, hp⟩ := HasB.at_ hA (i := i) (by rw [hnA]; exact hi)
  obtain ⟨g2, o2, x2, n2, c2, rfl, hc2, hn2, hp2⟩ := HasB.at_ hB (i := i) (by rw [hnB]; exact hj)
  have HOP := Lib.hid (hop (.slice x n c) (.slice x2 n2 c2) w.drew (Below.drew (Gr.refl w)) (hp.later (Below.drew (Gr.refl w))) (hp2.later (Below.drew (Gr.refl w))))
  have i0 : (0 : Int) ≤ (i : Int) := by omega
  have i1 : (i : Int) < (nA : Int) := by omega
  have i2 : (i : Int) < (nB : Int) := by omega
  clear hA hp hn hB hp2 hn2 hop hnA hnB
  go_enter Tryz.func98, Tryz.ntmps98
  go_wp2_with fail
  go_region_held3 (fun wz => wz.cell? ⟨bo, 0, none⟩ = some (.func (.func fo) #[] capo) ∧ wz.cell? ⟨ba, 2, none⟩ = some (.slice (some ⟨g, o, none⟩) nA cA) ∧ wz.cell? ⟨g, o + i, none⟩ = some (.slice x n c) ∧ wz.cell? ⟨bb, 2, none⟩ = some (.slice (some ⟨g2, o2, none⟩) nB cB) ∧ wz.cell? ⟨g2, o2 + i, none⟩ = some (.slice x2 n2 c2)) (go_keep)
    ((refine HOP.out.mono ?_; rintro e w1 ⟨xr, nr, cr, rfl, hpr, hfr, hgr⟩; have H1 := Lib.hid (And.intro hpr (And.intro hfr hgr)); have hgr' : Gr w w1 := Gr.trans (Below.drew (Gr.refl w)) hgr; have ho := hgr'.keeps ho; have ha := hgr'.keeps ha; have hc := hgr'.keeps hc; have hb := hgr'.keeps hb; have hc2 := hgr'.keeps hc2; clear hpr hfr hgr hgr'))
  go_wp2_with fail
  go_ret
  exact ⟨xr, nr, cr, rfl, H1.out.1, H1.out.2.1, Gr.trans (Below.drew (Gr.refl w)) H1.out.2.2⟩

/-- An element and an error. -/
def ResE (c : Int) (lv : Int) (sp : Bool) (ls : List (List Int)) (w : World) (e : Ending) (w' : World) : Prop :=
  ∃ lv' sp' ls' u, e = .returned (.tuple #[.agg #[.int .i64 lv', .bool sp', u], .int .i64 c]) ∧ ((c = 0 ∧ lv' = lv ∧ sp' = sp ∧ ls' = ls) ∨ (c = 2 ∧ lv' = 0 ∧ sp' = false ∧ ls' = [])) ∧ HasB w' w.heap.size w'.heap.size u ls' ∧ Gr w w'
theorem mods_ok {N : Int} {ch : List Int} {S : Int} {lv : Nat} {sp : Bool} (hv : VP N ch S) (he : EX ch S lv sp) {j : Nat} (hj : j < (Oj.mods ch S lv sp).length) : okM' (Op.cf (Oj.mods ch S lv sp) j) := by
  obtain ⟨_, h1, h2, h3⟩ := hv
  obtain ⟨e1, e2, e3⟩ := he
  have e2 : lv ≤ ch.length := by omega
  have key : ∀ i, i < (allM ch S).length → okM' (Op.cf (allM ch S) i) := fun i hi => ⟨(h3 i hi).1, (h3 i hi).2.1⟩
  have hl := Oj.mods_len (S := S) (sp := sp) e2
  have hl2 := Oj.mods_len (S := S) (lv := ch.length) (sp := S != 0) (Nat.le_refl _)
  by_cases h : j < lv
  · rw [Oj.mods_lo e2 h]
    have := key j (by unfold allM; rw [hl2]; omega)
    rwa [allM, Oj.mods_lo (Nat.le_refl _) (by omega)] at this
  · cases sp with
    | false => simp at hl; omega
    | true =>
      have hS : (S != 0) = true := by simpa using e3 rfl
      have : j = lv := by simp at hl; omega
      subst this
      rw [Oj.mods_hi e2]
      have := key ch.length (by unfold allM; rw [hl2, hS]; simp)
      rwa [allM, hS, Oj.mods_hi (Nat.le_refl _)] at this

end Go.Proofs.YtlfiakpmnkhcdaaGreat.Mo
