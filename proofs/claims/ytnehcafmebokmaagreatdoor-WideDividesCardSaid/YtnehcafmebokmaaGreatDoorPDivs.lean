/- The region of Div that draws its order. -/
import Derived.Test.YtnehcafmebokmaaGreatDoorPGi
namespace Go.Proofs.YtnehcafmebokmaaGreatDoor
open Go.RowKit
set_option linter.unusedVariables false
set_option linter.unusedSimpArgs false

theorem chain_any {P : Program} {md : Region.Mode} {ops : Array Oper} {Q : Exit → Act → World → Prop} {S : World → Prop} {f0 : Nat} {l0 : Array Bool} {a0 : Act} {w0 : World}
    (h : ∀ G : Nat → Array Bool → Act → World → Prop, (∀ f l a w, G f l a w → wpAnyH P md ops Q S f l a w) → (∀ f l a w, wpAnyH P md ops Q S f l a w → G f l a w) → wpAnyH P md ops Q S f0 l0 a0 w0) :
    wpAnyH P md ops Q S f0 l0 a0 w0 := h _ (fun _ _ _ _ h => h) (fun _ _ _ _ h => h)
/-- A place that was made after W, still empty. -/
def Fresh (W w : World) (B : Nat) : Prop := W.heap.size ≤ B ∧ w.cell? ⟨B, 0, none⟩ = some (.bool false) ∧ w.cell? ⟨B, 1, none⟩ = some (.slice none 0 0) ∧ w.frozen? ⟨B, 0, none⟩ = false ∧ w.frozen? ⟨B, 1, none⟩ = false
theorem Fresh.later {W w w' : World} {B : Nat} (h : Fresh W w B) (g : Gr w w') : Fresh W w' B :=
  ⟨h.1, g.keeps h.2.1, g.keeps h.2.2.1, g.frozen h.2.1 h.2.2.2.1, g.frozen h.2.2.1 h.2.2.2.2⟩
theorem Fresh.new {W w : World} (h : Gr W w) (t : TypeId) : Fresh W (w.alloc (.cells #[.bool false, .slice none 0 0] t)) w.heap.size :=
  ⟨h.size, (two_cells _ _ _ _).1, (two_cells _ _ _ _).2, froz0 _ _ _ _, froz1 _ _ _ _⟩
theorem Fresh.ne {W w : World} {B : Nat} (h : Fresh W w B) : ¬ (w.heap.size = B) := fun e => ne_of_cell h.2.1 e.symm
theorem HasI.set2 {N : Nat} {W : World} {v : Value} {z : Int} {B : Nat} {b : Bool} {u w : Value} (h : HasI N W v z) (h0 : W.cell? ⟨B, 0, none⟩ = some (.bool b)) (h1 : W.cell? ⟨B, 1, none⟩ = some (.slice none 0 0)) :
    HasI N ((W.setCell ⟨B, 0, none⟩ u).setCell ⟨B, 1, none⟩ w) v z := (h.set h0 (by simp) u).set ((cell_other (by simp) u).trans h1) (by simp) w
theorem Gr.drewOne {a b : World} (h : Gr a b) : Gr a b.drew := Below.drew h
/-- What the division leaves: two places with quotient and rest. -/
def DivCut (x y : Int) (W : World) (s7 s8 : Value) (wx : World) : Prop := ∃ B C nq sq nr sr, s7 = .pointer (some ⟨B, 0, none⟩) ∧ s8 = .pointer (some ⟨C, 0, none⟩) ∧ W.heap.size ≤ B ∧ W.heap.size ≤ C ∧
  wx.cell? ⟨B, 0, none⟩ = some (.bool nq) ∧ wx.cell? ⟨B, 1, none⟩ = some sq ∧ wx.cell? ⟨C, 0, none⟩ = some (.bool nr) ∧ wx.cell? ⟨C, 1, none⟩ = some sr ∧
  HasI 65 wx (.agg #[.bool nq, sq]) (x / y) ∧ HasI 64 wx (.agg #[.bool nr, sr]) (x % y) ∧ Gr W wx

set_option maxRecDepth 100000 in
set_option maxHeartbeats 8000000 in
theorem div_region (neg : Bool) (s : ByteArray) (neg' : Bool) (s' : ByteArray) (HF : Form neg s) (HF' : Form neg' s') (HY : zOf neg' s' ≠ 0) (W : World) (A B : Nat)
    (x0 : W.cell? ⟨A, 0, none⟩ = some (.bool neg)) (x1 : W.cell? ⟨A, 1, none⟩ = some (.string s)) (y0 : W.cell? ⟨B, 0, none⟩ = some (.bool neg')) (y1 : W.cell? ⟨B, 1, none⟩ = some (.string s'))
    (v0 v1 v4 v5 v6 v9 v10 v11 v12 v13 v14 v15 v16 v17 v18 v19 v20 v21 v22 v23 v32 v33 v34 v35 v36 v37 v38 v39 v40 v41 v42 v43 : Value) (Q : Exit → Act → World → Prop) (hQ : ∀ (d : Option Tmp) (v : Value) c a w, Q (.panic c) (a.put d v) w → Q (.panic c) a w)
    (hpost : ∀ s7 s8 u24 u25 u26 u27 u28 u29 u30 u31 wx, DivCut (zOf neg s) (zOf neg' s') W s7 s8 wx → Q .normal { tmps := List.toArray (v0 :: v1 :: .pointer (some ⟨A, 0, none⟩) :: .pointer (some ⟨B, 0, none⟩) :: v4 :: v5 :: v6 :: s7 :: s8 :: v9 :: v10 :: v11 :: v12 :: v13 :: v14 :: v15 :: v16 :: v17 :: v18 :: v19 :: v20 :: v21 :: v22 :: v23 :: u24 :: u25 :: u26 :: u27 :: u28 :: u29 :: u30 :: u31 :: v32 :: v33 :: v34 :: v35 :: v36 :: v37 :: v38 :: v39 :: v40 :: v41 :: v42 :: v43 :: ([] : List Value)), defers := [] } wx) :
    (Code.region 3 #[{ dst := some 25, op := Op.load 23 (Operand.tmp 2), type := 23, pos := "quotients.go:10", after := #[], guard := none },
      { dst := some 26, op := Op.call { callee := Callee.value (Operand.func 20), args := #[Operand.tmp 25], argTypes := #[23] }, type := 44, pos := "quotients.go:10", after := #[{ on := 0, ground := Ground.data }], guard := none },
      { dst := some 27, op := Op.load 23 (Operand.tmp 3), type := 23, pos := "quotients.go:10", after := #[], guard := none },
      { dst := some 28, op := Op.call { callee := Callee.value (Operand.func 20), args := #[Operand.tmp 27], argTypes := #[23] }, type := 44, pos := "quotients.go:10", after := #[{ on := 2, ground := Ground.data }, { on := 1, ground := Ground.chain }], guard := none },
      { dst := some 29, op := Op.call { callee := Callee.value (Operand.func 19), args := #[Operand.tmp 26, Operand.tmp 28], argTypes := #[44, 44] }, type := 45, pos := "quotients.go:10", after := #[{ on := 1, ground := Ground.data }, { on := 3, ground := Ground.data }, { on := 3, ground := Ground.chain }], guard := none },
      { dst := some 24, op := Op.move (Operand.tmp 29), type := 45, pos := "quotients.go:10", after := #[{ on := 4, ground := Ground.data }], guard := none },
      { dst := some 30, op := Op.extract (Operand.tmp 24) 0, type := 44, pos := "quotients.go:10", after := #[{ on := 5, ground := Ground.data }], guard := none },
      { dst := some 31, op := Op.extract (Operand.tmp 24) 1, type := 44, pos := "quotients.go:10", after := #[{ on := 5, ground := Ground.data }, { on := 10, ground := Ground.gcOnly Departure.lateStores }], guard := none },
      { dst := some 7, op := Op.alloc 44, type := 0, pos := "quotients.go:10", after := #[], guard := none },
      { dst := some 8, op := Op.alloc 44, type := 0, pos := "quotients.go:10", after := #[], guard := none },
      { dst := none, op := Op.store 44 (Operand.tmp 7) (Operand.tmp 30), type := 0, pos := "quotients.go:10", after := #[{ on := 8, ground := Ground.data }, { on := 6, ground := Ground.data }, { on := 4, ground := Ground.chain }, { on := 0, ground := Ground.phase }, { on := 1, ground := Ground.phase }, { on := 2, ground := Ground.phase }, { on := 3, ground := Ground.phase }, { on := 4, ground := Ground.phase }, { on := 5, ground := Ground.phase }, { on := 6, ground := Ground.phase }, { on := 7, ground := Ground.textOnly Departure.lateStores }, { on := 8, ground := Ground.phase }, { on := 9, ground := Ground.phase }], guard := none },
      { dst := none, op := Op.store 44 (Operand.tmp 8) (Operand.tmp 31), type := 0, pos := "quotients.go:10", after := #[{ on := 9, ground := Ground.data }, { on := 7, ground := Ground.data }, { on := 10, ground := Ground.chain }, { on := 0, ground := Ground.phase }, { on := 1, ground := Ground.phase }, { on := 2, ground := Ground.phase }, { on := 3, ground := Ground.phase }, { on := 4, ground := Ground.phase }, { on := 5, ground := Ground.phase }, { on := 6, ground := Ground.phase }, { on := 7, ground := Ground.phase }, { on := 8, ground := Ground.phase }, { on := 9, ground := Ground.phase }, { on := 10, ground := Ground.phase }], guard := none }] true).wp Tryz.prog Q { tmps := List.toArray (v0 :: v1 :: .pointer (some ⟨A, 0, none⟩) :: .pointer (some ⟨B, 0, none⟩) :: v4 :: v5 :: v6 :: undef :: undef :: v9 :: v10 :: v11 :: v12 :: v13 :: v14 :: v15 :: v16 :: v17 :: v18 :: v19 :: v20 :: v21 :: v22 :: v23 :: undef :: undef :: undef :: undef :: undef :: undef :: undef :: undef :: v32 :: v33 :: v34 :: v35 :: v36 :: v37 :: v38 :: v39 :: v40 :: v41 :: v42 :: v43 :: ([] : List Value)), defers := [] } W := by
  refine wp_region_held_drew (S := fun w' => w'.cell? ⟨A, 0, none⟩ = some (.bool neg) ∧ w'.cell? ⟨A, 1, none⟩ = some (.string s) ∧ w'.cell? ⟨B, 0, none⟩ = some (.bool neg') ∧ w'.cell? ⟨B, 1, none⟩ = some (.string s') ∧ Gr W w') (by kernel_rfl) ⟨x0, x1, y0, y1, (Gr.refl W).drewOne⟩ (fun hHeld => ?_)
  refine chain_any (fun G out inn => ?_)
  have keepS : ∀ {w w' : World}, (fun w' => w'.cell? ⟨A, 0, none⟩ = some (.bool neg) ∧ w'.cell? ⟨A, 1, none⟩ = some (.string s) ∧ w'.cell? ⟨B, 0, none⟩ = some (.bool neg') ∧ w'.cell? ⟨B, 1, none⟩ = some (.string s') ∧ Gr W w') w → Gr w w' → (fun w' => w'.cell? ⟨A, 0, none⟩ = some (.bool neg) ∧ w'.cell? ⟨A, 1, none⟩ = some (.string s) ∧ w'.cell? ⟨B, 0, none⟩ = some (.bool neg') ∧ w'.cell? ⟨B, 1, none⟩ = some (.string s') ∧ Gr W w') w' := fun h g => ⟨g.keeps h.1, g.keeps h.2.1, g.keeps h.2.2.1, g.keeps h.2.2.2.1, h.2.2.2.2.trans g⟩
  have st311 : ∀ (u v q r : Value) (B7 B8 : Nat) (w : World), (fun w' => w'.cell? ⟨A, 0, none⟩ = some (.bool neg) ∧ w'.cell? ⟨A, 1, none⟩ = some (.string s) ∧ w'.cell? ⟨B, 0, none⟩ = some (.bool neg') ∧ w'.cell? ⟨B, 1, none⟩ = some (.string s') ∧ Gr W w') w → HasI 65 w q (zOf neg s / zOf neg' s') → HasI 64 w r (zOf neg s % zOf neg' s') → Fresh W w B7 → Fresh W w B8 → ¬ (B7 = B8) → G 2 #[true, true, true, true, true, true, true, true, true, true, false, false] { tmps := List.toArray (v0 :: v1 :: .pointer (some ⟨A, 0, none⟩) :: .pointer (some ⟨B, 0, none⟩) :: v4 :: v5 :: v6 :: .pointer (some ⟨B7, 0, none⟩) :: .pointer (some ⟨B8, 0, none⟩) :: v9 :: v10 :: v11 :: v12 :: v13 :: v14 :: v15 :: v16 :: v17 :: v18 :: v19 :: v20 :: v21 :: v22 :: v23 :: .tuple #[q, r] :: .agg #[.bool neg, .string s] :: u :: .agg #[.bool neg', .string s'] :: v :: .tuple #[q, r] :: q :: r :: v32 :: v33 :: v34 :: v35 :: v36 :: v37 :: v38 :: v39 :: v40 :: v41 :: v42 :: v43 :: ([] : List Value)), defers := [] } w := by
    intro u v q r B7 B8 w hS hq hr f7 f8 hne
    refine inn _ _ _ _ ?_
    obtain ⟨sq, lq, rfl, hsq, hnq⟩ := id hq
    obtain ⟨-, aq, cq, rfl, -, -, -⟩ := id hsq
    obtain ⟨sr, lr, rfl, hsr, hnr⟩ := id hr
    obtain ⟨-, ar, cr, rfl, -, -, -⟩ := id hsr
    obtain ⟨nq, hnq'⟩ : ∃ n, n = decide (zOf neg s / zOf neg' s' < 0) := ⟨_, rfl⟩
    obtain ⟨nr, hnr'⟩ : ∃ n, n = decide (zOf neg s % zOf neg' s' < 0) := ⟨_, rfl⟩
    rw [← hnq'] at hq
    rw [← hnr'] at hr
    rw [← hnq', ← hnr']
    clear hsq hnq hsr hnr hnq' hnr'
    have HQ := Lib.hid hq
    have HR := Lib.hid hr
    have H7 := Lib.hid f7
    have H8 := Lib.hid f8
    clear hq hr
    obtain ⟨l7, c70, c71, z70, z71⟩ := f7
    obtain ⟨l8, c80, c81, z80, z81⟩ := f8
    refine wpAnyH_ready (rs := [10]) (by kernel_rfl) (by simp) ?_
    refine AllReadyH.cons (o := { dst := none, op := Op.store 44 (Operand.tmp 7) (Operand.tmp 30), type := 0, pos := "quotients.go:10", after := #[{ on := 8, ground := Ground.data }, { on := 6, ground := Ground.data }, { on := 4, ground := Ground.chain }, { on := 0, ground := Ground.phase }, { on := 1, ground := Ground.phase }, { on := 2, ground := Ground.phase }, { on := 3, ground := Ground.phase }, { on := 4, ground := Ground.phase }, { on := 5, ground := Ground.phase }, { on := 6, ground := Ground.phase }, { on := 7, ground := Ground.textOnly Departure.lateStores }, { on := 8, ground := Ground.phase }, { on := 9, ground := Ground.phase }], guard := none }) rfl (fun K hK => ?_) AllReadyH.nil
    go_simp
    have hA : A < W.heap.size := World.block_lt_of_cell? W _ x0
    have hB : B < W.heap.size := World.block_lt_of_cell? W _ y0
    obtain ⟨V, hV⟩ : ∃ V, V = (w.setCell ⟨B7, 0, none⟩ (.bool nq)).setCell ⟨B7, 1, none⟩ (.slice aq lq.length cq) := ⟨_, rfl⟩
    have kS : (fun w' => w'.cell? ⟨A, 0, none⟩ = some (.bool neg) ∧ w'.cell? ⟨A, 1, none⟩ = some (.string s) ∧ w'.cell? ⟨B, 0, none⟩ = some (.bool neg') ∧ w'.cell? ⟨B, 1, none⟩ = some (.string s') ∧ Gr W w') V := by
      rw [hV]
      exact ⟨keep2 hS.1 (by omega), keep2 hS.2.1 (by omega), keep2 hS.2.2.1 (by omega), keep2 hS.2.2.2.1 (by omega), (hS.2.2.2.2.setCell (p := ⟨B7, 0, none⟩) l7 _).setCell (p := ⟨B7, 1, none⟩) l7 _⟩
    have d70 : V.cell? ⟨B7, 0, none⟩ = some (.bool nq) := by rw [hV]; exact (put2 c70 c71 _ _).1
    have d71 : V.cell? ⟨B7, 1, none⟩ = some (.slice aq lq.length cq) := by rw [hV]; exact (put2 c70 c71 _ _).2
    have d80 : V.cell? ⟨B8, 0, none⟩ = some (.bool false) := by rw [hV]; exact keep2 c80 (fun e => hne e.symm)
    have d81 : V.cell? ⟨B8, 1, none⟩ = some (.slice none 0 0) := by rw [hV]; exact keep2 c81 (fun e => hne e.symm)
    have y80 : V.frozen? ⟨B8, 0, none⟩ = false := by rw [hV]; simp only [frozen_set]; exact z80
    have y81 : V.frozen? ⟨B8, 1, none⟩ = false := by rw [hV]; simp only [frozen_set]; exact z81
    have HQ := Lib.hid (show HasI 65 V _ _ by rw [hV]; exact HQ.out.set2 c70 c71)
    have HR := Lib.hid (show HasI 64 V _ _ by rw [hV]; exact HR.out.set2 c70 c71)
    rw [← hV]
    clear hV c70 c71 c80 c81 z70 z71 z80 z81 H7 H8
    refine hK.out _ _ kS (fun hHeld => ?_)
    clear hK K
    (simp only [Act.put, List.setIfInBounds_toArray, List.set_cons_zero, List.set_cons_succ])
    refine wpAnyH_ready (rs := [11]) (by kernel_rfl) (by simp) ?_
    refine AllReadyH.cons (o := { dst := none, op := Op.store 44 (Operand.tmp 8) (Operand.tmp 31), type := 0, pos := "quotients.go:10", after := #[{ on := 9, ground := Ground.data }, { on := 7, ground := Ground.data }, { on := 10, ground := Ground.chain }, { on := 0, ground := Ground.phase }, { on := 1, ground := Ground.phase }, { on := 2, ground := Ground.phase }, { on := 3, ground := Ground.phase }, { on := 4, ground := Ground.phase }, { on := 5, ground := Ground.phase }, { on := 6, ground := Ground.phase }, { on := 7, ground := Ground.phase }, { on := 8, ground := Ground.phase }, { on := 9, ground := Ground.phase }, { on := 10, ground := Ground.phase }], guard := none }) rfl (fun K hK => ?_) AllReadyH.nil
    go_simp
    obtain ⟨V2, hV2⟩ : ∃ V2, V2 = (V.setCell ⟨B8, 0, none⟩ (.bool nr)).setCell ⟨B8, 1, none⟩ (.slice ar lr.length cr) := ⟨_, rfl⟩
    have kS2 : (fun w' => w'.cell? ⟨A, 0, none⟩ = some (.bool neg) ∧ w'.cell? ⟨A, 1, none⟩ = some (.string s) ∧ w'.cell? ⟨B, 0, none⟩ = some (.bool neg') ∧ w'.cell? ⟨B, 1, none⟩ = some (.string s') ∧ Gr W w') V2 := by
      rw [hV2]
      exact ⟨keep2 kS.1 (by omega), keep2 kS.2.1 (by omega), keep2 kS.2.2.1 (by omega), keep2 kS.2.2.2.1 (by omega), (kS.2.2.2.2.setCell (p := ⟨B8, 0, none⟩) l8 _).setCell (p := ⟨B8, 1, none⟩) l8 _⟩
    have e70 : V2.cell? ⟨B7, 0, none⟩ = some (.bool nq) := by rw [hV2]; exact keep2 d70 hne
    have e71 : V2.cell? ⟨B7, 1, none⟩ = some (.slice aq lq.length cq) := by rw [hV2]; exact keep2 d71 hne
    have e80 : V2.cell? ⟨B8, 0, none⟩ = some (.bool nr) := by rw [hV2]; exact (put2 d80 d81 _ _).1
    have e81 : V2.cell? ⟨B8, 1, none⟩ = some (.slice ar lr.length cr) := by rw [hV2]; exact (put2 d80 d81 _ _).2
    have HQ := Lib.hid (show HasI 65 V2 _ _ by rw [hV2]; exact HQ.out.set2 d80 d81)
    have HR := Lib.hid (show HasI 64 V2 _ _ by rw [hV2]; exact HR.out.set2 d80 d81)
    rw [← hV2]
    clear hV2
    refine hK.out _ _ kS2 (fun hHeld => ?_)
    clear hK K
    (simp only [Act.put, List.setIfInBounds_toArray, List.set_cons_zero, List.set_cons_succ])
    refine wpAnyH_done (by kernel_rfl) ?_ _
    exact hpost _ _ _ _ _ _ _ _ _ _ _ ⟨_, _, nq, .slice aq lq.length cq, nr, .slice ar lr.length cr, rfl, rfl, l7, l8, e70, e71, e80, e81, HQ.out, HR.out, kS2.2.2.2.2⟩
  have st310 : ∀ (u v q r : Value) (B7 : Nat) (w : World), (fun w' => w'.cell? ⟨A, 0, none⟩ = some (.bool neg) ∧ w'.cell? ⟨A, 1, none⟩ = some (.string s) ∧ w'.cell? ⟨B, 0, none⟩ = some (.bool neg') ∧ w'.cell? ⟨B, 1, none⟩ = some (.string s') ∧ Gr W w') w → HasI 65 w q (zOf neg s / zOf neg' s') → HasI 64 w r (zOf neg s % zOf neg' s') → Fresh W w B7 → G 3 #[true, true, true, true, true, true, true, true, true, false, false, false] { tmps := List.toArray (v0 :: v1 :: .pointer (some ⟨A, 0, none⟩) :: .pointer (some ⟨B, 0, none⟩) :: v4 :: v5 :: v6 :: .pointer (some ⟨B7, 0, none⟩) :: undef :: v9 :: v10 :: v11 :: v12 :: v13 :: v14 :: v15 :: v16 :: v17 :: v18 :: v19 :: v20 :: v21 :: v22 :: v23 :: .tuple #[q, r] :: .agg #[.bool neg, .string s] :: u :: .agg #[.bool neg', .string s'] :: v :: .tuple #[q, r] :: q :: r :: v32 :: v33 :: v34 :: v35 :: v36 :: v37 :: v38 :: v39 :: v40 :: v41 :: v42 :: v43 :: ([] : List Value)), defers := [] } w := by
    intro u v q r B7 w hS hq hr f7
    refine inn _ _ _ _ ?_
    refine wpAnyH_ready (rs := [9]) (by kernel_rfl) (by simp) ?_
    refine AllReadyH.cons (o := { dst := some 8, op := Op.alloc 44, type := 0, pos := "quotients.go:10", after := #[], guard := none }) rfl (fun K hK => ?_) ?_
    · go_simp
      have g : Gr w (w.alloc (.cells #[.bool false, .slice none 0 0] 44)) := Gr.new w _
      refine hK.out _ _ (keepS hS g) (fun hHeld => ?_)
      (simp only [Act.put, List.setIfInBounds_toArray, List.set_cons_zero, List.set_cons_succ])
      exact out _ _ _ _ (st311 _ _ _ _ _ _ _ hHeld (hq.later g) (hr.later g) (f7.later g) (Fresh.new hS.2.2.2.2 _) (fun e => f7.ne e.symm))
    exact AllReadyH.nil
  have st301 : ∀ (u v q r : Value) (B8 : Nat) (w : World), (fun w' => w'.cell? ⟨A, 0, none⟩ = some (.bool neg) ∧ w'.cell? ⟨A, 1, none⟩ = some (.string s) ∧ w'.cell? ⟨B, 0, none⟩ = some (.bool neg') ∧ w'.cell? ⟨B, 1, none⟩ = some (.string s') ∧ Gr W w') w → HasI 65 w q (zOf neg s / zOf neg' s') → HasI 64 w r (zOf neg s % zOf neg' s') → Fresh W w B8 → G 3 #[true, true, true, true, true, true, true, true, false, true, false, false] { tmps := List.toArray (v0 :: v1 :: .pointer (some ⟨A, 0, none⟩) :: .pointer (some ⟨B, 0, none⟩) :: v4 :: v5 :: v6 :: undef :: .pointer (some ⟨B8, 0, none⟩) :: v9 :: v10 :: v11 :: v12 :: v13 :: v14 :: v15 :: v16 :: v17 :: v18 :: v19 :: v20 :: v21 :: v22 :: v23 :: .tuple #[q, r] :: .agg #[.bool neg, .string s] :: u :: .agg #[.bool neg', .string s'] :: v :: .tuple #[q, r] :: q :: r :: v32 :: v33 :: v34 :: v35 :: v36 :: v37 :: v38 :: v39 :: v40 :: v41 :: v42 :: v43 :: ([] : List Value)), defers := [] } w := by
    intro u v q r B8 w hS hq hr f8
    refine inn _ _ _ _ ?_
    refine wpAnyH_ready (rs := [8]) (by kernel_rfl) (by simp) ?_
    refine AllReadyH.cons (o := { dst := some 7, op := Op.alloc 44, type := 0, pos := "quotients.go:10", after := #[], guard := none }) rfl (fun K hK => ?_) ?_
    · go_simp
      have g : Gr w (w.alloc (.cells #[.bool false, .slice none 0 0] 44)) := Gr.new w _
      refine hK.out _ _ (keepS hS g) (fun hHeld => ?_)
      (simp only [Act.put, List.setIfInBounds_toArray, List.set_cons_zero, List.set_cons_succ])
      exact out _ _ _ _ (st311 _ _ _ _ _ _ _ hHeld (hq.later g) (hr.later g) (Fresh.new hS.2.2.2.2 _) (f8.later g) (f8.ne))
    exact AllReadyH.nil
  have st300 : ∀ (u v q r : Value) (w : World), (fun w' => w'.cell? ⟨A, 0, none⟩ = some (.bool neg) ∧ w'.cell? ⟨A, 1, none⟩ = some (.string s) ∧ w'.cell? ⟨B, 0, none⟩ = some (.bool neg') ∧ w'.cell? ⟨B, 1, none⟩ = some (.string s') ∧ Gr W w') w → HasI 65 w q (zOf neg s / zOf neg' s') → HasI 64 w r (zOf neg s % zOf neg' s') → G 4 #[true, true, true, true, true, true, true, true, false, false, false, false] { tmps := List.toArray (v0 :: v1 :: .pointer (some ⟨A, 0, none⟩) :: .pointer (some ⟨B, 0, none⟩) :: v4 :: v5 :: v6 :: undef :: undef :: v9 :: v10 :: v11 :: v12 :: v13 :: v14 :: v15 :: v16 :: v17 :: v18 :: v19 :: v20 :: v21 :: v22 :: v23 :: .tuple #[q, r] :: .agg #[.bool neg, .string s] :: u :: .agg #[.bool neg', .string s'] :: v :: .tuple #[q, r] :: q :: r :: v32 :: v33 :: v34 :: v35 :: v36 :: v37 :: v38 :: v39 :: v40 :: v41 :: v42 :: v43 :: ([] : List Value)), defers := [] } w := by
    intro u v q r w hS hq hr
    refine inn _ _ _ _ ?_
    refine wpAnyH_ready (rs := [8, 9]) (by kernel_rfl) (by simp) ?_
    refine AllReadyH.cons (o := { dst := some 7, op := Op.alloc 44, type := 0, pos := "quotients.go:10", after := #[], guard := none }) rfl (fun K hK => ?_) ?_
    · go_simp
      have g : Gr w (w.alloc (.cells #[.bool false, .slice none 0 0] 44)) := Gr.new w _
      refine hK.out _ _ (keepS hS g) (fun hHeld => ?_)
      (simp only [Act.put, List.setIfInBounds_toArray, List.set_cons_zero, List.set_cons_succ])
      exact out _ _ _ _ (st310 _ _ _ _ _ _ hHeld (hq.later g) (hr.later g) (Fresh.new hS.2.2.2.2 _))
    refine AllReadyH.cons (o := { dst := some 8, op := Op.alloc 44, type := 0, pos := "quotients.go:10", after := #[], guard := none }) rfl (fun K hK => ?_) ?_
    · go_simp
      have g : Gr w (w.alloc (.cells #[.bool false, .slice none 0 0] 44)) := Gr.new w _
      refine hK.out _ _ (keepS hS g) (fun hHeld => ?_)
      (simp only [Act.put, List.setIfInBounds_toArray, List.set_cons_zero, List.set_cons_succ])
      exact out _ _ _ _ (st301 _ _ _ _ _ _ hHeld (hq.later g) (hr.later g) (Fresh.new hS.2.2.2.2 _))
    exact AllReadyH.nil
  have st211 : ∀ (u v : Value) (B7 B8 : Nat) (w : World), (fun w' => w'.cell? ⟨A, 0, none⟩ = some (.bool neg) ∧ w'.cell? ⟨A, 1, none⟩ = some (.string s) ∧ w'.cell? ⟨B, 0, none⟩ = some (.bool neg') ∧ w'.cell? ⟨B, 1, none⟩ = some (.string s') ∧ Gr W w') w → HasI 64 w u (zOf neg s) → HasI 64 w v (zOf neg' s') → Fresh W w B7 → Fresh W w B8 → ¬ (B7 = B8) → G 6 #[true, true, true, true, false, false, false, false, true, true, false, false] { tmps := List.toArray (v0 :: v1 :: .pointer (some ⟨A, 0, none⟩) :: .pointer (some ⟨B, 0, none⟩) :: v4 :: v5 :: v6 :: .pointer (some ⟨B7, 0, none⟩) :: .pointer (some ⟨B8, 0, none⟩) :: v9 :: v10 :: v11 :: v12 :: v13 :: v14 :: v15 :: v16 :: v17 :: v18 :: v19 :: v20 :: v21 :: v22 :: v23 :: undef :: .agg #[.bool neg, .string s] :: u :: .agg #[.bool neg', .string s'] :: v :: undef :: undef :: undef :: v32 :: v33 :: v34 :: v35 :: v36 :: v37 :: v38 :: v39 :: v40 :: v41 :: v42 :: v43 :: ([] : List Value)), defers := [] } w := by
    intro u v B7 B8 w hS hu hv f7 f8 hne
    refine inn _ _ _ _ ?_
    refine wpAnyH_ready (rs := [4]) (by kernel_rfl) (by simp) ?_
    refine AllReadyH.cons (o := { dst := some 29, op := Op.call { callee := Callee.value (Operand.func 19), args := #[Operand.tmp 26, Operand.tmp 28], argTypes := #[44, 44] }, type := 45, pos := "quotients.go:10", after := #[{ on := 1, ground := Ground.data }, { on := 3, ground := Ground.data }, { on := 3, ground := Ground.chain }], guard := none }) rfl (fun K hK => ?_) ?_
    · go_simp
      go_at_call 19
      refine (divide_any _ _ _ _ _ hu hv HY).mono ?_
      rintro e w' ⟨q, r, rfl, hq, hr, g⟩
      go_wp2_with fail
      refine hK.out _ _ (keepS hS g) (fun hHeld => ?_)
      (simp only [Act.put, List.setIfInBounds_toArray, List.set_cons_zero, List.set_cons_succ])
      refine wpAnyH_take (i := 5) (oi := { dst := some 24, op := Op.move (Operand.tmp 29), type := 45, pos := "quotients.go:10", after := #[{ on := 4, ground := Ground.data }], guard := none }) (v := ?_) rfl (by kernel_rfl) (by kernel_rfl) (by kernel_rfl) (hQ _ _) (Or.inl ⟨by rfl, ?_⟩) (by assumption) ?_
      rotate_left
      · intro w0 hSw; (try dsimp only at hSw); go_simp; try with_reducible rfl
      (simp only [Act.put, List.setIfInBounds_toArray, List.set_cons_zero, List.set_cons_succ])
      refine wpAnyH_take (i := 6) (oi := { dst := some 30, op := Op.extract (Operand.tmp 24) 0, type := 44, pos := "quotients.go:10", after := #[{ on := 5, ground := Ground.data }], guard := none }) (v := ?_) rfl (by kernel_rfl) (by kernel_rfl) (by kernel_rfl) (hQ _ _) (Or.inl ⟨by rfl, ?_⟩) (by assumption) ?_
      rotate_left
      · intro w0 hSw; (try dsimp only at hSw); go_simp; try with_reducible rfl
      (simp only [Act.put, List.setIfInBounds_toArray, List.set_cons_zero, List.set_cons_succ])
      refine wpAnyH_take (i := 7) (oi := { dst := some 31, op := Op.extract (Operand.tmp 24) 1, type := 44, pos := "quotients.go:10", after := #[{ on := 5, ground := Ground.data }, { on := 10, ground := Ground.gcOnly Departure.lateStores }], guard := none }) (v := ?_) rfl (by kernel_rfl) (by kernel_rfl) (by kernel_rfl) (hQ _ _) (Or.inl ⟨by rfl, ?_⟩) (by assumption) ?_
      rotate_left
      · intro w0 hSw; (try dsimp only at hSw); go_simp; try with_reducible rfl
      (simp only [Act.put, List.setIfInBounds_toArray, List.set_cons_zero, List.set_cons_succ])
      exact out _ _ _ _ (st311 _ _ _ _ _ _ _ hHeld hq hr (f7.later g) (f8.later g) hne)
    exact AllReadyH.nil
  have st210 : ∀ (u v : Value) (B7 : Nat) (w : World), (fun w' => w'.cell? ⟨A, 0, none⟩ = some (.bool neg) ∧ w'.cell? ⟨A, 1, none⟩ = some (.string s) ∧ w'.cell? ⟨B, 0, none⟩ = some (.bool neg') ∧ w'.cell? ⟨B, 1, none⟩ = some (.string s') ∧ Gr W w') w → HasI 64 w u (zOf neg s) → HasI 64 w v (zOf neg' s') → Fresh W w B7 → G 7 #[true, true, true, true, false, false, false, false, true, false, false, false] { tmps := List.toArray (v0 :: v1 :: .pointer (some ⟨A, 0, none⟩) :: .pointer (some ⟨B, 0, none⟩) :: v4 :: v5 :: v6 :: .pointer (some ⟨B7, 0, none⟩) :: undef :: v9 :: v10 :: v11 :: v12 :: v13 :: v14 :: v15 :: v16 :: v17 :: v18 :: v19 :: v20 :: v21 :: v22 :: v23 :: undef :: .agg #[.bool neg, .string s] :: u :: .agg #[.bool neg', .string s'] :: v :: undef :: undef :: undef :: v32 :: v33 :: v34 :: v35 :: v36 :: v37 :: v38 :: v39 :: v40 :: v41 :: v42 :: v43 :: ([] : List Value)), defers := [] } w := by
    intro u v B7 w hS hu hv f7
    refine inn _ _ _ _ ?_
    refine wpAnyH_ready (rs := [4, 9]) (by kernel_rfl) (by simp) ?_
    refine AllReadyH.cons (o := { dst := some 29, op := Op.call { callee := Callee.value (Operand.func 19), args := #[Operand.tmp 26, Operand.tmp 28], argTypes := #[44, 44] }, type := 45, pos := "quotients.go:10", after := #[{ on := 1, ground := Ground.data }, { on := 3, ground := Ground.data }, { on := 3, ground := Ground.chain }], guard := none }) rfl (fun K hK => ?_) ?_
    · go_simp
      go_at_call 19
      refine (divide_any _ _ _ _ _ hu hv HY).mono ?_
      rintro e w' ⟨q, r, rfl, hq, hr, g⟩
      go_wp2_with fail
      refine hK.out _ _ (keepS hS g) (fun hHeld => ?_)
      (simp only [Act.put, List.setIfInBounds_toArray, List.set_cons_zero, List.set_cons_succ])
      refine wpAnyH_take (i := 5) (oi := { dst := some 24, op := Op.move (Operand.tmp 29), type := 45, pos := "quotients.go:10", after := #[{ on := 4, ground := Ground.data }], guard := none }) (v := ?_) rfl (by kernel_rfl) (by kernel_rfl) (by kernel_rfl) (hQ _ _) (Or.inl ⟨by rfl, ?_⟩) (by assumption) ?_
      rotate_left
      · intro w0 hSw; (try dsimp only at hSw); go_simp; try with_reducible rfl
      (simp only [Act.put, List.setIfInBounds_toArray, List.set_cons_zero, List.set_cons_succ])
      refine wpAnyH_take (i := 6) (oi := { dst := some 30, op := Op.extract (Operand.tmp 24) 0, type := 44, pos := "quotients.go:10", after := #[{ on := 5, ground := Ground.data }], guard := none }) (v := ?_) rfl (by kernel_rfl) (by kernel_rfl) (by kernel_rfl) (hQ _ _) (Or.inl ⟨by rfl, ?_⟩) (by assumption) ?_
      rotate_left
      · intro w0 hSw; (try dsimp only at hSw); go_simp; try with_reducible rfl
      (simp only [Act.put, List.setIfInBounds_toArray, List.set_cons_zero, List.set_cons_succ])
      refine wpAnyH_take (i := 7) (oi := { dst := some 31, op := Op.extract (Operand.tmp 24) 1, type := 44, pos := "quotients.go:10", after := #[{ on := 5, ground := Ground.data }, { on := 10, ground := Ground.gcOnly Departure.lateStores }], guard := none }) (v := ?_) rfl (by kernel_rfl) (by kernel_rfl) (by kernel_rfl) (hQ _ _) (Or.inl ⟨by rfl, ?_⟩) (by assumption) ?_
      rotate_left
      · intro w0 hSw; (try dsimp only at hSw); go_simp; try with_reducible rfl
      (simp only [Act.put, List.setIfInBounds_toArray, List.set_cons_zero, List.set_cons_succ])
      exact out _ _ _ _ (st310 _ _ _ _ _ _ hHeld hq hr (f7.later g))
    refine AllReadyH.cons (o := { dst := some 8, op := Op.alloc 44, type := 0, pos := "quotients.go:10", after := #[], guard := none }) rfl (fun K hK => ?_) ?_
    · go_simp
      have g : Gr w (w.alloc (.cells #[.bool false, .slice none 0 0] 44)) := Gr.new w _
      refine hK.out _ _ (keepS hS g) (fun hHeld => ?_)
      (simp only [Act.put, List.setIfInBounds_toArray, List.set_cons_zero, List.set_cons_succ])
      exact out _ _ _ _ (st211 _ _ _ _ _ hHeld (hu.later g) (hv.later g) (f7.later g) (Fresh.new hS.2.2.2.2 _) (fun e => f7.ne e.symm))
    exact AllReadyH.nil
  have st201 : ∀ (u v : Value) (B8 : Nat) (w : World), (fun w' => w'.cell? ⟨A, 0, none⟩ = some (.bool neg) ∧ w'.cell? ⟨A, 1, none⟩ = some (.string s) ∧ w'.cell? ⟨B, 0, none⟩ = some (.bool neg') ∧ w'.cell? ⟨B, 1, none⟩ = some (.string s') ∧ Gr W w') w → HasI 64 w u (zOf neg s) → HasI 64 w v (zOf neg' s') → Fresh W w B8 → G 7 #[true, true, true, true, false, false, false, false, false, true, false, false] { tmps := List.toArray (v0 :: v1 :: .pointer (some ⟨A, 0, none⟩) :: .pointer (some ⟨B, 0, none⟩) :: v4 :: v5 :: v6 :: undef :: .pointer (some ⟨B8, 0, none⟩) :: v9 :: v10 :: v11 :: v12 :: v13 :: v14 :: v15 :: v16 :: v17 :: v18 :: v19 :: v20 :: v21 :: v22 :: v23 :: undef :: .agg #[.bool neg, .string s] :: u :: .agg #[.bool neg', .string s'] :: v :: undef :: undef :: undef :: v32 :: v33 :: v34 :: v35 :: v36 :: v37 :: v38 :: v39 :: v40 :: v41 :: v42 :: v43 :: ([] : List Value)), defers := [] } w := by
    intro u v B8 w hS hu hv f8
    refine inn _ _ _ _ ?_
    refine wpAnyH_ready (rs := [4, 8]) (by kernel_rfl) (by simp) ?_
    refine AllReadyH.cons (o := { dst := some 29, op := Op.call { callee := Callee.value (Operand.func 19), args := #[Operand.tmp 26, Operand.tmp 28], argTypes := #[44, 44] }, type := 45, pos := "quotients.go:10", after := #[{ on := 1, ground := Ground.data }, { on := 3, ground := Ground.data }, { on := 3, ground := Ground.chain }], guard := none }) rfl (fun K hK => ?_) ?_
    · go_simp
      go_at_call 19
      refine (divide_any _ _ _ _ _ hu hv HY).mono ?_
      rintro e w' ⟨q, r, rfl, hq, hr, g⟩
      go_wp2_with fail
      refine hK.out _ _ (keepS hS g) (fun hHeld => ?_)
      (simp only [Act.put, List.setIfInBounds_toArray, List.set_cons_zero, List.set_cons_succ])
      refine wpAnyH_take (i := 5) (oi := { dst := some 24, op := Op.move (Operand.tmp 29), type := 45, pos := "quotients.go:10", after := #[{ on := 4, ground := Ground.data }], guard := none }) (v := ?_) rfl (by kernel_rfl) (by kernel_rfl) (by kernel_rfl) (hQ _ _) (Or.inl ⟨by rfl, ?_⟩) (by assumption) ?_
      rotate_left
      · intro w0 hSw; (try dsimp only at hSw); go_simp; try with_reducible rfl
      (simp only [Act.put, List.setIfInBounds_toArray, List.set_cons_zero, List.set_cons_succ])
      refine wpAnyH_take (i := 6) (oi := { dst := some 30, op := Op.extract (Operand.tmp 24) 0, type := 44, pos := "quotients.go:10", after := #[{ on := 5, ground := Ground.data }], guard := none }) (v := ?_) rfl (by kernel_rfl) (by kernel_rfl) (by kernel_rfl) (hQ _ _) (Or.inl ⟨by rfl, ?_⟩) (by assumption) ?_
      rotate_left
      · intro w0 hSw; (try dsimp only at hSw); go_simp; try with_reducible rfl
      (simp only [Act.put, List.setIfInBounds_toArray, List.set_cons_zero, List.set_cons_succ])
      refine wpAnyH_take (i := 7) (oi := { dst := some 31, op := Op.extract (Operand.tmp 24) 1, type := 44, pos := "quotients.go:10", after := #[{ on := 5, ground := Ground.data }, { on := 10, ground := Ground.gcOnly Departure.lateStores }], guard := none }) (v := ?_) rfl (by kernel_rfl) (by kernel_rfl) (by kernel_rfl) (hQ _ _) (Or.inl ⟨by rfl, ?_⟩) (by assumption) ?_
      rotate_left
      · intro w0 hSw; (try dsimp only at hSw); go_simp; try with_reducible rfl
      (simp only [Act.put, List.setIfInBounds_toArray, List.set_cons_zero, List.set_cons_succ])
      exact out _ _ _ _ (st301 _ _ _ _ _ _ hHeld hq hr (f8.later g))
    refine AllReadyH.cons (o := { dst := some 7, op := Op.alloc 44, type := 0, pos := "quotients.go:10", after := #[], guard := none }) rfl (fun K hK => ?_) ?_
    · go_simp
      have g : Gr w (w.alloc (.cells #[.bool false, .slice none 0 0] 44)) := Gr.new w _
      refine hK.out _ _ (keepS hS g) (fun hHeld => ?_)
      (simp only [Act.put, List.setIfInBounds_toArray, List.set_cons_zero, List.set_cons_succ])
      exact out _ _ _ _ (st211 _ _ _ _ _ hHeld (hu.later g) (hv.later g) (Fresh.new hS.2.2.2.2 _) (f8.later g) (f8.ne))
    exact AllReadyH.nil
  have st200 : ∀ (u v : Value) (w : World), (fun w' => w'.cell? ⟨A, 0, none⟩ = some (.bool neg) ∧ w'.cell? ⟨A, 1, none⟩ = some (.string s) ∧ w'.cell? ⟨B, 0, none⟩ = some (.bool neg') ∧ w'.cell? ⟨B, 1, none⟩ = some (.string s') ∧ Gr W w') w → HasI 64 w u (zOf neg s) → HasI 64 w v (zOf neg' s') → G 8 #[true, true, true, true, false, false, false, false, false, false, false, false] { tmps := List.toArray (v0 :: v1 :: .pointer (some ⟨A, 0, none⟩) :: .pointer (some ⟨B, 0, none⟩) :: v4 :: v5 :: v6 :: undef :: undef :: v9 :: v10 :: v11 :: v12 :: v13 :: v14 :: v15 :: v16 :: v17 :: v18 :: v19 :: v20 :: v21 :: v22 :: v23 :: undef :: .agg #[.bool neg, .string s] :: u :: .agg #[.bool neg', .string s'] :: v :: undef :: undef :: undef :: v32 :: v33 :: v34 :: v35 :: v36 :: v37 :: v38 :: v39 :: v40 :: v41 :: v42 :: v43 :: ([] : List Value)), defers := [] } w := by
    intro u v w hS hu hv
    refine inn _ _ _ _ ?_
    refine wpAnyH_ready (rs := [4, 8, 9]) (by kernel_rfl) (by simp) ?_
    refine AllReadyH.cons (o := { dst := some 29, op := Op.call { callee := Callee.value (Operand.func 19), args := #[Operand.tmp 26, Operand.tmp 28], argTypes := #[44, 44] }, type := 45, pos := "quotients.go:10", after := #[{ on := 1, ground := Ground.data }, { on := 3, ground := Ground.data }, { on := 3, ground := Ground.chain }], guard := none }) rfl (fun K hK => ?_) ?_
    · go_simp
      go_at_call 19
      refine (divide_any _ _ _ _ _ hu hv HY).mono ?_
      rintro e w' ⟨q, r, rfl, hq, hr, g⟩
      go_wp2_with fail
      refine hK.out _ _ (keepS hS g) (fun hHeld => ?_)
      (simp only [Act.put, List.setIfInBounds_toArray, List.set_cons_zero, List.set_cons_succ])
      refine wpAnyH_take (i := 5) (oi := { dst := some 24, op := Op.move (Operand.tmp 29), type := 45, pos := "quotients.go:10", after := #[{ on := 4, ground := Ground.data }], guard := none }) (v := ?_) rfl (by kernel_rfl) (by kernel_rfl) (by kernel_rfl) (hQ _ _) (Or.inl ⟨by rfl, ?_⟩) (by assumption) ?_
      rotate_left
      · intro w0 hSw; (try dsimp only at hSw); go_simp; try with_reducible rfl
      (simp only [Act.put, List.setIfInBounds_toArray, List.set_cons_zero, List.set_cons_succ])
      refine wpAnyH_take (i := 6) (oi := { dst := some 30, op := Op.extract (Operand.tmp 24) 0, type := 44, pos := "quotients.go:10", after := #[{ on := 5, ground := Ground.data }], guard := none }) (v := ?_) rfl (by kernel_rfl) (by kernel_rfl) (by kernel_rfl) (hQ _ _) (Or.inl ⟨by rfl, ?_⟩) (by assumption) ?_
      rotate_left
      · intro w0 hSw; (try dsimp only at hSw); go_simp; try with_reducible rfl
      (simp only [Act.put, List.setIfInBounds_toArray, List.set_cons_zero, List.set_cons_succ])
      refine wpAnyH_take (i := 7) (oi := { dst := some 31, op := Op.extract (Operand.tmp 24) 1, type := 44, pos := "quotients.go:10", after := #[{ on := 5, ground := Ground.data }, { on := 10, ground := Ground.gcOnly Departure.lateStores }], guard := none }) (v := ?_) rfl (by kernel_rfl) (by kernel_rfl) (by kernel_rfl) (hQ _ _) (Or.inl ⟨by rfl, ?_⟩) (by assumption) ?_
      rotate_left
      · intro w0 hSw; (try dsimp only at hSw); go_simp; try with_reducible rfl
      (simp only [Act.put, List.setIfInBounds_toArray, List.set_cons_zero, List.set_cons_succ])
      exact out _ _ _ _ (st300 _ _ _ _ _ hHeld hq hr)
    refine AllReadyH.cons (o := { dst := some 7, op := Op.alloc 44, type := 0, pos := "quotients.go:10", after := #[], guard := none }) rfl (fun K hK => ?_) ?_
    · go_simp
      have g : Gr w (w.alloc (.cells #[.bool false, .slice none 0 0] 44)) := Gr.new w _
      refine hK.out _ _ (keepS hS g) (fun hHeld => ?_)
      (simp only [Act.put, List.setIfInBounds_toArray, List.set_cons_zero, List.set_cons_succ])
      exact out _ _ _ _ (st210 _ _ _ _ hHeld (hu.later g) (hv.later g) (Fresh.new hS.2.2.2.2 _))
    refine AllReadyH.cons (o := { dst := some 8, op := Op.alloc 44, type := 0, pos := "quotients.go:10", after := #[], guard := none }) rfl (fun K hK => ?_) ?_
    · go_simp
      have g : Gr w (w.alloc (.cells #[.bool false, .slice none 0 0] 44)) := Gr.new w _
      refine hK.out _ _ (keepS hS g) (fun hHeld => ?_)
      (simp only [Act.put, List.setIfInBounds_toArray, List.set_cons_zero, List.set_cons_succ])
      exact out _ _ _ _ (st201 _ _ _ _ hHeld (hu.later g) (hv.later g) (Fresh.new hS.2.2.2.2 _))
    exact AllReadyH.nil
  have st111 : ∀ (u : Value) (B7 B8 : Nat) (w : World), (fun w' => w'.cell? ⟨A, 0, none⟩ = some (.bool neg) ∧ w'.cell? ⟨A, 1, none⟩ = some (.string s) ∧ w'.cell? ⟨B, 0, none⟩ = some (.bool neg') ∧ w'.cell? ⟨B, 1, none⟩ = some (.string s') ∧ Gr W w') w → HasI 64 w u (zOf neg s) → Fresh W w B7 → Fresh W w B8 → ¬ (B7 = B8) → G 7 #[true, true, true, false, false, false, false, false, true, true, false, false] { tmps := List.toArray (v0 :: v1 :: .pointer (some ⟨A, 0, none⟩) :: .pointer (some ⟨B, 0, none⟩) :: v4 :: v5 :: v6 :: .pointer (some ⟨B7, 0, none⟩) :: .pointer (some ⟨B8, 0, none⟩) :: v9 :: v10 :: v11 :: v12 :: v13 :: v14 :: v15 :: v16 :: v17 :: v18 :: v19 :: v20 :: v21 :: v22 :: v23 :: undef :: .agg #[.bool neg, .string s] :: u :: .agg #[.bool neg', .string s'] :: undef :: undef :: undef :: undef :: v32 :: v33 :: v34 :: v35 :: v36 :: v37 :: v38 :: v39 :: v40 :: v41 :: v42 :: v43 :: ([] : List Value)), defers := [] } w := by
    intro u B7 B8 w hS hu f7 f8 hne
    refine inn _ _ _ _ ?_
    refine wpAnyH_ready (rs := [3]) (by kernel_rfl) (by simp) ?_
    refine AllReadyH.cons (o := { dst := some 28, op := Op.call { callee := Callee.value (Operand.func 20), args := #[Operand.tmp 27], argTypes := #[23] }, type := 44, pos := "quotients.go:10", after := #[{ on := 2, ground := Ground.data }, { on := 1, ground := Ground.chain }], guard := none }) rfl (fun K hK => ?_) ?_
    · go_simp
      go_at_call 20
      refine (integerOf_form neg' s' _ HF').mono ?_
      rintro e w' ⟨v, rfl, hv, g⟩
      go_wp2_with fail
      refine hK.out _ _ (keepS hS g) (fun hHeld => ?_)
      (simp only [Act.put, List.setIfInBounds_toArray, List.set_cons_zero, List.set_cons_succ])
      exact out _ _ _ _ (st211 _ _ _ _ _ hHeld (hu.later g) hv (f7.later g) (f8.later g) hne)
    exact AllReadyH.nil
  have st110 : ∀ (u : Value) (B7 : Nat) (w : World), (fun w' => w'.cell? ⟨A, 0, none⟩ = some (.bool neg) ∧ w'.cell? ⟨A, 1, none⟩ = some (.string s) ∧ w'.cell? ⟨B, 0, none⟩ = some (.bool neg') ∧ w'.cell? ⟨B, 1, none⟩ = some (.string s') ∧ Gr W w') w → HasI 64 w u (zOf neg s) → Fresh W w B7 → G 8 #[true, true, true, false, false, false, false, false, true, false, false, false] { tmps := List.toArray (v0 :: v1 :: .pointer (some ⟨A, 0, none⟩) :: .pointer (some ⟨B, 0, none⟩) :: v4 :: v5 :: v6 :: .pointer (some ⟨B7, 0, none⟩) :: undef :: v9 :: v10 :: v11 :: v12 :: v13 :: v14 :: v15 :: v16 :: v17 :: v18 :: v19 :: v20 :: v21 :: v22 :: v23 :: undef :: .agg #[.bool neg, .string s] :: u :: .agg #[.bool neg', .string s'] :: undef :: undef :: undef :: undef :: v32 :: v33 :: v34 :: v35 :: v36 :: v37 :: v38 :: v39 :: v40 :: v41 :: v42 :: v43 :: ([] : List Value)), defers := [] } w := by
    intro u B7 w hS hu f7
    refine inn _ _ _ _ ?_
    refine wpAnyH_ready (rs := [3, 9]) (by kernel_rfl) (by simp) ?_
    refine AllReadyH.cons (o := { dst := some 28, op := Op.call { callee := Callee.value (Operand.func 20), args := #[Operand.tmp 27], argTypes := #[23] }, type := 44, pos := "quotients.go:10", after := #[{ on := 2, ground := Ground.data }, { on := 1, ground := Ground.chain }], guard := none }) rfl (fun K hK => ?_) ?_
    · go_simp
      go_at_call 20
      refine (integerOf_form neg' s' _ HF').mono ?_
      rintro e w' ⟨v, rfl, hv, g⟩
      go_wp2_with fail
      refine hK.out _ _ (keepS hS g) (fun hHeld => ?_)
      (simp only [Act.put, List.setIfInBounds_toArray, List.set_cons_zero, List.set_cons_succ])
      exact out _ _ _ _ (st210 _ _ _ _ hHeld (hu.later g) hv (f7.later g))
    refine AllReadyH.cons (o := { dst := some 8, op := Op.alloc 44, type := 0, pos := "quotients.go:10", after := #[], guard := none }) rfl (fun K hK => ?_) ?_
    · go_simp
      have g : Gr w (w.alloc (.cells #[.bool false, .slice none 0 0] 44)) := Gr.new w _
      refine hK.out _ _ (keepS hS g) (fun hHeld => ?_)
      (simp only [Act.put, List.setIfInBounds_toArray, List.set_cons_zero, List.set_cons_succ])
      exact out _ _ _ _ (st111 _ _ _ _ hHeld (hu.later g) (f7.later g) (Fresh.new hS.2.2.2.2 _) (fun e => f7.ne e.symm))
    exact AllReadyH.nil
  have st101 : ∀ (u : Value) (B8 : Nat) (w : World), (fun w' => w'.cell? ⟨A, 0, none⟩ = some (.bool neg) ∧ w'.cell? ⟨A, 1, none⟩ = some (.string s) ∧ w'.cell? ⟨B, 0, none⟩ = some (.bool neg') ∧ w'.cell? ⟨B, 1, none⟩ = some (.string s') ∧ Gr W w') w → HasI 64 w u (zOf neg s) → Fresh W w B8 → G 8 #[true, true, true, false, false, false, false, false, false, true, false, false] { tmps := List.toArray (v0 :: v1 :: .pointer (some ⟨A, 0, none⟩) :: .pointer (some ⟨B, 0, none⟩) :: v4 :: v5 :: v6 :: undef :: .pointer (some ⟨B8, 0, none⟩) :: v9 :: v10 :: v11 :: v12 :: v13 :: v14 :: v15 :: v16 :: v17 :: v18 :: v19 :: v20 :: v21 :: v22 :: v23 :: undef :: .agg #[.bool neg, .string s] :: u :: .agg #[.bool neg', .string s'] :: undef :: undef :: undef :: undef :: v32 :: v33 :: v34 :: v35 :: v36 :: v37 :: v38 :: v39 :: v40 :: v41 :: v42 :: v43 :: ([] : List Value)), defers := [] } w := by
    intro u B8 w hS hu f8
    refine inn _ _ _ _ ?_
    refine wpAnyH_ready (rs := [3, 8]) (by kernel_rfl) (by simp) ?_
    refine AllReadyH.cons (o := { dst := some 28, op := Op.call { callee := Callee.value (Operand.func 20), args := #[Operand.tmp 27], argTypes := #[23] }, type := 44, pos := "quotients.go:10", after := #[{ on := 2, ground := Ground.data }, { on := 1, ground := Ground.chain }], guard := none }) rfl (fun K hK => ?_) ?_
    · go_simp
      go_at_call 20
      refine (integerOf_form neg' s' _ HF').mono ?_
      rintro e w' ⟨v, rfl, hv, g⟩
      go_wp2_with fail
      refine hK.out _ _ (keepS hS g) (fun hHeld => ?_)
      (simp only [Act.put, List.setIfInBounds_toArray, List.set_cons_zero, List.set_cons_succ])
      exact out _ _ _ _ (st201 _ _ _ _ hHeld (hu.later g) hv (f8.later g))
    refine AllReadyH.cons (o := { dst := some 7, op := Op.alloc 44, type := 0, pos := "quotients.go:10", after := #[], guard := none }) rfl (fun K hK => ?_) ?_
    · go_simp
      have g : Gr w (w.alloc (.cells #[.bool false, .slice none 0 0] 44)) := Gr.new w _
      refine hK.out _ _ (keepS hS g) (fun hHeld => ?_)
      (simp only [Act.put, List.setIfInBounds_toArray, List.set_cons_zero, List.set_cons_succ])
      exact out _ _ _ _ (st111 _ _ _ _ hHeld (hu.later g) (Fresh.new hS.2.2.2.2 _) (f8.later g) (f8.ne))
    exact AllReadyH.nil
  have st100 : ∀ (u : Value) (w : World), (fun w' => w'.cell? ⟨A, 0, none⟩ = some (.bool neg) ∧ w'.cell? ⟨A, 1, none⟩ = some (.string s) ∧ w'.cell? ⟨B, 0, none⟩ = some (.bool neg') ∧ w'.cell? ⟨B, 1, none⟩ = some (.string s') ∧ Gr W w') w → HasI 64 w u (zOf neg s) → G 9 #[true, true, true, false, false, false, false, false, false, false, false, false] { tmps := List.toArray (v0 :: v1 :: .pointer (some ⟨A, 0, none⟩) :: .pointer (some ⟨B, 0, none⟩) :: v4 :: v5 :: v6 :: undef :: undef :: v9 :: v10 :: v11 :: v12 :: v13 :: v14 :: v15 :: v16 :: v17 :: v18 :: v19 :: v20 :: v21 :: v22 :: v23 :: undef :: .agg #[.bool neg, .string s] :: u :: .agg #[.bool neg', .string s'] :: undef :: undef :: undef :: undef :: v32 :: v33 :: v34 :: v35 :: v36 :: v37 :: v38 :: v39 :: v40 :: v41 :: v42 :: v43 :: ([] : List Value)), defers := [] } w := by
    intro u w hS hu
    refine inn _ _ _ _ ?_
    refine wpAnyH_ready (rs := [3, 8, 9]) (by kernel_rfl) (by simp) ?_
    refine AllReadyH.cons (o := { dst := some 28, op := Op.call { callee := Callee.value (Operand.func 20), args := #[Operand.tmp 27], argTypes := #[23] }, type := 44, pos := "quotients.go:10", after := #[{ on := 2, ground := Ground.data }, { on := 1, ground := Ground.chain }], guard := none }) rfl (fun K hK => ?_) ?_
    · go_simp
      go_at_call 20
      refine (integerOf_form neg' s' _ HF').mono ?_
      rintro e w' ⟨v, rfl, hv, g⟩
      go_wp2_with fail
      refine hK.out _ _ (keepS hS g) (fun hHeld => ?_)
      (simp only [Act.put, List.setIfInBounds_toArray, List.set_cons_zero, List.set_cons_succ])
      exact out _ _ _ _ (st200 _ _ _ hHeld (hu.later g) hv)
    refine AllReadyH.cons (o := { dst := some 7, op := Op.alloc 44, type := 0, pos := "quotients.go:10", after := #[], guard := none }) rfl (fun K hK => ?_) ?_
    · go_simp
      have g : Gr w (w.alloc (.cells #[.bool false, .slice none 0 0] 44)) := Gr.new w _
      refine hK.out _ _ (keepS hS g) (fun hHeld => ?_)
      (simp only [Act.put, List.setIfInBounds_toArray, List.set_cons_zero, List.set_cons_succ])
      exact out _ _ _ _ (st110 _ _ _ hHeld (hu.later g) (Fresh.new hS.2.2.2.2 _))
    refine AllReadyH.cons (o := { dst := some 8, op := Op.alloc 44, type := 0, pos := "quotients.go:10", after := #[], guard := none }) rfl (fun K hK => ?_) ?_
    · go_simp
      have g : Gr w (w.alloc (.cells #[.bool false, .slice none 0 0] 44)) := Gr.new w _
      refine hK.out _ _ (keepS hS g) (fun hHeld => ?_)
      (simp only [Act.put, List.setIfInBounds_toArray, List.set_cons_zero, List.set_cons_succ])
      exact out _ _ _ _ (st101 _ _ _ hHeld (hu.later g) (Fresh.new hS.2.2.2.2 _))
    exact AllReadyH.nil
  have st011 : ∀ (B7 B8 : Nat) (w : World), (fun w' => w'.cell? ⟨A, 0, none⟩ = some (.bool neg) ∧ w'.cell? ⟨A, 1, none⟩ = some (.string s) ∧ w'.cell? ⟨B, 0, none⟩ = some (.bool neg') ∧ w'.cell? ⟨B, 1, none⟩ = some (.string s') ∧ Gr W w') w → Fresh W w B7 → Fresh W w B8 → ¬ (B7 = B8) → G 8 #[true, false, true, false, false, false, false, false, true, true, false, false] { tmps := List.toArray (v0 :: v1 :: .pointer (some ⟨A, 0, none⟩) :: .pointer (some ⟨B, 0, none⟩) :: v4 :: v5 :: v6 :: .pointer (some ⟨B7, 0, none⟩) :: .pointer (some ⟨B8, 0, none⟩) :: v9 :: v10 :: v11 :: v12 :: v13 :: v14 :: v15 :: v16 :: v17 :: v18 :: v19 :: v20 :: v21 :: v22 :: v23 :: undef :: .agg #[.bool neg, .string s] :: undef :: .agg #[.bool neg', .string s'] :: undef :: undef :: undef :: undef :: v32 :: v33 :: v34 :: v35 :: v36 :: v37 :: v38 :: v39 :: v40 :: v41 :: v42 :: v43 :: ([] : List Value)), defers := [] } w := by
    intro B7 B8 w hS f7 f8 hne
    refine inn _ _ _ _ ?_
    refine wpAnyH_ready (rs := [1]) (by kernel_rfl) (by simp) ?_
    refine AllReadyH.cons (o := { dst := some 26, op := Op.call { callee := Callee.value (Operand.func 20), args := #[Operand.tmp 25], argTypes := #[23] }, type := 44, pos := "quotients.go:10", after := #[{ on := 0, ground := Ground.data }], guard := none }) rfl (fun K hK => ?_) ?_
    · go_simp
      go_at_call 20
      refine (integerOf_form neg s _ HF).mono ?_
      rintro e w' ⟨u, rfl, hu, g⟩
      go_wp2_with fail
      refine hK.out _ _ (keepS hS g) (fun hHeld => ?_)
      (simp only [Act.put, List.setIfInBounds_toArray, List.set_cons_zero, List.set_cons_succ])
      exact out _ _ _ _ (st111 _ _ _ _ hHeld hu (f7.later g) (f8.later g) hne)
    exact AllReadyH.nil
  have st010 : ∀ (B7 : Nat) (w : World), (fun w' => w'.cell? ⟨A, 0, none⟩ = some (.bool neg) ∧ w'.cell? ⟨A, 1, none⟩ = some (.string s) ∧ w'.cell? ⟨B, 0, none⟩ = some (.bool neg') ∧ w'.cell? ⟨B, 1, none⟩ = some (.string s') ∧ Gr W w') w → Fresh W w B7 → G 9 #[true, false, true, false, false, false, false, false, true, false, false, false] { tmps := List.toArray (v0 :: v1 :: .pointer (some ⟨A, 0, none⟩) :: .pointer (some ⟨B, 0, none⟩) :: v4 :: v5 :: v6 :: .pointer (some ⟨B7, 0, none⟩) :: undef :: v9 :: v10 :: v11 :: v12 :: v13 :: v14 :: v15 :: v16 :: v17 :: v18 :: v19 :: v20 :: v21 :: v22 :: v23 :: undef :: .agg #[.bool neg, .string s] :: undef :: .agg #[.bool neg', .string s'] :: undef :: undef :: undef :: undef :: v32 :: v33 :: v34 :: v35 :: v36 :: v37 :: v38 :: v39 :: v40 :: v41 :: v42 :: v43 :: ([] : List Value)), defers := [] } w := by
    intro B7 w hS f7
    refine inn _ _ _ _ ?_
    refine wpAnyH_ready (rs := [1, 9]) (by kernel_rfl) (by simp) ?_
    refine AllReadyH.cons (o := { dst := some 26, op := Op.call { callee := Callee.value (Operand.func 20), args := #[Operand.tmp 25], argTypes := #[23] }, type := 44, pos := "quotients.go:10", after := #[{ on := 0, ground := Ground.data }], guard := none }) rfl (fun K hK => ?_) ?_
    · go_simp
      go_at_call 20
      refine (integerOf_form neg s _ HF).mono ?_
      rintro e w' ⟨u, rfl, hu, g⟩
      go_wp2_with fail
      refine hK.out _ _ (keepS hS g) (fun hHeld => ?_)
      (simp only [Act.put, List.setIfInBounds_toArray, List.set_cons_zero, List.set_cons_succ])
      exact out _ _ _ _ (st110 _ _ _ hHeld hu (f7.later g))
    refine AllReadyH.cons (o := { dst := some 8, op := Op.alloc 44, type := 0, pos := "quotients.go:10", after := #[], guard := none }) rfl (fun K hK => ?_) ?_
    · go_simp
      have g : Gr w (w.alloc (.cells #[.bool false, .slice none 0 0] 44)) := Gr.new w _
      refine hK.out _ _ (keepS hS g) (fun hHeld => ?_)
      (simp only [Act.put, List.setIfInBounds_toArray, List.set_cons_zero, List.set_cons_succ])
      exact out _ _ _ _ (st011 _ _ _ hHeld (f7.later g) (Fresh.new hS.2.2.2.2 _) (fun e => f7.ne e.symm))
    exact AllReadyH.nil
  have st001 : ∀ (B8 : Nat) (w : World), (fun w' => w'.cell? ⟨A, 0, none⟩ = some (.bool neg) ∧ w'.cell? ⟨A, 1, none⟩ = some (.string s) ∧ w'.cell? ⟨B, 0, none⟩ = some (.bool neg') ∧ w'.cell? ⟨B, 1, none⟩ = some (.string s') ∧ Gr W w') w → Fresh W w B8 → G 9 #[true, false, true, false, false, false, false, false, false, true, false, false] { tmps := List.toArray (v0 :: v1 :: .pointer (some ⟨A, 0, none⟩) :: .pointer (some ⟨B, 0, none⟩) :: v4 :: v5 :: v6 :: undef :: .pointer (some ⟨B8, 0, none⟩) :: v9 :: v10 :: v11 :: v12 :: v13 :: v14 :: v15 :: v16 :: v17 :: v18 :: v19 :: v20 :: v21 :: v22 :: v23 :: undef :: .agg #[.bool neg, .string s] :: undef :: .agg #[.bool neg', .string s'] :: undef :: undef :: undef :: undef :: v32 :: v33 :: v34 :: v35 :: v36 :: v37 :: v38 :: v39 :: v40 :: v41 :: v42 :: v43 :: ([] : List Value)), defers := [] } w := by
    intro B8 w hS f8
    refine inn _ _ _ _ ?_
    refine wpAnyH_ready (rs := [1, 8]) (by kernel_rfl) (by simp) ?_
    refine AllReadyH.cons (o := { dst := some 26, op := Op.call { callee := Callee.value (Operand.func 20), args := #[Operand.tmp 25], argTypes := #[23] }, type := 44, pos := "quotients.go:10", after := #[{ on := 0, ground := Ground.data }], guard := none }) rfl (fun K hK => ?_) ?_
    · go_simp
      go_at_call 20
      refine (integerOf_form neg s _ HF).mono ?_
      rintro e w' ⟨u, rfl, hu, g⟩
      go_wp2_with fail
      refine hK.out _ _ (keepS hS g) (fun hHeld => ?_)
      (simp only [Act.put, List.setIfInBounds_toArray, List.set_cons_zero, List.set_cons_succ])
      exact out _ _ _ _ (st101 _ _ _ hHeld hu (f8.later g))
    refine AllReadyH.cons (o := { dst := some 7, op := Op.alloc 44, type := 0, pos := "quotients.go:10", after := #[], guard := none }) rfl (fun K hK => ?_) ?_
    · go_simp
      have g : Gr w (w.alloc (.cells #[.bool false, .slice none 0 0] 44)) := Gr.new w _
      refine hK.out _ _ (keepS hS g) (fun hHeld => ?_)
      (simp only [Act.put, List.setIfInBounds_toArray, List.set_cons_zero, List.set_cons_succ])
      exact out _ _ _ _ (st011 _ _ _ hHeld (Fresh.new hS.2.2.2.2 _) (f8.later g) (f8.ne))
    exact AllReadyH.nil
  have st000 : ∀ (w : World), (fun w' => w'.cell? ⟨A, 0, none⟩ = some (.bool neg) ∧ w'.cell? ⟨A, 1, none⟩ = some (.string s) ∧ w'.cell? ⟨B, 0, none⟩ = some (.bool neg') ∧ w'.cell? ⟨B, 1, none⟩ = some (.string s') ∧ Gr W w') w → G 10 #[true, false, true, false, false, false, false, false, false, false, false, false] { tmps := List.toArray (v0 :: v1 :: .pointer (some ⟨A, 0, none⟩) :: .pointer (some ⟨B, 0, none⟩) :: v4 :: v5 :: v6 :: undef :: undef :: v9 :: v10 :: v11 :: v12 :: v13 :: v14 :: v15 :: v16 :: v17 :: v18 :: v19 :: v20 :: v21 :: v22 :: v23 :: undef :: .agg #[.bool neg, .string s] :: undef :: .agg #[.bool neg', .string s'] :: undef :: undef :: undef :: undef :: v32 :: v33 :: v34 :: v35 :: v36 :: v37 :: v38 :: v39 :: v40 :: v41 :: v42 :: v43 :: ([] : List Value)), defers := [] } w := by
    intro w hS
    refine inn _ _ _ _ ?_
    refine wpAnyH_ready (rs := [1, 8, 9]) (by kernel_rfl) (by simp) ?_
    refine AllReadyH.cons (o := { dst := some 26, op := Op.call { callee := Callee.value (Operand.func 20), args := #[Operand.tmp 25], argTypes := #[23] }, type := 44, pos := "quotients.go:10", after := #[{ on := 0, ground := Ground.data }], guard := none }) rfl (fun K hK => ?_) ?_
    · go_simp
      go_at_call 20
      refine (integerOf_form neg s _ HF).mono ?_
      rintro e w' ⟨u, rfl, hu, g⟩
      go_wp2_with fail
      refine hK.out _ _ (keepS hS g) (fun hHeld => ?_)
      (simp only [Act.put, List.setIfInBounds_toArray, List.set_cons_zero, List.set_cons_succ])
      exact out _ _ _ _ (st100 _ _ hHeld hu)
    refine AllReadyH.cons (o := { dst := some 7, op := Op.alloc 44, type := 0, pos := "quotients.go:10", after := #[], guard := none }) rfl (fun K hK => ?_) ?_
    · go_simp
      have g : Gr w (w.alloc (.cells #[.bool false, .slice none 0 0] 44)) := Gr.new w _
      refine hK.out _ _ (keepS hS g) (fun hHeld => ?_)
      (simp only [Act.put, List.setIfInBounds_toArray, List.set_cons_zero, List.set_cons_succ])
      exact out _ _ _ _ (st010 _ _ hHeld (Fresh.new hS.2.2.2.2 _))
    refine AllReadyH.cons (o := { dst := some 8, op := Op.alloc 44, type := 0, pos := "quotients.go:10", after := #[], guard := none }) rfl (fun K hK => ?_) ?_
    · go_simp
      have g : Gr w (w.alloc (.cells #[.bool false, .slice none 0 0] 44)) := Gr.new w _
      refine hK.out _ _ (keepS hS g) (fun hHeld => ?_)
      (simp only [Act.put, List.setIfInBounds_toArray, List.set_cons_zero, List.set_cons_succ])
      exact out _ _ _ _ (st001 _ _ hHeld (Fresh.new hS.2.2.2.2 _))
    exact AllReadyH.nil
  show wpAnyH _ _ _ _ _ 12 #[false, false, false, false, false, false, false, false, false, false, false, false] _ _
  refine wpAnyH_take (i := 0) (oi := { dst := some 25, op := Op.load 23 (Operand.tmp 2), type := 23, pos := "quotients.go:10", after := #[], guard := none }) (v := ?_) rfl (by kernel_rfl) (by kernel_rfl) (by kernel_rfl) (hQ _ _) (Or.inl ⟨by rfl, ?_⟩) (by assumption) ?_
  rotate_left
  · intro w0 hSw; (try dsimp only at hSw); go_simp; try with_reducible rfl
  (simp only [Act.put, List.setIfInBounds_toArray, List.set_cons_zero, List.set_cons_succ])
  refine wpAnyH_take (i := 2) (oi := { dst := some 27, op := Op.load 23 (Operand.tmp 3), type := 23, pos := "quotients.go:10", after := #[], guard := none }) (v := ?_) rfl (by kernel_rfl) (by kernel_rfl) (by kernel_rfl) (hQ _ _) (Or.inl ⟨by rfl, ?_⟩) (by assumption) ?_
  rotate_left
  · intro w0 hSw; (try dsimp only at hSw); go_simp; try with_reducible rfl
  (simp only [Act.put, List.setIfInBounds_toArray, List.set_cons_zero, List.set_cons_succ])
  exact out _ _ _ _ (st000 _ hHeld)
end Go.Proofs.YtnehcafmebokmaaGreatDoor

