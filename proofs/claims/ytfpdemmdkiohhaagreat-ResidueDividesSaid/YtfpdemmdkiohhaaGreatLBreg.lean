import Derived.Test.YtfpdemmdkiohhaaGreatLDrg
/- The region of the reference's Balanced that changes the rest. -/
namespace Go.Proofs.YtfpdemmdkiohhaaGreat
open Go.RowKit
set_option linter.unusedVariables false
set_option linter.unusedSimpArgs false

/-- A place with a number of its own. -/
def TC (W0 : World) (T : Nat) (nr : Bool) (ar : Option Addr) (kr cr : Nat) (w : World) : Prop := W0.heap.size ≤ T ∧ w.cell? ⟨T, 0, none⟩ = some (.bool nr) ∧ w.cell? ⟨T, 1, none⟩ = some (.slice ar kr cr) ∧ w.frozen? ⟨T, 0, none⟩ = false ∧ w.frozen? ⟨T, 1, none⟩ = false
theorem TC.later {W0 : World} {T : Nat} {nr : Bool} {ar : Option Addr} {kr cr : Nat} {w w' : World} (h : TC W0 T nr ar kr cr w) (g : Gr w w') : TC W0 T nr ar kr cr w' :=
  ⟨h.1, g.keeps h.2.1, g.keeps h.2.2.1, g.frozen h.2.1 h.2.2.2.1, g.frozen h.2.2.1 h.2.2.2.2⟩
def KeepC (W : World) (T : Nat) (w' : World) : Prop := ∀ p : Addr, p.block ≠ T → ∀ v, W.cell? p = some v → W.frozen? p = false → w'.cell? p = some v ∧ w'.frozen? p = false
theorem KeepC.later {W : World} {T : Nat} {w w' : World} (h : KeepC W T w) (g : Gr w w') : KeepC W T w' := fun p hp v h1 h2 => ⟨g.keeps (h p hp v h1 h2).1, g.frozen (h p hp v h1 h2).1 (h p hp v h1 h2).2⟩
theorem KeepC.set {W : World} {T : Nat} {w : World} (h : KeepC W T w) (o : Nat) (u : Value) : KeepC W T (w.setCell ⟨T, o, none⟩ u) := fun p hp v h1 h2 =>
  ⟨(cell_other (fun e => hp (congrArg Addr.block e).symm) u).trans (h p hp v h1 h2).1, (frozen_set _ _ _ _).trans (h p hp v h1 h2).2⟩
def FixB (W0 W : World) (T : Nat) (z : Int) (wx : World) : Prop := ∃ (pn : Bool) (pa : Option Addr) (pk pc : Nat), wx.cell? ⟨T, 0, none⟩ = some (.bool pn) ∧ wx.cell? ⟨T, 1, none⟩ = some (.slice pa pk pc) ∧ HasJ 130 wx (.agg #[.bool pn, .slice pa pk pc]) z ∧ KeepC W T wx ∧ Gr W0 wx

set_option maxRecDepth 100000 in
set_option maxHeartbeats 8000000 in
theorem rbal5_region (s' : ByteArray) (HF' : Form false s') (r : Int) (W0 W : World) (T B : Nat) (nr : Bool) (ar : Option Addr) (kr cr : Nat) (hBT : ¬ (B = T)) (hG : Gr W0 W)
    (y0 : W.cell? ⟨B, 0, none⟩ = some (.bool false)) (y1 : W.cell? ⟨B, 1, none⟩ = some (.string s')) (hT : TC W0 T nr ar kr cr W) (hr : HasJ 129 W (.agg #[.bool nr, .slice ar kr cr]) r)
    (v0 v1 v2 v4 v5 v6 v8 v9 v10 v11 v12 v13 v14 v15 v16 v17 v18 v19 v20 v21 v22 v23 v24 v25 v26 v27 v28 v29 v30 v31 v32 v33 v34 v35 v36 v37 v38 v39 v40 v46 v47 v48 v49 s41 s42 s43 s44 s45 : Value) (Q : Exit → Act → World → Prop) (hQ : ∀ (d : Option Tmp) (v : Value) c a w, Q (.panic c) (a.put d v) w → Q (.panic c) a w)
    (hpost : ∀ u41 u42 u43 u44 u45 wx, FixB W0 W T (r + -(zOf false s')) wx → Q .normal { tmps := List.toArray (v0 :: v1 :: v2 :: .pointer (some ⟨B, 0, none⟩) :: v4 :: v5 :: v6 :: .pointer (some ⟨T, 0, none⟩) :: v8 :: v9 :: v10 :: v11 :: v12 :: v13 :: v14 :: v15 :: v16 :: v17 :: v18 :: v19 :: v20 :: v21 :: v22 :: v23 :: v24 :: v25 :: v26 :: v27 :: v28 :: v29 :: v30 :: v31 :: v32 :: v33 :: v34 :: v35 :: v36 :: v37 :: v38 :: v39 :: v40 :: u41 :: u42 :: u43 :: u44 :: u45 :: v46 :: v47 :: v48 :: v49 :: ([] : List Value)), defers := [] } wx) :
    (Code.region 5 #[{ dst := some 41, op := Op.load 94 (Operand.tmp 7), type := 94, pos := "ref.go:435", after := #[], guard := none },
      { dst := some 42, op := Op.load 24 (Operand.tmp 3), type := 24, pos := "ref.go:435", after := #[], guard := none },
      { dst := some 43, op := Op.call { callee := Callee.value (Operand.func 68), args := #[Operand.tmp 42], argTypes := #[24] }, type := 94, pos := "ref.go:435", after := #[{ on := 1, ground := Ground.data }], guard := none },
      { dst := some 44, op := Op.call { callee := Callee.value (Operand.func 73), args := #[Operand.tmp 43], argTypes := #[94] }, type := 94, pos := "ref.go:435", after := #[{ on := 2, ground := Ground.data }, { on := 2, ground := Ground.chain }], guard := none },
      { dst := some 45, op := Op.call { callee := Callee.value (Operand.func 69), args := #[Operand.tmp 41, Operand.tmp 44], argTypes := #[94, 94] }, type := 94, pos := "ref.go:435", after := #[{ on := 0, ground := Ground.data }, { on := 3, ground := Ground.data }, { on := 3, ground := Ground.chain }], guard := none },
      { dst := none, op := Op.store 94 (Operand.tmp 7) (Operand.tmp 45), type := 0, pos := "ref.go:435", after := #[{ on := 4, ground := Ground.data }, { on := 4, ground := Ground.chain }, { on := 0, ground := Ground.phase }, { on := 1, ground := Ground.phase }, { on := 2, ground := Ground.phase }, { on := 3, ground := Ground.phase }, { on := 4, ground := Ground.phase }], guard := none }] true).wp Tryz.prog Q { tmps := List.toArray (v0 :: v1 :: v2 :: .pointer (some ⟨B, 0, none⟩) :: v4 :: v5 :: v6 :: .pointer (some ⟨T, 0, none⟩) :: v8 :: v9 :: v10 :: v11 :: v12 :: v13 :: v14 :: v15 :: v16 :: v17 :: v18 :: v19 :: v20 :: v21 :: v22 :: v23 :: v24 :: v25 :: v26 :: v27 :: v28 :: v29 :: v30 :: v31 :: v32 :: v33 :: v34 :: v35 :: v36 :: v37 :: v38 :: v39 :: v40 :: s41 :: s42 :: s43 :: s44 :: s45 :: v46 :: v47 :: v48 :: v49 :: ([] : List Value)), defers := [] } W := by
  refine wp_region_held_drew (S := fun w' => w'.cell? ⟨B, 0, none⟩ = some (.bool false) ∧ w'.cell? ⟨B, 1, none⟩ = some (.string s') ∧ KeepC W T w' ∧ Gr W0 w') (by kernel_rfl) ⟨y0, y1, fun _ _ _ h1 h2 => ⟨h1, h2⟩, Gr.drw hG⟩ (fun hHeld => ?_)
  refine chain_any (fun G out inn => ?_)
  have st13 : ∀ (u m : Value) (pn : Bool) (pa : Option Addr) (pk pc : Nat) (w : World), (fun w' => w'.cell? ⟨B, 0, none⟩ = some (.bool false) ∧ w'.cell? ⟨B, 1, none⟩ = some (.string s') ∧ KeepC W T w' ∧ Gr W0 w') w → TC W0 T nr ar kr cr w → HasJ 129 w (.agg #[.bool nr, .slice ar kr cr]) r → HasJ 130 w (.agg #[.bool pn, .slice pa pk pc]) (r + -(zOf false s')) → G 1 #[true, true, true, true, true, false] { tmps := List.toArray (v0 :: v1 :: v2 :: .pointer (some ⟨B, 0, none⟩) :: v4 :: v5 :: v6 :: .pointer (some ⟨T, 0, none⟩) :: v8 :: v9 :: v10 :: v11 :: v12 :: v13 :: v14 :: v15 :: v16 :: v17 :: v18 :: v19 :: v20 :: v21 :: v22 :: v23 :: v24 :: v25 :: v26 :: v27 :: v28 :: v29 :: v30 :: v31 :: v32 :: v33 :: v34 :: v35 :: v36 :: v37 :: v38 :: v39 :: v40 :: .agg #[.bool nr, .slice ar kr cr] :: .agg #[.bool false, .string s'] :: u :: m :: .agg #[.bool pn, .slice pa pk pc] :: v46 :: v47 :: v48 :: v49 :: ([] : List Value)), defers := [] } w := by
    intro u m pn pa pk pc w hS hT hr hx
    refine inn _ _ _ _ ?_
    obtain ⟨l7, c0, c1, z0, z1⟩ := hT
    refine wpAnyH_ready (rs := [5]) (by kernel_rfl) (by simp) ?_
    refine AllReadyH.cons (o := { dst := none, op := Op.store 94 (Operand.tmp 7) (Operand.tmp 45), type := 0, pos := "ref.go:435", after := #[{ on := 4, ground := Ground.data }, { on := 4, ground := Ground.chain }, { on := 0, ground := Ground.phase }, { on := 1, ground := Ground.phase }, { on := 2, ground := Ground.phase }, { on := 3, ground := Ground.phase }, { on := 4, ground := Ground.phase }], guard := none }) rfl (fun K hK => ?_) AllReadyH.nil
    go_simp
    obtain ⟨V, hV⟩ : ∃ V, V = (w.setCell ⟨T, 0, none⟩ (.bool pn)).setCell ⟨T, 1, none⟩ (.slice pa pk pc) := ⟨_, rfl⟩
    have kS : (fun w' => w'.cell? ⟨B, 0, none⟩ = some (.bool false) ∧ w'.cell? ⟨B, 1, none⟩ = some (.string s') ∧ KeepC W T w' ∧ Gr W0 w') V := by
      rw [hV]
      exact ⟨keep2 hS.1 hBT, keep2 hS.2.1 hBT, (hS.2.2.1.set 0 _).set 1 _, (hS.2.2.2.setCell (p := ⟨T, 0, none⟩) l7 _).setCell (p := ⟨T, 1, none⟩) l7 _⟩
    have d0 : V.cell? ⟨T, 0, none⟩ = some (.bool pn) := by rw [hV]; exact (put2 c0 c1 _ _).1
    have d1 : V.cell? ⟨T, 1, none⟩ = some (.slice pa pk pc) := by rw [hV]; exact (put2 c0 c1 _ _).2
    have HX := Lib.hid (show HasJ 130 V _ _ by rw [hV]; exact (hx.setAt c0 (by simp) _).setAt ((cell_other (by simp) _).trans c1) (by simp) _)
    rw [← hV]
    clear hV
    refine hK.out _ _ kS (fun hHeld => ?_)
    clear hK K
    (simp only [Act.put, List.setIfInBounds_toArray, List.set_cons_zero, List.set_cons_succ])
    refine wpAnyH_done (by kernel_rfl) ?_ _
    exact hpost _ _ _ _ _ _ ⟨pn, pa, pk, pc, d0, d1, HX.out, kS.2.2.1, kS.2.2.2⟩
  have st12 : ∀ (u m : Value) (w : World), (fun w' => w'.cell? ⟨B, 0, none⟩ = some (.bool false) ∧ w'.cell? ⟨B, 1, none⟩ = some (.string s') ∧ KeepC W T w' ∧ Gr W0 w') w → TC W0 T nr ar kr cr w → HasJ 129 w (.agg #[.bool nr, .slice ar kr cr]) r → HasJ 129 w m (-(zOf false s')) → G 2 #[true, true, true, true, false, false] { tmps := List.toArray (v0 :: v1 :: v2 :: .pointer (some ⟨B, 0, none⟩) :: v4 :: v5 :: v6 :: .pointer (some ⟨T, 0, none⟩) :: v8 :: v9 :: v10 :: v11 :: v12 :: v13 :: v14 :: v15 :: v16 :: v17 :: v18 :: v19 :: v20 :: v21 :: v22 :: v23 :: v24 :: v25 :: v26 :: v27 :: v28 :: v29 :: v30 :: v31 :: v32 :: v33 :: v34 :: v35 :: v36 :: v37 :: v38 :: v39 :: v40 :: .agg #[.bool nr, .slice ar kr cr] :: .agg #[.bool false, .string s'] :: u :: m :: s45 :: v46 :: v47 :: v48 :: v49 :: ([] : List Value)), defers := [] } w := by
    intro u m w hS hT hr hx
    refine inn _ _ _ _ ?_
    refine wpAnyH_ready (rs := [4]) (by kernel_rfl) (by simp) ?_
    refine AllReadyH.cons (o := { dst := some 45, op := Op.call { callee := Callee.value (Operand.func 69), args := #[Operand.tmp 41, Operand.tmp 44], argTypes := #[94, 94] }, type := 94, pos := "ref.go:435", after := #[{ on := 0, ground := Ground.data }, { on := 3, ground := Ground.data }, { on := 3, ground := Ground.chain }], guard := none }) rfl (fun K hK => ?_) ?_
    · go_simp
      go_at_call 69
      refine (radd_any 129 _ _ _ _ _ hr hx (by omega)).mono ?_
      rintro e w' ⟨p, rfl, hx, g⟩
      obtain ⟨pn, pa, pk, pc, pl, rfl, hpp⟩ := hx.parts
      clear hpp
      go_wp2_with fail
      refine hK.out _ _ ⟨g.keeps hS.1, g.keeps hS.2.1, hS.2.2.1.later g, hS.2.2.2.trans g⟩ (fun hHeld => ?_)
      (simp only [Act.put, List.setIfInBounds_toArray, List.set_cons_zero, List.set_cons_succ])
      exact out _ _ _ _ (st13 _ _ _ _ _ _ _ hHeld (hT.later g) (hr.later g) hx)
    exact AllReadyH.nil
  have st02 : ∀ (u m : Value) (w : World), (fun w' => w'.cell? ⟨B, 0, none⟩ = some (.bool false) ∧ w'.cell? ⟨B, 1, none⟩ = some (.string s') ∧ KeepC W T w' ∧ Gr W0 w') w → TC W0 T nr ar kr cr w → HasJ 129 w (.agg #[.bool nr, .slice ar kr cr]) r → HasJ 129 w m (-(zOf false s')) → G 3 #[false, true, true, true, false, false] { tmps := List.toArray (v0 :: v1 :: v2 :: .pointer (some ⟨B, 0, none⟩) :: v4 :: v5 :: v6 :: .pointer (some ⟨T, 0, none⟩) :: v8 :: v9 :: v10 :: v11 :: v12 :: v13 :: v14 :: v15 :: v16 :: v17 :: v18 :: v19 :: v20 :: v21 :: v22 :: v23 :: v24 :: v25 :: v26 :: v27 :: v28 :: v29 :: v30 :: v31 :: v32 :: v33 :: v34 :: v35 :: v36 :: v37 :: v38 :: v39 :: v40 :: s41 :: .agg #[.bool false, .string s'] :: u :: m :: s45 :: v46 :: v47 :: v48 :: v49 :: ([] : List Value)), defers := [] } w := by
    intro u m w hS hT hr hx
    refine inn _ _ _ _ ?_
    refine wpAnyH_ready (rs := [0]) (by kernel_rfl) (by simp) ?_
    refine AllReadyH.cons (o := { dst := some 41, op := Op.load 94 (Operand.tmp 7), type := 94, pos := "ref.go:435", after := #[], guard := none }) rfl (fun K hK => ?_) ?_
    · obtain ⟨l7, c0, c1, z0, z1⟩ := id hT
      go_simp
      refine hK.out _ _ hS (fun hHeld => ?_)
      (simp only [Act.put, List.setIfInBounds_toArray, List.set_cons_zero, List.set_cons_succ])
      exact out _ _ _ _ (st12 _ _ _ hHeld hT hr hx)
    exact AllReadyH.nil
  have st11 : ∀ (u : Value) (w : World), (fun w' => w'.cell? ⟨B, 0, none⟩ = some (.bool false) ∧ w'.cell? ⟨B, 1, none⟩ = some (.string s') ∧ KeepC W T w' ∧ Gr W0 w') w → TC W0 T nr ar kr cr w → HasJ 129 w (.agg #[.bool nr, .slice ar kr cr]) r → HasJ 129 w u (zOf false s') → G 3 #[true, true, true, false, false, false] { tmps := List.toArray (v0 :: v1 :: v2 :: .pointer (some ⟨B, 0, none⟩) :: v4 :: v5 :: v6 :: .pointer (some ⟨T, 0, none⟩) :: v8 :: v9 :: v10 :: v11 :: v12 :: v13 :: v14 :: v15 :: v16 :: v17 :: v18 :: v19 :: v20 :: v21 :: v22 :: v23 :: v24 :: v25 :: v26 :: v27 :: v28 :: v29 :: v30 :: v31 :: v32 :: v33 :: v34 :: v35 :: v36 :: v37 :: v38 :: v39 :: v40 :: .agg #[.bool nr, .slice ar kr cr] :: .agg #[.bool false, .string s'] :: u :: s44 :: s45 :: v46 :: v47 :: v48 :: v49 :: ([] : List Value)), defers := [] } w := by
    intro u w hS hT hr hx
    refine inn _ _ _ _ ?_
    refine wpAnyH_ready (rs := [3]) (by kernel_rfl) (by simp) ?_
    refine AllReadyH.cons (o := { dst := some 44, op := Op.call { callee := Callee.value (Operand.func 73), args := #[Operand.tmp 43], argTypes := #[94] }, type := 94, pos := "ref.go:435", after := #[{ on := 2, ground := Ground.data }, { on := 2, ground := Ground.chain }], guard := none }) rfl (fun K hK => ?_) ?_
    · go_simp
      go_at_call 73
      refine (rnegative_any 129 _ _ _ hx (by omega)).mono ?_
      rintro e w' ⟨m, rfl, hx, g⟩
      go_wp2_with fail
      refine hK.out _ _ ⟨g.keeps hS.1, g.keeps hS.2.1, hS.2.2.1.later g, hS.2.2.2.trans g⟩ (fun hHeld => ?_)
      (simp only [Act.put, List.setIfInBounds_toArray, List.set_cons_zero, List.set_cons_succ])
      exact out _ _ _ _ (st12 _ _ _ hHeld (hT.later g) (hr.later g) hx)
    exact AllReadyH.nil
  have st01 : ∀ (u : Value) (w : World), (fun w' => w'.cell? ⟨B, 0, none⟩ = some (.bool false) ∧ w'.cell? ⟨B, 1, none⟩ = some (.string s') ∧ KeepC W T w' ∧ Gr W0 w') w → TC W0 T nr ar kr cr w → HasJ 129 w (.agg #[.bool nr, .slice ar kr cr]) r → HasJ 129 w u (zOf false s') → G 4 #[false, true, true, false, false, false] { tmps := List.toArray (v0 :: v1 :: v2 :: .pointer (some ⟨B, 0, none⟩) :: v4 :: v5 :: v6 :: .pointer (some ⟨T, 0, none⟩) :: v8 :: v9 :: v10 :: v11 :: v12 :: v13 :: v14 :: v15 :: v16 :: v17 :: v18 :: v19 :: v20 :: v21 :: v22 :: v23 :: v24 :: v25 :: v26 :: v27 :: v28 :: v29 :: v30 :: v31 :: v32 :: v33 :: v34 :: v35 :: v36 :: v37 :: v38 :: v39 :: v40 :: s41 :: .agg #[.bool false, .string s'] :: u :: s44 :: s45 :: v46 :: v47 :: v48 :: v49 :: ([] : List Value)), defers := [] } w := by
    intro u w hS hT hr hx
    refine inn _ _ _ _ ?_
    refine wpAnyH_ready (rs := [0, 3]) (by kernel_rfl) (by simp) ?_
    refine AllReadyH.cons (o := { dst := some 41, op := Op.load 94 (Operand.tmp 7), type := 94, pos := "ref.go:435", after := #[], guard := none }) rfl (fun K hK => ?_) ?_
    · obtain ⟨l7, c0, c1, z0, z1⟩ := id hT
      go_simp
      refine hK.out _ _ hS (fun hHeld => ?_)
      (simp only [Act.put, List.setIfInBounds_toArray, List.set_cons_zero, List.set_cons_succ])
      exact out _ _ _ _ (st11 _ _ hHeld hT hr hx)
    refine AllReadyH.cons (o := { dst := some 44, op := Op.call { callee := Callee.value (Operand.func 73), args := #[Operand.tmp 43], argTypes := #[94] }, type := 94, pos := "ref.go:435", after := #[{ on := 2, ground := Ground.data }, { on := 2, ground := Ground.chain }], guard := none }) rfl (fun K hK => ?_) ?_
    · go_simp
      go_at_call 73
      refine (rnegative_any 129 _ _ _ hx (by omega)).mono ?_
      rintro e w' ⟨m, rfl, hx, g⟩
      go_wp2_with fail
      refine hK.out _ _ ⟨g.keeps hS.1, g.keeps hS.2.1, hS.2.2.1.later g, hS.2.2.2.trans g⟩ (fun hHeld => ?_)
      (simp only [Act.put, List.setIfInBounds_toArray, List.set_cons_zero, List.set_cons_succ])
      exact out _ _ _ _ (st02 _ _ _ hHeld (hT.later g) (hr.later g) hx)
    exact AllReadyH.nil
  have st10 : ∀ (w : World), (fun w' => w'.cell? ⟨B, 0, none⟩ = some (.bool false) ∧ w'.cell? ⟨B, 1, none⟩ = some (.string s') ∧ KeepC W T w' ∧ Gr W0 w') w → TC W0 T nr ar kr cr w → HasJ 129 w (.agg #[.bool nr, .slice ar kr cr]) r → G 4 #[true, true, false, false, false, false] { tmps := List.toArray (v0 :: v1 :: v2 :: .pointer (some ⟨B, 0, none⟩) :: v4 :: v5 :: v6 :: .pointer (some ⟨T, 0, none⟩) :: v8 :: v9 :: v10 :: v11 :: v12 :: v13 :: v14 :: v15 :: v16 :: v17 :: v18 :: v19 :: v20 :: v21 :: v22 :: v23 :: v24 :: v25 :: v26 :: v27 :: v28 :: v29 :: v30 :: v31 :: v32 :: v33 :: v34 :: v35 :: v36 :: v37 :: v38 :: v39 :: v40 :: .agg #[.bool nr, .slice ar kr cr] :: .agg #[.bool false, .string s'] :: s43 :: s44 :: s45 :: v46 :: v47 :: v48 :: v49 :: ([] : List Value)), defers := [] } w := by
    intro w hS hT hr
    refine inn _ _ _ _ ?_
    refine wpAnyH_ready (rs := [2]) (by kernel_rfl) (by simp) ?_
    refine AllReadyH.cons (o := { dst := some 43, op := Op.call { callee := Callee.value (Operand.func 68), args := #[Operand.tmp 42], argTypes := #[24] }, type := 94, pos := "ref.go:435", after := #[{ on := 1, ground := Ground.data }], guard := none }) rfl (fun K hK => ?_) ?_
    · go_simp
      go_at_call 68
      refine (rin_129 false s' _ HF').mono ?_
      rintro e w' ⟨u, rfl, hx, g⟩
      go_wp2_with fail
      refine hK.out _ _ ⟨g.keeps hS.1, g.keeps hS.2.1, hS.2.2.1.later g, hS.2.2.2.trans g⟩ (fun hHeld => ?_)
      (simp only [Act.put, List.setIfInBounds_toArray, List.set_cons_zero, List.set_cons_succ])
      exact out _ _ _ _ (st11 _ _ hHeld (hT.later g) (hr.later g) hx)
    exact AllReadyH.nil
  have st00 : ∀ (w : World), (fun w' => w'.cell? ⟨B, 0, none⟩ = some (.bool false) ∧ w'.cell? ⟨B, 1, none⟩ = some (.string s') ∧ KeepC W T w' ∧ Gr W0 w') w → TC W0 T nr ar kr cr w → HasJ 129 w (.agg #[.bool nr, .slice ar kr cr]) r → G 5 #[false, true, false, false, false, false] { tmps := List.toArray (v0 :: v1 :: v2 :: .pointer (some ⟨B, 0, none⟩) :: v4 :: v5 :: v6 :: .pointer (some ⟨T, 0, none⟩) :: v8 :: v9 :: v10 :: v11 :: v12 :: v13 :: v14 :: v15 :: v16 :: v17 :: v18 :: v19 :: v20 :: v21 :: v22 :: v23 :: v24 :: v25 :: v26 :: v27 :: v28 :: v29 :: v30 :: v31 :: v32 :: v33 :: v34 :: v35 :: v36 :: v37 :: v38 :: v39 :: v40 :: s41 :: .agg #[.bool false, .string s'] :: s43 :: s44 :: s45 :: v46 :: v47 :: v48 :: v49 :: ([] : List Value)), defers := [] } w := by
    intro w hS hT hr
    refine inn _ _ _ _ ?_
    refine wpAnyH_ready (rs := [0, 2]) (by kernel_rfl) (by simp) ?_
    refine AllReadyH.cons (o := { dst := some 41, op := Op.load 94 (Operand.tmp 7), type := 94, pos := "ref.go:435", after := #[], guard := none }) rfl (fun K hK => ?_) ?_
    · obtain ⟨l7, c0, c1, z0, z1⟩ := id hT
      go_simp
      refine hK.out _ _ hS (fun hHeld => ?_)
      (simp only [Act.put, List.setIfInBounds_toArray, List.set_cons_zero, List.set_cons_succ])
      exact out _ _ _ _ (st10 _ hHeld hT hr)
    refine AllReadyH.cons (o := { dst := some 43, op := Op.call { callee := Callee.value (Operand.func 68), args := #[Operand.tmp 42], argTypes := #[24] }, type := 94, pos := "ref.go:435", after := #[{ on := 1, ground := Ground.data }], guard := none }) rfl (fun K hK => ?_) ?_
    · go_simp
      go_at_call 68
      refine (rin_129 false s' _ HF').mono ?_
      rintro e w' ⟨u, rfl, hx, g⟩
      go_wp2_with fail
      refine hK.out _ _ ⟨g.keeps hS.1, g.keeps hS.2.1, hS.2.2.1.later g, hS.2.2.2.trans g⟩ (fun hHeld => ?_)
      (simp only [Act.put, List.setIfInBounds_toArray, List.set_cons_zero, List.set_cons_succ])
      exact out _ _ _ _ (st01 _ _ hHeld (hT.later g) (hr.later g) hx)
    exact AllReadyH.nil
  show wpAnyH _ _ _ _ _ 6 #[false, false, false, false, false, false] _ _
  refine wpAnyH_take (i := 1) (oi := { dst := some 42, op := Op.load 24 (Operand.tmp 3), type := 24, pos := "ref.go:435", after := #[], guard := none }) (v := ?_) rfl (by kernel_rfl) (by kernel_rfl) (by kernel_rfl) (hQ _ _) (Or.inl ⟨by rfl, ?_⟩) (by assumption) ?_
  rotate_left
  · intro w0 hSw; (try dsimp only at hSw); go_simp; try with_reducible rfl
  (simp only [Act.put, List.setIfInBounds_toArray, List.set_cons_zero, List.set_cons_succ])
  exact out _ _ _ _ (st00 _ hHeld (hT.later (Gr.drw (Gr.refl W))) (hr.later (Gr.drw (Gr.refl W))))
end Go.Proofs.YtfpdemmdkiohhaaGreat
