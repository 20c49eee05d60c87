import Derived.Test.YtlfiakpmnkhcdaaGreatLDrg
import Derived.Test.YtlfiakpmnkhcdaaGreatLModu
import Derived.Test.YtlfiakpmnkhcdaaGreatLWI
import Derived.Test.YtlfiakpmnkhcdaaGreatLWG
import Derived.Test.YtlfiakpmnkhcdaaGreatLSwa
import Derived.Test.YtlfiakpmnkhcdaaGreatLZE
import Derived.Test.YtlfiakpmnkhcdaaGreatLQk
namespace Go.Proofs.YtlfiakpmnkhcdaaGreat
open Go.RowKit
set_option linter.unusedVariables false
set_option linter.unusedSimpArgs false
def TC (W0 : World) (T : Nat) (nr : Bool) (ar : Option Addr) (kr cr : Nat) (w : World) : Prop := W0.heap.size ≤ T ∧ w.cell? ⟨T, 0, none⟩ = some (.bool nr) ∧ w.cell? ⟨T, 1, none⟩ = some (.slice ar kr cr) ∧ w.frozen? ⟨T, 0, none⟩ = false ∧ w.frozen? ⟨T, 1, none⟩ = false
theorem TC.later {W0 : World} {T : Nat} {nr : Bool} {ar : Option Addr} {kr cr : Nat} {w w' : World} (h : TC W0 T nr ar kr cr w) (g : Gr w w') : TC W0 T nr ar kr cr w' :=
 ⟨h.1, g.keeps h.2.1, g.keeps h.2.2.1, g.frozen h.2.1 h.2.2.2.1, g.frozen h.2.2.1 h.2.2.2.2⟩
def KeepC (W : World) (T : Nat) (w' : World) : Prop := ∀ p : Addr, p.block ≠ T → ∀ v, W.cell? p = some v → W.frozen? p = false → w'.cell? p = some v ∧ w'.frozen? p = false
theorem KeepC.later {W : World} {T : Nat} {w w' : World} (h : KeepC W T w) (g : Gr w w') : KeepC W T w' := fun p hp v h1 h2 => ⟨g.keeps (h p hp v h1 h2).1, g.frozen (h p hp v h1 h2).1 (h p hp v h1 h2).2⟩
theorem KeepC.set {W : World} {T : Nat} {w : World} (h : KeepC W T w) (o : Nat) (u : Value) : KeepC W T (w.setCell ⟨T, o, none⟩ u) := fun p hp v h1 h2 =>
 ⟨(cell_other (fun e => hp (congrArg Addr.block e).symm) u).trans (h p hp v h1 h2).1, (frozen_set _ _ _ _).trans (h p hp v h1 h2).2⟩
def FixB (W0 W : World) (T : Nat) (z : Int) (wx : World) : Prop := ∃ (pn : Bool) (pa : Option Addr) (pk pc : Nat), wx.cell? ⟨T, 0, none⟩ = some (.bool pn) ∧ wx.cell? ⟨T, 1, none⟩ = some (.slice pa pk pc) ∧ HasJ 130 wx (.agg #[.bool pn, .slice pa pk pc]) z ∧ KeepC W T wx ∧ Gr W0 wx
set_option maxRecDepth 100000 in
set_option maxHeartbeats 8000000 in
theorem rbal5_region (s' : ByteArray) (HF' : Form false s') (r : Int) (W0 W : World) (T B : Nat) (nr : Bool) (ar : Option Addr) (kr cr : Nat) (hBT : ¬ (B = T)) (hG : Gr W0 W)
  (y0 : W.cell? ⟨B, 0, none⟩ = some (.bool false)) (y1 : W.cell? ⟨B, 1, none⟩ = some (.string s')) (hT : TC W0 T nr ar kr cr W) (hr : HasJ 129 W (.agg #[.bool nr, .slice ar kr cr]) r)
  (v0 v1 v2 v4 v5 v6 v8 v9 v10 v11 v12 v13 v14 v15 v16 v17 v18 v19 v20 v21 v22 v23 v24 v25 v26 v27 v28 v29 v30 v31 v32 v33 v34 v35 v36 v37 v38 v39 v40 v46 v47 v48 v49 s41 s42 s43 s44 s45 : Value) (Q : Exit → Act → World → Prop) (hQ : ∀ (d : Option Tmp) (v : Value) c a w, Q (.panic c) (a.put d v) w → Q (.panic c) a w)
  (hpost : ∀ u41 u42 u43 u44 u45 wx, FixB W0 W T (r + -(zOf false s')) wx → Q .normal { tmps := List.toArray (v0 :: v1 :: v2 :: .pointer (some ⟨B, 0, none⟩) :: v4 :: v5 :: v6 :: .pointer (some ⟨T, 0, none⟩) :: v8 :: v9 :: v10 :: v11 :: v12 :: v13 :: v14 :: v15 :: v16 :: v17 :: v18 :: v19 :: v20 :: v21 :: v22 :: v23 :: v24 :: v25 :: v26 :: v27 :: v28 :: v29 :: v30 :: v31 :: v32 :: v33 :: v34 :: v35 :: v36 :: v37 :: v38 :: v39 :: v40 :: u41 :: u42 :: u43 :: u44 :: u45 :: v46 :: v47 :: v48 :: v49 :: ([] : List Value)), defers := [] } wx) :
  (Code.region 5 #[⟨some 41, .load 101 (.tmp 7), 101, "ref.go:435", #[], none⟩,
   ⟨some 42, .load 50 (.tmp 3), 50, "ref.go:435", #[], none⟩,
   ⟨some 43, .call ⟨.value (.func 89), #[.tmp 42], #[50]⟩, 101, "ref.go:435", #[⟨1, .data⟩], none⟩,
   ⟨some 44, .call ⟨.value (.func 152), #[.tmp 43], #[101]⟩, 101, "ref.go:435", #[⟨2, .data⟩, ⟨2, .chain⟩], none⟩,
   ⟨some 45, .call ⟨.value (.func 88), #[.tmp 41, .tmp 44], #[101, 101]⟩, 101, "ref.go:435", #[⟨0, .data⟩, ⟨3, .data⟩, ⟨3, .chain⟩], none⟩,
   ⟨none, .store 101 (.tmp 7) (.tmp 45), 0, "ref.go:435", #[⟨4, .data⟩, ⟨4, .chain⟩, ⟨0, .phase⟩, ⟨1, .phase⟩, ⟨2, .phase⟩, ⟨3, .phase⟩, ⟨4, .phase⟩], none⟩] true).wp Tryz.prog Q { tmps := List.toArray (v0 :: v1 :: v2 :: .pointer (some ⟨B, 0, none⟩) :: v4 :: v5 :: v6 :: .pointer (some ⟨T, 0, none⟩) :: v8 :: v9 :: v10 :: v11 :: v12 :: v13 :: v14 :: v15 :: v16 :: v17 :: v18 :: v19 :: v20 :: v21 :: v22 :: v23 :: v24 :: v25 :: v26 :: v27 :: v28 :: v29 :: v30 :: v31 :: v32 :: v33 :: v34 :: v35 :: v36 :: v37 :: v38 :: v39 :: v40 :: s41 :: s42 :: s43 :: s44 :: s45 :: v46 :: v47 :: v48 :: v49 :: ([] : List Value)), defers := [] } W := by
 refine wp_region_held_drew (S := fun w' => w'.cell? ⟨B, 0, none⟩ = some (.bool false) ∧ w'.cell? ⟨B, 1, none⟩ = some (.string s') ∧ KeepC W T w' ∧ Gr W0 w') (by kernel_rfl) ⟨y0, y1, fun _ _ _ h1 h2 => ⟨h1, h2⟩, Gr.drw hG⟩ (fun hHeld => ?_)
 refine chain_any (fun G out inn => ?_)
 have st13 : ∀ (u m : Value) (pn : Bool) (pa : Option Addr) (pk pc : Nat) (w : World), (fun w' => w'.cell? ⟨B, 0, none⟩ = some (.bool false) ∧ w'.cell? ⟨B, 1, none⟩ = some (.string s') ∧ KeepC W T w' ∧ Gr W0 w') w → TC W0 T nr ar kr cr w → HasJ 129 w (.agg #[.bool nr, .slice ar kr cr]) r → HasJ 130 w (.agg #[.bool pn, .slice pa pk pc]) (r + -(zOf false s')) → G 1 #[true, true, true, true, true, false] { tmps := List.toArray (v0 :: v1 :: v2 :: .pointer (some ⟨B, 0, none⟩) :: v4 :: v5 :: v6 :: .pointer (some ⟨T, 0, none⟩) :: v8 :: v9 :: v10 :: v11 :: v12 :: v13 :: v14 :: v15 :: v16 :: v17 :: v18 :: v19 :: v20 :: v21 :: v22 :: v23 :: v24 :: v25 :: v26 :: v27 :: v28 :: v29 :: v30 :: v31 :: v32 :: v33 :: v34 :: v35 :: v36 :: v37 :: v38 :: v39 :: v40 :: .agg #[.bool nr, .slice ar kr cr] :: .agg #[.bool false, .string s'] :: u :: m :: .agg #[.bool pn, .slice pa pk pc] :: v46 :: v47 :: v48 :: v49 :: ([] : List Value)), defers := [] } w := by
  intro u m pn pa pk pc w hS hT hr hx
  refine inn _ _ _ _ ?_
  obtain ⟨l7, c0, c1, z0, z1⟩ := hT
  refine wpAnyH_ready (rs := [5]) (by kernel_rfl) (by simp) ?_
  refine AllReadyH.cons (o := ⟨none, .store 101 (.tmp 7) (.tmp 45), 0, "ref.go:435", #[⟨4, .data⟩, ⟨4, .chain⟩, ⟨0, .phase⟩, ⟨1, .phase⟩, ⟨2, .phase⟩, ⟨3, .phase⟩, ⟨4, .phase⟩], none⟩) rfl (fun K hK => ?_) AllReadyH.nil
  go_simp
  obtain ⟨V, hV⟩ : ∃ V, V = (w.setCell ⟨T, 0, none⟩ (.bool pn)).setCell ⟨T, 1, none⟩ (.slice pa pk pc) := ⟨_, rfl⟩
  have kS : (fun w' => w'.cell? ⟨B, 0, none⟩ = some (.bool false) ∧ w'.cell? ⟨B, 1, none⟩ = some (.string s') ∧ KeepC W T w' ∧ Gr W0 w') V := by
   rw [hV]
   exact ⟨keep2 hS.1 hBT, keep2 hS.2.1 hBT, (hS.2.2.1.set 0 _).set 1 _, (hS.2.2.2.setCell (p := ⟨T, 0, none⟩) l7 _).setCell (p := ⟨T, 1, none⟩) l7 _⟩
  have d0 : V.cell? ⟨T, 0, none⟩ = some (.bool pn) := by rw [hV]; exact (put2 c0 c1 _ _).1
  have d1 : V.cell? ⟨T, 1, none⟩ = some (.slice pa pk pc) := by rw [hV]; exact (put2 c0 c1 _ _).2
  have HX := Lib.hid (show HasJ 130 V _ _ by rw [hV]; exact (hx.setAt c0 (by simp) _).setAt ((cell_other (by simp) _).trans c1) (by simp) _)
  rw [← hV]
  clear hV
  refine hK.out _ _ kS (fun hHeld => ?_)
  clear hK K
  (simp only [Act.put, List.setIfInBounds_toArray, List.set_cons_zero, List.set_cons_succ])
  refine wpAnyH_done (by kernel_rfl) ?_ _
  exact hpost _ _ _ _ _ _ ⟨pn, pa, pk, pc, d0, d1, HX.out, kS.2.2.1, kS.2.2.2⟩
 have st12 : ∀ (u m : Value) (w : World), (fun w' => w'.cell? ⟨B, 0, none⟩ = some (.bool false) ∧ w'.cell? ⟨B, 1, none⟩ = some (.string s') ∧ KeepC W T w' ∧ Gr W0 w') w → TC W0 T nr ar kr cr w → HasJ 129 w (.agg #[.bool nr, .slice ar kr cr]) r → HasJ 129 w m (-(zOf false s')) → G 2 #[true, true, true, true, false, false] { tmps := List.toArray (v0 :: v1 :: v2 :: .pointer (some ⟨B, 0, none⟩) :: v4 :: v5 :: v6 :: .pointer (some ⟨T, 0, none⟩) :: v8 :: v9 :: v10 :: v11 :: v12 :: v13 :: v14 :: v15 :: v16 :: v17 :: v18 :: v19 :: v20 :: v21 :: v22 :: v23 :: v24 :: v25 :: v26 :: v27 :: v28 :: v29 :: v30 :: v31 :: v32 :: v33 :: v34 :: v35 :: v36 :: v37 :: v38 :: v39 :: v40 :: .agg #[.bool nr, .slice ar kr cr] :: .agg #[.bool false, .string s'] :: u :: m :: s45 :: v46 :: v47 :: v48 :: v49 :: ([] : List Value)), defers := [] } w := by
  intro u m w hS hT hr hx
  refine inn _ _ _ _ ?_
  refine wpAnyH_ready (rs := [4]) (by kernel_rfl) (by simp) ?_
  refine AllReadyH.cons (o := ⟨some 45, .call ⟨.value (.func 88), #[.tmp 41, .tmp 44], #[101, 101]⟩, 101, "ref.go:435", #[⟨0, .data⟩, ⟨3, .data⟩, ⟨3, .chain⟩], none⟩) rfl (fun K hK => ?_) ?_
  ·go_simp
   go_at_call 88
   refine (radd_any 129 _ _ _ _ _ hr hx (by omega)).mono ?_
   rintro e w' ⟨p, rfl, hx, g⟩
   obtain ⟨pn, pa, pk, pc, pl, rfl, hpp⟩ := hx.parts
   clear hpp
   go_wp2_with fail
   refine hK.out _ _ ⟨g.keeps hS.1, g.keeps hS.2.1, hS.2.2.1.later g, hS.2.2.2.trans g⟩ (fun hHeld => ?_)
   (simp only [Act.put, List.setIfInBounds_toArray, List.set_cons_zero, List.set_cons_succ])
   exact out _ _ _ _ (st13 _ _ _ _ _ _ _ hHeld (hT.later g) (hr.later g) hx)
  exact AllReadyH.nil
 have st02 : ∀ (u m : Value) (w : World), (fun w' => w'.cell? ⟨B, 0, none⟩ = some (.bool false) ∧ w'.cell? ⟨B, 1, none⟩ = some (.string s') ∧ KeepC W T w' ∧ Gr W0 w') w → TC W0 T nr ar kr cr w → HasJ 129 w (.agg #[.bool nr, .slice ar kr cr]) r → HasJ 129 w m (-(zOf false s')) → G 3 #[false, true, true, true, false, false] { tmps := List.toArray (v0 :: v1 :: v2 :: .pointer (some ⟨B, 0, none⟩) :: v4 :: v5 :: v6 :: .pointer (some ⟨T, 0, none⟩) :: v8 :: v9 :: v10 :: v11 :: v12 :: v13 :: v14 :: v15 :: v16 :: v17 :: v18 :: v19 :: v20 :: v21 :: v22 :: v23 :: v24 :: v25 :: v26 :: v27 :: v28 :: v29 :: v30 :: v31 :: v32 :: v33 :: v34 :: v35 :: v36 :: v37 :: v38 :: v39 :: v40 :: s41 :: .agg #[.bool false, .string s'] :: u :: m :: s45 :: v46 :: v47 :: v48 :: v49 :: ([] : List Value)), defers := [] } w := by
  intro u m w hS hT hr hx
  refine inn _ _ _ _ ?_
  refine wpAnyH_ready (rs := [0]) (by kernel_rfl) (by simp) ?_
  refine AllReadyH.cons (o := ⟨some 41, .load 101 (.tmp 7), 101, "ref.go:435", #[], none⟩) rfl (fun K hK => ?_) ?_
  ·obtain ⟨l7, c0, c1, z0, z1⟩ := id hT
   go_simp
   refine hK.out _ _ hS (fun hHeld => ?_)
   (simp only [Act.put, List.setIfInBounds_toArray, List.set_cons_zero, List.set_cons_succ])
   exact out _ _ _ _ (st12 _ _ _ hHeld hT hr hx)
  exact AllReadyH.nil
 have st11 : ∀ (u : Value) (w : World), (fun w' => w'.cell? ⟨B, 0, none⟩ = some (.bool false) ∧ w'.cell? ⟨B, 1, none⟩ = some (.string s') ∧ KeepC W T w' ∧ Gr W0 w') w → TC W0 T nr ar kr cr w → HasJ 129 w (.agg #[.bool nr, .slice ar kr cr]) r → HasJ 129 w u (zOf false s') → G 3 #[true, true, true, false, false, false] { tmps := List.toArray (v0 :: v1 :: v2 :: .pointer (some ⟨B, 0, none⟩) :: v4 :: v5 :: v6 :: .pointer (some ⟨T, 0, none⟩) :: v8 :: v9 :: v10 :: v11 :: v12 :: v13 :: v14 :: v15 :: v16 :: v17 :: v18 :: v19 :: v20 :: v21 :: v22 :: v23 :: v24 :: v25 :: v26 :: v27 :: v28 :: v29 :: v30 :: v31 :: v32 :: v33 :: v34 :: v35 :: v36 :: v37 :: v38 :: v39 :: v40 :: .agg #[.bool nr, .slice ar kr cr] :: .agg #[.bool false, .string s'] :: u :: s44 :: s45 :: v46 :: v47 :: v48 :: v49 :: ([] : List Value)), defers := [] } w := by
  intro u w hS hT hr hx
  refine inn _ _ _ _ ?_
  refine wpAnyH_ready (rs := [3]) (by kernel_rfl) (by simp) ?_
  refine AllReadyH.cons (o := ⟨some 44, .call ⟨.value (.func 152), #[.tmp 43], #[101]⟩, 101, "ref.go:435", #[⟨2, .data⟩, ⟨2, .chain⟩], none⟩) rfl (fun K hK => ?_) ?_
  ·go_simp
   go_at_call 152
   refine (rnegative_any 129 _ _ _ hx (by omega)).mono ?_
   rintro e w' ⟨m, rfl, hx, g⟩
   go_wp2_with fail
   refine hK.out _ _ ⟨g.keeps hS.1, g.keeps hS.2.1, hS.2.2.1.later g, hS.2.2.2.trans g⟩ (fun hHeld => ?_)
   (simp only [Act.put, List.setIfInBounds_toArray, List.set_cons_zero, List.set_cons_succ])
   exact out _ _ _ _ (st12 _ _ _ hHeld (hT.later g) (hr.later g) hx)
  exact AllReadyH.nil
 have st01 : ∀ (u : Value) (w : World), (fun w' => w'.cell? ⟨B, 0, none⟩ = some (.bool false) ∧ w'.cell? ⟨B, 1, none⟩ = some (.string s') ∧ KeepC W T w' ∧ Gr W0 w') w → TC W0 T nr ar kr cr w → HasJ 129 w (.agg #[.bool nr, .slice ar kr cr]) r → HasJ 129 w u (zOf false s') → G 4 #[false, true, true, false, false, false] { tmps := List.toArray (v0 :: v1 :: v2 :: .pointer (some ⟨B, 0, none⟩) :: v4 :: v5 :: v6 :: .pointer (some ⟨T, 0, none⟩) :: v8 :: v9 :: v10 :: v11 :: v12 :: v13 :: v14 :: v15 :: v16 :: v17 :: v18 :: v19 :: v20 :: v21 :: v22 :: v23 :: v24 :: v25 :: v26 :: v27 :: v28 :: v29 :: v30 :: v31 :: v32 :: v33 :: v34 :: v35 :: v36 :: v37 :: v38 :: v39 :: v40 :: s41 :: .agg #[.bool false, .string s'] :: u :: s44 :: s45 :: v46 :: v47 :: v48 :: v49 :: ([] : List Value)), defers := [] } w := by
  intro u w hS hT hr hx
  refine inn _ _ _ _ ?_
  refine wpAnyH_ready (rs := [0, 3]) (by kernel_rfl) (by simp) ?_
  refine AllReadyH.cons (o := ⟨some 41, .load 101 (.tmp 7), 101, "ref.go:435", #[], none⟩) rfl (fun K hK => ?_) ?_
  ·obtain ⟨l7, c0, c1, z0, z1⟩ := id hT
   go_simp
   refine hK.out _ _ hS (fun hHeld => ?_)
   (simp only [Act.put, List.setIfInBounds_toArray, List.set_cons_zero, List.set_cons_succ])
   exact out _ _ _ _ (st11 _ _ hHeld hT hr hx)
  refine AllReadyH.cons (o := ⟨some 44, .call ⟨.value (.func 152), #[.tmp 43], #[101]⟩, 101, "ref.go:435", #[⟨2, .data⟩, ⟨2, .chain⟩], none⟩) rfl (fun K hK => ?_) ?_
  ·go_simp
   go_at_call 152
   refine (rnegative_any 129 _ _ _ hx (by omega)).mono ?_
   rintro e w' ⟨m, rfl, hx, g⟩
   go_wp2_with fail
   refine hK.out _ _ ⟨g.keeps hS.1, g.keeps hS.2.1, hS.2.2.1.later g, hS.2.2.2.trans g⟩ (fun hHeld => ?_)
   (simp only [Act.put, List.setIfInBounds_toArray, List.set_cons_zero, List.set_cons_succ])
   exact out _ _ _ _ (st02 _ _ _ hHeld (hT.later g) (hr.later g) hx)
  exact AllReadyH.nil
 have st10 : ∀ (w : World), (fun w' => w'.cell? ⟨B, 0, none⟩ = some (.bool false) ∧ w'.cell? ⟨B, 1, none⟩ = some (.string s') ∧ KeepC W T w' ∧ Gr W0 w') w → TC W0 T nr ar kr cr w → HasJ 129 w (.agg #[.bool nr, .slice ar kr cr]) r → G 4 #[true, true, false, false, false, false] { tmps := List.toArray (v0 :: v1 :: v2 :: .pointer (some ⟨B, 0, none⟩) :: v4 :: v5 :: v6 :: .pointer (some ⟨T, 0, none⟩) :: v8 :: v9 :: v10 :: v11 :: v12 :: v13 :: v14 :: v15 :: v16 :: v17 :: v18 :: v19 :: v20 :: v21 :: v22 :: v23 :: v24 :: v25 :: v26 :: v27 :: v28 :: v29 :: v30 :: v31 :: v32 :: v33 :: v34 :: v35 :: v36 :: v37 :: v38 :: v39 :: v40 :: .agg #[.bool nr, .slice ar kr cr] :: .agg #[.bool false, .string s'] :: s43 :: s44 :: s45 :: v46 :: v47 :: v48 :: v49 :: ([] : List Value)), defers := [] } w := by
  intro w hS hT hr
  refine inn _ _ _ _ ?_
  refine wpAnyH_ready (rs := [2]) (by kernel_rfl) (by simp) ?_
  refine AllReadyH.cons (o := ⟨some 43, .call ⟨.value (.func 89), #[.tmp 42], #[50]⟩, 101, "ref.go:435", #[⟨1, .data⟩], none⟩) rfl (fun K hK => ?_) ?_
  ·go_simp
   go_at_call 89
   refine (rin_129 false s' _ HF').mono ?_
   rintro e w' ⟨u, rfl, hx, g⟩
   go_wp2_with fail
   refine hK.out _ _ ⟨g.keeps hS.1, g.keeps hS.2.1, hS.2.2.1.later g, hS.2.2.2.trans g⟩ (fun hHeld => ?_)
   (simp only [Act.put, List.setIfInBounds_toArray, List.set_cons_zero, List.set_cons_succ])
   exact out _ _ _ _ (st11 _ _ hHeld (hT.later g) (hr.later g) hx)
  exact AllReadyH.nil
 have st00 : ∀ (w : World), (fun w' => w'.cell? ⟨B, 0, none⟩ = some (.bool false) ∧ w'.cell? ⟨B, 1, none⟩ = some (.string s') ∧ KeepC W T w' ∧ Gr W0 w') w → TC W0 T nr ar kr cr w → HasJ 129 w (.agg #[.bool nr, .slice ar kr cr]) r → G 5 #[false, true, false, false, false, false] { tmps := List.toArray (v0 :: v1 :: v2 :: .pointer (some ⟨B, 0, none⟩) :: v4 :: v5 :: v6 :: .pointer (some ⟨T, 0, none⟩) :: v8 :: v9 :: v10 :: v11 :: v12 :: v13 :: v14 :: v15 :: v16 :: v17 :: v18 :: v19 :: v20 :: v21 :: v22 :: v23 :: v24 :: v25 :: v26 :: v27 :: v28 :: v29 :: v30 :: v31 :: v32 :: v33 :: v34 :: v35 :: v36 :: v37 :: v38 :: v39 :: v40 :: s41 :: .agg #[.bool false, .string s'] :: s43 :: s44 :: s45 :: v46 :: v47 :: v48 :: v49 :: ([] : List Value)), defers := [] } w := by
  intro w hS hT hr
  refine inn _ _ _ _ ?_
  refine wpAnyH_ready (rs := [0, 2]) (by kernel_rfl) (by simp) ?_
  refine AllReadyH.cons (o := ⟨some 41, .load 101 (.tmp 7), 101, "ref.go:435", #[], none⟩) rfl (fun K hK => ?_) ?_
  ·obtain ⟨l7, c0, c1, z0, z1⟩ := id hT
   go_simp
   refine hK.out _ _ hS (fun hHeld => ?_)
   (simp only [Act.put, List.setIfInBounds_toArray, List.set_cons_zero, List.set_cons_succ])
   exact out _ _ _ _ (st10 _ hHeld hT hr)
  refine AllReadyH.cons (o := ⟨some 43, .call ⟨.value (.func 89), #[.tmp 42], #[50]⟩, 101, "ref.go:435", #[⟨1, .data⟩], none⟩) rfl (fun K hK => ?_) ?_
  ·go_simp
   go_at_call 89
   refine (rin_129 false s' _ HF').mono ?_
   rintro e w' ⟨u, rfl, hx, g⟩
   go_wp2_with fail
   refine hK.out _ _ ⟨g.keeps hS.1, g.keeps hS.2.1, hS.2.2.1.later g, hS.2.2.2.trans g⟩ (fun hHeld => ?_)
   (simp only [Act.put, List.setIfInBounds_toArray, List.set_cons_zero, List.set_cons_succ])
   exact out _ _ _ _ (st01 _ _ hHeld (hT.later g) (hr.later g) hx)
  exact AllReadyH.nil
 show wpAnyH _ _ _ _ _ 6 #[false, false, false, false, false, false] _ _
 refine wpAnyH_take (i := 1) (oi := ⟨some 42, .load 50 (.tmp 3), 50, "ref.go:435", #[], none⟩) (v := ?_) rfl (by kernel_rfl) (by kernel_rfl) (by kernel_rfl) (hQ _ _) (Or.inl ⟨by rfl, ?_⟩) (by assumption) ?_
 rotate_left
 ·intro w0 hSw; (try dsimp only at hSw); go_simp; try with_reducible rfl
 (simp only [Act.put, List.setIfInBounds_toArray, List.set_cons_zero, List.set_cons_succ])
 exact out _ _ _ _ (st00 _ hHeld (hT.later (Gr.drw (Gr.refl W))) (hr.later (Gr.drw (Gr.refl W))))
end Go.Proofs.YtlfiakpmnkhcdaaGreat
namespace Go.Proofs.YtlfiakpmnkhcdaaGreat
open Go.RowKit
set_option linter.unusedVariables false
theorem pos_of {neg : Bool} {s : ByteArray} (h0 : s.size ≠ 0) (hn : neg = false) : Form neg s → 0 < zOf neg s := fun h => (zOf_pos h).2 ⟨h0, hn⟩
theorem rword_two (w : World) : Calls Tryz.prog 151 #[.int .u32 2] w (NumZ 2 2 w) := rword_any 2 w (by decide)
set_option maxRecDepth 100000 in
set_option maxHeartbeats 8000000 in
theorem rbal_ok (neg : Bool) (s : ByteArray) (neg' : Bool) (s' : ByteArray) (w : World) (h : Form neg s) (h' : Form neg' s') (hs0 : s'.size ≠ 0) (hn : neg' = false) :
  Calls Tryz.prog 121 #[.agg #[.bool neg, .string s], .agg #[.bool neg', .string s']] w (Res (fNeg (bal (zOf neg s) (zOf neg' s'))) (fStr (bal (zOf neg s) (zOf neg' s'))) (fErr (bal (zOf neg s) (zOf neg' s'))) w) := by
 have HF := Lib.hid h
 have HF' := Lib.hid h'
 have hs : s.size ≤ 256 := by rcases h with ⟨h0, _⟩ | ⟨_, h2, _⟩ <;> omega
 have hs' : s'.size ≤ 256 := by rcases h' with ⟨h0, _⟩ | ⟨_, h2, _⟩ <;> omega
 have hy0 : 0 < zOf neg' s' := pos_of hs0 hn h'
 have HY := Lib.hid hy0
 have HY2 := Lib.hid (show zOf neg' s' ≠ 0 by omega)
 have he : s'.toList.isEmpty = false := by rw [empty_iff]; simpa using hs0
 subst hn
 clear hs0 hy0
 clear h h'
 go_enter Tryz.func121, Tryz.ntmps121
 go_wp2_with fail
 obtain ⟨W, hW⟩ : ∃ W : World, W = (((w.alloc (.cells #[.bool neg, .string s] 50)).alloc (.cells #[.bool false, .string s'] 50)).alloc (.cells #[.bool false, .string ⟨#[]⟩] 50)) := ⟨_, rfl⟩
 rw [← hW]
 have g1 : Gr w W := by rw [hW]; exact ((((Gr.refl _).alloc _).alloc _).alloc _)
 have x0 : W.cell? ⟨w.heap.size, 0, none⟩ = some (.bool neg) := by rw [hW]; simp [go_sem]
 have x1 : W.cell? ⟨w.heap.size, 1, none⟩ = some (.string s) := by rw [hW]; simp [go_sem]
 have y0 : W.cell? ⟨w.heap.size + 1, 0, none⟩ = some (.bool false) := by rw [hW]; simp [go_sem]
 have y1 : W.cell? ⟨w.heap.size + 1, 1, none⟩ = some (.string s') := by rw [hW]; simp [go_sem]
 have C0 := Lib.hid (show W.cell? ⟨w.heap.size + 1 + 1, 0, none⟩ = some (.bool false) by rw [hW]; simp [go_sem])
 have C1 := Lib.hid (show W.cell? ⟨w.heap.size + 1 + 1, 1, none⟩ = some (.string ⟨#[]⟩) by rw [hW]; simp [go_sem])
 have FC0 := Lib.hid (show W.frozen? ⟨w.heap.size + 1 + 1, 0, none⟩ = false by rw [hW]; simp [go_sem])
 have FC1 := Lib.hid (show W.frozen? ⟨w.heap.size + 1 + 1, 1, none⟩ = false by rw [hW]; simp [go_sem])
 have HSZ := Lib.hid (show w.heap.size + 1 + 1 < W.heap.size from by rw [hW]; simp)
 have HG := Lib.hid g1
 clear hW g1
 refine (rvalid_any neg s _ (by omega)).mono ?_
 rintro e w1 ⟨r, rfl, hr, g⟩
 obtain rfl : r = true := hr.2 HF.out
 have x0 := g.keeps x0
 have x1 := g.keeps x1
 have y0 := g.keeps y0
 have y1 := g.keeps y1
 have FC0 := Lib.hid (g.frozen C0.out FC0.out)
 have C0 := Lib.hid (g.keeps C0.out)
 have FC1 := Lib.hid (g.frozen C1.out FC1.out)
 have C1 := Lib.hid (g.keeps C1.out)
 have HSZ := Lib.hid (Nat.lt_of_lt_of_le HSZ.out g.size)
 have HG := Lib.hid (HG.out.trans g)
 clear hr g
 go_wp2_with fail
 refine (rvalid_any false s' _ (by omega)).mono ?_
 rintro e W ⟨r, rfl, hr, g⟩
 obtain rfl : r = true := hr.2 HF'.out
 have x0 := g.keeps x0
 have x1 := g.keeps x1
 have y0 := g.keeps y0
 have y1 := g.keeps y1
 have FC0 := Lib.hid (g.frozen C0.out FC0.out)
 have C0 := Lib.hid (g.keeps C0.out)
 have FC1 := Lib.hid (g.frozen C1.out FC1.out)
 have C1 := Lib.hid (g.keeps C1.out)
 have HSZ := Lib.hid (Nat.lt_of_lt_of_le HSZ.out g.size)
 have HG := Lib.hid (HG.out.trans g)
 clear hr g
 go_upto_region 3 with (fail)
 go_cut [6, 7] (fun s7 s8 wx => CutJ 130 129 (zOf neg s / zOf false s') (zOf neg s % zOf false s') W s7 s8 wx)
 case first =>
  refine wp_region_noPanic ?_
  refine rbal_region neg s false s' HF.out HF'.out HY2.out W _ _ x0 x1 y0 y1 _ _ _ _ _ _ _ _ _ _ _ _ _ _ _ _ _ _ _ _ _ _ _ _ _ _ _ _ _ _ _ _ _ _ _ _ _ _ _ (fun _ _ _ _ _ h => h) ?_
  intro s7 s8 u26 u27 u28 u29 u30 u31 u32 u33 wx hd
  refine NoPanic.normal ?_
  go_wp2_with fail
  go_meet
  exact hd
 case rest =>
  obtain ⟨P, T, nq, aq, kq, cq, nr, ar, kr, cr, rfl, rfl, hP, hT, p0, p1, t0, t1, ft0, ft1, hq, hr, g⟩ := hcut
  have hTC : w.heap.size + 1 + 1 < T := Nat.lt_of_lt_of_le HSZ.out hT
  have y0 := g.keeps y0
  have y1 := g.keeps y1
  have FC0 := Lib.hid (g.frozen C0.out FC0.out)
  have C0 := Lib.hid (g.keeps C0.out)
  have FC1 := Lib.hid (g.frozen C1.out FC1.out)
  have C1 := Lib.hid (g.keeps C1.out)
  have HG := Lib.hid (HG.out.trans g)
  have HR := Lib.hid hr
  have T0 := Lib.hid t0
  have T1 := Lib.hid t1
  have FT0 := Lib.hid ft0
  have FT1 := Lib.hid ft1
  clear g hq hr hP hT p0 p1 ft0 ft1
  obtain ⟨r, hre⟩ : ∃ r, r = zOf neg s % zOf false s' := ⟨_, rfl⟩
  rw [← hre] at HR
  have HRE := Lib.hid hre
  clear hre
  obtain ⟨cc, hcc⟩ : ∃ cc, cc = sgn (2 * r) (zOf false s') := ⟨_, rfl⟩
  have HCC := Lib.hid hcc
  have h2lt : (2 : Nat) < 4294967296 := by decide
  have h131 : 2 + 129 ≤ 90000 := by decide
  have h1310 : 131 ≤ 90000 := by decide
  have hwid : 129 ≤ 131 := by decide
  have n1 : ¬ (T = w.heap.size + 1 + 1) := by omega
  have n2 : ¬ (w.heap.size + 1 + 1 = T) := by omega
  have hcase : (cc > 0 ∧ zOf false s' < 2 * r) ∨ (¬ cc > 0 ∧ ¬ zOf false s' < 2 * r) := by
   rcases Int.lt_or_le (zOf false s') (2 * r) with h | h
   ·exact .inl ⟨by rw [hcc, sgn_gt h]; omega, h⟩
   ·refine .inr ⟨?_, by omega⟩
    rcases Int.lt_or_eq_of_le h with h | h
    ·rw [hcc, sgn_lt h]; omega
    ·rw [hcc, sgn_eq h]; omega
  clear hcc
  rcases hcase with ⟨hc, hlt⟩ | ⟨hc, hlt⟩
  all_goals
   have HLT := Lib.hid hlt
   clear hlt
   go_wp2_with fail
   go_region_held3 (fun w' => w'.cell? ⟨T, 0, none⟩ = some (.bool nr) ∧ w'.cell? ⟨T, 1, none⟩ = some (.slice ar kr cr) ∧ w'.cell? ⟨w.heap.size + 1, 0, none⟩ = some (.bool false) ∧ w'.cell? ⟨w.heap.size + 1, 1, none⟩ = some (.string s')) (first | exact ⟨t0, t1, y0, y1⟩ | go_keep)
    (first
     | (go_at_call 151; (with_reducible refine (rword_two _).mono ?_); rintro e w' ⟨a1, rfl, ha1, g⟩; have g := Gr.trans (show Gr wc wc.drew from Below.drew (Gr.refl wc)) g; have y0 := g.keeps y0; have y1 := g.keeps y1; have t0 := g.keeps t0; have t1 := g.keeps t1; have FT0 := Lib.hid (g.frozen T0.out FT0.out); have FT1 := Lib.hid (g.frozen T1.out FT1.out); have T0 := Lib.hid (g.keeps T0.out); have T1 := Lib.hid (g.keeps T1.out); have FC0 := Lib.hid (g.frozen C0.out FC0.out); have C0 := Lib.hid (g.keeps C0.out); have FC1 := Lib.hid (g.frozen C1.out FC1.out); have C1 := Lib.hid (g.keeps C1.out); have HR := Lib.hid (HR.out.later g); have HG := Lib.hid (HG.out.trans g); have HA := Lib.hid ha1; clear ha1 g)
     | (go_at_call 90; (with_reducible refine (rmul_any 2 129 _ _ _ _ _ HA.out HR.out h131).mono ?_); rintro e w' ⟨p3, rfl, hp3, g⟩; have y0 := g.keeps y0; have y1 := g.keeps y1; have t0 := g.keeps t0; have t1 := g.keeps t1; have FT0 := Lib.hid (g.frozen T0.out FT0.out); have FT1 := Lib.hid (g.frozen T1.out FT1.out); have T0 := Lib.hid (g.keeps T0.out); have T1 := Lib.hid (g.keeps T1.out); have FC0 := Lib.hid (g.frozen C0.out FC0.out); have C0 := Lib.hid (g.keeps C0.out); have FC1 := Lib.hid (g.frozen C1.out FC1.out); have C1 := Lib.hid (g.keeps C1.out); have HR := Lib.hid (HR.out.later g); have HG := Lib.hid (HG.out.trans g); have HP := Lib.hid hp3; clear hp3 g)
     | (go_at_call 89; (with_reducible refine (rin_129 false s' _ HF'.out).mono ?_); rintro e w' ⟨v4, rfl, hv4, g⟩; have y0 := g.keeps y0; have y1 := g.keeps y1; have t0 := g.keeps t0; have t1 := g.keeps t1; have FT0 := Lib.hid (g.frozen T0.out FT0.out); have FT1 := Lib.hid (g.frozen T1.out FT1.out); have T0 := Lib.hid (g.keeps T0.out); have T1 := Lib.hid (g.keeps T1.out); have FC0 := Lib.hid (g.frozen C0.out FC0.out); have C0 := Lib.hid (g.keeps C0.out); have FC1 := Lib.hid (g.frozen C1.out FC1.out); have C1 := Lib.hid (g.keeps C1.out); have HR := Lib.hid (HR.out.later g); have HG := Lib.hid (HG.out.trans g); have HP := Lib.hid (HP.out.later g); have HV4 := Lib.hid (hv4.wider hwid); clear hv4 g)
     | (go_at_call 126; (with_reducible refine (rcompare_any 131 _ _ _ _ _ HP.out HV4.out h1310).mono ?_); rintro e w' ⟨rfl, g⟩; have y0 := g.keeps y0; have y1 := g.keeps y1; have t0 := g.keeps t0; have t1 := g.keeps t1; have FT0 := Lib.hid (g.frozen T0.out FT0.out); have FT1 := Lib.hid (g.frozen T1.out FT1.out); have T0 := Lib.hid (g.keeps T0.out); have T1 := Lib.hid (g.keeps T1.out); have FC0 := Lib.hid (g.frozen C0.out FC0.out); have C0 := Lib.hid (g.keeps C0.out); have FC1 := Lib.hid (g.frozen C1.out FC1.out); have C1 := Lib.hid (g.keeps C1.out); have HR := Lib.hid (HR.out.later g); have HG := Lib.hid (HG.out.trans g); rw [← HCC.out]; clear g))
   go_wp2_with fail
  ·refine wp_region_noPanic ?_
   refine rbal5_region s' HF'.out r w _ T _ nr ar kr cr (by omega) HG.out y0 y1 ⟨by omega, T0.out, T1.out, FT0.out, FT1.out⟩ HR.out _ _ _ _ _ _ _ _ _ _ _ _ _ _ _ _ _ _ _ _ _ _ _ _ _ _ _ _ _ _ _ _ _ _ _ _ _ _ _ _ _ _ _ _ _ _ _ _ _ (fun _ _ _ _ _ h => h) ?_
   rintro u41 u42 u43 u44 u45 wx ⟨pn, pa, pk, pc, p0, p1, hp, hk, g⟩
   refine NoPanic.normal ?_
   have k0 := hk _ (fun e => n2 e) _ C0.out FC0.out
   have k1 := hk _ (fun e => n2 e) _ C1.out FC1.out
   have C0 := Lib.hid k0.1
   have FC0 := Lib.hid k0.2
   have C1 := Lib.hid k1.1
   have FC1 := Lib.hid k1.2
   have HP := Lib.hid hp
   have HG := Lib.hid g
   have HBAL := Lib.hid (show bal (zOf neg s) (zOf false s') = r + -(zOf false s') from by unfold bal; rw [← HRE.out, if_pos HLT.out]; omega)
   clear k0 k1 hk hp g t0 t1 y0 y1
   go_wp2_with fail
   refine (rout_any 130 _ _ _ HP.out (by omega)).mono ?_
   rintro e w6 ⟨rfl, g⟩
   have c0 := g.keeps C0.out
   have c1 := g.keeps C1.out
   have fc0 := g.frozen C0.out FC0.out
   have fc1 := g.frozen C1.out FC1.out
   have HG := Lib.hid (HG.out.trans g)
   clear g
   obtain ⟨q, hqe⟩ : ∃ q, q = r + -(zOf false s') := ⟨_, rfl⟩
   rw [← hqe]
   have HQE := Lib.hid (show bal (zOf neg s) (zOf false s') = q from by rw [HBAL.out, hqe])
   clear hqe
   go_wp2_with fail
   refine bodyPost_ret (v := .tuple #[.agg #[.bool (fNeg q), .string (fStr q)], .int .i64 (fErr q)]) (by simp [results, Tryz.results121, go_sem, c0, c1]) rfl ?_
   exact ⟨by rw [HQE.out], HG.out.put2 (by omega) _ _⟩
  ·refine (rout_any 129 _ _ _ HR.out (by omega)).mono ?_
   rintro e w6 ⟨rfl, g⟩
   have c0 := g.keeps C0.out
   have c1 := g.keeps C1.out
   have fc0 := g.frozen C0.out FC0.out
   have fc1 := g.frozen C1.out FC1.out
   have HG := Lib.hid (HG.out.trans g)
   have HQE := Lib.hid (show bal (zOf neg s) (zOf false s') = r from by unfold bal; rw [← HRE.out, if_neg (by have := HLT.out; omega)])
   clear g
   go_wp2_with fail
   refine bodyPost_ret (v := .tuple #[.agg #[.bool (fNeg r), .string (fStr r)], .int .i64 (fErr r)]) (by simp [results, Tryz.results121, go_sem, c0, c1]) rfl ?_
   exact ⟨by rw [HQE.out], HG.out.put2 (by omega) _ _⟩
end Go.Proofs.YtlfiakpmnkhcdaaGreat
namespace Go.Proofs.YtlfiakpmnkhcdaaGreat.Mo
open Go.RowKit
set_option linter.unusedVariables false
abbrev wbal (x y : Int) : Int := Go.Proofs.YtlfiakpmnkhcdaaGreat.bal x y
theorem bstr_ne {n : Nat} (h : n ≠ 0) : (bstr n).size ≠ 0 := by
 intro e
 have h1 : Ow.byt n = [] := List.length_eq_zero_iff.1 (by rw [← bstr_size]; exact e)
 have h2 := zOf_bstr (n : Int)
 have h3 : bstr (Int.natAbs (n : Int)) = ⟨#[]⟩ := by
  rw [Int.natAbs_natCast]; unfold bstr; rw [h1]
 rw [h3] at h2
 have h4 : decide ((n : Int) < 0) = false := by simp
 rw [h4] at h2
 have h5 : zOf false ⟨#[]⟩ = 0 := by
  have := zOf_bstr 0
  have h6 : bstr (Int.natAbs 0) = ⟨#[]⟩ := by unfold bstr; rw [show Ow.byt (Int.natAbs 0) = [] from Ow.byt_zero]
  rw [h6] at this
  simpa using this
 omega
theorem rwabs_any (x : Int) (w : World) (hx : InR x) : Calls Tryz.prog 84 #[wv x] w (fun e w' => e = .returned (.tuple #[wv (x.natAbs : Int), .int .i64 0]) ∧ Gr w w') := by
 refine (Go.Proofs.YtlfiakpmnkhcdaaGreat.rabs_ok _ _ w (form_bstr x hx)).mono ?_
 rintro e w' ⟨rfl, hg⟩
 refine ⟨?_, hg⟩
 have h : decide ((x.natAbs : Int) < 0) = false := by simp
 unfold wv
 rw [h, Int.natAbs_natCast]
theorem rwbal_any (neg : Bool) (s : ByteArray) (y : Int) (w : World) (hF : Form neg s) (hy : InR y) (h0 : 0 < y) (hb : InR (wbal (zOf neg s) y)) : Calls Tryz.prog 121 #[.agg #[.bool neg, .string s], wv y] w (fun e w' => e = .returned (.tuple #[wv (wbal (zOf neg s) y), .int .i64 0]) ∧ Gr w w') := by
 refine (Go.Proofs.YtlfiakpmnkhcdaaGreat.rbal_ok _ _ _ _ w hF (form_bstr y hy) (bstr_ne (by omega)) (by simp; omega)).mono ?_
 rintro e w' ⟨rfl, hg⟩
 rw [zOf_bstr, fNeg_in hb, fStr_in hb, fErr_in hb]
 exact ⟨rfl, hg⟩
theorem wbal_in {x y : Int} (h0 : 0 < y) : -y ≤ 2 * wbal x y ∧ 2 * wbal x y ≤ y := by
 have h1 := Int.emod_nonneg x (show y ≠ 0 by omega)
 have h2 := Int.emod_lt_of_pos x h0
 unfold wbal Go.Proofs.YtlfiakpmnkhcdaaGreat.bal
 split <;> omega
theorem wbal_dvd (x y : Int) : y ∣ wbal x y - x := by
 have h1 : y ∣ x % y - x := by
  have h := Int.emod_add_mul_ediv x y
  exact ⟨-(x / y), by rw [Int.mul_neg]; omega⟩
 unfold wbal Go.Proofs.YtlfiakpmnkhcdaaGreat.bal
 split
 ·have e : x % y - y - x = (x % y - x) - y := by omega
  rw [e]; exact Int.dvd_sub h1 (Int.dvd_refl y)
 ·exact h1
end Go.Proofs.YtlfiakpmnkhcdaaGreat.Mo
