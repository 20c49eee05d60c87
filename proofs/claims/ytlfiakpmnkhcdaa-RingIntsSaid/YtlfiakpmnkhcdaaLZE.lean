import Derived.Test.YtlfiakpmnkhcdaaLZD
namespace Go.Proofs.Ytlfiakpmnkhcdaa.Mo
open Go.RowKit
set_option linter.unusedVariables false
set_option linter.unusedSimpArgs false
def XC (W0 : World) (X : Nat) (z : Int) (w : World) : Prop := W0.heap.size ≤ X ∧ w.cell? ⟨X, 0, none⟩ = some (.bool (decide (z < 0))) ∧ w.cell? ⟨X, 1, none⟩ = some (.string (bstr z.natAbs)) ∧ w.frozen? ⟨X, 0, none⟩ = false ∧ w.frozen? ⟨X, 1, none⟩ = false
theorem XC.later {W0 : World} {X : Nat} {z : Int} {w w' : World} (h : XC W0 X z w) (g : Gr w w') : XC W0 X z w' :=
  ⟨h.1, g.keeps h.2.1, g.keeps h.2.2.1, (Below.frozen g (World.block_lt_of_cell? w _ h.2.1)).trans h.2.2.2.1, (Below.frozen g (World.block_lt_of_cell? w _ h.2.2.1)).trans h.2.2.2.2⟩
theorem xc_put {W : World} {B : Nat} {u0 u1 : Value} (h0 : W.cell? ⟨B, 0, none⟩ = some u0) (h1 : W.cell? ⟨B, 1, none⟩ = some u1) (a b : Value) :
    ((W.setCell ⟨B, 0, none⟩ a).setCell ⟨B, 1, none⟩ b).cell? ⟨B, 0, none⟩ = some a ∧ ((W.setCell ⟨B, 0, none⟩ a).setCell ⟨B, 1, none⟩ b).cell? ⟨B, 1, none⟩ = some b := put2 h0 h1 a b
theorem xc_frz (W : World) (p q r : Addr) (a b : Value) : ((W.setCell p a).setCell q b).frozen? r = W.frozen? r := by rw [Lo.frozen_set1, Lo.frozen_set1]
set_option maxRecDepth 100000 in
set_option maxHeartbeats 8000000 in
theorem join1_region (x : Int) (p : Int) (S n ca gx ox k : Nat) (W0 W : World) (X : Nat) (HK : isW (p)) (HX : InR x) (HKR : InR (p)) (HZ : InR (x * p))
    (i0 : (0 : Int) ≤ (k : Int)) (i1 : (k : Int) < (n : Int)) (y0 : W0.cell? ⟨S, 0, none⟩ = some (.slice (some ⟨gx, ox, none⟩) n ca)) (y1 : W0.cell? ⟨gx, ox + k, none⟩ = some (.int .u32 p)) (hG : Gr W0 W) (hX0 : XC W0 X x W)
    (v1 v2 v3 v4 v5 v6 v7 v10 v11 v12 v13 v14 v15 v16 v17 v18 v19 v20 v21 v22 v23 v24 v25 v26 v27 v28 v29 v30 v45 v46 v47 v48 v49 v50 v51 v52 v53 v54 v55 s31 s32 s33 s34 s35 s36 s37 s38 s39 s40 s41 s42 s43 s44 : Value) (Q : Exit → Act → World → Prop) (hQ : ∀ (d : Option Tmp) (v : Value) c a w, Q (.panic c) (a.put d v) w → Q (.panic c) a w)
    (hpost : ∀ u31 u32 u33 u34 u35 u36 u37 u38 u39 u40 u41 u42 u43 u44 wx, XC W0 X (x * p) wx → Gr W0 wx → Q .normal { tmps := List.toArray (.pointer (some ⟨S, 0, none⟩) :: v1 :: v2 :: v3 :: v4 :: v5 :: v6 :: v7 :: .pointer (some ⟨X, 0, none⟩) :: .int .i64 k :: v10 :: v11 :: v12 :: v13 :: v14 :: v15 :: v16 :: v17 :: v18 :: v19 :: v20 :: v21 :: v22 :: v23 :: v24 :: v25 :: v26 :: v27 :: v28 :: v29 :: v30 :: u31 :: u32 :: u33 :: u34 :: u35 :: u36 :: u37 :: u38 :: u39 :: u40 :: u41 :: u42 :: u43 :: u44 :: v45 :: v46 :: v47 :: v48 :: v49 :: v50 :: v51 :: v52 :: v53 :: v54 :: v55 :: ([] : List Value)), defers := [] } wx) :
    (Code.region 8 #[⟨some 32, .load 42 (.tmp 8), 42, "residue.go:70", #[], none⟩,
      ⟨some 33, .move (.tmp 0), 54, "residue.go:70", #[], none⟩,
      ⟨some 34, .nilCheck (.tmp 33), 0, "residue.go:70", #[⟨1, .data⟩], none⟩,
      ⟨some 35, .fieldAddr 79 (.tmp 34) 0, 0, "residue.go:70", #[⟨2, .data⟩], none⟩,
      ⟨some 36, .load 77 (.tmp 35), 77, "residue.go:70", #[⟨3, .data⟩], none⟩,
      ⟨some 37, .move (.tmp 9), 3, "residue.go:70", #[], none⟩,
      ⟨some 38, .indexAddr 77 (.tmp 36) (.tmp 37), 0, "residue.go:70", #[⟨4, .data⟩, ⟨5, .data⟩], none⟩,
      ⟨some 39, .load 22 (.tmp 38), 22, "residue.go:70", #[⟨6, .data⟩], none⟩,
      ⟨some 40, .convert 22 2 (.tmp 39), 2, "residue.go:70", #[⟨7, .data⟩], none⟩,
      ⟨some 41, .call ⟨.value (.func 25), #[.tmp 40], #[2]⟩, 42, "residue.go:70", #[⟨8, .data⟩], none⟩,
      ⟨some 42, .call ⟨.value (.func 41), #[.tmp 32, .tmp 41], #[42, 42]⟩, 45, "residue.go:70", #[⟨0, .data⟩, ⟨9, .data⟩, ⟨9, .chain⟩], none⟩,
      ⟨some 31, .move (.tmp 42), 45, "residue.go:70", #[⟨10, .data⟩], none⟩,
      ⟨some 43, .extract (.tmp 31) 0, 42, "residue.go:70", #[⟨11, .data⟩], none⟩,
      ⟨some 44, .extract (.tmp 31) 1, 34, "residue.go:70", #[⟨11, .data⟩, ⟨14, .gcOnly .lateStores⟩], none⟩,
      ⟨none, .store 42 (.tmp 8) (.tmp 43), 0, "residue.go:70", #[⟨12, .data⟩, ⟨10, .chain⟩, ⟨0, .phase⟩, ⟨1, .phase⟩, ⟨2, .phase⟩, ⟨3, .phase⟩, ⟨4, .phase⟩, ⟨5, .phase⟩, ⟨6, .phase⟩, ⟨7, .phase⟩, ⟨8, .phase⟩, ⟨9, .phase⟩, ⟨10, .phase⟩, ⟨11, .phase⟩, ⟨12, .phase⟩, ⟨13, .textOnly .lateStores⟩], none⟩] true).wp Try.prog Q { tmps := List.toArray (.pointer (some ⟨S, 0, none⟩) :: v1 :: v2 :: v3 :: v4 :: v5 :: v6 :: v7 :: .pointer (some ⟨X, 0, none⟩) :: .int .i64 k :: v10 :: v11 :: v12 :: v13 :: v14 :: v15 :: v16 :: v17 :: v18 :: v19 :: v20 :: v21 :: v22 :: v23 :: v24 :: v25 :: v26 :: v27 :: v28 :: v29 :: v30 :: s31 :: s32 :: s33 :: s34 :: s35 :: s36 :: s37 :: s38 :: s39 :: s40 :: s41 :: s42 :: s43 :: s44 :: v45 :: v46 :: v47 :: v48 :: v49 :: v50 :: v51 :: v52 :: v53 :: v54 :: v55 :: ([] : List Value)), defers := [] } W := by
  refine wp_region_held_drew (S := fun w' => w'.cell? ⟨S, 0, none⟩ = some (.slice (some ⟨gx, ox, none⟩) n ca) ∧ w'.cell? ⟨gx, ox + k, none⟩ = some (.int .u32 p) ∧ Gr W0 w') (by kernel_rfl) (have g : Gr W0 W.drew := hG.drew; ⟨(g).keeps y0, (g).keeps y1, g⟩) (fun hHeld => ?_)
  have hw : IntKind.i64.wrap (p) = p := IntWalk.i64_in _ (by have a := HK.1; have b := HK.2; omega)
  refine chain_any (fun G out inn => ?_)
  have st12 : ∀ (w : World), (fun w' => w'.cell? ⟨S, 0, none⟩ = some (.slice (some ⟨gx, ox, none⟩) n ca) ∧ w'.cell? ⟨gx, ox + k, none⟩ = some (.int .u32 p) ∧ Gr W0 w') w → XC W0 X x w → G 1 #[true, true, true, true, true, true, true, true, true, true, true, true, true, true, false] { tmps := List.toArray (.pointer (some ⟨S, 0, none⟩) :: v1 :: v2 :: v3 :: v4 :: v5 :: v6 :: v7 :: .pointer (some ⟨X, 0, none⟩) :: .int .i64 k :: v10 :: v11 :: v12 :: v13 :: v14 :: v15 :: v16 :: v17 :: v18 :: v19 :: v20 :: v21 :: v22 :: v23 :: v24 :: v25 :: v26 :: v27 :: v28 :: v29 :: v30 :: .tuple #[wv (x * p), .int .i64 0] :: wv x :: .pointer (some ⟨S, 0, none⟩) :: .pointer (some ⟨S, 0, none⟩) :: .pointer (some ⟨S, 0, none⟩) :: .slice (some ⟨gx, ox, none⟩) n ca :: .int .i64 k :: .pointer (some ⟨gx, ox + k, none⟩) :: .int .u32 p :: .int .i64 p :: wv (p) :: .tuple #[wv (x * p), .int .i64 0] :: wv (x * p) :: .int .i64 0 :: v45 :: v46 :: v47 :: v48 :: v49 :: v50 :: v51 :: v52 :: v53 :: v54 :: v55 :: ([] : List Value)), defers := [] } w := by
    intro w hS hX
    refine inn _ _ _ _ ?_
    obtain ⟨l7, c0, c1, z0, z1⟩ := hX
    refine wpAnyH_ready (rs := [14]) (by kernel_rfl) (by simp) ?_
    refine AllReadyH.cons (o := ⟨none, .store 42 (.tmp 8) (.tmp 43), 0, "residue.go:70", #[⟨12, .data⟩, ⟨10, .chain⟩, ⟨0, .phase⟩, ⟨1, .phase⟩, ⟨2, .phase⟩, ⟨3, .phase⟩, ⟨4, .phase⟩, ⟨5, .phase⟩, ⟨6, .phase⟩, ⟨7, .phase⟩, ⟨8, .phase⟩, ⟨9, .phase⟩, ⟨10, .phase⟩, ⟨11, .phase⟩, ⟨12, .phase⟩, ⟨13, .textOnly .lateStores⟩], none⟩) rfl (fun K hK => ?_) AllReadyH.nil
    unfold wv
    go_simp
    have g2 : Gr W0 ((w.setCell ⟨X, 0, none⟩ (.bool (decide (x * p < 0)))).setCell ⟨X, 1, none⟩ (.string (bstr (x * p).natAbs))) := (hS.2.2.setCell (p := ⟨X, 0, none⟩) l7 _).setCell (p := ⟨X, 1, none⟩) l7 _
    refine hK.out _ _ ⟨(g2).keeps y0, (g2).keeps y1, g2⟩ (fun hHeld => ?_)
    clear hK K
    (simp only [Act.put, List.setIfInBounds_toArray, List.set_cons_zero, List.set_cons_succ])
    refine wpAnyH_done (by kernel_rfl) ?_ _
    exact hpost _ _ _ _ _ _ _ _ _ _ _ _ _ _ _ ⟨l7, (xc_put c0 c1 _ _).1, (xc_put c0 c1 _ _).2, (xc_frz _ _ _ _ _ _).trans z0, (xc_frz _ _ _ _ _ _).trans z1⟩ g2
  have st11 : ∀ (w : World), (fun w' => w'.cell? ⟨S, 0, none⟩ = some (.slice (some ⟨gx, ox, none⟩) n ca) ∧ w'.cell? ⟨gx, ox + k, none⟩ = some (.int .u32 p) ∧ Gr W0 w') w → XC W0 X x w → G 5 #[true, true, true, true, true, true, true, true, true, true, false, false, false, false, false] { tmps := List.toArray (.pointer (some ⟨S, 0, none⟩) :: v1 :: v2 :: v3 :: v4 :: v5 :: v6 :: v7 :: .pointer (some ⟨X, 0, none⟩) :: .int .i64 k :: v10 :: v11 :: v12 :: v13 :: v14 :: v15 :: v16 :: v17 :: v18 :: v19 :: v20 :: v21 :: v22 :: v23 :: v24 :: v25 :: v26 :: v27 :: v28 :: v29 :: v30 :: s31 :: wv x :: .pointer (some ⟨S, 0, none⟩) :: .pointer (some ⟨S, 0, none⟩) :: .pointer (some ⟨S, 0, none⟩) :: .slice (some ⟨gx, ox, none⟩) n ca :: .int .i64 k :: .pointer (some ⟨gx, ox + k, none⟩) :: .int .u32 p :: .int .i64 p :: wv (p) :: s42 :: s43 :: s44 :: v45 :: v46 :: v47 :: v48 :: v49 :: v50 :: v51 :: v52 :: v53 :: v54 :: v55 :: ([] : List Value)), defers := [] } w := by
    intro w hS hX
    refine inn _ _ _ _ ?_
    refine wpAnyH_ready (rs := [10]) (by kernel_rfl) (by simp) ?_
    refine AllReadyH.cons (o := ⟨some 42, .call ⟨.value (.func 41), #[.tmp 32, .tmp 41], #[42, 42]⟩, 45, "residue.go:70", #[⟨0, .data⟩, ⟨9, .data⟩, ⟨9, .chain⟩], none⟩) rfl (fun K hK => ?_) ?_
    · go_simp
      go_at_call 41
      refine (wmul_any x (p) _ HX HKR HZ).mono ?_
      rintro e w' ⟨rfl, g⟩
      go_wp2_with fail
      have g2 := hS.2.2.trans g
      refine hK.out _ _ ⟨(g2).keeps y0, (g2).keeps y1, g2⟩ (fun hHeld => ?_)
      (simp only [Act.put, List.setIfInBounds_toArray, List.set_cons_zero, List.set_cons_succ])
      refine wpAnyH_take (i := 11) (oi := ⟨some 31, .move (.tmp 42), 45, "residue.go:70", #[⟨10, .data⟩], none⟩) (v := ?_) rfl (by kernel_rfl) (by kernel_rfl) (by kernel_rfl) (hQ _ _) (_root_.Or.inl ⟨by rfl, ?_⟩) (by assumption) ?_
      rotate_left
      · intro w0 hSw; (try dsimp only at hSw); go_simp; try with_reducible rfl
      (simp only [Act.put, List.setIfInBounds_toArray, List.set_cons_zero, List.set_cons_succ])
      refine wpAnyH_take (i := 12) (oi := ⟨some 43, .extract (.tmp 31) 0, 42, "residue.go:70", #[⟨11, .data⟩], none⟩) (v := ?_) rfl (by kernel_rfl) (by kernel_rfl) (by kernel_rfl) (hQ _ _) (_root_.Or.inl ⟨by rfl, ?_⟩) (by assumption) ?_
      rotate_left
      · intro w0 hSw; (try dsimp only at hSw); go_simp; try with_reducible rfl
      (simp only [Act.put, List.setIfInBounds_toArray, List.set_cons_zero, List.set_cons_succ])
      refine wpAnyH_take (i := 13) (oi := ⟨some 44, .extract (.tmp 31) 1, 34, "residue.go:70", #[⟨11, .data⟩, ⟨14, .gcOnly .lateStores⟩], none⟩) (v := ?_) rfl (by kernel_rfl) (by kernel_rfl) (by kernel_rfl) (hQ _ _) (_root_.Or.inl ⟨by rfl, ?_⟩) (by assumption) ?_
      rotate_left
      · intro w0 hSw; (try dsimp only at hSw); go_simp; try with_reducible rfl
      (simp only [Act.put, List.setIfInBounds_toArray, List.set_cons_zero, List.set_cons_succ])
      exact out _ _ _ _ (st12 _ hHeld (hX.later g))
    exact AllReadyH.nil
  have st01 : ∀ (w : World), (fun w' => w'.cell? ⟨S, 0, none⟩ = some (.slice (some ⟨gx, ox, none⟩) n ca) ∧ w'.cell? ⟨gx, ox + k, none⟩ = some (.int .u32 p) ∧ Gr W0 w') w → XC W0 X x w → G 6 #[false, true, true, true, true, true, true, true, true, true, false, false, false, false, false] { tmps := List.toArray (.pointer (some ⟨S, 0, none⟩) :: v1 :: v2 :: v3 :: v4 :: v5 :: v6 :: v7 :: .pointer (some ⟨X, 0, none⟩) :: .int .i64 k :: v10 :: v11 :: v12 :: v13 :: v14 :: v15 :: v16 :: v17 :: v18 :: v19 :: v20 :: v21 :: v22 :: v23 :: v24 :: v25 :: v26 :: v27 :: v28 :: v29 :: v30 :: s31 :: s32 :: .pointer (some ⟨S, 0, none⟩) :: .pointer (some ⟨S, 0, none⟩) :: .pointer (some ⟨S, 0, none⟩) :: .slice (some ⟨gx, ox, none⟩) n ca :: .int .i64 k :: .pointer (some ⟨gx, ox + k, none⟩) :: .int .u32 p :: .int .i64 p :: wv (p) :: s42 :: s43 :: s44 :: v45 :: v46 :: v47 :: v48 :: v49 :: v50 :: v51 :: v52 :: v53 :: v54 :: v55 :: ([] : List Value)), defers := [] } w := by
    intro w hS hX
    refine inn _ _ _ _ ?_
    refine wpAnyH_ready (rs := [0]) (by kernel_rfl) (by simp) ?_
    refine AllReadyH.cons (o := ⟨some 32, .load 42 (.tmp 8), 42, "residue.go:70", #[], none⟩) rfl (fun K hK => ?_) ?_
    · obtain ⟨l7, c0, c1, z0, z1⟩ := id hX
      go_simp
      refine hK.out _ _ hS (fun hHeld => ?_)
      (simp only [Act.put, List.setIfInBounds_toArray, List.set_cons_zero, List.set_cons_succ])
      exact out _ _ _ _ (st11 _ hHeld hX)
    exact AllReadyH.nil
  have st10 : ∀ (w : World), (fun w' => w'.cell? ⟨S, 0, none⟩ = some (.slice (some ⟨gx, ox, none⟩) n ca) ∧ w'.cell? ⟨gx, ox + k, none⟩ = some (.int .u32 p) ∧ Gr W0 w') w → XC W0 X x w → G 6 #[true, true, true, true, true, true, true, true, true, false, false, false, false, false, false] { tmps := List.toArray (.pointer (some ⟨S, 0, none⟩) :: v1 :: v2 :: v3 :: v4 :: v5 :: v6 :: v7 :: .pointer (some ⟨X, 0, none⟩) :: .int .i64 k :: v10 :: v11 :: v12 :: v13 :: v14 :: v15 :: v16 :: v17 :: v18 :: v19 :: v20 :: v21 :: v22 :: v23 :: v24 :: v25 :: v26 :: v27 :: v28 :: v29 :: v30 :: s31 :: wv x :: .pointer (some ⟨S, 0, none⟩) :: .pointer (some ⟨S, 0, none⟩) :: .pointer (some ⟨S, 0, none⟩) :: .slice (some ⟨gx, ox, none⟩) n ca :: .int .i64 k :: .pointer (some ⟨gx, ox + k, none⟩) :: .int .u32 p :: .int .i64 p :: s41 :: s42 :: s43 :: s44 :: v45 :: v46 :: v47 :: v48 :: v49 :: v50 :: v51 :: v52 :: v53 :: v54 :: v55 :: ([] : List Value)), defers := [] } w := by
    intro w hS hX
    refine inn _ _ _ _ ?_
    refine wpAnyH_ready (rs := [9]) (by kernel_rfl) (by simp) ?_
    refine AllReadyH.cons (o := ⟨some 41, .call ⟨.value (.func 25), #[.tmp 40], #[2]⟩, 42, "residue.go:70", #[⟨8, .data⟩], none⟩) rfl (fun K hK => ?_) ?_
    · go_simp
      go_at_call 25
      refine (wof_any (p) _ HK).mono ?_
      rintro e w' ⟨rfl, g⟩
      go_wp2_with fail
      have g2 := hS.2.2.trans g
      refine hK.out _ _ ⟨(g2).keeps y0, (g2).keeps y1, g2⟩ (fun hHeld => ?_)
      (simp only [Act.put, List.setIfInBounds_toArray, List.set_cons_zero, List.set_cons_succ])
      exact out _ _ _ _ (st11 _ hHeld (hX.later g))
    exact AllReadyH.nil
  have st00 : ∀ (w : World), (fun w' => w'.cell? ⟨S, 0, none⟩ = some (.slice (some ⟨gx, ox, none⟩) n ca) ∧ w'.cell? ⟨gx, ox + k, none⟩ = some (.int .u32 p) ∧ Gr W0 w') w → XC W0 X x w → G 7 #[false, true, true, true, true, true, true, true, true, false, false, false, false, false, false] { tmps := List.toArray (.pointer (some ⟨S, 0, none⟩) :: v1 :: v2 :: v3 :: v4 :: v5 :: v6 :: v7 :: .pointer (some ⟨X, 0, none⟩) :: .int .i64 k :: v10 :: v11 :: v12 :: v13 :: v14 :: v15 :: v16 :: v17 :: v18 :: v19 :: v20 :: v21 :: v22 :: v23 :: v24 :: v25 :: v26 :: v27 :: v28 :: v29 :: v30 :: s31 :: s32 :: .pointer (some ⟨S, 0, none⟩) :: .pointer (some ⟨S, 0, none⟩) :: .pointer (some ⟨S, 0, none⟩) :: .slice (some ⟨gx, ox, none⟩) n ca :: .int .i64 k :: .pointer (some ⟨gx, ox + k, none⟩) :: .int .u32 p :: .int .i64 p :: s41 :: s42 :: s43 :: s44 :: v45 :: v46 :: v47 :: v48 :: v49 :: v50 :: v51 :: v52 :: v53 :: v54 :: v55 :: ([] : List Value)), defers := [] } w := by
    intro w hS hX
    refine inn _ _ _ _ ?_
    refine wpAnyH_ready (rs := [0, 9]) (by kernel_rfl) (by simp) ?_
    refine AllReadyH.cons (o := ⟨some 32, .load 42 (.tmp 8), 42, "residue.go:70", #[], none⟩) rfl (fun K hK => ?_) ?_
    · obtain ⟨l7, c0, c1, z0, z1⟩ := id hX
      go_simp
      refine hK.out _ _ hS (fun hHeld => ?_)
      (simp only [Act.put, List.setIfInBounds_toArray, List.set_cons_zero, List.set_cons_succ])
      exact out _ _ _ _ (st10 _ hHeld hX)
    refine AllReadyH.cons (o := ⟨some 41, .call ⟨.value (.func 25), #[.tmp 40], #[2]⟩, 42, "residue.go:70", #[⟨8, .data⟩], none⟩) rfl (fun K hK => ?_) ?_
    · go_simp
      go_at_call 25
      refine (wof_any (p) _ HK).mono ?_
      rintro e w' ⟨rfl, g⟩
      go_wp2_with fail
      have g2 := hS.2.2.trans g
      refine hK.out _ _ ⟨(g2).keeps y0, (g2).keeps y1, g2⟩ (fun hHeld => ?_)
      (simp only [Act.put, List.setIfInBounds_toArray, List.set_cons_zero, List.set_cons_succ])
      exact out _ _ _ _ (st01 _ hHeld (hX.later g))
    exact AllReadyH.nil
  show wpAnyH _ _ _ _ _ 15 #[false, false, false, false, false, false, false, false, false, false, false, false, false, false, false] _ _
  refine wpAnyH_take (i := 1) (oi := ⟨some 33, .move (.tmp 0), 54, "residue.go:70", #[], none⟩) (v := ?_) rfl (by kernel_rfl) (by kernel_rfl) (by kernel_rfl) (hQ _ _) (_root_.Or.inl ⟨by rfl, ?_⟩) (by assumption) ?_
  rotate_left
  · intro w0 hSw; (try dsimp only at hSw); go_simp; try with_reducible rfl
  (simp only [Act.put, List.setIfInBounds_toArray, List.set_cons_zero, List.set_cons_succ])
  refine wpAnyH_take (i := 2) (oi := ⟨some 34, .nilCheck (.tmp 33), 0, "residue.go:70", #[⟨1, .data⟩], none⟩) (v := ?_) rfl (by kernel_rfl) (by kernel_rfl) (by kernel_rfl) (hQ _ _) (_root_.Or.inl ⟨by rfl, ?_⟩) (by assumption) ?_
  rotate_left
  · intro w0 hSw; (try dsimp only at hSw); go_simp; try with_reducible rfl
  (simp only [Act.put, List.setIfInBounds_toArray, List.set_cons_zero, List.set_cons_succ])
  refine wpAnyH_take (i := 3) (oi := ⟨some 35, .fieldAddr 79 (.tmp 34) 0, 0, "residue.go:70", #[⟨2, .data⟩], none⟩) (v := ?_) rfl (by kernel_rfl) (by kernel_rfl) (by kernel_rfl) (hQ _ _) (_root_.Or.inl ⟨by rfl, ?_⟩) (by assumption) ?_
  rotate_left
  · intro w0 hSw; (try dsimp only at hSw); go_simp; try with_reducible rfl
  (simp only [Act.put, List.setIfInBounds_toArray, List.set_cons_zero, List.set_cons_succ])
  refine wpAnyH_take (i := 4) (oi := ⟨some 36, .load 77 (.tmp 35), 77, "residue.go:70", #[⟨3, .data⟩], none⟩) (v := ?_) rfl (by kernel_rfl) (by kernel_rfl) (by kernel_rfl) (hQ _ _) (_root_.Or.inl ⟨by rfl, ?_⟩) (by assumption) ?_
  rotate_left
  · intro w0 hSw; (try dsimp only at hSw); go_simp; try with_reducible rfl
  (simp only [Act.put, List.setIfInBounds_toArray, List.set_cons_zero, List.set_cons_succ])
  refine wpAnyH_take (i := 5) (oi := ⟨some 37, .move (.tmp 9), 3, "residue.go:70", #[], none⟩) (v := ?_) rfl (by kernel_rfl) (by kernel_rfl) (by kernel_rfl) (hQ _ _) (_root_.Or.inl ⟨by rfl, ?_⟩) (by assumption) ?_
  rotate_left
  · intro w0 hSw; (try dsimp only at hSw); go_simp; try with_reducible rfl
  (simp only [Act.put, List.setIfInBounds_toArray, List.set_cons_zero, List.set_cons_succ])
  refine wpAnyH_take (i := 6) (oi := ⟨some 38, .indexAddr 77 (.tmp 36) (.tmp 37), 0, "residue.go:70", #[⟨4, .data⟩, ⟨5, .data⟩], none⟩) (v := ?_) rfl (by kernel_rfl) (by kernel_rfl) (by kernel_rfl) (hQ _ _) (_root_.Or.inl ⟨by rfl, ?_⟩) (by assumption) ?_
  rotate_left
  · intro w0 hSw; (try dsimp only at hSw); go_simp; try with_reducible rfl
  (simp only [Act.put, List.setIfInBounds_toArray, List.set_cons_zero, List.set_cons_succ])
  refine wpAnyH_take (i := 7) (oi := ⟨some 39, .load 22 (.tmp 38), 22, "residue.go:70", #[⟨6, .data⟩], none⟩) (v := ?_) rfl (by kernel_rfl) (by kernel_rfl) (by kernel_rfl) (hQ _ _) (_root_.Or.inl ⟨by rfl, ?_⟩) (by assumption) ?_
  rotate_left
  · intro w0 hSw; (try dsimp only at hSw); go_simp; try with_reducible rfl
  (simp only [Act.put, List.setIfInBounds_toArray, List.set_cons_zero, List.set_cons_succ])
  refine wpAnyH_take (i := 8) (oi := ⟨some 40, .convert 22 2 (.tmp 39), 2, "residue.go:70", #[⟨7, .data⟩], none⟩) (v := ?_) rfl (by kernel_rfl) (by kernel_rfl) (by kernel_rfl) (hQ _ _) (_root_.Or.inl ⟨by rfl, ?_⟩) (by assumption) ?_
  rotate_left
  · intro w0 hSw; (try dsimp only at hSw); go_simp; try with_reducible rfl
  (simp only [Act.put, List.setIfInBounds_toArray, List.set_cons_zero, List.set_cons_succ])
  try rw [hw]
  exact out _ _ _ _ (st00 _ hHeld (hX0.later (Gr.refl W).drew))
set_option maxRecDepth 100000 in
set_option maxHeartbeats 8000000 in
theorem join2_region (x : Int) (d : Int) (n ca gx ox k : Nat) (W0 W : World) (X : Nat) (HK : isW (d)) (HX : InR x) (HKR : InR (d)) (HZ : InR (x + d))
    (i0 : (0 : Int) ≤ (k : Int)) (i1 : (k : Int) < (n : Int)) (y1 : W0.cell? ⟨gx, ox + k, none⟩ = some (.int .i64 d)) (hG : Gr W0 W) (hX0 : XC W0 X x W)
    (v0 v1 v2 v3 v4 v5 v6 v10 v11 v12 v13 v14 v15 v16 v17 v18 v19 v20 v21 v22 v23 v24 v25 v26 v27 v28 v29 v30 v31 v32 v33 v34 v35 v36 v37 v38 v39 v40 v41 v42 v43 v44 v55 s45 s46 s47 s48 s49 s50 s51 s52 s53 s54 : Value) (Q : Exit → Act → World → Prop) (hQ : ∀ (d : Option Tmp) (v : Value) c a w, Q (.panic c) (a.put d v) w → Q (.panic c) a w)
    (hpost : ∀ u45 u46 u47 u48 u49 u50 u51 u52 u53 u54 wx, XC W0 X (x + d) wx → Gr W0 wx → Q .normal { tmps := List.toArray (v0 :: v1 :: v2 :: v3 :: v4 :: v5 :: v6 :: .slice (some ⟨gx, ox, none⟩) n ca :: .pointer (some ⟨X, 0, none⟩) :: .int .i64 k :: v10 :: v11 :: v12 :: v13 :: v14 :: v15 :: v16 :: v17 :: v18 :: v19 :: v20 :: v21 :: v22 :: v23 :: v24 :: v25 :: v26 :: v27 :: v28 :: v29 :: v30 :: v31 :: v32 :: v33 :: v34 :: v35 :: v36 :: v37 :: v38 :: v39 :: v40 :: v41 :: v42 :: v43 :: v44 :: u45 :: u46 :: u47 :: u48 :: u49 :: u50 :: u51 :: u52 :: u53 :: u54 :: v55 :: ([] : List Value)), defers := [] } wx) :
    (Code.region 9 #[⟨some 46, .load 42 (.tmp 8), 42, "residue.go:71", #[], none⟩,
      ⟨some 47, .move (.tmp 7), 29, "residue.go:71", #[], none⟩,
      ⟨some 48, .move (.tmp 9), 3, "residue.go:71", #[], none⟩,
      ⟨some 49, .indexAddr 29 (.tmp 47) (.tmp 48), 0, "residue.go:71", #[⟨1, .data⟩, ⟨2, .data⟩], none⟩,
      ⟨some 50, .load 2 (.tmp 49), 2, "residue.go:71", #[⟨3, .data⟩], none⟩,
      ⟨some 51, .call ⟨.value (.func 25), #[.tmp 50], #[2]⟩, 42, "residue.go:71", #[⟨4, .data⟩], none⟩,
      ⟨some 52, .call ⟨.value (.func 42), #[.tmp 46, .tmp 51], #[42, 42]⟩, 45, "residue.go:71", #[⟨0, .data⟩, ⟨5, .data⟩, ⟨5, .chain⟩], none⟩,
      ⟨some 45, .move (.tmp 52), 45, "residue.go:71", #[⟨6, .data⟩], none⟩,
      ⟨some 53, .extract (.tmp 45) 0, 42, "residue.go:71", #[⟨7, .data⟩], none⟩,
      ⟨some 54, .extract (.tmp 45) 1, 34, "residue.go:71", #[⟨7, .data⟩, ⟨10, .gcOnly .lateStores⟩], none⟩,
      ⟨none, .store 42 (.tmp 8) (.tmp 53), 0, "residue.go:71", #[⟨8, .data⟩, ⟨6, .chain⟩, ⟨0, .phase⟩, ⟨1, .phase⟩, ⟨2, .phase⟩, ⟨3, .phase⟩, ⟨4, .phase⟩, ⟨5, .phase⟩, ⟨6, .phase⟩, ⟨7, .phase⟩, ⟨8, .phase⟩, ⟨9, .textOnly .lateStores⟩], none⟩] true).wp Try.prog Q { tmps := List.toArray (v0 :: v1 :: v2 :: v3 :: v4 :: v5 :: v6 :: .slice (some ⟨gx, ox, none⟩) n ca :: .pointer (some ⟨X, 0, none⟩) :: .int .i64 k :: v10 :: v11 :: v12 :: v13 :: v14 :: v15 :: v16 :: v17 :: v18 :: v19 :: v20 :: v21 :: v22 :: v23 :: v24 :: v25 :: v26 :: v27 :: v28 :: v29 :: v30 :: v31 :: v32 :: v33 :: v34 :: v35 :: v36 :: v37 :: v38 :: v39 :: v40 :: v41 :: v42 :: v43 :: v44 :: s45 :: s46 :: s47 :: s48 :: s49 :: s50 :: s51 :: s52 :: s53 :: s54 :: v55 :: ([] : List Value)), defers := [] } W := by
  refine wp_region_held_drew (S := fun w' => w'.cell? ⟨gx, ox + k, none⟩ = some (.int .i64 d) ∧ Gr W0 w') (by kernel_rfl) (have g : Gr W0 W.drew := hG.drew; ⟨(g).keeps y1, g⟩) (fun hHeld => ?_)
  have hw : IntKind.i64.wrap (d) = d := IntWalk.i64_in _ (by have a := HK.1; have b := HK.2; omega)
  refine chain_any (fun G out inn => ?_)
  have st12 : ∀ (w : World), (fun w' => w'.cell? ⟨gx, ox + k, none⟩ = some (.int .i64 d) ∧ Gr W0 w') w → XC W0 X x w → G 1 #[true, true, true, true, true, true, true, true, true, true, false] { tmps := List.toArray (v0 :: v1 :: v2 :: v3 :: v4 :: v5 :: v6 :: .slice (some ⟨gx, ox, none⟩) n ca :: .pointer (some ⟨X, 0, none⟩) :: .int .i64 k :: v10 :: v11 :: v12 :: v13 :: v14 :: v15 :: v16 :: v17 :: v18 :: v19 :: v20 :: v21 :: v22 :: v23 :: v24 :: v25 :: v26 :: v27 :: v28 :: v29 :: v30 :: v31 :: v32 :: v33 :: v34 :: v35 :: v36 :: v37 :: v38 :: v39 :: v40 :: v41 :: v42 :: v43 :: v44 :: .tuple #[wv (x + d), .int .i64 0] :: wv x :: .slice (some ⟨gx, ox, none⟩) n ca :: .int .i64 k :: .pointer (some ⟨gx, ox + k, none⟩) :: .int .i64 d :: wv (d) :: .tuple #[wv (x + d), .int .i64 0] :: wv (x + d) :: .int .i64 0 :: v55 :: ([] : List Value)), defers := [] } w := by
    intro w hS hX
    refine inn _ _ _ _ ?_
    obtain ⟨l7, c0, c1, z0, z1⟩ := hX
    refine wpAnyH_ready (rs := [10]) (by kernel_rfl) (by simp) ?_
    refine AllReadyH.cons (o := ⟨none, .store 42 (.tmp 8) (.tmp 53), 0, "residue.go:71", #[⟨8, .data⟩, ⟨6, .chain⟩, ⟨0, .phase⟩, ⟨1, .phase⟩, ⟨2, .phase⟩, ⟨3, .phase⟩, ⟨4, .phase⟩, ⟨5, .phase⟩, ⟨6, .phase⟩, ⟨7, .phase⟩, ⟨8, .phase⟩, ⟨9, .textOnly .lateStores⟩], none⟩) rfl (fun K hK => ?_) AllReadyH.nil
    unfold wv
    go_simp
    have g2 : Gr W0 ((w.setCell ⟨X, 0, none⟩ (.bool (decide (x + d < 0)))).setCell ⟨X, 1, none⟩ (.string (bstr (x + d).natAbs))) := (hS.2.setCell (p := ⟨X, 0, none⟩) l7 _).setCell (p := ⟨X, 1, none⟩) l7 _
    refine hK.out _ _ ⟨(g2).keeps y1, g2⟩ (fun hHeld => ?_)
    clear hK K
    (simp only [Act.put, List.setIfInBounds_toArray, List.set_cons_zero, List.set_cons_succ])
    refine wpAnyH_done (by kernel_rfl) ?_ _
    exact hpost _ _ _ _ _ _ _ _ _ _ _ ⟨l7, (xc_put c0 c1 _ _).1, (xc_put c0 c1 _ _).2, (xc_frz _ _ _ _ _ _).trans z0, (xc_frz _ _ _ _ _ _).trans z1⟩ g2
  have st11 : ∀ (w : World), (fun w' => w'.cell? ⟨gx, ox + k, none⟩ = some (.int .i64 d) ∧ Gr W0 w') w → XC W0 X x w → G 5 #[true, true, true, true, true, true, false, false, false, false, false] { tmps := List.toArray (v0 :: v1 :: v2 :: v3 :: v4 :: v5 :: v6 :: .slice (some ⟨gx, ox, none⟩) n ca :: .pointer (some ⟨X, 0, none⟩) :: .int .i64 k :: v10 :: v11 :: v12 :: v13 :: v14 :: v15 :: v16 :: v17 :: v18 :: v19 :: v20 :: v21 :: v22 :: v23 :: v24 :: v25 :: v26 :: v27 :: v28 :: v29 :: v30 :: v31 :: v32 :: v33 :: v34 :: v35 :: v36 :: v37 :: v38 :: v39 :: v40 :: v41 :: v42 :: v43 :: v44 :: s45 :: wv x :: .slice (some ⟨gx, ox, none⟩) n ca :: .int .i64 k :: .pointer (some ⟨gx, ox + k, none⟩) :: .int .i64 d :: wv (d) :: s52 :: s53 :: s54 :: v55 :: ([] : List Value)), defers := [] } w := by
    intro w hS hX
    refine inn _ _ _ _ ?_
    refine wpAnyH_ready (rs := [6]) (by kernel_rfl) (by simp) ?_
    refine AllReadyH.cons (o := ⟨some 52, .call ⟨.value (.func 42), #[.tmp 46, .tmp 51], #[42, 42]⟩, 45, "residue.go:71", #[⟨0, .data⟩, ⟨5, .data⟩, ⟨5, .chain⟩], none⟩) rfl (fun K hK => ?_) ?_
    · go_simp
      go_at_call 42
      refine (wadd_any x (d) _ HX HKR HZ).mono ?_
      rintro e w' ⟨rfl, g⟩
      go_wp2_with fail
      have g2 := hS.2.trans g
      refine hK.out _ _ ⟨(g2).keeps y1, g2⟩ (fun hHeld => ?_)
      (simp only [Act.put, List.setIfInBounds_toArray, List.set_cons_zero, List.set_cons_succ])
      refine wpAnyH_take (i := 7) (oi := ⟨some 45, .move (.tmp 52), 45, "residue.go:71", #[⟨6, .data⟩], none⟩) (v := ?_) rfl (by kernel_rfl) (by kernel_rfl) (by kernel_rfl) (hQ _ _) (_root_.Or.inl ⟨by rfl, ?_⟩) (by assumption) ?_
      rotate_left
      · intro w0 hSw; (try dsimp only at hSw); go_simp; try with_reducible rfl
      (simp only [Act.put, List.setIfInBounds_toArray, List.set_cons_zero, List.set_cons_succ])
      refine wpAnyH_take (i := 8) (oi := ⟨some 53, .extract (.tmp 45) 0, 42, "residue.go:71", #[⟨7, .data⟩], none⟩) (v := ?_) rfl (by kernel_rfl) (by kernel_rfl) (by kernel_rfl) (hQ _ _) (_root_.Or.inl ⟨by rfl, ?_⟩) (by assumption) ?_
      rotate_left
      · intro w0 hSw; (try dsimp only at hSw); go_simp; try with_reducible rfl
      (simp only [Act.put, List.setIfInBounds_toArray, List.set_cons_zero, List.set_cons_succ])
      refine wpAnyH_take (i := 9) (oi := ⟨some 54, .extract (.tmp 45) 1, 34, "residue.go:71", #[⟨7, .data⟩, ⟨10, .gcOnly .lateStores⟩], none⟩) (v := ?_) rfl (by kernel_rfl) (by kernel_rfl) (by kernel_rfl) (hQ _ _) (_root_.Or.inl ⟨by rfl, ?_⟩) (by assumption) ?_
      rotate_left
      · intro w0 hSw; (try dsimp only at hSw); go_simp; try with_reducible rfl
      (simp only [Act.put, List.setIfInBounds_toArray, List.set_cons_zero, List.set_cons_succ])
      exact out _ _ _ _ (st12 _ hHeld (hX.later g))
    exact AllReadyH.nil
  have st01 : ∀ (w : World), (fun w' => w'.cell? ⟨gx, ox + k, none⟩ = some (.int .i64 d) ∧ Gr W0 w') w → XC W0 X x w → G 6 #[false, true, true, true, true, true, false, false, false, false, false] { tmps := List.toArray (v0 :: v1 :: v2 :: v3 :: v4 :: v5 :: v6 :: .slice (some ⟨gx, ox, none⟩) n ca :: .pointer (some ⟨X, 0, none⟩) :: .int .i64 k :: v10 :: v11 :: v12 :: v13 :: v14 :: v15 :: v16 :: v17 :: v18 :: v19 :: v20 :: v21 :: v22 :: v23 :: v24 :: v25 :: v26 :: v27 :: v28 :: v29 :: v30 :: v31 :: v32 :: v33 :: v34 :: v35 :: v36 :: v37 :: v38 :: v39 :: v40 :: v41 :: v42 :: v43 :: v44 :: s45 :: s46 :: .slice (some ⟨gx, ox, none⟩) n ca :: .int .i64 k :: .pointer (some ⟨gx, ox + k, none⟩) :: .int .i64 d :: wv (d) :: s52 :: s53 :: s54 :: v55 :: ([] : List Value)), defers := [] } w := by
    intro w hS hX
    refine inn _ _ _ _ ?_
    refine wpAnyH_ready (rs := [0]) (by kernel_rfl) (by simp) ?_
    refine AllReadyH.cons (o := ⟨some 46, .load 42 (.tmp 8), 42, "residue.go:71", #[], none⟩) rfl (fun K hK => ?_) ?_
    · obtain ⟨l7, c0, c1, z0, z1⟩ := id hX
      go_simp
      refine hK.out _ _ hS (fun hHeld => ?_)
      (simp only [Act.put, List.setIfInBounds_toArray, List.set_cons_zero, List.set_cons_succ])
      exact out _ _ _ _ (st11 _ hHeld hX)
    exact AllReadyH.nil
  have st10 : ∀ (w : World), (fun w' => w'.cell? ⟨gx, ox + k, none⟩ = some (.int .i64 d) ∧ Gr W0 w') w → XC W0 X x w → G 6 #[true, true, true, true, true, false, false, false, false, false, false] { tmps := List.toArray (v0 :: v1 :: v2 :: v3 :: v4 :: v5 :: v6 :: .slice (some ⟨gx, ox, none⟩) n ca :: .pointer (some ⟨X, 0, none⟩) :: .int .i64 k :: v10 :: v11 :: v12 :: v13 :: v14 :: v15 :: v16 :: v17 :: v18 :: v19 :: v20 :: v21 :: v22 :: v23 :: v24 :: v25 :: v26 :: v27 :: v28 :: v29 :: v30 :: v31 :: v32 :: v33 :: v34 :: v35 :: v36 :: v37 :: v38 :: v39 :: v40 :: v41 :: v42 :: v43 :: v44 :: s45 :: wv x :: .slice (some ⟨gx, ox, none⟩) n ca :: .int .i64 k :: .pointer (some ⟨gx, ox + k, none⟩) :: .int .i64 d :: s51 :: s52 :: s53 :: s54 :: v55 :: ([] : List Value)), defers := [] } w := by
    intro w hS hX
    refine inn _ _ _ _ ?_
    refine wpAnyH_ready (rs := [5]) (by kernel_rfl) (by simp) ?_
    refine AllReadyH.cons (o := ⟨some 51, .call ⟨.value (.func 25), #[.tmp 50], #[2]⟩, 42, "residue.go:71", #[⟨4, .data⟩], none⟩) rfl (fun K hK => ?_) ?_
    · go_simp
      go_at_call 25
      refine (wof_any (d) _ HK).mono ?_
      rintro e w' ⟨rfl, g⟩
      go_wp2_with fail
      have g2 := hS.2.trans g
      refine hK.out _ _ ⟨(g2).keeps y1, g2⟩ (fun hHeld => ?_)
      (simp only [Act.put, List.setIfInBounds_toArray, List.set_cons_zero, List.set_cons_succ])
      exact out _ _ _ _ (st11 _ hHeld (hX.later g))
    exact AllReadyH.nil
  have st00 : ∀ (w : World), (fun w' => w'.cell? ⟨gx, ox + k, none⟩ = some (.int .i64 d) ∧ Gr W0 w') w → XC W0 X x w → G 7 #[false, true, true, true, true, false, false, false, false, false, false] { tmps := List.toArray (v0 :: v1 :: v2 :: v3 :: v4 :: v5 :: v6 :: .slice (some ⟨gx, ox, none⟩) n ca :: .pointer (some ⟨X, 0, none⟩) :: .int .i64 k :: v10 :: v11 :: v12 :: v13 :: v14 :: v15 :: v16 :: v17 :: v18 :: v19 :: v20 :: v21 :: v22 :: v23 :: v24 :: v25 :: v26 :: v27 :: v28 :: v29 :: v30 :: v31 :: v32 :: v33 :: v34 :: v35 :: v36 :: v37 :: v38 :: v39 :: v40 :: v41 :: v42 :: v43 :: v44 :: s45 :: s46 :: .slice (some ⟨gx, ox, none⟩) n ca :: .int .i64 k :: .pointer (some ⟨gx, ox + k, none⟩) :: .int .i64 d :: s51 :: s52 :: s53 :: s54 :: v55 :: ([] : List Value)), defers := [] } w := by
    intro w hS hX
    refine inn _ _ _ _ ?_
    refine wpAnyH_ready (rs := [0, 5]) (by kernel_rfl) (by simp) ?_
    refine AllReadyH.cons (o := ⟨some 46, .load 42 (.tmp 8), 42, "residue.go:71", #[], none⟩) rfl (fun K hK => ?_) ?_
    · obtain ⟨l7, c0, c1, z0, z1⟩ := id hX
      go_simp
      refine hK.out _ _ hS (fun hHeld => ?_)
      (simp only [Act.put, List.setIfInBounds_toArray, List.set_cons_zero, List.set_cons_succ])
      exact out _ _ _ _ (st10 _ hHeld hX)
    refine AllReadyH.cons (o := ⟨some 51, .call ⟨.value (.func 25), #[.tmp 50], #[2]⟩, 42, "residue.go:71", #[⟨4, .data⟩], none⟩) rfl (fun K hK => ?_) ?_
    · go_simp
      go_at_call 25
      refine (wof_any (d) _ HK).mono ?_
      rintro e w' ⟨rfl, g⟩
      go_wp2_with fail
      have g2 := hS.2.trans g
      refine hK.out _ _ ⟨(g2).keeps y1, g2⟩ (fun hHeld => ?_)
      (simp only [Act.put, List.setIfInBounds_toArray, List.set_cons_zero, List.set_cons_succ])
      exact out _ _ _ _ (st01 _ hHeld (hX.later g))
    exact AllReadyH.nil
  show wpAnyH _ _ _ _ _ 11 #[false, false, false, false, false, false, false, false, false, false, false] _ _
  refine wpAnyH_take (i := 1) (oi := ⟨some 47, .move (.tmp 7), 29, "residue.go:71", #[], none⟩) (v := ?_) rfl (by kernel_rfl) (by kernel_rfl) (by kernel_rfl) (hQ _ _) (_root_.Or.inl ⟨by rfl, ?_⟩) (by assumption) ?_
  rotate_left
  · intro w0 hSw; (try dsimp only at hSw); go_simp; try with_reducible rfl
  (simp only [Act.put, List.setIfInBounds_toArray, List.set_cons_zero, List.set_cons_succ])
  refine wpAnyH_take (i := 2) (oi := ⟨some 48, .move (.tmp 9), 3, "residue.go:71", #[], none⟩) (v := ?_) rfl (by kernel_rfl) (by kernel_rfl) (by kernel_rfl) (hQ _ _) (_root_.Or.inl ⟨by rfl, ?_⟩) (by assumption) ?_
  rotate_left
  · intro w0 hSw; (try dsimp only at hSw); go_simp; try with_reducible rfl
  (simp only [Act.put, List.setIfInBounds_toArray, List.set_cons_zero, List.set_cons_succ])
  refine wpAnyH_take (i := 3) (oi := ⟨some 49, .indexAddr 29 (.tmp 47) (.tmp 48), 0, "residue.go:71", #[⟨1, .data⟩, ⟨2, .data⟩], none⟩) (v := ?_) rfl (by kernel_rfl) (by kernel_rfl) (by kernel_rfl) (hQ _ _) (_root_.Or.inl ⟨by rfl, ?_⟩) (by assumption) ?_
  rotate_left
  · intro w0 hSw; (try dsimp only at hSw); go_simp; try with_reducible rfl
  (simp only [Act.put, List.setIfInBounds_toArray, List.set_cons_zero, List.set_cons_succ])
  refine wpAnyH_take (i := 4) (oi := ⟨some 50, .load 2 (.tmp 49), 2, "residue.go:71", #[⟨3, .data⟩], none⟩) (v := ?_) rfl (by kernel_rfl) (by kernel_rfl) (by kernel_rfl) (hQ _ _) (_root_.Or.inl ⟨by rfl, ?_⟩) (by assumption) ?_
  rotate_left
  · intro w0 hSw; (try dsimp only at hSw); go_simp; try with_reducible rfl
  (simp only [Act.put, List.setIfInBounds_toArray, List.set_cons_zero, List.set_cons_succ])
  try rw [hw]
  exact out _ _ _ _ (st00 _ hHeld (hX0.later (Gr.refl W).drew))
end Go.Proofs.Ytlfiakpmnkhcdaa.Mo
namespace Go.Proofs.Ytlfiakpmnkhcdaa.Mo
open Go.RowKit
set_option linter.unusedVariables false
theorem pr_le {l : List Int} (h : okL l) : 0 < Or.pr l ∧ Or.pr l ≤ 2147483647 ^ l.length := by
  induction l with
  | nil => simp [Or.pr]
  | cons p l ih =>
    have h1 := h p (by simp)
    have h2 := ih (fun q hq => h q (by simp [hq]))
    have h0 : 0 < p * Or.pr l := Int.mul_pos (by omega) h2.1
    refine ⟨h0, ?_⟩
    show p * Or.pr l ≤ _
    rw [List.length_cons, Int.pow_succ, Int.mul_comm p]
    exact Int.mul_le_mul h2.2 h1.2 (by omega) (by have := h2.1; have := h2.2; omega)
theorem nat_R {n : Nat} (hn : n ≤ 25) : 2147483647 ^ n < Ow.R := by
  rw [Ow.R_eq]
  have a : 2147483647 ^ n ≤ (256 ^ 4) ^ n := Nat.pow_le_pow_left (by decide) n
  rw [← Nat.pow_mul] at a
  exact Nat.lt_of_le_of_lt a (Nat.pow_lt_pow_right (by omega) (by omega))
theorem inR_of {z : Int} {n : Nat} (hn : n ≤ 25) (h1 : -(2147483647 ^ n : Int) ≤ z) (h2 : z ≤ 2147483647 ^ n) : InR z := by
  have h3 := nat_R hn
  have e : ((2147483647 ^ n : Nat) : Int) = (2147483647 : Int) ^ n := by simp
  unfold InR
  generalize 2147483647 ^ n = M at *
  omega
theorem okL.drop {l : List Int} (h : okL l) (k : Nat) : okL (l.drop k) := fun q hq => h q (List.mem_of_mem_drop hq)
theorem inR_small {z : Int} (h : isW z) : InR z := inR_of (n := 3) (by omega) (by have := h.1; omega) (by have := h.2; omega)
end Go.Proofs.Ytlfiakpmnkhcdaa.Mo
namespace Go.Proofs.Ytlfiakpmnkhcdaa.Mo
open Go.RowKit
set_option linter.unusedVariables false
theorem at_drop (l : List Int) (j i : Nat) : Or.at_ (l.drop j) i = Or.at_ l (j + i) := by
  unfold Or.at_; rw [List.getElem?_drop]
theorem pr_drop {l : List Int} {k : Nat} (hk : k < l.length) : Or.pr (l.drop k) = Op.cf l k * Or.pr (l.drop (k + 1)) := by
  rw [List.drop_eq_getElem_cons hk, Or.pr, ← Op.cf_at, List.getElem?_eq_getElem hk]; rfl
theorem drop_bound {l r ds : List Int} (h : Or.DgI l r ds) (hn : ds.length = l.length) (hl : okL l) (j : Nat) : -(Or.pr (l.drop j)) < 2 * Or.mv (l.drop j) (ds.drop j) ∧ 2 * Or.mv (l.drop j) (ds.drop j) < Or.pr (l.drop j) := by
  have hb := Or.mv_bound (l.drop j) (ds.drop j) (by simp; omega) (fun i hi => by
    rw [at_drop, at_drop]
    have hij : j + i < ds.length := by simp at hi; omega
    have h1 := h.2.1 (j + i) hij
    have h2 := hl.at_ (i := j + i) (by omega)
    rw [← at_cf] at h2
    omega)
  have e : (ds.drop j).length = (l.drop j).length := by simp; omega
  rw [e, List.take_length] at hb
  exact hb
theorem inR_drop {l r ds : List Int} (h : Or.DgI l r ds) (hn : ds.length = l.length) (hl : okL l) (h25 : l.length ≤ 25) (j : Nat) : InR (Or.mv (l.drop j) (ds.drop j)) := by
  have h1 := drop_bound h hn hl j
  have h2 := pr_le (hl.drop j)
  exact inR_of (n := (l.drop j).length) (by simp; omega) (by omega) (by omega)
theorem inR_mulp {l r ds : List Int} (h : Or.DgI l r ds) (hn : ds.length = l.length) (hl : okL l) (h25 : l.length ≤ 25) {k : Nat} (hk : k < l.length) : InR (Or.mv (l.drop (k + 1)) (ds.drop (k + 1)) * Op.cf l k) := by
  have h1 := drop_bound h hn hl (k + 1)
  have h2 := pr_le (hl.drop k)
  rw [pr_drop hk] at h2
  have h3 := hl.at_ hk
  generalize Or.pr (l.drop (k + 1)) = P at *
  generalize Or.mv (l.drop (k + 1)) (ds.drop (k + 1)) = x at *
  generalize Op.cf l k = p at *
  have a : p * x ≤ p * P := Int.mul_le_mul_of_nonneg_left (by omega) (by omega)
  have b : p * (-P) ≤ p * x := Int.mul_le_mul_of_nonneg_left (by omega) (by omega)
  rw [Int.mul_neg] at b
  rw [Int.mul_comm x p]
  exact inR_of (n := (l.drop k).length) (by simp; omega) (by omega) (by omega)
def JoinR (l r : List Int) (X c : Int) : Prop := (¬ RowOf l r ∧ c = 2 ∧ X = 0) ∨ (RowOf l r ∧ c = 0 ∧ JoinV l r X)
theorem wv_zero : wv 0 = .agg #[.bool false, .string ⟨#[]⟩] := by
  unfold wv bstr; simp [Ow.byt]
set_option maxRecDepth 100000 in
set_option maxHeartbeats 4000000 in
theorem join_any (S : Nat) (l r : List Int) (vr : Value) (w : World) (h : IsSys w S l) (hs : Sys l) (hu : HasP w vr r) : Calls Try.prog 22 #[.pointer (some ⟨S, 0, none⟩), vr] w (fun e w' => ∃ X c, e = .returned (.tuple #[wv X, .int .i64 c]) ∧ JoinR l r X c ∧ Gr w w') := by
  have hg0 := Gr.new w (.cells #[.bool false, .string ⟨#[]⟩] 42)
  have H := Lib.hid (h.later hg0)
  have HU := Lib.hid (hu.later hg0)
  have HG0 := Lib.hid hg0
  have HS := Lib.hid hs
  obtain ⟨-, xb, cb, rfl, -, -, -⟩ := hu
  have hn25 : l.length ≤ 25 := hs.2.2.2.2
  have C0 := Lib.hid (show (w.alloc (.cells #[.bool false, .string ⟨#[]⟩] 42)).cell? ⟨w.heap.size, 0, none⟩ = some (.bool false) by simp [go_sem])
  have C1 := Lib.hid (show (w.alloc (.cells #[.bool false, .string ⟨#[]⟩] 42)).cell? ⟨w.heap.size, 1, none⟩ = some (.string ⟨#[]⟩) by simp [go_sem])
  have F0 := Lib.hid (show (w.alloc (.cells #[.bool false, .string ⟨#[]⟩] 42)).frozen? ⟨w.heap.size, 0, none⟩ = false by simp [go_sem])
  have F1 := Lib.hid (show (w.alloc (.cells #[.bool false, .string ⟨#[]⟩] 42)).frozen? ⟨w.heap.size, 1, none⟩ = false by simp [go_sem])
  clear h hg0 hs
  go_enter Try.func22, Try.ntmps22
  go_wp2_with fail
  refine (check_any S l r _ _ H.out HS.out HU.out).mono ?_
  rintro e w1 ⟨c, ⟨rfl, hg⟩, hc⟩
  have HG := Lib.hid (HG0.out.trans hg)
  have HGC := Lib.hid hg
  have H1 := Lib.hid (H.out.later hg)
  have HU1 := Lib.hid (HU.out.later hg)
  clear hg
  rcases hc with ⟨rfl, hrow⟩ | ⟨rfl, hrow⟩
  · have HROW := Lib.hid hrow
    clear hrow
    obtain ⟨v, h0, h1, -⟩ := H1.out
    have HV1 := Lib.hid h1
    obtain ⟨-, xa, ca, rfl, -, -, -⟩ := h1
    go_wp2_with fail
    refine (digits_any l r _ _ _ HS.out HROW.out HV1.out HU1.out).mono ?_
    rintro e w2 ⟨da, dk, dc, ds, rfl, hd, hdg, hdl, hg⟩
    have HD := Lib.hid hd
    have HDG := Lib.hid hdg
    have HDL := Lib.hid hdl
    have HG2 := Lib.hid (HG.out.trans hg)
    have HGC := Lib.hid (HGC.out.trans hg)
    have H2 := Lib.hid (H1.out.later hg)
    have h0 := hg.keeps h0
    have HV2 := Lib.hid (HV1.out.later hg)
    clear hd hdg hdl hg
    go_wp2_with fail
    refine (wof_any 0 _ ⟨by omega, by omega⟩).mono ?_
    rintro e w3 ⟨rfl, hg⟩
    have HG3 := Lib.hid (HG2.out.trans hg)
    have HGC := Lib.hid (HGC.out.trans hg)
    have HD3 := Lib.hid (HD.out.later hg)
    have h0 := hg.keeps h0
    have HV3 := Lib.hid (HV2.out.later hg)
    have HL0 := Lib.hid h0
    clear hg
    have hdk : dk = l.length := by rw [← HDL.out]; exact HD.out.len.1
    rw [wv_zero]
    go_wp2_with fail
    have HX0 := Lib.hid (show XC w3 w3.heap.size (Or.mv (l.drop l.length) (ds.drop l.length)) (w3.alloc (.cells #[.bool false, .string ⟨#[]⟩] 42)) from by
      rw [List.drop_of_length_le (l := ds) (by rw [HDL.out]; exact Nat.le_refl _), Or.mv_nil]
      have e := wv_zero
      unfold wv at e
      simp only [Value.agg.injEq, Array.mk.injEq, List.cons.injEq, Value.bool.injEq, Value.string.injEq, and_true] at e
      exact ⟨Nat.le_refl _, by rw [e.1]; simp [go_sem], by rw [e.2]; simp [go_sem], by simp [go_sem], by simp [go_sem]⟩)
    have HG4 := Lib.hid (Gr.new w3 (.cells #[.bool false, .string ⟨#[]⟩] 42))
    generalize w3.alloc (.cells #[.bool false, .string ⟨#[]⟩] 42) = W4 at *
    generalize w3.heap.size = XB at *
    obtain ⟨n, hn⟩ : ∃ n, n = l.length := ⟨_, rfl⟩
    have HN := Lib.hid hn
    subst hdk
    rw [← hn] at HV3 HD3 HL0 HX0 hn25 ⊢
    clear hn h0
    go_loopw [9] (fun t wr => ∃ j : Nat, t = .int .i64 ((j : Nat) - 1 : Int) ∧ j ≤ n ∧ XC w3 XB (Or.mv (l.drop j) (ds.drop j)) wr ∧ Gr w3 wr) (fun t _ => (intOf t + 1).toNat)
    case atStart => exact ⟨n, rfl, Nat.le_refl _, HX0.out, HG4.out⟩
    case round =>
      obtain ⟨j, rfl, hj, hxc, hg⟩ := hrel
      have HXC := Lib.hid hxc
      have HGR := Lib.hid hg
      clear hxc hg
      rcases j with _ | k
      · have hgc := HGC.out.trans HGR.out
        have c0 := hgc.keeps C0.out
        have c1 := hgc.keeps C1.out
        have f0 := (Below.frozen hgc (World.block_lt_of_cell? _ _ C0.out)).trans F0.out
        have f1 := (Below.frozen hgc (World.block_lt_of_cell? _ _ C1.out)).trans F1.out
        have hx := HXC.out
        rw [List.drop_zero, List.drop_zero] at hx
        obtain ⟨-, x0, x1, -, -⟩ := hx
        clear hgc
        go_wp2_with fail
        refine bodyPost_ret (v := .tuple #[wv (Or.mv l ds), .int .i64 0]) (by simp [results, Try.results22, go_sem, c0, c1, wv]) rfl ?_
        exact ⟨_, 0, rfl, .inr ⟨HROW.out, rfl, joinV_of HS.out HDG.out HDL.out⟩, ((HG3.out.trans HGR.out).setCell (p := ⟨w.heap.size, 0, none⟩) (Nat.le_refl _) _).setCell (p := ⟨w.heap.size, 1, none⟩) (Nat.le_refl _) _⟩
      · have i2 : ((k + 1 : Nat) : Int) - 1 = (k : Int) := by omega
        have hk0 : (0 : Int) ≤ (k : Int) := by omega
        have hk1 : (k : Int) < (n : Int) := by omega
        have hkl : k < l.length := by have := HN.out; omega
        rw [i2]
        clear i2
        obtain ⟨gx, ox, e, hcx⟩ : ∃ gx ox, xa = some ⟨gx, ox, none⟩ ∧ w3.cell? ⟨gx, ox + k, none⟩ = some (.int .u32 (Op.cf l k)) := by
          obtain ⟨_, a, c', e, _, _, h3⟩ := HV3.out
          cases e
          obtain ⟨gx, ox, e, hc⟩ := h3 k hkl
          exact ⟨gx, ox, e, hc⟩
        subst e
        obtain ⟨gy, oy, e, hcy⟩ : ∃ gx ox, da = some ⟨gx, ox, none⟩ ∧ w3.cell? ⟨gx, ox + k, none⟩ = some (.int .i64 (Op.cf ds k)) := by
          obtain ⟨_, a, c', e, _, _, h3⟩ := HD3.out
          cases e
          obtain ⟨gx, ox, e, hc⟩ := h3 k (by rw [HDL.out]; exact hkl)
          exact ⟨gx, ox, e, hc⟩
        subst e
        have hq3 := HS.out.at_ hkl
        have hd3 := dg_small HDG.out HS.out.1 (i := k) (by rw [HDL.out]; exact hkl)
        have hst := Or.mv_drop (l := l) (ds := ds) (i := k) (by rw [HDL.out]; exact hkl) (by rw [HDL.out]; exact Nat.le_refl _)
        have hr0 := inR_drop HDG.out HDL.out HS.out.1 (by rw [← HN.out]; exact hn25) (k + 1)
        have hr1 := inR_mulp HDG.out HDL.out HS.out.1 (by rw [← HN.out]; exact hn25) hkl
        have hr2 := inR_drop HDG.out HDL.out HS.out.1 (by rw [← HN.out]; exact hn25) k
        rw [at_cf, at_cf] at hst
        obtain ⟨q, hq⟩ : ∃ q, q = Op.cf l k := ⟨_, rfl⟩
        obtain ⟨d, hd⟩ : ∃ d, d = Op.cf ds k := ⟨_, rfl⟩
        obtain ⟨x, hx⟩ : ∃ x, x = Or.mv (l.drop (k + 1)) (ds.drop (k + 1)) := ⟨_, rfl⟩
        rw [← hq] at hcx hq3 hst hr1
        rw [← hd] at hcy hd3 hst
        rw [← hx] at hst hr0 hr1 HXC
        have HE := Lib.hid (show x * q + d = Or.mv (l.drop k) (ds.drop k) by rw [hst, Int.mul_comm q x]; omega)
        have HR0 := Lib.hid hr0
        have HR1 := Lib.hid hr1
        have HR2 := Lib.hid (show InR (x * q + d) by rw [HE.out]; exact hr2)
        have HQW := Lib.hid (show isW q from ⟨by omega, by omega⟩)
        have HDW := Lib.hid (show isW d from ⟨by omega, by omega⟩)
        have HCX := Lib.hid hcx
        have HCY := Lib.hid hcy
        clear hst hq hd hx hkl hr0 hr1 hr2 hcx hcy
        go_wp2_with fail
        refine wp_region_noPanic ?_
        refine join1_region x q S n ca gx ox k w3 _ XB HQW.out HR0.out (inR_small HQW.out) HR1.out hk0 hk1 HL0.out HCX.out HGR.out HXC.out _ _ _ _ _ _ _ _ _ _ _ _ _ _ _ _ _ _ _ _ _ _ _ _ _ _ _ _ _ _ _ _ _ _ _ _ _ _ _ _ _ _ _ _ _ _ _ _ _ _ _ _ _ _ (fun _ _ _ _ _ h => h) ?_
        rintro u31 u32 u33 u34 u35 u36 u37 u38 u39 u40 u41 u42 u43 u44 wx hx hgx
        refine NoPanic.normal ?_
        have HXN := Lib.hid hx
        have HGN := Lib.hid hgx
        clear hx hgx
        go_wp2_with fail
        refine wp_region_noPanic ?_
        refine join2_region (x * q) d n dc gy oy k w3 _ XB HDW.out HR1.out (inR_small HDW.out) HR2.out hk0 hk1 HCY.out HGN.out HXN.out _ _ _ _ _ _ _ _ _ _ _ _ _ _ _ _ _ _ _ _ _ _ _ _ _ _ _ _ _ _ _ _ _ _ _ _ _ _ _ _ _ _ _ _ _ _ _ _ _ _ _ _ _ _ (fun _ _ _ _ _ h => h) ?_
        rintro u45 u46 u47 u48 u49 u50 u51 u52 u53 u54 wy hx hgx
        refine NoPanic.normal ?_
        have HXM := Lib.hid hx
        have HGM := Lib.hid hgx
        clear hx hgx
        go_wp2_with fail
        exact ⟨⟨k, rfl, by omega, by rw [← HE.out]; exact HXM.out, HGM.out⟩, by simp [intOf]⟩
  · have HROW := Lib.hid hrow
    have c0 := HGC.out.keeps C0.out
    have c1 := HGC.out.keeps C1.out
    have f0 := (Below.frozen HGC.out (World.block_lt_of_cell? _ _ C0.out)).trans F0.out
    have f1 := (Below.frozen HGC.out (World.block_lt_of_cell? _ _ C1.out)).trans F1.out
    clear hrow
    go_wp2_with fail
    refine bodyPost_ret (v := .tuple #[.agg #[.bool false, .string ⟨#[]⟩], .int .i64 2]) (by simp [results, Try.results22, go_sem, c0, c1]) rfl ?_
    exact ⟨0, 2, by rw [wv_zero], .inl ⟨HROW.out, rfl, rfl⟩, (HG.out.setCell (p := ⟨w.heap.size, 0, none⟩) (Nat.le_refl _) _).setCell (p := ⟨w.heap.size, 1, none⟩) (Nat.le_refl _) _⟩
end Go.Proofs.Ytlfiakpmnkhcdaa.Mo
