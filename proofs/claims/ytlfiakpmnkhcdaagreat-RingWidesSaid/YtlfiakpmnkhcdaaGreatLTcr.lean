import Derived.Test.YtlfiakpmnkhcdaaGreatLTb
import Derived.Test.YtlfiakpmnkhcdaaGreatLZE
namespace Go.Proofs.YtlfiakpmnkhcdaaGreat.Mo
open Go.RowKit
set_option linter.unusedVariables false
set_option linter.unusedSimpArgs false
def FreshW (W w : World) (B : Nat) : Prop := W.heap.size ≤ B ∧ w.cell? ⟨B, 0, none⟩ = some (.bool false) ∧ w.cell? ⟨B, 1, none⟩ = some (.string ⟨#[]⟩) ∧ w.frozen? ⟨B, 0, none⟩ = false ∧ w.frozen? ⟨B, 1, none⟩ = false
theorem FreshW.later {W w w' : World} {B : Nat} (h : FreshW W w B) (g : Gr w w') : FreshW W w' B :=
  ⟨h.1, g.keeps h.2.1, g.keeps h.2.2.1, (Below.frozen g (World.block_lt_of_cell? w _ h.2.1)).trans h.2.2.2.1, (Below.frozen g (World.block_lt_of_cell? w _ h.2.2.1)).trans h.2.2.2.2⟩
theorem FreshW.new {W w : World} (h : Gr W w) (t : TypeId) : FreshW W (w.alloc (.cells #[.bool false, .string ⟨#[]⟩] t)) w.heap.size :=
  ⟨h.size, by simp [go_sem], by simp [go_sem], by simp [go_sem], by simp [go_sem]⟩
theorem xc_far {W : World} {B C : Nat} (h : ¬ (B = C)) (o : Nat) (a b : Value) : ((W.setCell ⟨B, 0, none⟩ a).setCell ⟨B, 1, none⟩ b).cell? ⟨C, o, none⟩ = W.cell? ⟨C, o, none⟩ := by
  rw [Lo.cell_far (fun e => h (congrArg Addr.block e)), Lo.cell_far (fun e => h (congrArg Addr.block e))]
theorem XC.put {W0 : World} {X : Nat} {z : Int} {w : World} (h : XC W0 X z w) (y : Int) : XC W0 X y ((w.setCell ⟨X, 0, none⟩ (.bool (decide (y < 0)))).setCell ⟨X, 1, none⟩ (.string (bstr y.natAbs))) := by
  obtain ⟨l7, c0, c1, z0, z1⟩ := h
  exact ⟨l7, (xc_put c0 c1 _ _).1, (xc_put c0 c1 _ _).2, (xc_frz _ _ _ _ _ _).trans z0, (xc_frz _ _ _ _ _ _).trans z1⟩
theorem XC.other {W0 : World} {X P : Nat} {z : Int} {w : World} (h : XC W0 P z w) (hne : ¬ (X = P)) (a b : Value) : XC W0 P z ((w.setCell ⟨X, 0, none⟩ a).setCell ⟨X, 1, none⟩ b) := by
  obtain ⟨l7, c0, c1, z0, z1⟩ := h
  exact ⟨l7, (xc_far hne 0 a b).trans c0, (xc_far hne 1 a b).trans c1, (xc_frz _ _ _ _ _ _).trans z0, (xc_frz _ _ _ _ _ _).trans z1⟩
def XD (W0 : World) (X O : Nat) (y z : Int) (w : World) : Prop := XC W0 X z w ∧ XC W0 O y w ∧ ¬ (X = O)
theorem XD.later {W0 : World} {X O : Nat} {y z : Int} {w w' : World} (h : XD W0 X O y z w) (g : Gr w w') : XD W0 X O y z w' := ⟨h.1.later g, h.2.1.later g, h.2.2⟩
set_option maxRecDepth 100000 in
set_option maxHeartbeats 8000000 in
theorem rj_more (x : Int) (a : Int) (XB : Nat) (W0 W : World) (x0 : W0.cell? ⟨XB, 0, none⟩ = some (.bool (decide (x < 0)))) (x1 : W0.cell? ⟨XB, 1, none⟩ = some (.string (bstr x.natAbs)))  (hG : Gr W0 W)
    (hw0 : IntKind.i64.wrap a = a)
    (HC1 : ∀ w, Gr W0 w → Calls Tryz.prog 44 #[.int .i64 a] w (fun e w' => e = .returned (wv a) ∧ Gr w w'))
    (HC2 : ∀ w, Calls Tryz.prog 41 #[wv x, wv a] w (fun e w' => e = .returned (.tuple #[wv (x * a), .int .i64 0]) ∧ Gr w w'))
    (v0 v1 v2 v3 v4 v5 v6 v8 v9 v10 v11 v12 v13 v14 v15 v16 v17 v19 v22 v23 v24 v25 v26 v27 v28 v29 v30 v31 v32 v33 v34 v35 v36 v37 v38 v39 v40 v41 v42 v43 v44 v45 v46 v47 v48 v49 v50 v51 v52 v53 v54 v55 v56 v57 v58 v59 v60 v61 v62 v63 v64 v65 v66 v67 v68 v69 v70 v71 v72 v73 v74 v75 v76 v85 v86 v87 v88 v89 v90 v91 v92 v93 v94 v95 v96 v97 v98 v99 v100 v101 v102 v103 s20 s21 s77 s78 s79 s80 s81 s82 s83 s84 : Value) (Q : Exit → Act → World → Prop) (hQ : ∀ (d : Option Tmp) (v : Value) c a w, Q (.panic c) (a.put d v) w → Q (.panic c) a w)
    (hpost : ∀ u77 u78 u79 u80 u81 u82 u83 u84 A0 wx, wx.cell? ⟨A0, 0, none⟩ = some (.bool (decide (x * a < 0))) → wx.cell? ⟨A0, 1, none⟩ = some (.string (bstr (x * a).natAbs)) → Gr W0 wx → Q .normal { tmps := List.toArray (v0 :: v1 :: v2 :: v3 :: v4 :: v5 :: v6 :: .pointer (some ⟨XB, 0, none⟩) :: v8 :: v9 :: v10 :: v11 :: v12 :: v13 :: v14 :: v15 :: v16 :: v17 :: .int .u32 a :: v19 :: .pointer (some ⟨A0, 0, none⟩) :: .int .i64 0 :: v22 :: v23 :: v24 :: v25 :: v26 :: v27 :: v28 :: v29 :: v30 :: v31 :: v32 :: v33 :: v34 :: v35 :: v36 :: v37 :: v38 :: v39 :: v40 :: v41 :: v42 :: v43 :: v44 :: v45 :: v46 :: v47 :: v48 :: v49 :: v50 :: v51 :: v52 :: v53 :: v54 :: v55 :: v56 :: v57 :: v58 :: v59 :: v60 :: v61 :: v62 :: v63 :: v64 :: v65 :: v66 :: v67 :: v68 :: v69 :: v70 :: v71 :: v72 :: v73 :: v74 :: v75 :: v76 :: u77 :: u78 :: u79 :: u80 :: u81 :: u82 :: u83 :: u84 :: v85 :: v86 :: v87 :: v88 :: v89 :: v90 :: v91 :: v92 :: v93 :: v94 :: v95 :: v96 :: v97 :: v98 :: v99 :: v100 :: v101 :: v102 :: v103 :: ([] : List Value)), defers := [] } wx) :
    (Code.region 13 #[⟨some 78, .load 50 (.tmp 7), 50, "ref.go:77", #[], none⟩,
      ⟨some 79, .move (.tmp 18), 22, "ref.go:77", #[], none⟩,
      ⟨some 80, .convert 22 2 (.tmp 79), 2, "ref.go:77", #[⟨1, .data⟩], none⟩,
      ⟨some 81, .call ⟨.value (.func 44), #[.tmp 80], #[2]⟩, 50, "ref.go:77", #[⟨2, .data⟩], none⟩,
      ⟨some 82, .call ⟨.value (.func 41), #[.tmp 78, .tmp 81], #[50, 50]⟩, 51, "ref.go:77", #[⟨0, .data⟩, ⟨3, .data⟩, ⟨3, .chain⟩], none⟩,
      ⟨some 77, .move (.tmp 82), 51, "ref.go:77", #[⟨4, .data⟩], none⟩,
      ⟨some 83, .extract (.tmp 77) 0, 50, "ref.go:77", #[⟨5, .data⟩], none⟩,
      ⟨some 84, .extract (.tmp 77) 1, 35, "ref.go:77", #[⟨5, .data⟩, ⟨9, .gcOnly .lateStores⟩], none⟩,
      ⟨some 20, .alloc 50, 0, "ref.go:77", #[], none⟩,
      ⟨none, .store 50 (.tmp 20) (.tmp 83), 0, "ref.go:77", #[⟨8, .data⟩, ⟨6, .data⟩, ⟨4, .chain⟩, ⟨0, .phase⟩, ⟨1, .phase⟩, ⟨2, .phase⟩, ⟨3, .phase⟩, ⟨4, .phase⟩, ⟨5, .phase⟩, ⟨6, .phase⟩, ⟨7, .textOnly .lateStores⟩, ⟨8, .phase⟩], none⟩,
      ⟨some 21, .assign (.tmp 84), 35, "ref.go:77", #[⟨7, .data⟩, ⟨9, .chain⟩, ⟨0, .phase⟩, ⟨1, .phase⟩, ⟨2, .phase⟩, ⟨3, .phase⟩, ⟨4, .phase⟩, ⟨5, .phase⟩, ⟨6, .phase⟩, ⟨7, .phase⟩, ⟨8, .phase⟩, ⟨9, .phase⟩], none⟩] true).wp Tryz.prog Q { tmps := List.toArray (v0 :: v1 :: v2 :: v3 :: v4 :: v5 :: v6 :: .pointer (some ⟨XB, 0, none⟩) :: v8 :: v9 :: v10 :: v11 :: v12 :: v13 :: v14 :: v15 :: v16 :: v17 :: .int .u32 a :: v19 :: s20 :: s21 :: v22 :: v23 :: v24 :: v25 :: v26 :: v27 :: v28 :: v29 :: v30 :: v31 :: v32 :: v33 :: v34 :: v35 :: v36 :: v37 :: v38 :: v39 :: v40 :: v41 :: v42 :: v43 :: v44 :: v45 :: v46 :: v47 :: v48 :: v49 :: v50 :: v51 :: v52 :: v53 :: v54 :: v55 :: v56 :: v57 :: v58 :: v59 :: v60 :: v61 :: v62 :: v63 :: v64 :: v65 :: v66 :: v67 :: v68 :: v69 :: v70 :: v71 :: v72 :: v73 :: v74 :: v75 :: v76 :: s77 :: s78 :: s79 :: s80 :: s81 :: s82 :: s83 :: s84 :: v85 :: v86 :: v87 :: v88 :: v89 :: v90 :: v91 :: v92 :: v93 :: v94 :: v95 :: v96 :: v97 :: v98 :: v99 :: v100 :: v101 :: v102 :: v103 :: ([] : List Value)), defers := [] } W := by
  refine wp_region_held_drew (S := fun w' => w'.cell? ⟨XB, 0, none⟩ = some (.bool (decide (x < 0))) ∧ w'.cell? ⟨XB, 1, none⟩ = some (.string (bstr x.natAbs)) ∧ Gr W0 w') (by kernel_rfl) (have g : Gr W0 W.drew := hG.drew; ⟨(g).keeps x0, (g).keeps x1, g⟩) (fun hHeld => ?_)
  refine chain_any (fun G out inn => ?_)
  have st1_2 : ∀ (A0 : Nat) (w : World), (fun w' => w'.cell? ⟨XB, 0, none⟩ = some (.bool (decide (x < 0))) ∧ w'.cell? ⟨XB, 1, none⟩ = some (.string (bstr x.natAbs)) ∧ Gr W0 w') w → FreshW W0 w A0 → G 2 #[true, true, true, true, true, true, true, true, true, false, false] { tmps := List.toArray (v0 :: v1 :: v2 :: v3 :: v4 :: v5 :: v6 :: .pointer (some ⟨XB, 0, none⟩) :: v8 :: v9 :: v10 :: v11 :: v12 :: v13 :: v14 :: v15 :: v16 :: v17 :: .int .u32 a :: v19 :: .pointer (some ⟨A0, 0, none⟩) :: s21 :: v22 :: v23 :: v24 :: v25 :: v26 :: v27 :: v28 :: v29 :: v30 :: v31 :: v32 :: v33 :: v34 :: v35 :: v36 :: v37 :: v38 :: v39 :: v40 :: v41 :: v42 :: v43 :: v44 :: v45 :: v46 :: v47 :: v48 :: v49 :: v50 :: v51 :: v52 :: v53 :: v54 :: v55 :: v56 :: v57 :: v58 :: v59 :: v60 :: v61 :: v62 :: v63 :: v64 :: v65 :: v66 :: v67 :: v68 :: v69 :: v70 :: v71 :: v72 :: v73 :: v74 :: v75 :: v76 :: .tuple #[wv (x * a), .int .i64 0] :: wv x :: .int .u32 a :: .int .i64 a :: wv a :: .tuple #[wv (x * a), .int .i64 0] :: wv (x * a) :: .int .i64 0 :: v85 :: v86 :: v87 :: v88 :: v89 :: v90 :: v91 :: v92 :: v93 :: v94 :: v95 :: v96 :: v97 :: v98 :: v99 :: v100 :: v101 :: v102 :: v103 :: ([] : List Value)), defers := [] } w := by
    intro A0 w hS hF0
    refine inn _ _ _ _ ?_
    obtain ⟨l0, c00, c01, z00, z01⟩ := hF0
    refine wpAnyH_ready (rs := [9]) (by kernel_rfl) (by simp) ?_
    refine AllReadyH.cons (o := ⟨none, .store 50 (.tmp 20) (.tmp 83), 0, "ref.go:77", #[⟨8, .data⟩, ⟨6, .data⟩, ⟨4, .chain⟩, ⟨0, .phase⟩, ⟨1, .phase⟩, ⟨2, .phase⟩, ⟨3, .phase⟩, ⟨4, .phase⟩, ⟨5, .phase⟩, ⟨6, .phase⟩, ⟨7, .textOnly .lateStores⟩, ⟨8, .phase⟩], none⟩) rfl (fun K hK => ?_) AllReadyH.nil
    unfold wv
    go_simp
    have g2 : Gr W0 ((w.setCell ⟨A0, 0, none⟩ (.bool (decide (x * a < 0)))).setCell ⟨A0, 1, none⟩ (.string (bstr (x * a).natAbs))) := ((hS.2.2).setCell (p := ⟨A0, 0, none⟩) l0 _).setCell (p := ⟨A0, 1, none⟩) l0 _
    refine hK.out _ _ ⟨(g2).keeps x0, (g2).keeps x1, g2⟩ (fun hHeld => ?_)
    clear hK K
    (simp only [Act.put, List.setIfInBounds_toArray, List.set_cons_zero, List.set_cons_succ])
    refine wpAnyH_take (i := 10) (oi := ⟨some 21, .assign (.tmp 84), 35, "ref.go:77", #[⟨7, .data⟩, ⟨9, .chain⟩, ⟨0, .phase⟩, ⟨1, .phase⟩, ⟨2, .phase⟩, ⟨3, .phase⟩, ⟨4, .phase⟩, ⟨5, .phase⟩, ⟨6, .phase⟩, ⟨7, .phase⟩, ⟨8, .phase⟩, ⟨9, .phase⟩], none⟩) (v := ?_) rfl (by kernel_rfl) (by kernel_rfl) (by kernel_rfl) (hQ _ _) (_root_.Or.inl ⟨by rfl, ?_⟩) (by assumption) ?_
    rotate_left
    · intro w0 hSw; (try dsimp only at hSw); have y0 := hSw.1; have y1 := hSw.2.1; go_simp; try with_reducible rfl
    (simp only [Act.put, List.setIfInBounds_toArray, List.set_cons_zero, List.set_cons_succ])
    refine wpAnyH_done (by kernel_rfl) ?_ _
    exact hpost _ _ _ _ _ _ _ _ A0 _ (xc_put c00 c01 _ _).1 (xc_put c00 c01 _ _).2 g2
  have st0_2 : ∀ (w : World), (fun w' => w'.cell? ⟨XB, 0, none⟩ = some (.bool (decide (x < 0))) ∧ w'.cell? ⟨XB, 1, none⟩ = some (.string (bstr x.natAbs)) ∧ Gr W0 w') w → G 3 #[true, true, true, true, true, true, true, true, false, false, false] { tmps := List.toArray (v0 :: v1 :: v2 :: v3 :: v4 :: v5 :: v6 :: .pointer (some ⟨XB, 0, none⟩) :: v8 :: v9 :: v10 :: v11 :: v12 :: v13 :: v14 :: v15 :: v16 :: v17 :: .int .u32 a :: v19 :: s20 :: s21 :: v22 :: v23 :: v24 :: v25 :: v26 :: v27 :: v28 :: v29 :: v30 :: v31 :: v32 :: v33 :: v34 :: v35 :: v36 :: v37 :: v38 :: v39 :: v40 :: v41 :: v42 :: v43 :: v44 :: v45 :: v46 :: v47 :: v48 :: v49 :: v50 :: v51 :: v52 :: v53 :: v54 :: v55 :: v56 :: v57 :: v58 :: v59 :: v60 :: v61 :: v62 :: v63 :: v64 :: v65 :: v66 :: v67 :: v68 :: v69 :: v70 :: v71 :: v72 :: v73 :: v74 :: v75 :: v76 :: .tuple #[wv (x * a), .int .i64 0] :: wv x :: .int .u32 a :: .int .i64 a :: wv a :: .tuple #[wv (x * a), .int .i64 0] :: wv (x * a) :: .int .i64 0 :: v85 :: v86 :: v87 :: v88 :: v89 :: v90 :: v91 :: v92 :: v93 :: v94 :: v95 :: v96 :: v97 :: v98 :: v99 :: v100 :: v101 :: v102 :: v103 :: ([] : List Value)), defers := [] } w := by
    intro w hS
    refine inn _ _ _ _ ?_
    refine wpAnyH_ready (rs := [8]) (by kernel_rfl) (by simp) ?_
    refine AllReadyH.cons (o := ⟨some 20, .alloc 50, 0, "ref.go:77", #[], none⟩) rfl (fun K hK => ?_) ?_
    · go_simp
      have g2 := hS.2.2.alloc (.cells #[.bool false, .string ⟨#[]⟩] 50)
      refine hK.out _ _ ⟨(g2).keeps x0, (g2).keeps x1, g2⟩ (fun hHeld => ?_)
      (simp only [Act.put, List.setIfInBounds_toArray, List.set_cons_zero, List.set_cons_succ])
      exact out _ _ _ _ (st1_2 _ _ hHeld (FreshW.new hS.2.2 _))
    exact AllReadyH.nil
  have st1_1 : ∀ (A0 : Nat) (w : World), (fun w' => w'.cell? ⟨XB, 0, none⟩ = some (.bool (decide (x < 0))) ∧ w'.cell? ⟨XB, 1, none⟩ = some (.string (bstr x.natAbs)) ∧ Gr W0 w') w → FreshW W0 w A0 → G 6 #[true, true, true, true, false, false, false, false, true, false, false] { tmps := List.toArray (v0 :: v1 :: v2 :: v3 :: v4 :: v5 :: v6 :: .pointer (some ⟨XB, 0, none⟩) :: v8 :: v9 :: v10 :: v11 :: v12 :: v13 :: v14 :: v15 :: v16 :: v17 :: .int .u32 a :: v19 :: .pointer (some ⟨A0, 0, none⟩) :: s21 :: v22 :: v23 :: v24 :: v25 :: v26 :: v27 :: v28 :: v29 :: v30 :: v31 :: v32 :: v33 :: v34 :: v35 :: v36 :: v37 :: v38 :: v39 :: v40 :: v41 :: v42 :: v43 :: v44 :: v45 :: v46 :: v47 :: v48 :: v49 :: v50 :: v51 :: v52 :: v53 :: v54 :: v55 :: v56 :: v57 :: v58 :: v59 :: v60 :: v61 :: v62 :: v63 :: v64 :: v65 :: v66 :: v67 :: v68 :: v69 :: v70 :: v71 :: v72 :: v73 :: v74 :: v75 :: v76 :: s77 :: wv x :: .int .u32 a :: .int .i64 a :: wv a :: s82 :: s83 :: s84 :: v85 :: v86 :: v87 :: v88 :: v89 :: v90 :: v91 :: v92 :: v93 :: v94 :: v95 :: v96 :: v97 :: v98 :: v99 :: v100 :: v101 :: v102 :: v103 :: ([] : List Value)), defers := [] } w := by
    intro A0 w hS hF0
    refine inn _ _ _ _ ?_
    refine wpAnyH_ready (rs := [4]) (by kernel_rfl) (by simp) ?_
    refine AllReadyH.cons (o := ⟨some 82, .call ⟨.value (.func 41), #[.tmp 78, .tmp 81], #[50, 50]⟩, 51, "ref.go:77", #[⟨0, .data⟩, ⟨3, .data⟩, ⟨3, .chain⟩], none⟩) rfl (fun K hK => ?_) ?_
    · go_simp
      go_at_call 41
      refine (HC2 _).mono ?_
      rintro e w' ⟨rfl, g⟩
      go_wp2_with fail
      have g2 := hS.2.2.trans g
      refine hK.out _ _ ⟨(g2).keeps x0, (g2).keeps x1, g2⟩ (fun hHeld => ?_)
      (simp only [Act.put, List.setIfInBounds_toArray, List.set_cons_zero, List.set_cons_succ])
      refine wpAnyH_take (i := 5) (oi := ⟨some 77, .move (.tmp 82), 51, "ref.go:77", #[⟨4, .data⟩], none⟩) (v := ?_) rfl (by kernel_rfl) (by kernel_rfl) (by kernel_rfl) (hQ _ _) (_root_.Or.inl ⟨by rfl, ?_⟩) (by assumption) ?_
      rotate_left
      · intro w0 hSw; (try dsimp only at hSw); have y0 := hSw.1; have y1 := hSw.2.1; go_simp; try with_reducible rfl
      (simp only [Act.put, List.setIfInBounds_toArray, List.set_cons_zero, List.set_cons_succ])
      refine wpAnyH_take (i := 6) (oi := ⟨some 83, .extract (.tmp 77) 0, 50, "ref.go:77", #[⟨5, .data⟩], none⟩) (v := ?_) rfl (by kernel_rfl) (by kernel_rfl) (by kernel_rfl) (hQ _ _) (_root_.Or.inl ⟨by rfl, ?_⟩) (by assumption) ?_
      rotate_left
      · intro w0 hSw; (try dsimp only at hSw); have y0 := hSw.1; have y1 := hSw.2.1; go_simp; try with_reducible rfl
      (simp only [Act.put, List.setIfInBounds_toArray, List.set_cons_zero, List.set_cons_succ])
      refine wpAnyH_take (i := 7) (oi := ⟨some 84, .extract (.tmp 77) 1, 35, "ref.go:77", #[⟨5, .data⟩, ⟨9, .gcOnly .lateStores⟩], none⟩) (v := ?_) rfl (by kernel_rfl) (by kernel_rfl) (by kernel_rfl) (hQ _ _) (_root_.Or.inl ⟨by rfl, ?_⟩) (by assumption) ?_
      rotate_left
      · intro w0 hSw; (try dsimp only at hSw); have y0 := hSw.1; have y1 := hSw.2.1; go_simp; try with_reducible rfl
      (simp only [Act.put, List.setIfInBounds_toArray, List.set_cons_zero, List.set_cons_succ])
      exact out _ _ _ _ (st1_2 _ _ hHeld (hF0.later g))
    exact AllReadyH.nil
  have st0_1 : ∀ (w : World), (fun w' => w'.cell? ⟨XB, 0, none⟩ = some (.bool (decide (x < 0))) ∧ w'.cell? ⟨XB, 1, none⟩ = some (.string (bstr x.natAbs)) ∧ Gr W0 w') w → G 7 #[true, true, true, true, false, false, false, false, false, false, false] { tmps := List.toArray (v0 :: v1 :: v2 :: v3 :: v4 :: v5 :: v6 :: .pointer (some ⟨XB, 0, none⟩) :: v8 :: v9 :: v10 :: v11 :: v12 :: v13 :: v14 :: v15 :: v16 :: v17 :: .int .u32 a :: v19 :: s20 :: s21 :: v22 :: v23 :: v24 :: v25 :: v26 :: v27 :: v28 :: v29 :: v30 :: v31 :: v32 :: v33 :: v34 :: v35 :: v36 :: v37 :: v38 :: v39 :: v40 :: v41 :: v42 :: v43 :: v44 :: v45 :: v46 :: v47 :: v48 :: v49 :: v50 :: v51 :: v52 :: v53 :: v54 :: v55 :: v56 :: v57 :: v58 :: v59 :: v60 :: v61 :: v62 :: v63 :: v64 :: v65 :: v66 :: v67 :: v68 :: v69 :: v70 :: v71 :: v72 :: v73 :: v74 :: v75 :: v76 :: s77 :: wv x :: .int .u32 a :: .int .i64 a :: wv a :: s82 :: s83 :: s84 :: v85 :: v86 :: v87 :: v88 :: v89 :: v90 :: v91 :: v92 :: v93 :: v94 :: v95 :: v96 :: v97 :: v98 :: v99 :: v100 :: v101 :: v102 :: v103 :: ([] : List Value)), defers := [] } w := by
    intro w hS
    refine inn _ _ _ _ ?_
    refine wpAnyH_ready (rs := [4, 8]) (by kernel_rfl) (by simp) ?_
    refine AllReadyH.cons (o := ⟨some 82, .call ⟨.value (.func 41), #[.tmp 78, .tmp 81], #[50, 50]⟩, 51, "ref.go:77", #[⟨0, .data⟩, ⟨3, .data⟩, ⟨3, .chain⟩], none⟩) rfl (fun K hK => ?_) ?_
    · go_simp
      go_at_call 41
      refine (HC2 _).mono ?_
      rintro e w' ⟨rfl, g⟩
      go_wp2_with fail
      have g2 := hS.2.2.trans g
      refine hK.out _ _ ⟨(g2).keeps x0, (g2).keeps x1, g2⟩ (fun hHeld => ?_)
      (simp only [Act.put, List.setIfInBounds_toArray, List.set_cons_zero, List.set_cons_succ])
      refine wpAnyH_take (i := 5) (oi := ⟨some 77, .move (.tmp 82), 51, "ref.go:77", #[⟨4, .data⟩], none⟩) (v := ?_) rfl (by kernel_rfl) (by kernel_rfl) (by kernel_rfl) (hQ _ _) (_root_.Or.inl ⟨by rfl, ?_⟩) (by assumption) ?_
      rotate_left
      · intro w0 hSw; (try dsimp only at hSw); have y0 := hSw.1; have y1 := hSw.2.1; go_simp; try with_reducible rfl
      (simp only [Act.put, List.setIfInBounds_toArray, List.set_cons_zero, List.set_cons_succ])
      refine wpAnyH_take (i := 6) (oi := ⟨some 83, .extract (.tmp 77) 0, 50, "ref.go:77", #[⟨5, .data⟩], none⟩) (v := ?_) rfl (by kernel_rfl) (by kernel_rfl) (by kernel_rfl) (hQ _ _) (_root_.Or.inl ⟨by rfl, ?_⟩) (by assumption) ?_
      rotate_left
      · intro w0 hSw; (try dsimp only at hSw); have y0 := hSw.1; have y1 := hSw.2.1; go_simp; try with_reducible rfl
      (simp only [Act.put, List.setIfInBounds_toArray, List.set_cons_zero, List.set_cons_succ])
      refine wpAnyH_take (i := 7) (oi := ⟨some 84, .extract (.tmp 77) 1, 35, "ref.go:77", #[⟨5, .data⟩, ⟨9, .gcOnly .lateStores⟩], none⟩) (v := ?_) rfl (by kernel_rfl) (by kernel_rfl) (by kernel_rfl) (hQ _ _) (_root_.Or.inl ⟨by rfl, ?_⟩) (by assumption) ?_
      rotate_left
      · intro w0 hSw; (try dsimp only at hSw); have y0 := hSw.1; have y1 := hSw.2.1; go_simp; try with_reducible rfl
      (simp only [Act.put, List.setIfInBounds_toArray, List.set_cons_zero, List.set_cons_succ])
      exact out _ _ _ _ (st0_2 _ hHeld)
    refine AllReadyH.cons (o := ⟨some 20, .alloc 50, 0, "ref.go:77", #[], none⟩) rfl (fun K hK => ?_) ?_
    · go_simp
      have g2 := hS.2.2.alloc (.cells #[.bool false, .string ⟨#[]⟩] 50)
      refine hK.out _ _ ⟨(g2).keeps x0, (g2).keeps x1, g2⟩ (fun hHeld => ?_)
      (simp only [Act.put, List.setIfInBounds_toArray, List.set_cons_zero, List.set_cons_succ])
      exact out _ _ _ _ (st1_1 _ _ hHeld (FreshW.new hS.2.2 _))
    exact AllReadyH.nil
  have st1_0 : ∀ (A0 : Nat) (w : World), (fun w' => w'.cell? ⟨XB, 0, none⟩ = some (.bool (decide (x < 0))) ∧ w'.cell? ⟨XB, 1, none⟩ = some (.string (bstr x.natAbs)) ∧ Gr W0 w') w → FreshW W0 w A0 → G 7 #[true, true, true, false, false, false, false, false, true, false, false] { tmps := List.toArray (v0 :: v1 :: v2 :: v3 :: v4 :: v5 :: v6 :: .pointer (some ⟨XB, 0, none⟩) :: v8 :: v9 :: v10 :: v11 :: v12 :: v13 :: v14 :: v15 :: v16 :: v17 :: .int .u32 a :: v19 :: .pointer (some ⟨A0, 0, none⟩) :: s21 :: v22 :: v23 :: v24 :: v25 :: v26 :: v27 :: v28 :: v29 :: v30 :: v31 :: v32 :: v33 :: v34 :: v35 :: v36 :: v37 :: v38 :: v39 :: v40 :: v41 :: v42 :: v43 :: v44 :: v45 :: v46 :: v47 :: v48 :: v49 :: v50 :: v51 :: v52 :: v53 :: v54 :: v55 :: v56 :: v57 :: v58 :: v59 :: v60 :: v61 :: v62 :: v63 :: v64 :: v65 :: v66 :: v67 :: v68 :: v69 :: v70 :: v71 :: v72 :: v73 :: v74 :: v75 :: v76 :: s77 :: wv x :: .int .u32 a :: .int .i64 a :: s81 :: s82 :: s83 :: s84 :: v85 :: v86 :: v87 :: v88 :: v89 :: v90 :: v91 :: v92 :: v93 :: v94 :: v95 :: v96 :: v97 :: v98 :: v99 :: v100 :: v101 :: v102 :: v103 :: ([] : List Value)), defers := [] } w := by
    intro A0 w hS hF0
    refine inn _ _ _ _ ?_
    refine wpAnyH_ready (rs := [3]) (by kernel_rfl) (by simp) ?_
    refine AllReadyH.cons (o := ⟨some 81, .call ⟨.value (.func 44), #[.tmp 80], #[2]⟩, 50, "ref.go:77", #[⟨2, .data⟩], none⟩) rfl (fun K hK => ?_) ?_
    · go_simp
      go_at_call 44
      refine (HC1 _ hS.2.2).mono ?_
      rintro e w' ⟨rfl, g⟩
      go_wp2_with fail
      have g2 := hS.2.2.trans g
      refine hK.out _ _ ⟨(g2).keeps x0, (g2).keeps x1, g2⟩ (fun hHeld => ?_)
      (simp only [Act.put, List.setIfInBounds_toArray, List.set_cons_zero, List.set_cons_succ])
      exact out _ _ _ _ (st1_1 _ _ hHeld (hF0.later g))
    exact AllReadyH.nil
  have st0_0 : ∀ (w : World), (fun w' => w'.cell? ⟨XB, 0, none⟩ = some (.bool (decide (x < 0))) ∧ w'.cell? ⟨XB, 1, none⟩ = some (.string (bstr x.natAbs)) ∧ Gr W0 w') w → G 8 #[true, true, true, false, false, false, false, false, false, false, false] { tmps := List.toArray (v0 :: v1 :: v2 :: v3 :: v4 :: v5 :: v6 :: .pointer (some ⟨XB, 0, none⟩) :: v8 :: v9 :: v10 :: v11 :: v12 :: v13 :: v14 :: v15 :: v16 :: v17 :: .int .u32 a :: v19 :: s20 :: s21 :: v22 :: v23 :: v24 :: v25 :: v26 :: v27 :: v28 :: v29 :: v30 :: v31 :: v32 :: v33 :: v34 :: v35 :: v36 :: v37 :: v38 :: v39 :: v40 :: v41 :: v42 :: v43 :: v44 :: v45 :: v46 :: v47 :: v48 :: v49 :: v50 :: v51 :: v52 :: v53 :: v54 :: v55 :: v56 :: v57 :: v58 :: v59 :: v60 :: v61 :: v62 :: v63 :: v64 :: v65 :: v66 :: v67 :: v68 :: v69 :: v70 :: v71 :: v72 :: v73 :: v74 :: v75 :: v76 :: s77 :: wv x :: .int .u32 a :: .int .i64 a :: s81 :: s82 :: s83 :: s84 :: v85 :: v86 :: v87 :: v88 :: v89 :: v90 :: v91 :: v92 :: v93 :: v94 :: v95 :: v96 :: v97 :: v98 :: v99 :: v100 :: v101 :: v102 :: v103 :: ([] : List Value)), defers := [] } w := by
    intro w hS
    refine inn _ _ _ _ ?_
    refine wpAnyH_ready (rs := [3, 8]) (by kernel_rfl) (by simp) ?_
    refine AllReadyH.cons (o := ⟨some 81, .call ⟨.value (.func 44), #[.tmp 80], #[2]⟩, 50, "ref.go:77", #[⟨2, .data⟩], none⟩) rfl (fun K hK => ?_) ?_
    · go_simp
      go_at_call 44
      refine (HC1 _ hS.2.2).mono ?_
      rintro e w' ⟨rfl, g⟩
      go_wp2_with fail
      have g2 := hS.2.2.trans g
      refine hK.out _ _ ⟨(g2).keeps x0, (g2).keeps x1, g2⟩ (fun hHeld => ?_)
      (simp only [Act.put, List.setIfInBounds_toArray, List.set_cons_zero, List.set_cons_succ])
      exact out _ _ _ _ (st0_1 _ hHeld)
    refine AllReadyH.cons (o := ⟨some 20, .alloc 50, 0, "ref.go:77", #[], none⟩) rfl (fun K hK => ?_) ?_
    · go_simp
      have g2 := hS.2.2.alloc (.cells #[.bool false, .string ⟨#[]⟩] 50)
      refine hK.out _ _ ⟨(g2).keeps x0, (g2).keeps x1, g2⟩ (fun hHeld => ?_)
      (simp only [Act.put, List.setIfInBounds_toArray, List.set_cons_zero, List.set_cons_succ])
      exact out _ _ _ _ (st1_0 _ _ hHeld (FreshW.new hS.2.2 _))
    exact AllReadyH.nil
  show wpAnyH _ _ _ _ _ 11 #[false, false, false, false, false, false, false, false, false, false, false] _ _
  refine wpAnyH_take (i := 0) (oi := ⟨some 78, .load 50 (.tmp 7), 50, "ref.go:77", #[], none⟩) (v := ?_) rfl (by kernel_rfl) (by kernel_rfl) (by kernel_rfl) (hQ _ _) (_root_.Or.inl ⟨by rfl, ?_⟩) (by assumption) ?_
  rotate_left
  · intro w0 hSw; (try dsimp only at hSw); have y0 := hSw.1; have y1 := hSw.2.1; go_simp; try with_reducible rfl
  (simp only [Act.put, List.setIfInBounds_toArray, List.set_cons_zero, List.set_cons_succ])
  refine wpAnyH_take (i := 1) (oi := ⟨some 79, .move (.tmp 18), 22, "ref.go:77", #[], none⟩) (v := ?_) rfl (by kernel_rfl) (by kernel_rfl) (by kernel_rfl) (hQ _ _) (_root_.Or.inl ⟨by rfl, ?_⟩) (by assumption) ?_
  rotate_left
  · intro w0 hSw; (try dsimp only at hSw); have y0 := hSw.1; have y1 := hSw.2.1; go_simp; try with_reducible rfl
  (simp only [Act.put, List.setIfInBounds_toArray, List.set_cons_zero, List.set_cons_succ])
  refine wpAnyH_take (i := 2) (oi := ⟨some 80, .convert 22 2 (.tmp 79), 2, "ref.go:77", #[⟨1, .data⟩], none⟩) (v := .int .i64 a) rfl (by kernel_rfl) (by kernel_rfl) (by kernel_rfl) (hQ _ _) (_root_.Or.inl ⟨by rfl, ?_⟩) (by assumption) ?_
  · intro w0 hSw; (try dsimp only at hSw); have y0 := hSw.1; have y1 := hSw.2.1; go_simp <;> first | with_reducible rfl | simp only [hw0]
  (simp only [Act.put, List.setIfInBounds_toArray, List.set_cons_zero, List.set_cons_succ])
  exact out _ _ _ _ (st0_0 _ hHeld)
set_option maxRecDepth 100000 in
set_option maxHeartbeats 8000000 in
theorem rj_product (x : Int) (p : Int) (W0 W : World) (X O : Nat) (y : Int) (HK : isW (p)) (HX : InR x) (HKR : InR (p)) (HZ : InR (x * p))
     (hG : Gr W0 W) (hX0 : XD W0 X O y x W)
    (v0 v1 v2 v3 v4 v5 v6 v8 v10 v11 v12 v13 v14 v15 v16 v17 v18 v19 v20 v21 v22 v23 v24 v25 v26 v27 v28 v29 v30 v31 v32 v33 v34 v35 v36 v37 v38 v39 v40 v41 v42 v43 v44 v45 v46 v47 v48 v49 v50 v51 v52 v53 v54 v55 v56 v57 v58 v59 v60 v61 v62 v63 v64 v65 v66 v67 v68 v69 v70 v71 v72 v73 v74 v75 v76 v77 v78 v79 v80 v81 v82 v83 v84 v85 v86 v87 v88 v89 v90 v99 v100 v101 v102 v103 s91 s92 s93 s94 s95 s96 s97 s98 : Value) (Q : Exit → Act → World → Prop) (hQ : ∀ (d : Option Tmp) (v : Value) c a w, Q (.panic c) (a.put d v) w → Q (.panic c) a w)
    (hpost : ∀ u91 u92 u93 u94 u95 u96 u97 u98 wx, XD W0 X O y (x * p) wx → Gr W0 wx → Q .normal { tmps := List.toArray (v0 :: v1 :: v2 :: v3 :: v4 :: v5 :: v6 :: .pointer (some ⟨X, 0, none⟩) :: v8 :: .int .u32 p :: v10 :: v11 :: v12 :: v13 :: v14 :: v15 :: v16 :: v17 :: v18 :: v19 :: v20 :: v21 :: v22 :: v23 :: v24 :: v25 :: v26 :: v27 :: v28 :: v29 :: v30 :: v31 :: v32 :: v33 :: v34 :: v35 :: v36 :: v37 :: v38 :: v39 :: v40 :: v41 :: v42 :: v43 :: v44 :: v45 :: v46 :: v47 :: v48 :: v49 :: v50 :: v51 :: v52 :: v53 :: v54 :: v55 :: v56 :: v57 :: v58 :: v59 :: v60 :: v61 :: v62 :: v63 :: v64 :: v65 :: v66 :: v67 :: v68 :: v69 :: v70 :: v71 :: v72 :: v73 :: v74 :: v75 :: v76 :: v77 :: v78 :: v79 :: v80 :: v81 :: v82 :: v83 :: v84 :: v85 :: v86 :: v87 :: v88 :: v89 :: v90 :: u91 :: u92 :: u93 :: u94 :: u95 :: u96 :: u97 :: u98 :: v99 :: v100 :: v101 :: v102 :: v103 :: ([] : List Value)), defers := [] } wx) :
    (Code.region 15 #[⟨some 92, .load 50 (.tmp 7), 50, "ref.go:79", #[], none⟩,
      ⟨some 93, .move (.tmp 9), 22, "ref.go:79", #[], none⟩,
      ⟨some 94, .convert 22 2 (.tmp 93), 2, "ref.go:79", #[⟨1, .data⟩], none⟩,
      ⟨some 95, .call ⟨.value (.func 44), #[.tmp 94], #[2]⟩, 50, "ref.go:79", #[⟨2, .data⟩], none⟩,
      ⟨some 96, .call ⟨.value (.func 41), #[.tmp 92, .tmp 95], #[50, 50]⟩, 51, "ref.go:79", #[⟨0, .data⟩, ⟨3, .data⟩, ⟨3, .chain⟩], none⟩,
      ⟨some 91, .move (.tmp 96), 51, "ref.go:79", #[⟨4, .data⟩], none⟩,
      ⟨some 97, .extract (.tmp 91) 0, 50, "ref.go:79", #[⟨5, .data⟩], none⟩,
      ⟨some 98, .extract (.tmp 91) 1, 35, "ref.go:79", #[⟨5, .data⟩, ⟨8, .gcOnly .lateStores⟩], none⟩,
      ⟨none, .store 50 (.tmp 7) (.tmp 97), 0, "ref.go:79", #[⟨6, .data⟩, ⟨4, .chain⟩, ⟨0, .phase⟩, ⟨1, .phase⟩, ⟨2, .phase⟩, ⟨3, .phase⟩, ⟨4, .phase⟩, ⟨5, .phase⟩, ⟨6, .phase⟩, ⟨7, .textOnly .lateStores⟩], none⟩] true).wp Tryz.prog Q { tmps := List.toArray (v0 :: v1 :: v2 :: v3 :: v4 :: v5 :: v6 :: .pointer (some ⟨X, 0, none⟩) :: v8 :: .int .u32 p :: v10 :: v11 :: v12 :: v13 :: v14 :: v15 :: v16 :: v17 :: v18 :: v19 :: v20 :: v21 :: v22 :: v23 :: v24 :: v25 :: v26 :: v27 :: v28 :: v29 :: v30 :: v31 :: v32 :: v33 :: v34 :: v35 :: v36 :: v37 :: v38 :: v39 :: v40 :: v41 :: v42 :: v43 :: v44 :: v45 :: v46 :: v47 :: v48 :: v49 :: v50 :: v51 :: v52 :: v53 :: v54 :: v55 :: v56 :: v57 :: v58 :: v59 :: v60 :: v61 :: v62 :: v63 :: v64 :: v65 :: v66 :: v67 :: v68 :: v69 :: v70 :: v71 :: v72 :: v73 :: v74 :: v75 :: v76 :: v77 :: v78 :: v79 :: v80 :: v81 :: v82 :: v83 :: v84 :: v85 :: v86 :: v87 :: v88 :: v89 :: v90 :: s91 :: s92 :: s93 :: s94 :: s95 :: s96 :: s97 :: s98 :: v99 :: v100 :: v101 :: v102 :: v103 :: ([] : List Value)), defers := [] } W := by
  refine wp_region_held_drew (S := fun w' => Gr W0 w') (by kernel_rfl) (have g : Gr W0 W.drew := hG.drew; g) (fun hHeld => ?_)
  have hw : IntKind.i64.wrap (p) = p := IntWalk.i64_in _ (by have a := HK.1; have b := HK.2; omega)
  refine chain_any (fun G out inn => ?_)
  have st12 : ∀ (w : World), (fun w' => Gr W0 w') w → XD W0 X O y x w → G 1 #[true, true, true, true, true, true, true, true, false] { tmps := List.toArray (v0 :: v1 :: v2 :: v3 :: v4 :: v5 :: v6 :: .pointer (some ⟨X, 0, none⟩) :: v8 :: .int .u32 p :: v10 :: v11 :: v12 :: v13 :: v14 :: v15 :: v16 :: v17 :: v18 :: v19 :: v20 :: v21 :: v22 :: v23 :: v24 :: v25 :: v26 :: v27 :: v28 :: v29 :: v30 :: v31 :: v32 :: v33 :: v34 :: v35 :: v36 :: v37 :: v38 :: v39 :: v40 :: v41 :: v42 :: v43 :: v44 :: v45 :: v46 :: v47 :: v48 :: v49 :: v50 :: v51 :: v52 :: v53 :: v54 :: v55 :: v56 :: v57 :: v58 :: v59 :: v60 :: v61 :: v62 :: v63 :: v64 :: v65 :: v66 :: v67 :: v68 :: v69 :: v70 :: v71 :: v72 :: v73 :: v74 :: v75 :: v76 :: v77 :: v78 :: v79 :: v80 :: v81 :: v82 :: v83 :: v84 :: v85 :: v86 :: v87 :: v88 :: v89 :: v90 :: .tuple #[wv (x * p), .int .i64 0] :: wv x :: .int .u32 p :: .int .i64 p :: wv (p) :: .tuple #[wv (x * p), .int .i64 0] :: wv (x * p) :: .int .i64 0 :: v99 :: v100 :: v101 :: v102 :: v103 :: ([] : List Value)), defers := [] } w := by
    intro w hS hX
    refine inn _ _ _ _ ?_
    obtain ⟨⟨l7, c0, c1, z0, z1⟩, hO, hne⟩ := hX
    refine wpAnyH_ready (rs := [8]) (by kernel_rfl) (by simp) ?_
    refine AllReadyH.cons (o := ⟨none, .store 50 (.tmp 7) (.tmp 97), 0, "ref.go:79", #[⟨6, .data⟩, ⟨4, .chain⟩, ⟨0, .phase⟩, ⟨1, .phase⟩, ⟨2, .phase⟩, ⟨3, .phase⟩, ⟨4, .phase⟩, ⟨5, .phase⟩, ⟨6, .phase⟩, ⟨7, .textOnly .lateStores⟩], none⟩) rfl (fun K hK => ?_) AllReadyH.nil
    unfold wv
    go_simp
    have g2 : Gr W0 ((w.setCell ⟨X, 0, none⟩ (.bool (decide (x * p < 0)))).setCell ⟨X, 1, none⟩ (.string (bstr (x * p).natAbs))) := (hS.setCell (p := ⟨X, 0, none⟩) l7 _).setCell (p := ⟨X, 1, none⟩) l7 _
    refine hK.out _ _ g2 (fun hHeld => ?_)
    clear hK K
    (simp only [Act.put, List.setIfInBounds_toArray, List.set_cons_zero, List.set_cons_succ])
    refine wpAnyH_done (by kernel_rfl) ?_ _
    exact hpost _ _ _ _ _ _ _ _ _ ⟨⟨l7, (xc_put c0 c1 _ _).1, (xc_put c0 c1 _ _).2, (xc_frz _ _ _ _ _ _).trans z0, (xc_frz _ _ _ _ _ _).trans z1⟩, hO.other hne _ _, hne⟩ g2
  have st11 : ∀ (w : World), (fun w' => Gr W0 w') w → XD W0 X O y x w → G 5 #[true, true, true, true, false, false, false, false, false] { tmps := List.toArray (v0 :: v1 :: v2 :: v3 :: v4 :: v5 :: v6 :: .pointer (some ⟨X, 0, none⟩) :: v8 :: .int .u32 p :: v10 :: v11 :: v12 :: v13 :: v14 :: v15 :: v16 :: v17 :: v18 :: v19 :: v20 :: v21 :: v22 :: v23 :: v24 :: v25 :: v26 :: v27 :: v28 :: v29 :: v30 :: v31 :: v32 :: v33 :: v34 :: v35 :: v36 :: v37 :: v38 :: v39 :: v40 :: v41 :: v42 :: v43 :: v44 :: v45 :: v46 :: v47 :: v48 :: v49 :: v50 :: v51 :: v52 :: v53 :: v54 :: v55 :: v56 :: v57 :: v58 :: v59 :: v60 :: v61 :: v62 :: v63 :: v64 :: v65 :: v66 :: v67 :: v68 :: v69 :: v70 :: v71 :: v72 :: v73 :: v74 :: v75 :: v76 :: v77 :: v78 :: v79 :: v80 :: v81 :: v82 :: v83 :: v84 :: v85 :: v86 :: v87 :: v88 :: v89 :: v90 :: s91 :: wv x :: .int .u32 p :: .int .i64 p :: wv (p) :: s96 :: s97 :: s98 :: v99 :: v100 :: v101 :: v102 :: v103 :: ([] : List Value)), defers := [] } w := by
    intro w hS hX
    refine inn _ _ _ _ ?_
    refine wpAnyH_ready (rs := [4]) (by kernel_rfl) (by simp) ?_
    refine AllReadyH.cons (o := ⟨some 96, .call ⟨.value (.func 41), #[.tmp 92, .tmp 95], #[50, 50]⟩, 51, "ref.go:79", #[⟨0, .data⟩, ⟨3, .data⟩, ⟨3, .chain⟩], none⟩) rfl (fun K hK => ?_) ?_
    · go_simp
      go_at_call 41
      refine (rwmul_any x (p) _ HX HKR HZ).mono ?_
      rintro e w' ⟨rfl, g⟩
      go_wp2_with fail
      have g2 := hS.trans g
      refine hK.out _ _ g2 (fun hHeld => ?_)
      (simp only [Act.put, List.setIfInBounds_toArray, List.set_cons_zero, List.set_cons_succ])
      refine wpAnyH_take (i := 5) (oi := ⟨some 91, .move (.tmp 96), 51, "ref.go:79", #[⟨4, .data⟩], none⟩) (v := ?_) rfl (by kernel_rfl) (by kernel_rfl) (by kernel_rfl) (hQ _ _) (_root_.Or.inl ⟨by rfl, ?_⟩) (by assumption) ?_
      rotate_left
      · intro w0 hSw; (try dsimp only at hSw); go_simp; try with_reducible rfl
      (simp only [Act.put, List.setIfInBounds_toArray, List.set_cons_zero, List.set_cons_succ])
      refine wpAnyH_take (i := 6) (oi := ⟨some 97, .extract (.tmp 91) 0, 50, "ref.go:79", #[⟨5, .data⟩], none⟩) (v := ?_) rfl (by kernel_rfl) (by kernel_rfl) (by kernel_rfl) (hQ _ _) (_root_.Or.inl ⟨by rfl, ?_⟩) (by assumption) ?_
      rotate_left
      · intro w0 hSw; (try dsimp only at hSw); go_simp; try with_reducible rfl
      (simp only [Act.put, List.setIfInBounds_toArray, List.set_cons_zero, List.set_cons_succ])
      refine wpAnyH_take (i := 7) (oi := ⟨some 98, .extract (.tmp 91) 1, 35, "ref.go:79", #[⟨5, .data⟩, ⟨8, .gcOnly .lateStores⟩], none⟩) (v := ?_) rfl (by kernel_rfl) (by kernel_rfl) (by kernel_rfl) (hQ _ _) (_root_.Or.inl ⟨by rfl, ?_⟩) (by assumption) ?_
      rotate_left
      · intro w0 hSw; (try dsimp only at hSw); go_simp; try with_reducible rfl
      (simp only [Act.put, List.setIfInBounds_toArray, List.set_cons_zero, List.set_cons_succ])
      exact out _ _ _ _ (st12 _ hHeld (hX.later g))
    exact AllReadyH.nil
  have st01 : ∀ (w : World), (fun w' => Gr W0 w') w → XD W0 X O y x w → G 6 #[false, true, true, true, false, false, false, false, false] { tmps := List.toArray (v0 :: v1 :: v2 :: v3 :: v4 :: v5 :: v6 :: .pointer (some ⟨X, 0, none⟩) :: v8 :: .int .u32 p :: v10 :: v11 :: v12 :: v13 :: v14 :: v15 :: v16 :: v17 :: v18 :: v19 :: v20 :: v21 :: v22 :: v23 :: v24 :: v25 :: v26 :: v27 :: v28 :: v29 :: v30 :: v31 :: v32 :: v33 :: v34 :: v35 :: v36 :: v37 :: v38 :: v39 :: v40 :: v41 :: v42 :: v43 :: v44 :: v45 :: v46 :: v47 :: v48 :: v49 :: v50 :: v51 :: v52 :: v53 :: v54 :: v55 :: v56 :: v57 :: v58 :: v59 :: v60 :: v61 :: v62 :: v63 :: v64 :: v65 :: v66 :: v67 :: v68 :: v69 :: v70 :: v71 :: v72 :: v73 :: v74 :: v75 :: v76 :: v77 :: v78 :: v79 :: v80 :: v81 :: v82 :: v83 :: v84 :: v85 :: v86 :: v87 :: v88 :: v89 :: v90 :: s91 :: s92 :: .int .u32 p :: .int .i64 p :: wv (p) :: s96 :: s97 :: s98 :: v99 :: v100 :: v101 :: v102 :: v103 :: ([] : List Value)), defers := [] } w := by
    intro w hS hX
    refine inn _ _ _ _ ?_
    refine wpAnyH_ready (rs := [0]) (by kernel_rfl) (by simp) ?_
    refine AllReadyH.cons (o := ⟨some 92, .load 50 (.tmp 7), 50, "ref.go:79", #[], none⟩) rfl (fun K hK => ?_) ?_
    · obtain ⟨⟨l7, c0, c1, z0, z1⟩, -, -⟩ := id hX
      go_simp
      refine hK.out _ _ hS (fun hHeld => ?_)
      (simp only [Act.put, List.setIfInBounds_toArray, List.set_cons_zero, List.set_cons_succ])
      exact out _ _ _ _ (st11 _ hHeld hX)
    exact AllReadyH.nil
  have st10 : ∀ (w : World), (fun w' => Gr W0 w') w → XD W0 X O y x w → G 6 #[true, true, true, false, false, false, false, false, false] { tmps := List.toArray (v0 :: v1 :: v2 :: v3 :: v4 :: v5 :: v6 :: .pointer (some ⟨X, 0, none⟩) :: v8 :: .int .u32 p :: v10 :: v11 :: v12 :: v13 :: v14 :: v15 :: v16 :: v17 :: v18 :: v19 :: v20 :: v21 :: v22 :: v23 :: v24 :: v25 :: v26 :: v27 :: v28 :: v29 :: v30 :: v31 :: v32 :: v33 :: v34 :: v35 :: v36 :: v37 :: v38 :: v39 :: v40 :: v41 :: v42 :: v43 :: v44 :: v45 :: v46 :: v47 :: v48 :: v49 :: v50 :: v51 :: v52 :: v53 :: v54 :: v55 :: v56 :: v57 :: v58 :: v59 :: v60 :: v61 :: v62 :: v63 :: v64 :: v65 :: v66 :: v67 :: v68 :: v69 :: v70 :: v71 :: v72 :: v73 :: v74 :: v75 :: v76 :: v77 :: v78 :: v79 :: v80 :: v81 :: v82 :: v83 :: v84 :: v85 :: v86 :: v87 :: v88 :: v89 :: v90 :: s91 :: wv x :: .int .u32 p :: .int .i64 p :: s95 :: s96 :: s97 :: s98 :: v99 :: v100 :: v101 :: v102 :: v103 :: ([] : List Value)), defers := [] } w := by
    intro w hS hX
    refine inn _ _ _ _ ?_
    refine wpAnyH_ready (rs := [3]) (by kernel_rfl) (by simp) ?_
    refine AllReadyH.cons (o := ⟨some 95, .call ⟨.value (.func 44), #[.tmp 94], #[2]⟩, 50, "ref.go:79", #[⟨2, .data⟩], none⟩) rfl (fun K hK => ?_) ?_
    · go_simp
      go_at_call 44
      refine (rwof_any (p) _ HK).mono ?_
      rintro e w' ⟨rfl, g⟩
      go_wp2_with fail
      have g2 := hS.trans g
      refine hK.out _ _ g2 (fun hHeld => ?_)
      (simp only [Act.put, List.setIfInBounds_toArray, List.set_cons_zero, List.set_cons_succ])
      exact out _ _ _ _ (st11 _ hHeld (hX.later g))
    exact AllReadyH.nil
  have st00 : ∀ (w : World), (fun w' => Gr W0 w') w → XD W0 X O y x w → G 7 #[false, true, true, false, false, false, false, false, false] { tmps := List.toArray (v0 :: v1 :: v2 :: v3 :: v4 :: v5 :: v6 :: .pointer (some ⟨X, 0, none⟩) :: v8 :: .int .u32 p :: v10 :: v11 :: v12 :: v13 :: v14 :: v15 :: v16 :: v17 :: v18 :: v19 :: v20 :: v21 :: v22 :: v23 :: v24 :: v25 :: v26 :: v27 :: v28 :: v29 :: v30 :: v31 :: v32 :: v33 :: v34 :: v35 :: v36 :: v37 :: v38 :: v39 :: v40 :: v41 :: v42 :: v43 :: v44 :: v45 :: v46 :: v47 :: v48 :: v49 :: v50 :: v51 :: v52 :: v53 :: v54 :: v55 :: v56 :: v57 :: v58 :: v59 :: v60 :: v61 :: v62 :: v63 :: v64 :: v65 :: v66 :: v67 :: v68 :: v69 :: v70 :: v71 :: v72 :: v73 :: v74 :: v75 :: v76 :: v77 :: v78 :: v79 :: v80 :: v81 :: v82 :: v83 :: v84 :: v85 :: v86 :: v87 :: v88 :: v89 :: v90 :: s91 :: s92 :: .int .u32 p :: .int .i64 p :: s95 :: s96 :: s97 :: s98 :: v99 :: v100 :: v101 :: v102 :: v103 :: ([] : List Value)), defers := [] } w := by
    intro w hS hX
    refine inn _ _ _ _ ?_
    refine wpAnyH_ready (rs := [0, 3]) (by kernel_rfl) (by simp) ?_
    refine AllReadyH.cons (o := ⟨some 92, .load 50 (.tmp 7), 50, "ref.go:79", #[], none⟩) rfl (fun K hK => ?_) ?_
    · obtain ⟨⟨l7, c0, c1, z0, z1⟩, -, -⟩ := id hX
      go_simp
      refine hK.out _ _ hS (fun hHeld => ?_)
      (simp only [Act.put, List.setIfInBounds_toArray, List.set_cons_zero, List.set_cons_succ])
      exact out _ _ _ _ (st10 _ hHeld hX)
    refine AllReadyH.cons (o := ⟨some 95, .call ⟨.value (.func 44), #[.tmp 94], #[2]⟩, 50, "ref.go:79", #[⟨2, .data⟩], none⟩) rfl (fun K hK => ?_) ?_
    · go_simp
      go_at_call 44
      refine (rwof_any (p) _ HK).mono ?_
      rintro e w' ⟨rfl, g⟩
      go_wp2_with fail
      have g2 := hS.trans g
      refine hK.out _ _ g2 (fun hHeld => ?_)
      (simp only [Act.put, List.setIfInBounds_toArray, List.set_cons_zero, List.set_cons_succ])
      exact out _ _ _ _ (st01 _ hHeld (hX.later g))
    exact AllReadyH.nil
  show wpAnyH _ _ _ _ _ 9 #[false, false, false, false, false, false, false, false, false] _ _
  refine wpAnyH_take (i := 1) (oi := ⟨some 93, .move (.tmp 9), 22, "ref.go:79", #[], none⟩) (v := ?_) rfl (by kernel_rfl) (by kernel_rfl) (by kernel_rfl) (hQ _ _) (_root_.Or.inl ⟨by rfl, ?_⟩) (by assumption) ?_
  rotate_left
  · intro w0 hSw; (try dsimp only at hSw); go_simp; try with_reducible rfl
  (simp only [Act.put, List.setIfInBounds_toArray, List.set_cons_zero, List.set_cons_succ])
  refine wpAnyH_take (i := 2) (oi := ⟨some 94, .convert 22 2 (.tmp 93), 2, "ref.go:79", #[⟨1, .data⟩], none⟩) (v := ?_) rfl (by kernel_rfl) (by kernel_rfl) (by kernel_rfl) (hQ _ _) (_root_.Or.inl ⟨by rfl, ?_⟩) (by assumption) ?_
  rotate_left
  · intro w0 hSw; (try dsimp only at hSw); go_simp; try with_reducible rfl
  (simp only [Act.put, List.setIfInBounds_toArray, List.set_cons_zero, List.set_cons_succ])
  try rw [hw]
  exact out _ _ _ _ (st00 _ hHeld (hX0.later (Gr.refl W).drew))
end Go.Proofs.YtlfiakpmnkhcdaaGreat.Mo
