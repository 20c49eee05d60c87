import Derived.Test.YtfpdemmdkiohhaaSd
/- The law ResidueBack: the region that draws. -/
namespace Go.Proofs.Ytfpdemmdkiohhaa.Mo
open Go.RowKit
set_option linter.unusedVariables false
set_option linter.unusedSimpArgs false

/-- A place for a number of package wide, made behind W, still zero. -/
def FreshW (W w : World) (B : Nat) : Prop := W.heap.size ≤ B ∧ w.cell? ⟨B, 0, none⟩ = some (.bool false) ∧ w.cell? ⟨B, 1, none⟩ = some (.string ⟨#[]⟩) ∧ w.frozen? ⟨B, 0, none⟩ = false ∧ w.frozen? ⟨B, 1, none⟩ = false
theorem FreshW.later {W w w' : World} {B : Nat} (h : FreshW W w B) (g : Gr w w') : FreshW W w' B :=
  ⟨h.1, g.keeps h.2.1, g.keeps h.2.2.1, (Below.frozen g (World.block_lt_of_cell? w _ h.2.1)).trans h.2.2.2.1, (Below.frozen g (World.block_lt_of_cell? w _ h.2.2.1)).trans h.2.2.2.2⟩
theorem FreshW.new {W w : World} (h : Gr W w) (t : TypeId) : FreshW W (w.alloc (.cells #[.bool false, .string ⟨#[]⟩] t)) w.heap.size :=
  ⟨h.size, by simp [go_sem], by simp [go_sem], by simp [go_sem], by simp [go_sem]⟩

set_option maxRecDepth 100000 in
set_option maxHeartbeats 8000000 in
theorem back_region (neg : Bool) (s : ByteArray) (P B : Int) (X0 S : Nat) (W0 W : World) (x0 : W0.cell? ⟨X0, 0, none⟩ = some (.bool neg)) (x1 : W0.cell? ⟨X0, 1, none⟩ = some (.string s)) (hG : Gr W0 W)
    (HP : ∀ w, Gr W0 w → Calls Try.prog 14 #[.pointer (some ⟨S, 0, none⟩)] w (fun e w' => e = .returned (wv P) ∧ Gr w w'))
    (HB : ∀ w, Calls Try.prog 18 #[.agg #[.bool neg, .string s], wv P] w (fun e w' => e = .returned (.tuple #[wv B, .int .i64 0]) ∧ Gr w w'))
    (v0 v1 v2 v3 v4 v6 v8 v9 v10 v11 v14 v15 v16 v17 v18 v19 v20 v21 v22 v23 v24 v25 v26 v27 v28 v29 v30 v31 v32 v33 v34 v35 v36 v37 v38 v39 v40 v41 v42 v43 v44 v45 v46 v47 v48 v49 v50 v51 v52 v53 v54 v55 v56 v57 v58 v66 v67 v68 v69 v70 v71 v72 v73 v74 v75 v76 v77 v78 v79 v80 v81 v82 v83 v84 v85 v86 v87 v88 v89 v90 v91 v92 v93 v94 v95 v96 v97 v98 v99 v100 v101 v102 v103 v104 v105 v106 v107 v108 v109 v110 v111 v112 v113 v114 v115 v116 v117 v118 v119 v120 v121 v122 v123 v124 v125 s12 s13 s59 s60 s61 s62 s63 s64 s65 : Value) (Q : Exit → Act → World → Prop) (hQ : ∀ (d : Option Tmp) (v : Value) c a w, Q (.panic c) (a.put d v) w → Q (.panic c) a w)
    (hpost : ∀ u59 u60 u61 u62 u63 u64 u65 A wx, wx.cell? ⟨A, 0, none⟩ = some (.bool (decide (B < 0))) → wx.cell? ⟨A, 1, none⟩ = some (.string (bstr B.natAbs)) → Gr W0 wx → Q .normal { tmps := List.toArray (v0 :: v1 :: v2 :: v3 :: v4 :: .pointer (some ⟨X0, 0, none⟩) :: v6 :: .pointer (some ⟨S, 0, none⟩) :: v8 :: v9 :: v10 :: v11 :: .pointer (some ⟨A, 0, none⟩) :: .int .i64 0 :: v14 :: v15 :: v16 :: v17 :: v18 :: v19 :: v20 :: v21 :: v22 :: v23 :: v24 :: v25 :: v26 :: v27 :: v28 :: v29 :: v30 :: v31 :: v32 :: v33 :: v34 :: v35 :: v36 :: v37 :: v38 :: v39 :: v40 :: v41 :: v42 :: v43 :: v44 :: v45 :: v46 :: v47 :: v48 :: v49 :: v50 :: v51 :: v52 :: v53 :: v54 :: v55 :: v56 :: v57 :: v58 :: u59 :: u60 :: u61 :: u62 :: u63 :: u64 :: u65 :: v66 :: v67 :: v68 :: v69 :: v70 :: v71 :: v72 :: v73 :: v74 :: v75 :: v76 :: v77 :: v78 :: v79 :: v80 :: v81 :: v82 :: v83 :: v84 :: v85 :: v86 :: v87 :: v88 :: v89 :: v90 :: v91 :: v92 :: v93 :: v94 :: v95 :: v96 :: v97 :: v98 :: v99 :: v100 :: v101 :: v102 :: v103 :: v104 :: v105 :: v106 :: v107 :: v108 :: v109 :: v110 :: v111 :: v112 :: v113 :: v114 :: v115 :: v116 :: v117 :: v118 :: v119 :: v120 :: v121 :: v122 :: v123 :: v124 :: v125 :: ([] : List Value)), defers := [] } wx) :
    (Code.region 8 #[{ dst := some 60, op := Op.load 36 (Operand.tmp 5), type := 36, pos := "law.go:123", after := #[], guard := none },
      { dst := some 61, op := Op.move (Operand.tmp 7), type := 25, pos := "law.go:123", after := #[], guard := none },
      { dst := some 62, op := Op.call { callee := Callee.value (Operand.func 14), args := #[Operand.tmp 61], argTypes := #[25] }, type := 36, pos := "law.go:123", after := #[{ on := 1, ground := Ground.data }], guard := none },
      { dst := some 63, op := Op.call { callee := Callee.value (Operand.func 18), args := #[Operand.tmp 60, Operand.tmp 62], argTypes := #[36, 36] }, type := 44, pos := "law.go:123", after := #[{ on := 0, ground := Ground.data }, { on := 2, ground := Ground.data }, { on := 2, ground := Ground.chain }], guard := none },
      { dst := some 59, op := Op.move (Operand.tmp 63), type := 44, pos := "law.go:123", after := #[{ on := 3, ground := Ground.data }], guard := none },
      { dst := some 64, op := Op.extract (Operand.tmp 59) 0, type := 36, pos := "law.go:123", after := #[{ on := 4, ground := Ground.data }], guard := none },
      { dst := some 65, op := Op.extract (Operand.tmp 59) 1, type := 26, pos := "law.go:123", after := #[{ on := 4, ground := Ground.data }, { on := 8, ground := Ground.gcOnly Departure.lateStores }], guard := none },
      { dst := some 12, op := Op.alloc 36, type := 0, pos := "law.go:123", after := #[], guard := none },
      { dst := none, op := Op.store 36 (Operand.tmp 12) (Operand.tmp 64), type := 0, pos := "law.go:123", after := #[{ on := 7, ground := Ground.data }, { on := 5, ground := Ground.data }, { on := 3, ground := Ground.chain }, { on := 0, ground := Ground.phase }, { on := 1, ground := Ground.phase }, { on := 2, ground := Ground.phase }, { on := 3, ground := Ground.phase }, { on := 4, ground := Ground.phase }, { on := 5, ground := Ground.phase }, { on := 6, ground := Ground.textOnly Departure.lateStores }, { on := 7, ground := Ground.phase }], guard := none },
      { dst := some 13, op := Op.assign (Operand.tmp 65), type := 26, pos := "law.go:123", after := #[{ on := 6, ground := Ground.data }, { on := 8, ground := Ground.chain }, { on := 0, ground := Ground.phase }, { on := 1, ground := Ground.phase }, { on := 2, ground := Ground.phase }, { on := 3, ground := Ground.phase }, { on := 4, ground := Ground.phase }, { on := 5, ground := Ground.phase }, { on := 6, ground := Ground.phase }, { on := 7, ground := Ground.phase }, { on := 8, ground := Ground.phase }], guard := none }] true).wp Try.prog Q { tmps := List.toArray (v0 :: v1 :: v2 :: v3 :: v4 :: .pointer (some ⟨X0, 0, none⟩) :: v6 :: .pointer (some ⟨S, 0, none⟩) :: v8 :: v9 :: v10 :: v11 :: s12 :: s13 :: v14 :: v15 :: v16 :: v17 :: v18 :: v19 :: v20 :: v21 :: v22 :: v23 :: v24 :: v25 :: v26 :: v27 :: v28 :: v29 :: v30 :: v31 :: v32 :: v33 :: v34 :: v35 :: v36 :: v37 :: v38 :: v39 :: v40 :: v41 :: v42 :: v43 :: v44 :: v45 :: v46 :: v47 :: v48 :: v49 :: v50 :: v51 :: v52 :: v53 :: v54 :: v55 :: v56 :: v57 :: v58 :: s59 :: s60 :: s61 :: s62 :: s63 :: s64 :: s65 :: v66 :: v67 :: v68 :: v69 :: v70 :: v71 :: v72 :: v73 :: v74 :: v75 :: v76 :: v77 :: v78 :: v79 :: v80 :: v81 :: v82 :: v83 :: v84 :: v85 :: v86 :: v87 :: v88 :: v89 :: v90 :: v91 :: v92 :: v93 :: v94 :: v95 :: v96 :: v97 :: v98 :: v99 :: v100 :: v101 :: v102 :: v103 :: v104 :: v105 :: v106 :: v107 :: v108 :: v109 :: v110 :: v111 :: v112 :: v113 :: v114 :: v115 :: v116 :: v117 :: v118 :: v119 :: v120 :: v121 :: v122 :: v123 :: v124 :: v125 :: ([] : List Value)), defers := [] } W := by
  refine wp_region_held_drew (S := fun w' => w'.cell? ⟨X0, 0, none⟩ = some (.bool neg) ∧ w'.cell? ⟨X0, 1, none⟩ = some (.string s) ∧ Gr W0 w') (by kernel_rfl) (have g : Gr W0 W.drew := hG.drew; ⟨(g).keeps x0, (g).keeps x1, g⟩) (fun hHeld => ?_)
  refine chain_any (fun G out inn => ?_)
  have st12 : ∀ (A : Nat) (w : World), (fun w' => w'.cell? ⟨X0, 0, none⟩ = some (.bool neg) ∧ w'.cell? ⟨X0, 1, none⟩ = some (.string s) ∧ Gr W0 w') w → FreshW W0 w A → G 2 #[true, true, true, true, true, true, true, true, false, false] { tmps := List.toArray (v0 :: v1 :: v2 :: v3 :: v4 :: .pointer (some ⟨X0, 0, none⟩) :: v6 :: .pointer (some ⟨S, 0, none⟩) :: v8 :: v9 :: v10 :: v11 :: .pointer (some ⟨A, 0, none⟩) :: s13 :: v14 :: v15 :: v16 :: v17 :: v18 :: v19 :: v20 :: v21 :: v22 :: v23 :: v24 :: v25 :: v26 :: v27 :: v28 :: v29 :: v30 :: v31 :: v32 :: v33 :: v34 :: v35 :: v36 :: v37 :: v38 :: v39 :: v40 :: v41 :: v42 :: v43 :: v44 :: v45 :: v46 :: v47 :: v48 :: v49 :: v50 :: v51 :: v52 :: v53 :: v54 :: v55 :: v56 :: v57 :: v58 :: .tuple #[wv B, .int .i64 0] :: .agg #[.bool neg, .string s] :: .pointer (some ⟨S, 0, none⟩) :: wv P :: .tuple #[wv B, .int .i64 0] :: wv B :: .int .i64 0 :: v66 :: v67 :: v68 :: v69 :: v70 :: v71 :: v72 :: v73 :: v74 :: v75 :: v76 :: v77 :: v78 :: v79 :: v80 :: v81 :: v82 :: v83 :: v84 :: v85 :: v86 :: v87 :: v88 :: v89 :: v90 :: v91 :: v92 :: v93 :: v94 :: v95 :: v96 :: v97 :: v98 :: v99 :: v100 :: v101 :: v102 :: v103 :: v104 :: v105 :: v106 :: v107 :: v108 :: v109 :: v110 :: v111 :: v112 :: v113 :: v114 :: v115 :: v116 :: v117 :: v118 :: v119 :: v120 :: v121 :: v122 :: v123 :: v124 :: v125 :: ([] : List Value)), defers := [] } w := by
    intro A w hS hF
    refine inn _ _ _ _ ?_
    obtain ⟨l0, c0, c1, z0, z1⟩ := hF
    refine wpAnyH_ready (rs := [8]) (by kernel_rfl) (by simp) ?_
    refine AllReadyH.cons (o := { dst := none, op := Op.store 36 (Operand.tmp 12) (Operand.tmp 64), type := 0, pos := "law.go:123", after := #[{ on := 7, ground := Ground.data }, { on := 5, ground := Ground.data }, { on := 3, ground := Ground.chain }, { on := 0, ground := Ground.phase }, { on := 1, ground := Ground.phase }, { on := 2, ground := Ground.phase }, { on := 3, ground := Ground.phase }, { on := 4, ground := Ground.phase }, { on := 5, ground := Ground.phase }, { on := 6, ground := Ground.textOnly Departure.lateStores }, { on := 7, ground := Ground.phase }], guard := none }) rfl (fun K hK => ?_) AllReadyH.nil
    unfold wv
    go_simp
    have g2 : Gr W0 ((w.setCell ⟨A, 0, none⟩ (.bool (decide (B < 0)))).setCell ⟨A, 1, none⟩ (.string (bstr B.natAbs))) := (hS.2.2.setCell (p := ⟨A, 0, none⟩) l0 _).setCell (p := ⟨A, 1, none⟩) l0 _
    refine hK.out _ _ ⟨(g2).keeps x0, (g2).keeps x1, g2⟩ (fun hHeld => ?_)
    clear hK K
    (simp only [Act.put, List.setIfInBounds_toArray, List.set_cons_zero, List.set_cons_succ])
    refine wpAnyH_take (i := 9) (oi := { dst := some 13, op := Op.assign (Operand.tmp 65), type := 26, pos := "law.go:123", after := #[{ on := 6, ground := Ground.data }, { on := 8, ground := Ground.chain }, { on := 0, ground := Ground.phase }, { on := 1, ground := Ground.phase }, { on := 2, ground := Ground.phase }, { on := 3, ground := Ground.phase }, { on := 4, ground := Ground.phase }, { on := 5, ground := Ground.phase }, { on := 6, ground := Ground.phase }, { on := 7, ground := Ground.phase }, { on := 8, ground := Ground.phase }], guard := none }) (v := ?_) rfl (by kernel_rfl) (by kernel_rfl) (by kernel_rfl) (hQ _ _) (_root_.Or.inl ⟨by rfl, ?_⟩) (by assumption) ?_
    rotate_left
    · intro w0 hSw; (try dsimp only at hSw); have y0 := hSw.1; have y1 := hSw.2.1; go_simp; try with_reducible rfl
    (simp only [Act.put, List.setIfInBounds_toArray, List.set_cons_zero, List.set_cons_succ])
    refine wpAnyH_done (by kernel_rfl) ?_ _
    exact hpost _ _ _ _ _ _ _ A _ (xc_put c0 c1 _ _).1 (xc_put c0 c1 _ _).2 g2
  have st02 : ∀ (w : World), (fun w' => w'.cell? ⟨X0, 0, none⟩ = some (.bool neg) ∧ w'.cell? ⟨X0, 1, none⟩ = some (.string s) ∧ Gr W0 w') w → G 3 #[true, true, true, true, true, true, true, false, false, false] { tmps := List.toArray (v0 :: v1 :: v2 :: v3 :: v4 :: .pointer (some ⟨X0, 0, none⟩) :: v6 :: .pointer (some ⟨S, 0, none⟩) :: v8 :: v9 :: v10 :: v11 :: s12 :: s13 :: v14 :: v15 :: v16 :: v17 :: v18 :: v19 :: v20 :: v21 :: v22 :: v23 :: v24 :: v25 :: v26 :: v27 :: v28 :: v29 :: v30 :: v31 :: v32 :: v33 :: v34 :: v35 :: v36 :: v37 :: v38 :: v39 :: v40 :: v41 :: v42 :: v43 :: v44 :: v45 :: v46 :: v47 :: v48 :: v49 :: v50 :: v51 :: v52 :: v53 :: v54 :: v55 :: v56 :: v57 :: v58 :: .tuple #[wv B, .int .i64 0] :: .agg #[.bool neg, .string s] :: .pointer (some ⟨S, 0, none⟩) :: wv P :: .tuple #[wv B, .int .i64 0] :: wv B :: .int .i64 0 :: v66 :: v67 :: v68 :: v69 :: v70 :: v71 :: v72 :: v73 :: v74 :: v75 :: v76 :: v77 :: v78 :: v79 :: v80 :: v81 :: v82 :: v83 :: v84 :: v85 :: v86 :: v87 :: v88 :: v89 :: v90 :: v91 :: v92 :: v93 :: v94 :: v95 :: v96 :: v97 :: v98 :: v99 :: v100 :: v101 :: v102 :: v103 :: v104 :: v105 :: v106 :: v107 :: v108 :: v109 :: v110 :: v111 :: v112 :: v113 :: v114 :: v115 :: v116 :: v117 :: v118 :: v119 :: v120 :: v121 :: v122 :: v123 :: v124 :: v125 :: ([] : List Value)), defers := [] } w := by
    intro w hS
    refine inn _ _ _ _ ?_
    refine wpAnyH_ready (rs := [7]) (by kernel_rfl) (by simp) ?_
    refine AllReadyH.cons (o := { dst := some 12, op := Op.alloc 36, type := 0, pos := "law.go:123", after := #[], guard := none }) rfl (fun K hK => ?_) ?_
    · go_simp
      have g2 := hS.2.2.alloc (.cells #[.bool false, .string ⟨#[]⟩] 36)
      refine hK.out _ _ ⟨(g2).keeps x0, (g2).keeps x1, g2⟩ (fun hHeld => ?_)
      (simp only [Act.put, List.setIfInBounds_toArray, List.set_cons_zero, List.set_cons_succ])
      exact out _ _ _ _ (st12 _ _ hHeld (FreshW.new hS.2.2 _))
    exact AllReadyH.nil
  have st11 : ∀ (A : Nat) (w : World), (fun w' => w'.cell? ⟨X0, 0, none⟩ = some (.bool neg) ∧ w'.cell? ⟨X0, 1, none⟩ = some (.string s) ∧ Gr W0 w') w → FreshW W0 w A → G 6 #[true, true, true, false, false, false, false, true, false, false] { tmps := List.toArray (v0 :: v1 :: v2 :: v3 :: v4 :: .pointer (some ⟨X0, 0, none⟩) :: v6 :: .pointer (some ⟨S, 0, none⟩) :: v8 :: v9 :: v10 :: v11 :: .pointer (some ⟨A, 0, none⟩) :: s13 :: v14 :: v15 :: v16 :: v17 :: v18 :: v19 :: v20 :: v21 :: v22 :: v23 :: v24 :: v25 :: v26 :: v27 :: v28 :: v29 :: v30 :: v31 :: v32 :: v33 :: v34 :: v35 :: v36 :: v37 :: v38 :: v39 :: v40 :: v41 :: v42 :: v43 :: v44 :: v45 :: v46 :: v47 :: v48 :: v49 :: v50 :: v51 :: v52 :: v53 :: v54 :: v55 :: v56 :: v57 :: v58 :: s59 :: .agg #[.bool neg, .string s] :: .pointer (some ⟨S, 0, none⟩) :: wv P :: s63 :: s64 :: s65 :: v66 :: v67 :: v68 :: v69 :: v70 :: v71 :: v72 :: v73 :: v74 :: v75 :: v76 :: v77 :: v78 :: v79 :: v80 :: v81 :: v82 :: v83 :: v84 :: v85 :: v86 :: v87 :: v88 :: v89 :: v90 :: v91 :: v92 :: v93 :: v94 :: v95 :: v96 :: v97 :: v98 :: v99 :: v100 :: v101 :: v102 :: v103 :: v104 :: v105 :: v106 :: v107 :: v108 :: v109 :: v110 :: v111 :: v112 :: v113 :: v114 :: v115 :: v116 :: v117 :: v118 :: v119 :: v120 :: v121 :: v122 :: v123 :: v124 :: v125 :: ([] : List Value)), defers := [] } w := by
    intro A w hS hF
    refine inn _ _ _ _ ?_
    refine wpAnyH_ready (rs := [3]) (by kernel_rfl) (by simp) ?_
    refine AllReadyH.cons (o := { dst := some 63, op := Op.call { callee := Callee.value (Operand.func 18), args := #[Operand.tmp 60, Operand.tmp 62], argTypes := #[36, 36] }, type := 44, pos := "law.go:123", after := #[{ on := 0, ground := Ground.data }, { on := 2, ground := Ground.data }, { on := 2, ground := Ground.chain }], guard := none }) rfl (fun K hK => ?_) ?_
    · go_simp
      go_at_call 18
      refine (HB _).mono ?_
      rintro e w' ⟨rfl, g⟩
      go_wp2_with fail
      have g2 := hS.2.2.trans g
      refine hK.out _ _ ⟨(g2).keeps x0, (g2).keeps x1, g2⟩ (fun hHeld => ?_)
      (simp only [Act.put, List.setIfInBounds_toArray, List.set_cons_zero, List.set_cons_succ])
      refine wpAnyH_take (i := 4) (oi := { dst := some 59, op := Op.move (Operand.tmp 63), type := 44, pos := "law.go:123", after := #[{ on := 3, ground := Ground.data }], guard := none }) (v := ?_) rfl (by kernel_rfl) (by kernel_rfl) (by kernel_rfl) (hQ _ _) (_root_.Or.inl ⟨by rfl, ?_⟩) (by assumption) ?_
      rotate_left
      · intro w0 hSw; (try dsimp only at hSw); have y0 := hSw.1; have y1 := hSw.2.1; go_simp; try with_reducible rfl
      (simp only [Act.put, List.setIfInBounds_toArray, List.set_cons_zero, List.set_cons_succ])
      refine wpAnyH_take (i := 5) (oi := { dst := some 64, op := Op.extract (Operand.tmp 59) 0, type := 36, pos := "law.go:123", after := #[{ on := 4, ground := Ground.data }], guard := none }) (v := ?_) rfl (by kernel_rfl) (by kernel_rfl) (by kernel_rfl) (hQ _ _) (_root_.Or.inl ⟨by rfl, ?_⟩) (by assumption) ?_
      rotate_left
      · intro w0 hSw; (try dsimp only at hSw); have y0 := hSw.1; have y1 := hSw.2.1; go_simp; try with_reducible rfl
      (simp only [Act.put, List.setIfInBounds_toArray, List.set_cons_zero, List.set_cons_succ])
      refine wpAnyH_take (i := 6) (oi := { dst := some 65, op := Op.extract (Operand.tmp 59) 1, type := 26, pos := "law.go:123", after := #[{ on := 4, ground := Ground.data }, { on := 8, ground := Ground.gcOnly Departure.lateStores }], guard := none }) (v := ?_) rfl (by kernel_rfl) (by kernel_rfl) (by kernel_rfl) (hQ _ _) (_root_.Or.inl ⟨by rfl, ?_⟩) (by assumption) ?_
      rotate_left
      · intro w0 hSw; (try dsimp only at hSw); have y0 := hSw.1; have y1 := hSw.2.1; go_simp; try with_reducible rfl
      (simp only [Act.put, List.setIfInBounds_toArray, List.set_cons_zero, List.set_cons_succ])
      exact out _ _ _ _ (st12 _ _ hHeld (hF.later g))
    exact AllReadyH.nil
  have st01 : ∀ (w : World), (fun w' => w'.cell? ⟨X0, 0, none⟩ = some (.bool neg) ∧ w'.cell? ⟨X0, 1, none⟩ = some (.string s) ∧ Gr W0 w') w → G 7 #[true, true, true, false, false, false, false, false, false, false] { tmps := List.toArray (v0 :: v1 :: v2 :: v3 :: v4 :: .pointer (some ⟨X0, 0, none⟩) :: v6 :: .pointer (some ⟨S, 0, none⟩) :: v8 :: v9 :: v10 :: v11 :: s12 :: s13 :: v14 :: v15 :: v16 :: v17 :: v18 :: v19 :: v20 :: v21 :: v22 :: v23 :: v24 :: v25 :: v26 :: v27 :: v28 :: v29 :: v30 :: v31 :: v32 :: v33 :: v34 :: v35 :: v36 :: v37 :: v38 :: v39 :: v40 :: v41 :: v42 :: v43 :: v44 :: v45 :: v46 :: v47 :: v48 :: v49 :: v50 :: v51 :: v52 :: v53 :: v54 :: v55 :: v56 :: v57 :: v58 :: s59 :: .agg #[.bool neg, .string s] :: .pointer (some ⟨S, 0, none⟩) :: wv P :: s63 :: s64 :: s65 :: v66 :: v67 :: v68 :: v69 :: v70 :: v71 :: v72 :: v73 :: v74 :: v75 :: v76 :: v77 :: v78 :: v79 :: v80 :: v81 :: v82 :: v83 :: v84 :: v85 :: v86 :: v87 :: v88 :: v89 :: v90 :: v91 :: v92 :: v93 :: v94 :: v95 :: v96 :: v97 :: v98 :: v99 :: v100 :: v101 :: v102 :: v103 :: v104 :: v105 :: v106 :: v107 :: v108 :: v109 :: v110 :: v111 :: v112 :: v113 :: v114 :: v115 :: v116 :: v117 :: v118 :: v119 :: v120 :: v121 :: v122 :: v123 :: v124 :: v125 :: ([] : List Value)), defers := [] } w := by
    intro w hS
    refine inn _ _ _ _ ?_
    refine wpAnyH_ready (rs := [3, 7]) (by kernel_rfl) (by simp) ?_
    refine AllReadyH.cons (o := { dst := some 63, op := Op.call { callee := Callee.value (Operand.func 18), args := #[Operand.tmp 60, Operand.tmp 62], argTypes := #[36, 36] }, type := 44, pos := "law.go:123", after := #[{ on := 0, ground := Ground.data }, { on := 2, ground := Ground.data }, { on := 2, ground := Ground.chain }], guard := none }) rfl (fun K hK => ?_) ?_
    · go_simp
      go_at_call 18
      refine (HB _).mono ?_
      rintro e w' ⟨rfl, g⟩
      go_wp2_with fail
      have g2 := hS.2.2.trans g
      refine hK.out _ _ ⟨(g2).keeps x0, (g2).keeps x1, g2⟩ (fun hHeld => ?_)
      (simp only [Act.put, List.setIfInBounds_toArray, List.set_cons_zero, List.set_cons_succ])
      refine wpAnyH_take (i := 4) (oi := { dst := some 59, op := Op.move (Operand.tmp 63), type := 44, pos := "law.go:123", after := #[{ on := 3, ground := Ground.data }], guard := none }) (v := ?_) rfl (by kernel_rfl) (by kernel_rfl) (by kernel_rfl) (hQ _ _) (_root_.Or.inl ⟨by rfl, ?_⟩) (by assumption) ?_
      rotate_left
      · intro w0 hSw; (try dsimp only at hSw); have y0 := hSw.1; have y1 := hSw.2.1; go_simp; try with_reducible rfl
      (simp only [Act.put, List.setIfInBounds_toArray, List.set_cons_zero, List.set_cons_succ])
      refine wpAnyH_take (i := 5) (oi := { dst := some 64, op := Op.extract (Operand.tmp 59) 0, type := 36, pos := "law.go:123", after := #[{ on := 4, ground := Ground.data }], guard := none }) (v := ?_) rfl (by kernel_rfl) (by kernel_rfl) (by kernel_rfl) (hQ _ _) (_root_.Or.inl ⟨by rfl, ?_⟩) (by assumption) ?_
      rotate_left
      · intro w0 hSw; (try dsimp only at hSw); have y0 := hSw.1; have y1 := hSw.2.1; go_simp; try with_reducible rfl
      (simp only [Act.put, List.setIfInBounds_toArray, List.set_cons_zero, List.set_cons_succ])
      refine wpAnyH_take (i := 6) (oi := { dst := some 65, op := Op.extract (Operand.tmp 59) 1, type := 26, pos := "law.go:123", after := #[{ on := 4, ground := Ground.data }, { on := 8, ground := Ground.gcOnly Departure.lateStores }], guard := none }) (v := ?_) rfl (by kernel_rfl) (by kernel_rfl) (by kernel_rfl) (hQ _ _) (_root_.Or.inl ⟨by rfl, ?_⟩) (by assumption) ?_
      rotate_left
      · intro w0 hSw; (try dsimp only at hSw); have y0 := hSw.1; have y1 := hSw.2.1; go_simp; try with_reducible rfl
      (simp only [Act.put, List.setIfInBounds_toArray, List.set_cons_zero, List.set_cons_succ])
      exact out _ _ _ _ (st02 _ hHeld)
    refine AllReadyH.cons (o := { dst := some 12, op := Op.alloc 36, type := 0, pos := "law.go:123", after := #[], guard := none }) rfl (fun K hK => ?_) ?_
    · go_simp
      have g2 := hS.2.2.alloc (.cells #[.bool false, .string ⟨#[]⟩] 36)
      refine hK.out _ _ ⟨(g2).keeps x0, (g2).keeps x1, g2⟩ (fun hHeld => ?_)
      (simp only [Act.put, List.setIfInBounds_toArray, List.set_cons_zero, List.set_cons_succ])
      exact out _ _ _ _ (st11 _ _ hHeld (FreshW.new hS.2.2 _))
    exact AllReadyH.nil
  have st10 : ∀ (A : Nat) (w : World), (fun w' => w'.cell? ⟨X0, 0, none⟩ = some (.bool neg) ∧ w'.cell? ⟨X0, 1, none⟩ = some (.string s) ∧ Gr W0 w') w → FreshW W0 w A → G 7 #[true, true, false, false, false, false, false, true, false, false] { tmps := List.toArray (v0 :: v1 :: v2 :: v3 :: v4 :: .pointer (some ⟨X0, 0, none⟩) :: v6 :: .pointer (some ⟨S, 0, none⟩) :: v8 :: v9 :: v10 :: v11 :: .pointer (some ⟨A, 0, none⟩) :: s13 :: v14 :: v15 :: v16 :: v17 :: v18 :: v19 :: v20 :: v21 :: v22 :: v23 :: v24 :: v25 :: v26 :: v27 :: v28 :: v29 :: v30 :: v31 :: v32 :: v33 :: v34 :: v35 :: v36 :: v37 :: v38 :: v39 :: v40 :: v41 :: v42 :: v43 :: v44 :: v45 :: v46 :: v47 :: v48 :: v49 :: v50 :: v51 :: v52 :: v53 :: v54 :: v55 :: v56 :: v57 :: v58 :: s59 :: .agg #[.bool neg, .string s] :: .pointer (some ⟨S, 0, none⟩) :: s62 :: s63 :: s64 :: s65 :: v66 :: v67 :: v68 :: v69 :: v70 :: v71 :: v72 :: v73 :: v74 :: v75 :: v76 :: v77 :: v78 :: v79 :: v80 :: v81 :: v82 :: v83 :: v84 :: v85 :: v86 :: v87 :: v88 :: v89 :: v90 :: v91 :: v92 :: v93 :: v94 :: v95 :: v96 :: v97 :: v98 :: v99 :: v100 :: v101 :: v102 :: v103 :: v104 :: v105 :: v106 :: v107 :: v108 :: v109 :: v110 :: v111 :: v112 :: v113 :: v114 :: v115 :: v116 :: v117 :: v118 :: v119 :: v120 :: v121 :: v122 :: v123 :: v124 :: v125 :: ([] : List Value)), defers := [] } w := by
    intro A w hS hF
    refine inn _ _ _ _ ?_
    refine wpAnyH_ready (rs := [2]) (by kernel_rfl) (by simp) ?_
    refine AllReadyH.cons (o := { dst := some 62, op := Op.call { callee := Callee.value (Operand.func 14), args := #[Operand.tmp 61], argTypes := #[25] }, type := 36, pos := "law.go:123", after := #[{ on := 1, ground := Ground.data }], guard := none }) rfl (fun K hK => ?_) ?_
    · go_simp
      go_at_call 14
      refine (HP _ hS.2.2).mono ?_
      rintro e w' ⟨rfl, g⟩
      go_wp2_with fail
      have g2 := hS.2.2.trans g
      refine hK.out _ _ ⟨(g2).keeps x0, (g2).keeps x1, g2⟩ (fun hHeld => ?_)
      (simp only [Act.put, List.setIfInBounds_toArray, List.set_cons_zero, List.set_cons_succ])
      exact out _ _ _ _ (st11 _ _ hHeld (hF.later g))
    exact AllReadyH.nil
  have st00 : ∀ (w : World), (fun w' => w'.cell? ⟨X0, 0, none⟩ = some (.bool neg) ∧ w'.cell? ⟨X0, 1, none⟩ = some (.string s) ∧ Gr W0 w') w → G 8 #[true, true, false, false, false, false, false, false, false, false] { tmps := List.toArray (v0 :: v1 :: v2 :: v3 :: v4 :: .pointer (some ⟨X0, 0, none⟩) :: v6 :: .pointer (some ⟨S, 0, none⟩) :: v8 :: v9 :: v10 :: v11 :: s12 :: s13 :: v14 :: v15 :: v16 :: v17 :: v18 :: v19 :: v20 :: v21 :: v22 :: v23 :: v24 :: v25 :: v26 :: v27 :: v28 :: v29 :: v30 :: v31 :: v32 :: v33 :: v34 :: v35 :: v36 :: v37 :: v38 :: v39 :: v40 :: v41 :: v42 :: v43 :: v44 :: v45 :: v46 :: v47 :: v48 :: v49 :: v50 :: v51 :: v52 :: v53 :: v54 :: v55 :: v56 :: v57 :: v58 :: s59 :: .agg #[.bool neg, .string s] :: .pointer (some ⟨S, 0, none⟩) :: s62 :: s63 :: s64 :: s65 :: v66 :: v67 :: v68 :: v69 :: v70 :: v71 :: v72 :: v73 :: v74 :: v75 :: v76 :: v77 :: v78 :: v79 :: v80 :: v81 :: v82 :: v83 :: v84 :: v85 :: v86 :: v87 :: v88 :: v89 :: v90 :: v91 :: v92 :: v93 :: v94 :: v95 :: v96 :: v97 :: v98 :: v99 :: v100 :: v101 :: v102 :: v103 :: v104 :: v105 :: v106 :: v107 :: v108 :: v109 :: v110 :: v111 :: v112 :: v113 :: v114 :: v115 :: v116 :: v117 :: v118 :: v119 :: v120 :: v121 :: v122 :: v123 :: v124 :: v125 :: ([] : List Value)), defers := [] } w := by
    intro w hS
    refine inn _ _ _ _ ?_
    refine wpAnyH_ready (rs := [2, 7]) (by kernel_rfl) (by simp) ?_
    refine AllReadyH.cons (o := { dst := some 62, op := Op.call { callee := Callee.value (Operand.func 14), args := #[Operand.tmp 61], argTypes := #[25] }, type := 36, pos := "law.go:123", after := #[{ on := 1, ground := Ground.data }], guard := none }) rfl (fun K hK => ?_) ?_
    · go_simp
      go_at_call 14
      refine (HP _ hS.2.2).mono ?_
      rintro e w' ⟨rfl, g⟩
      go_wp2_with fail
      have g2 := hS.2.2.trans g
      refine hK.out _ _ ⟨(g2).keeps x0, (g2).keeps x1, g2⟩ (fun hHeld => ?_)
      (simp only [Act.put, List.setIfInBounds_toArray, List.set_cons_zero, List.set_cons_succ])
      exact out _ _ _ _ (st01 _ hHeld)
    refine AllReadyH.cons (o := { dst := some 12, op := Op.alloc 36, type := 0, pos := "law.go:123", after := #[], guard := none }) rfl (fun K hK => ?_) ?_
    · go_simp
      have g2 := hS.2.2.alloc (.cells #[.bool false, .string ⟨#[]⟩] 36)
      refine hK.out _ _ ⟨(g2).keeps x0, (g2).keeps x1, g2⟩ (fun hHeld => ?_)
      (simp only [Act.put, List.setIfInBounds_toArray, List.set_cons_zero, List.set_cons_succ])
      exact out _ _ _ _ (st10 _ _ hHeld (FreshW.new hS.2.2 _))
    exact AllReadyH.nil
  show wpAnyH _ _ _ _ _ 10 #[false, false, false, false, false, false, false, false, false, false] _ _
  refine wpAnyH_take (i := 0) (oi := { dst := some 60, op := Op.load 36 (Operand.tmp 5), type := 36, pos := "law.go:123", after := #[], guard := none }) (v := ?_) rfl (by kernel_rfl) (by kernel_rfl) (by kernel_rfl) (hQ _ _) (_root_.Or.inl ⟨by rfl, ?_⟩) (by assumption) ?_
  rotate_left
  · intro w0 hSw; (try dsimp only at hSw); have y0 := hSw.1; have y1 := hSw.2.1; go_simp; try with_reducible rfl
  (simp only [Act.put, List.setIfInBounds_toArray, List.set_cons_zero, List.set_cons_succ])
  refine wpAnyH_take (i := 1) (oi := { dst := some 61, op := Op.move (Operand.tmp 7), type := 25, pos := "law.go:123", after := #[], guard := none }) (v := ?_) rfl (by kernel_rfl) (by kernel_rfl) (by kernel_rfl) (hQ _ _) (_root_.Or.inl ⟨by rfl, ?_⟩) (by assumption) ?_
  rotate_left
  · intro w0 hSw; (try dsimp only at hSw); have y0 := hSw.1; have y1 := hSw.2.1; go_simp; try with_reducible rfl
  (simp only [Act.put, List.setIfInBounds_toArray, List.set_cons_zero, List.set_cons_succ])
  exact out _ _ _ _ (st00 _ hHeld)
end Go.Proofs.Ytfpdemmdkiohhaa.Mo
