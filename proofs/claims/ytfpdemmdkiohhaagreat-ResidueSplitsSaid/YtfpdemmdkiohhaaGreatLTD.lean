import Derived.Test.YtfpdemmdkiohhaaGreatLTC
import Derived.Test.YtfpdemmdkiohhaaGreatLTA
import Derived.Test.YtfpdemmdkiohhaaGreatLTB
import Derived.Test.YtfpdemmdkiohhaaGreatLZF
/- The reference of package residue: divided, the region that draws. -/
namespace Go.Proofs.YtfpdemmdkiohhaaGreat.Mo
open Go.RowKit
set_option linter.unusedVariables false
set_option linter.unusedSimpArgs false

set_option maxRecDepth 100000 in
set_option maxHeartbeats 8000000 in
theorem rd_quot (x : Int) (q : Int) (R gx ox n ca k : Nat) (XB : Nat) (W0 W : World) (x0 : W0.cell? ⟨XB, 0, none⟩ = some (.bool (decide (x < 0)))) (x1 : W0.cell? ⟨XB, 1, none⟩ = some (.string (bstr x.natAbs))) (x2 : W0.cell? ⟨R, 0, none⟩ = some (.slice (some ⟨gx, ox, none⟩) n ca)) (x3 : W0.cell? ⟨gx, ox + k, none⟩ = some (.int .u32 q)) (hG : Gr W0 W)
    (hw0 : IntKind.i64.wrap q = q) (i0 : (0 : Int) ≤ (k : Int)) (i1 : (k : Int) < (n : Int))
    (HC1 : ∀ w, Gr W0 w → Calls Tryz.prog 36 #[.int .i64 q] w (fun e w' => e = .returned (wv q) ∧ Gr w w'))
    (HC2 : ∀ w, Calls Tryz.prog 77 #[wv x, wv q] w (fun e w' => e = .returned (.tuple #[wv (x / q), wv (x % q), .int .i64 0]) ∧ Gr w w'))
    (v1 v2 v3 v4 v5 v6 v7 v8 v11 v15 v16 v17 v18 v19 v20 v21 v22 v23 v24 v25 v26 v27 v28 v29 v30 v31 v32 v33 v34 v35 v51 v52 v53 v54 v55 v56 v57 v58 v59 v60 v61 v62 v63 v64 v65 s12 s13 s14 s36 s37 s38 s39 s40 s41 s42 s43 s44 s45 s46 s47 s48 s49 s50 : Value) (Q : Exit → Act → World → Prop) (hQ : ∀ (d : Option Tmp) (v : Value) c a w, Q (.panic c) (a.put d v) w → Q (.panic c) a w)
    (hpost : ∀ u36 u37 u38 u39 u40 u41 u42 u43 u44 u45 u46 u47 u48 u49 u50 A0 A1 wx, wx.cell? ⟨A0, 0, none⟩ = some (.bool (decide (x / q < 0))) → wx.cell? ⟨A0, 1, none⟩ = some (.string (bstr (x / q).natAbs)) → wx.cell? ⟨A1, 0, none⟩ = some (.bool (decide (x % q < 0))) → wx.cell? ⟨A1, 1, none⟩ = some (.string (bstr (x % q).natAbs)) → Gr W0 wx → Q .normal { tmps := List.toArray (.pointer (some ⟨R, 0, none⟩) :: v1 :: v2 :: v3 :: v4 :: v5 :: v6 :: v7 :: v8 :: .int .i64 k :: .pointer (some ⟨XB, 0, none⟩) :: v11 :: .pointer (some ⟨A0, 0, none⟩) :: .pointer (some ⟨A1, 0, none⟩) :: .int .i64 0 :: v15 :: v16 :: v17 :: v18 :: v19 :: v20 :: v21 :: v22 :: v23 :: v24 :: v25 :: v26 :: v27 :: v28 :: v29 :: v30 :: v31 :: v32 :: v33 :: v34 :: v35 :: u36 :: u37 :: u38 :: u39 :: u40 :: u41 :: u42 :: u43 :: u44 :: u45 :: u46 :: u47 :: u48 :: u49 :: u50 :: v51 :: v52 :: v53 :: v54 :: v55 :: v56 :: v57 :: v58 :: v59 :: v60 :: v61 :: v62 :: v63 :: v64 :: v65 :: ([] : List Value)), defers := [] } wx) :
    (Code.region 4 #[{ dst := some 37, op := Op.load 24 (Operand.tmp 10), type := 24, pos := "ref.go:98", after := #[], guard := none },
      { dst := some 38, op := Op.move (Operand.tmp 0), type := 29, pos := "ref.go:98", after := #[], guard := none },
      { dst := some 39, op := Op.nilCheck (Operand.tmp 38), type := 0, pos := "ref.go:98", after := #[{ on := 1, ground := Ground.data }], guard := none },
      { dst := some 40, op := Op.fieldAddr 62 (Operand.tmp 39) 0, type := 0, pos := "ref.go:98", after := #[{ on := 2, ground := Ground.data }], guard := none },
      { dst := some 41, op := Op.load 22 (Operand.tmp 40), type := 22, pos := "ref.go:98", after := #[{ on := 3, ground := Ground.data }], guard := none },
      { dst := some 42, op := Op.move (Operand.tmp 9), type := 3, pos := "ref.go:98", after := #[], guard := none },
      { dst := some 43, op := Op.indexAddr 22 (Operand.tmp 41) (Operand.tmp 42), type := 0, pos := "ref.go:98", after := #[{ on := 4, ground := Ground.data }, { on := 5, ground := Ground.data }], guard := none },
      { dst := some 44, op := Op.load 42 (Operand.tmp 43), type := 42, pos := "ref.go:98", after := #[{ on := 6, ground := Ground.data }], guard := none },
      { dst := some 45, op := Op.convert 42 2 (Operand.tmp 44), type := 2, pos := "ref.go:98", after := #[{ on := 7, ground := Ground.data }], guard := none },
      { dst := some 46, op := Op.call { callee := Callee.value (Operand.func 36), args := #[Operand.tmp 45], argTypes := #[2] }, type := 24, pos := "ref.go:98", after := #[{ on := 8, ground := Ground.data }], guard := none },
      { dst := some 47, op := Op.call { callee := Callee.value (Operand.func 77), args := #[Operand.tmp 37, Operand.tmp 46], argTypes := #[24, 24] }, type := 106, pos := "ref.go:98", after := #[{ on := 0, ground := Ground.data }, { on := 9, ground := Ground.data }, { on := 9, ground := Ground.chain }], guard := none },
      { dst := some 36, op := Op.move (Operand.tmp 47), type := 106, pos := "ref.go:98", after := #[{ on := 10, ground := Ground.data }], guard := none },
      { dst := some 48, op := Op.extract (Operand.tmp 36) 0, type := 24, pos := "ref.go:98", after := #[{ on := 11, ground := Ground.data }], guard := none },
      { dst := some 49, op := Op.extract (Operand.tmp 36) 1, type := 24, pos := "ref.go:98", after := #[{ on := 11, ground := Ground.data }, { on := 17, ground := Ground.gcOnly Departure.lateStores }], guard := none },
      { dst := some 50, op := Op.extract (Operand.tmp 36) 2, type := 32, pos := "ref.go:98", after := #[{ on := 11, ground := Ground.data }, { on := 18, ground := Ground.gcOnly Departure.lateStores }], guard := none },
      { dst := some 12, op := Op.alloc 24, type := 0, pos := "ref.go:98", after := #[], guard := none },
      { dst := some 13, op := Op.alloc 24, type := 0, pos := "ref.go:98", after := #[], guard := none },
      { dst := none, op := Op.store 24 (Operand.tmp 12) (Operand.tmp 48), type := 0, pos := "ref.go:98", after := #[{ on := 15, ground := Ground.data }, { on := 12, ground := Ground.data }, { on := 10, ground := Ground.chain }, { on := 0, ground := Ground.phase }, { on := 1, ground := Ground.phase }, { on := 2, ground := Ground.phase }, { on := 3, ground := Ground.phase }, { on := 4, ground := Ground.phase }, { on := 5, ground := Ground.phase }, { on := 6, ground := Ground.phase }, { on := 7, ground := Ground.phase }, { on := 8, ground := Ground.phase }, { on := 9, ground := Ground.phase }, { on := 10, ground := Ground.phase }, { on := 11, ground := Ground.phase }, { on := 12, ground := Ground.phase }, { on := 13, ground := Ground.textOnly Departure.lateStores }, { on := 14, ground := Ground.textOnly Departure.lateStores }, { on := 15, ground := Ground.phase }, { on := 16, ground := Ground.phase }], guard := none },
      { dst := none, op := Op.store 24 (Operand.tmp 13) (Operand.tmp 49), type := 0, pos := "ref.go:98", after := #[{ on := 16, ground := Ground.data }, { on := 13, ground := Ground.data }, { on := 17, ground := Ground.chain }, { on := 0, ground := Ground.phase }, { on := 1, ground := Ground.phase }, { on := 2, ground := Ground.phase }, { on := 3, ground := Ground.phase }, { on := 4, ground := Ground.phase }, { on := 5, ground := Ground.phase }, { on := 6, ground := Ground.phase }, { on := 7, ground := Ground.phase }, { on := 8, ground := Ground.phase }, { on := 9, ground := Ground.phase }, { on := 10, ground := Ground.phase }, { on := 11, ground := Ground.phase }, { on := 12, ground := Ground.phase }, { on := 13, ground := Ground.phase }, { on := 14, ground := Ground.textOnly Departure.lateStores }, { on := 15, ground := Ground.phase }, { on := 16, ground := Ground.phase }, { on := 17, ground := Ground.phase }], guard := none },
      { dst := some 14, op := Op.assign (Operand.tmp 50), type := 32, pos := "ref.go:98", after := #[{ on := 14, ground := Ground.data }, { on := 18, ground := Ground.chain }, { on := 0, ground := Ground.phase }, { on := 1, ground := Ground.phase }, { on := 2, ground := Ground.phase }, { on := 3, ground := Ground.phase }, { on := 4, ground := Ground.phase }, { on := 5, ground := Ground.phase }, { on := 6, ground := Ground.phase }, { on := 7, ground := Ground.phase }, { on := 8, ground := Ground.phase }, { on := 9, ground := Ground.phase }, { on := 10, ground := Ground.phase }, { on := 11, ground := Ground.phase }, { on := 12, ground := Ground.phase }, { on := 13, ground := Ground.phase }, { on := 14, ground := Ground.phase }, { on := 15, ground := Ground.phase }, { on := 16, ground := Ground.phase }, { on := 17, ground := Ground.phase }, { on := 18, ground := Ground.phase }], guard := none }] true).wp Tryz.prog Q { tmps := List.toArray (.pointer (some ⟨R, 0, none⟩) :: v1 :: v2 :: v3 :: v4 :: v5 :: v6 :: v7 :: v8 :: .int .i64 k :: .pointer (some ⟨XB, 0, none⟩) :: v11 :: s12 :: s13 :: s14 :: v15 :: v16 :: v17 :: v18 :: v19 :: v20 :: v21 :: v22 :: v23 :: v24 :: v25 :: v26 :: v27 :: v28 :: v29 :: v30 :: v31 :: v32 :: v33 :: v34 :: v35 :: s36 :: s37 :: s38 :: s39 :: s40 :: s41 :: s42 :: s43 :: s44 :: s45 :: s46 :: s47 :: s48 :: s49 :: s50 :: v51 :: v52 :: v53 :: v54 :: v55 :: v56 :: v57 :: v58 :: v59 :: v60 :: v61 :: v62 :: v63 :: v64 :: v65 :: ([] : List Value)), defers := [] } W := by
  refine wp_region_held_drew (S := fun w' => w'.cell? ⟨XB, 0, none⟩ = some (.bool (decide (x < 0))) ∧ w'.cell? ⟨XB, 1, none⟩ = some (.string (bstr x.natAbs)) ∧ w'.cell? ⟨R, 0, none⟩ = some (.slice (some ⟨gx, ox, none⟩) n ca) ∧ w'.cell? ⟨gx, ox + k, none⟩ = some (.int .u32 q) ∧ Gr W0 w') (by kernel_rfl) (have g : Gr W0 W.drew := hG.drew; ⟨(g).keeps x0, (g).keeps x1, (g).keeps x2, (g).keeps x3, g⟩) (fun hHeld => ?_)
  refine chain_any (fun G out inn => ?_)
  have st11_2 : ∀ (A0 : Nat) (A1 : Nat) (w : World), (fun w' => w'.cell? ⟨XB, 0, none⟩ = some (.bool (decide (x < 0))) ∧ w'.cell? ⟨XB, 1, none⟩ = some (.string (bstr x.natAbs)) ∧ w'.cell? ⟨R, 0, none⟩ = some (.slice (some ⟨gx, ox, none⟩) n ca) ∧ w'.cell? ⟨gx, ox + k, none⟩ = some (.int .u32 q) ∧ Gr W0 w') w → FreshW W0 w A0 → FreshW W0 w A1 → ¬ (A0 = A1) → G 3 #[true, true, true, true, true, true, true, true, true, true, true, true, true, true, true, true, true, false, false, false] { tmps := List.toArray (.pointer (some ⟨R, 0, none⟩) :: v1 :: v2 :: v3 :: v4 :: v5 :: v6 :: v7 :: v8 :: .int .i64 k :: .pointer (some ⟨XB, 0, none⟩) :: v11 :: .pointer (some ⟨A0, 0, none⟩) :: .pointer (some ⟨A1, 0, none⟩) :: s14 :: v15 :: v16 :: v17 :: v18 :: v19 :: v20 :: v21 :: v22 :: v23 :: v24 :: v25 :: v26 :: v27 :: v28 :: v29 :: v30 :: v31 :: v32 :: v33 :: v34 :: v35 :: .tuple #[wv (x / q), wv (x % q), .int .i64 0] :: wv x :: .pointer (some ⟨R, 0, none⟩) :: .pointer (some ⟨R, 0, none⟩) :: .pointer (some ⟨R, 0, none⟩) :: .slice (some ⟨gx, ox, none⟩) n ca :: .int .i64 k :: .pointer (some ⟨gx, ox + k, none⟩) :: .int .u32 q :: .int .i64 q :: wv q :: .tuple #[wv (x / q), wv (x % q), .int .i64 0] :: wv (x / q) :: wv (x % q) :: .int .i64 0 :: v51 :: v52 :: v53 :: v54 :: v55 :: v56 :: v57 :: v58 :: v59 :: v60 :: v61 :: v62 :: v63 :: v64 :: v65 :: ([] : List Value)), defers := [] } w := by
    intro A0 A1 w hS hF0 hF1 hne
    refine inn _ _ _ _ ?_
    obtain ⟨l0, c00, c01, z00, z01⟩ := hF0
    obtain ⟨l1, c10, c11, z10, z11⟩ := hF1
    refine wpAnyH_ready (rs := [17]) (by kernel_rfl) (by simp) ?_
    refine AllReadyH.cons (o := { dst := none, op := Op.store 24 (Operand.tmp 12) (Operand.tmp 48), type := 0, pos := "ref.go:98", after := #[{ on := 15, ground := Ground.data }, { on := 12, ground := Ground.data }, { on := 10, ground := Ground.chain }, { on := 0, ground := Ground.phase }, { on := 1, ground := Ground.phase }, { on := 2, ground := Ground.phase }, { on := 3, ground := Ground.phase }, { on := 4, ground := Ground.phase }, { on := 5, ground := Ground.phase }, { on := 6, ground := Ground.phase }, { on := 7, ground := Ground.phase }, { on := 8, ground := Ground.phase }, { on := 9, ground := Ground.phase }, { on := 10, ground := Ground.phase }, { on := 11, ground := Ground.phase }, { on := 12, ground := Ground.phase }, { on := 13, ground := Ground.textOnly Departure.lateStores }, { on := 14, ground := Ground.textOnly Departure.lateStores }, { on := 15, ground := Ground.phase }, { on := 16, ground := Ground.phase }], guard := none }) rfl (fun K hK => ?_) AllReadyH.nil
    unfold wv
    go_simp
    have g2 : Gr W0 ((w.setCell ⟨A0, 0, none⟩ (.bool (decide (x / q < 0)))).setCell ⟨A0, 1, none⟩ (.string (bstr (x / q).natAbs))) := ((hS.2.2.2.2).setCell (p := ⟨A0, 0, none⟩) l0 _).setCell (p := ⟨A0, 1, none⟩) l0 _
    refine hK.out _ _ ⟨(g2).keeps x0, (g2).keeps x1, (g2).keeps x2, (g2).keeps x3, g2⟩ (fun hHeld => ?_)
    clear hK K
    (simp only [Act.put, List.setIfInBounds_toArray, List.set_cons_zero, List.set_cons_succ])
    have hA : (⟨A1, 0, none⟩ : Addr) ≠ ⟨A0, 0, none⟩ := fun e => hne (congrArg Addr.block e).symm
    have c10 := (xc_far (B := A0) (C := A1) hne 0 (.bool (decide (x / q < 0))) (.string (bstr (x / q).natAbs))).trans c10
    have c11 := (xc_far (B := A0) (C := A1) hne 1 (.bool (decide (x / q < 0))) (.string (bstr (x / q).natAbs))).trans c11
    have z10 := (xc_frz w ⟨A0, 0, none⟩ ⟨A0, 1, none⟩ ⟨A1, 0, none⟩ (.bool (decide (x / q < 0))) (.string (bstr (x / q).natAbs))).trans z10
    have z11 := (xc_frz w ⟨A0, 0, none⟩ ⟨A0, 1, none⟩ ⟨A1, 1, none⟩ (.bool (decide (x / q < 0))) (.string (bstr (x / q).natAbs))).trans z11
    have p0 := xc_put c00 c01 (.bool (decide (x / q < 0))) (.string (bstr (x / q).natAbs))
    refine wpAnyH_ready (rs := [18]) (by kernel_rfl) (by simp) ?_
    refine AllReadyH.cons (o := { dst := none, op := Op.store 24 (Operand.tmp 13) (Operand.tmp 49), type := 0, pos := "ref.go:98", after := #[{ on := 16, ground := Ground.data }, { on := 13, ground := Ground.data }, { on := 17, ground := Ground.chain }, { on := 0, ground := Ground.phase }, { on := 1, ground := Ground.phase }, { on := 2, ground := Ground.phase }, { on := 3, ground := Ground.phase }, { on := 4, ground := Ground.phase }, { on := 5, ground := Ground.phase }, { on := 6, ground := Ground.phase }, { on := 7, ground := Ground.phase }, { on := 8, ground := Ground.phase }, { on := 9, ground := Ground.phase }, { on := 10, ground := Ground.phase }, { on := 11, ground := Ground.phase }, { on := 12, ground := Ground.phase }, { on := 13, ground := Ground.phase }, { on := 14, ground := Ground.textOnly Departure.lateStores }, { on := 15, ground := Ground.phase }, { on := 16, ground := Ground.phase }, { on := 17, ground := Ground.phase }], guard := none }) rfl (fun K hK => ?_) AllReadyH.nil
    try unfold wv
    go_simp
    have g3 : Gr W0 ((((w.setCell ⟨A0, 0, none⟩ (.bool (decide (x / q < 0)))).setCell ⟨A0, 1, none⟩ (.string (bstr (x / q).natAbs))).setCell ⟨A1, 0, none⟩ (.bool (decide (x % q < 0)))).setCell ⟨A1, 1, none⟩ (.string (bstr (x % q).natAbs))) := ((g2).setCell (p := ⟨A1, 0, none⟩) l1 _).setCell (p := ⟨A1, 1, none⟩) l1 _
    refine hK.out _ _ ⟨(g3).keeps x0, (g3).keeps x1, (g3).keeps x2, (g3).keeps x3, g3⟩ (fun hHeld => ?_)
    clear hK K
    (simp only [Act.put, List.setIfInBounds_toArray, List.set_cons_zero, List.set_cons_succ])
    refine wpAnyH_take (i := 19) (oi := { dst := some 14, op := Op.assign (Operand.tmp 50), type := 32, pos := "ref.go:98", after := #[{ on := 14, ground := Ground.data }, { on := 18, ground := Ground.chain }, { on := 0, ground := Ground.phase }, { on := 1, ground := Ground.phase }, { on := 2, ground := Ground.phase }, { on := 3, ground := Ground.phase }, { on := 4, ground := Ground.phase }, { on := 5, ground := Ground.phase }, { on := 6, ground := Ground.phase }, { on := 7, ground := Ground.phase }, { on := 8, ground := Ground.phase }, { on := 9, ground := Ground.phase }, { on := 10, ground := Ground.phase }, { on := 11, ground := Ground.phase }, { on := 12, ground := Ground.phase }, { on := 13, ground := Ground.phase }, { on := 14, ground := Ground.phase }, { on := 15, ground := Ground.phase }, { on := 16, ground := Ground.phase }, { on := 17, ground := Ground.phase }, { on := 18, ground := Ground.phase }], guard := none }) (v := ?_) rfl (by kernel_rfl) (by kernel_rfl) (by kernel_rfl) (hQ _ _) (_root_.Or.inl ⟨by rfl, ?_⟩) (by assumption) ?_
    rotate_left
    · intro w0 hSw; (try dsimp only at hSw); have y0 := hSw.1; have y1 := hSw.2.1; have y2 := hSw.2.2.1; have y3 := hSw.2.2.2.1; go_simp; try with_reducible rfl
    (simp only [Act.put, List.setIfInBounds_toArray, List.set_cons_zero, List.set_cons_succ])
    refine wpAnyH_done (by kernel_rfl) ?_ _
    exact hpost _ _ _ _ _ _ _ _ _ _ _ _ _ _ _ A0 A1 _ ((xc_far (fun e => hne e.symm) 0 _ _).trans p0.1) ((xc_far (fun e => hne e.symm) 1 _ _).trans p0.2) (xc_put c10 c11 _ _).1 (xc_put c10 c11 _ _).2 g3
  have st10_2 : ∀ (A0 : Nat) (w : World), (fun w' => w'.cell? ⟨XB, 0, none⟩ = some (.bool (decide (x < 0))) ∧ w'.cell? ⟨XB, 1, none⟩ = some (.string (bstr x.natAbs)) ∧ w'.cell? ⟨R, 0, none⟩ = some (.slice (some ⟨gx, ox, none⟩) n ca) ∧ w'.cell? ⟨gx, ox + k, none⟩ = some (.int .u32 q) ∧ Gr W0 w') w → FreshW W0 w A0 → G 4 #[true, true, true, true, true, true, true, true, true, true, true, true, true, true, true, true, false, false, false, false] { tmps := List.toArray (.pointer (some ⟨R, 0, none⟩) :: v1 :: v2 :: v3 :: v4 :: v5 :: v6 :: v7 :: v8 :: .int .i64 k :: .pointer (some ⟨XB, 0, none⟩) :: v11 :: .pointer (some ⟨A0, 0, none⟩) :: s13 :: s14 :: v15 :: v16 :: v17 :: v18 :: v19 :: v20 :: v21 :: v22 :: v23 :: v24 :: v25 :: v26 :: v27 :: v28 :: v29 :: v30 :: v31 :: v32 :: v33 :: v34 :: v35 :: .tuple #[wv (x / q), wv (x % q), .int .i64 0] :: wv x :: .pointer (some ⟨R, 0, none⟩) :: .pointer (some ⟨R, 0, none⟩) :: .pointer (some ⟨R, 0, none⟩) :: .slice (some ⟨gx, ox, none⟩) n ca :: .int .i64 k :: .pointer (some ⟨gx, ox + k, none⟩) :: .int .u32 q :: .int .i64 q :: wv q :: .tuple #[wv (x / q), wv (x % q), .int .i64 0] :: wv (x / q) :: wv (x % q) :: .int .i64 0 :: v51 :: v52 :: v53 :: v54 :: v55 :: v56 :: v57 :: v58 :: v59 :: v60 :: v61 :: v62 :: v63 :: v64 :: v65 :: ([] : List Value)), defers := [] } w := by
    intro A0 w hS hF0
    refine inn _ _ _ _ ?_
    refine wpAnyH_ready (rs := [16]) (by kernel_rfl) (by simp) ?_
    refine AllReadyH.cons (o := { dst := some 13, op := Op.alloc 24, type := 0, pos := "ref.go:98", after := #[], guard := none }) rfl (fun K hK => ?_) ?_
    · go_simp
      have g2 := hS.2.2.2.2.alloc (.cells #[.bool false, .string ⟨#[]⟩] 24)
      refine hK.out _ _ ⟨(g2).keeps x0, (g2).keeps x1, (g2).keeps x2, (g2).keeps x3, g2⟩ (fun hHeld => ?_)
      (simp only [Act.put, List.setIfInBounds_toArray, List.set_cons_zero, List.set_cons_succ])
      exact out _ _ _ _ (st11_2 _ _ _ hHeld (hF0.later (Gr.new w _)) (FreshW.new hS.2.2.2.2 _) (fun e => hF0.ne e.symm))
    exact AllReadyH.nil
  have st01_2 : ∀ (A1 : Nat) (w : World), (fun w' => w'.cell? ⟨XB, 0, none⟩ = some (.bool (decide (x < 0))) ∧ w'.cell? ⟨XB, 1, none⟩ = some (.string (bstr x.natAbs)) ∧ w'.cell? ⟨R, 0, none⟩ = some (.slice (some ⟨gx, ox, none⟩) n ca) ∧ w'.cell? ⟨gx, ox + k, none⟩ = some (.int .u32 q) ∧ Gr W0 w') w → FreshW W0 w A1 → G 4 #[true, true, true, true, true, true, true, true, true, true, true, true, true, true, true, false, true, false, false, false] { tmps := List.toArray (.pointer (some ⟨R, 0, none⟩) :: v1 :: v2 :: v3 :: v4 :: v5 :: v6 :: v7 :: v8 :: .int .i64 k :: .pointer (some ⟨XB, 0, none⟩) :: v11 :: s12 :: .pointer (some ⟨A1, 0, none⟩) :: s14 :: v15 :: v16 :: v17 :: v18 :: v19 :: v20 :: v21 :: v22 :: v23 :: v24 :: v25 :: v26 :: v27 :: v28 :: v29 :: v30 :: v31 :: v32 :: v33 :: v34 :: v35 :: .tuple #[wv (x / q), wv (x % q), .int .i64 0] :: wv x :: .pointer (some ⟨R, 0, none⟩) :: .pointer (some ⟨R, 0, none⟩) :: .pointer (some ⟨R, 0, none⟩) :: .slice (some ⟨gx, ox, none⟩) n ca :: .int .i64 k :: .pointer (some ⟨gx, ox + k, none⟩) :: .int .u32 q :: .int .i64 q :: wv q :: .tuple #[wv (x / q), wv (x % q), .int .i64 0] :: wv (x / q) :: wv (x % q) :: .int .i64 0 :: v51 :: v52 :: v53 :: v54 :: v55 :: v56 :: v57 :: v58 :: v59 :: v60 :: v61 :: v62 :: v63 :: v64 :: v65 :: ([] : List Value)), defers := [] } w := by
    intro A1 w hS hF1
    refine inn _ _ _ _ ?_
    refine wpAnyH_ready (rs := [15]) (by kernel_rfl) (by simp) ?_
    refine AllReadyH.cons (o := { dst := some 12, op := Op.alloc 24, type := 0, pos := "ref.go:98", after := #[], guard := none }) rfl (fun K hK => ?_) ?_
    · go_simp
      have g2 := hS.2.2.2.2.alloc (.cells #[.bool false, .string ⟨#[]⟩] 24)
      refine hK.out _ _ ⟨(g2).keeps x0, (g2).keeps x1, (g2).keeps x2, (g2).keeps x3, g2⟩ (fun hHeld => ?_)
      (simp only [Act.put, List.setIfInBounds_toArray, List.set_cons_zero, List.set_cons_succ])
      exact out _ _ _ _ (st11_2 _ _ _ hHeld (FreshW.new hS.2.2.2.2 _) (hF1.later (Gr.new w _)) (fun e => hF1.ne e))
    exact AllReadyH.nil
  have st11_1 : ∀ (A0 : Nat) (A1 : Nat) (w : World), (fun w' => w'.cell? ⟨XB, 0, none⟩ = some (.bool (decide (x < 0))) ∧ w'.cell? ⟨XB, 1, none⟩ = some (.string (bstr x.natAbs)) ∧ w'.cell? ⟨R, 0, none⟩ = some (.slice (some ⟨gx, ox, none⟩) n ca) ∧ w'.cell? ⟨gx, ox + k, none⟩ = some (.int .u32 q) ∧ Gr W0 w') w → FreshW W0 w A0 → FreshW W0 w A1 → ¬ (A0 = A1) → G 8 #[true, true, true, true, true, true, true, true, true, true, false, false, false, false, false, true, true, false, false, false] { tmps := List.toArray (.pointer (some ⟨R, 0, none⟩) :: v1 :: v2 :: v3 :: v4 :: v5 :: v6 :: v7 :: v8 :: .int .i64 k :: .pointer (some ⟨XB, 0, none⟩) :: v11 :: .pointer (some ⟨A0, 0, none⟩) :: .pointer (some ⟨A1, 0, none⟩) :: s14 :: v15 :: v16 :: v17 :: v18 :: v19 :: v20 :: v21 :: v22 :: v23 :: v24 :: v25 :: v26 :: v27 :: v28 :: v29 :: v30 :: v31 :: v32 :: v33 :: v34 :: v35 :: s36 :: wv x :: .pointer (some ⟨R, 0, none⟩) :: .pointer (some ⟨R, 0, none⟩) :: .pointer (some ⟨R, 0, none⟩) :: .slice (some ⟨gx, ox, none⟩) n ca :: .int .i64 k :: .pointer (some ⟨gx, ox + k, none⟩) :: .int .u32 q :: .int .i64 q :: wv q :: s47 :: s48 :: s49 :: s50 :: v51 :: v52 :: v53 :: v54 :: v55 :: v56 :: v57 :: v58 :: v59 :: v60 :: v61 :: v62 :: v63 :: v64 :: v65 :: ([] : List Value)), defers := [] } w := by
    intro A0 A1 w hS hF0 hF1 hne
    refine inn _ _ _ _ ?_
    refine wpAnyH_ready (rs := [10]) (by kernel_rfl) (by simp) ?_
    refine AllReadyH.cons (o := { dst := some 47, op := Op.call { callee := Callee.value (Operand.func 77), args := #[Operand.tmp 37, Operand.tmp 46], argTypes := #[24, 24] }, type := 106, pos := "ref.go:98", after := #[{ on := 0, ground := Ground.data }, { on := 9, ground := Ground.data }, { on := 9, ground := Ground.chain }], guard := none }) rfl (fun K hK => ?_) ?_
    · go_simp
      go_at_call 77
      refine (HC2 _).mono ?_
      rintro e w' ⟨rfl, g⟩
      go_wp2_with fail
      have g2 := hS.2.2.2.2.trans g
      refine hK.out _ _ ⟨(g2).keeps x0, (g2).keeps x1, (g2).keeps x2, (g2).keeps x3, g2⟩ (fun hHeld => ?_)
      (simp only [Act.put, List.setIfInBounds_toArray, List.set_cons_zero, List.set_cons_succ])
      refine wpAnyH_take (i := 11) (oi := { dst := some 36, op := Op.move (Operand.tmp 47), type := 106, pos := "ref.go:98", after := #[{ on := 10, ground := Ground.data }], guard := none }) (v := ?_) rfl (by kernel_rfl) (by kernel_rfl) (by kernel_rfl) (hQ _ _) (_root_.Or.inl ⟨by rfl, ?_⟩) (by assumption) ?_
      rotate_left
      · intro w0 hSw; (try dsimp only at hSw); have y0 := hSw.1; have y1 := hSw.2.1; have y2 := hSw.2.2.1; have y3 := hSw.2.2.2.1; go_simp; try with_reducible rfl
      (simp only [Act.put, List.setIfInBounds_toArray, List.set_cons_zero, List.set_cons_succ])
      refine wpAnyH_take (i := 12) (oi := { dst := some 48, op := Op.extract (Operand.tmp 36) 0, type := 24, pos := "ref.go:98", after := #[{ on := 11, ground := Ground.data }], guard := none }) (v := ?_) rfl (by kernel_rfl) (by kernel_rfl) (by kernel_rfl) (hQ _ _) (_root_.Or.inl ⟨by rfl, ?_⟩) (by assumption) ?_
      rotate_left
      · intro w0 hSw; (try dsimp only at hSw); have y0 := hSw.1; have y1 := hSw.2.1; have y2 := hSw.2.2.1; have y3 := hSw.2.2.2.1; go_simp; try with_reducible rfl
      (simp only [Act.put, List.setIfInBounds_toArray, List.set_cons_zero, List.set_cons_succ])
      refine wpAnyH_take (i := 13) (oi := { dst := some 49, op := Op.extract (Operand.tmp 36) 1, type := 24, pos := "ref.go:98", after := #[{ on := 11, ground := Ground.data }, { on := 17, ground := Ground.gcOnly Departure.lateStores }], guard := none }) (v := ?_) rfl (by kernel_rfl) (by kernel_rfl) (by kernel_rfl) (hQ _ _) (_root_.Or.inl ⟨by rfl, ?_⟩) (by assumption) ?_
      rotate_left
      · intro w0 hSw; (try dsimp only at hSw); have y0 := hSw.1; have y1 := hSw.2.1; have y2 := hSw.2.2.1; have y3 := hSw.2.2.2.1; go_simp; try with_reducible rfl
      (simp only [Act.put, List.setIfInBounds_toArray, List.set_cons_zero, List.set_cons_succ])
      refine wpAnyH_take (i := 14) (oi := { dst := some 50, op := Op.extract (Operand.tmp 36) 2, type := 32, pos := "ref.go:98", after := #[{ on := 11, ground := Ground.data }, { on := 18, ground := Ground.gcOnly Departure.lateStores }], guard := none }) (v := ?_) rfl (by kernel_rfl) (by kernel_rfl) (by kernel_rfl) (hQ _ _) (_root_.Or.inl ⟨by rfl, ?_⟩) (by assumption) ?_
      rotate_left
      · intro w0 hSw; (try dsimp only at hSw); have y0 := hSw.1; have y1 := hSw.2.1; have y2 := hSw.2.2.1; have y3 := hSw.2.2.2.1; go_simp; try with_reducible rfl
      (simp only [Act.put, List.setIfInBounds_toArray, List.set_cons_zero, List.set_cons_succ])
      exact out _ _ _ _ (st11_2 _ _ _ hHeld (hF0.later g) (hF1.later g) hne)
    exact AllReadyH.nil
  have st00_2 : ∀ (w : World), (fun w' => w'.cell? ⟨XB, 0, none⟩ = some (.bool (decide (x < 0))) ∧ w'.cell? ⟨XB, 1, none⟩ = some (.string (bstr x.natAbs)) ∧ w'.cell? ⟨R, 0, none⟩ = some (.slice (some ⟨gx, ox, none⟩) n ca) ∧ w'.cell? ⟨gx, ox + k, none⟩ = some (.int .u32 q) ∧ Gr W0 w') w → G 5 #[true, true, true, true, true, true, true, true, true, true, true, true, true, true, true, false, false, false, false, false] { tmps := List.toArray (.pointer (some ⟨R, 0, none⟩) :: v1 :: v2 :: v3 :: v4 :: v5 :: v6 :: v7 :: v8 :: .int .i64 k :: .pointer (some ⟨XB, 0, none⟩) :: v11 :: s12 :: s13 :: s14 :: v15 :: v16 :: v17 :: v18 :: v19 :: v20 :: v21 :: v22 :: v23 :: v24 :: v25 :: v26 :: v27 :: v28 :: v29 :: v30 :: v31 :: v32 :: v33 :: v34 :: v35 :: .tuple #[wv (x / q), wv (x % q), .int .i64 0] :: wv x :: .pointer (some ⟨R, 0, none⟩) :: .pointer (some ⟨R, 0, none⟩) :: .pointer (some ⟨R, 0, none⟩) :: .slice (some ⟨gx, ox, none⟩) n ca :: .int .i64 k :: .pointer (some ⟨gx, ox + k, none⟩) :: .int .u32 q :: .int .i64 q :: wv q :: .tuple #[wv (x / q), wv (x % q), .int .i64 0] :: wv (x / q) :: wv (x % q) :: .int .i64 0 :: v51 :: v52 :: v53 :: v54 :: v55 :: v56 :: v57 :: v58 :: v59 :: v60 :: v61 :: v62 :: v63 :: v64 :: v65 :: ([] : List Value)), defers := [] } w := by
    intro w hS
    refine inn _ _ _ _ ?_
    refine wpAnyH_ready (rs := [15, 16]) (by kernel_rfl) (by simp) ?_
    refine AllReadyH.cons (o := { dst := some 12, op := Op.alloc 24, type := 0, pos := "ref.go:98", after := #[], guard := none }) rfl (fun K hK => ?_) ?_
    · go_simp
      have g2 := hS.2.2.2.2.alloc (.cells #[.bool false, .string ⟨#[]⟩] 24)
      refine hK.out _ _ ⟨(g2).keeps x0, (g2).keeps x1, (g2).keeps x2, (g2).keeps x3, g2⟩ (fun hHeld => ?_)
      (simp only [Act.put, List.setIfInBounds_toArray, List.set_cons_zero, List.set_cons_succ])
      exact out _ _ _ _ (st10_2 _ _ hHeld (FreshW.new hS.2.2.2.2 _))
    refine AllReadyH.cons (o := { dst := some 13, op := Op.alloc 24, type := 0, pos := "ref.go:98", after := #[], guard := none }) rfl (fun K hK => ?_) ?_
    · go_simp
      have g2 := hS.2.2.2.2.alloc (.cells #[.bool false, .string ⟨#[]⟩] 24)
      refine hK.out _ _ ⟨(g2).keeps x0, (g2).keeps x1, (g2).keeps x2, (g2).keeps x3, g2⟩ (fun hHeld => ?_)
      (simp only [Act.put, List.setIfInBounds_toArray, List.set_cons_zero, List.set_cons_succ])
      exact out _ _ _ _ (st01_2 _ _ hHeld (FreshW.new hS.2.2.2.2 _))
    exact AllReadyH.nil
  have st10_1 : ∀ (A0 : Nat) (w : World), (fun w' => w'.cell? ⟨XB, 0, none⟩ = some (.bool (decide (x < 0))) ∧ w'.cell? ⟨XB, 1, none⟩ = some (.string (bstr x.natAbs)) ∧ w'.cell? ⟨R, 0, none⟩ = some (.slice (some ⟨gx, ox, none⟩) n ca) ∧ w'.cell? ⟨gx, ox + k, none⟩ = some (.int .u32 q) ∧ Gr W0 w') w → FreshW W0 w A0 → G 9 #[true, true, true, true, true, true, true, true, true, true, false, false, false, false, false, true, false, false, false, false] { tmps := List.toArray (.pointer (some ⟨R, 0, none⟩) :: v1 :: v2 :: v3 :: v4 :: v5 :: v6 :: v7 :: v8 :: .int .i64 k :: .pointer (some ⟨XB, 0, none⟩) :: v11 :: .pointer (some ⟨A0, 0, none⟩) :: s13 :: s14 :: v15 :: v16 :: v17 :: v18 :: v19 :: v20 :: v21 :: v22 :: v23 :: v24 :: v25 :: v26 :: v27 :: v28 :: v29 :: v30 :: v31 :: v32 :: v33 :: v34 :: v35 :: s36 :: wv x :: .pointer (some ⟨R, 0, none⟩) :: .pointer (some ⟨R, 0, none⟩) :: .pointer (some ⟨R, 0, none⟩) :: .slice (some ⟨gx, ox, none⟩) n ca :: .int .i64 k :: .pointer (some ⟨gx, ox + k, none⟩) :: .int .u32 q :: .int .i64 q :: wv q :: s47 :: s48 :: s49 :: s50 :: v51 :: v52 :: v53 :: v54 :: v55 :: v56 :: v57 :: v58 :: v59 :: v60 :: v61 :: v62 :: v63 :: v64 :: v65 :: ([] : List Value)), defers := [] } w := by
    intro A0 w hS hF0
    refine inn _ _ _ _ ?_
    refine wpAnyH_ready (rs := [10, 16]) (by kernel_rfl) (by simp) ?_
    refine AllReadyH.cons (o := { dst := some 47, op := Op.call { callee := Callee.value (Operand.func 77), args := #[Operand.tmp 37, Operand.tmp 46], argTypes := #[24, 24] }, type := 106, pos := "ref.go:98", after := #[{ on := 0, ground := Ground.data }, { on := 9, ground := Ground.data }, { on := 9, ground := Ground.chain }], guard := none }) rfl (fun K hK => ?_) ?_
    · go_simp
      go_at_call 77
      refine (HC2 _).mono ?_
      rintro e w' ⟨rfl, g⟩
      go_wp2_with fail
      have g2 := hS.2.2.2.2.trans g
      refine hK.out _ _ ⟨(g2).keeps x0, (g2).keeps x1, (g2).keeps x2, (g2).keeps x3, g2⟩ (fun hHeld => ?_)
      (simp only [Act.put, List.setIfInBounds_toArray, List.set_cons_zero, List.set_cons_succ])
      refine wpAnyH_take (i := 11) (oi := { dst := some 36, op := Op.move (Operand.tmp 47), type := 106, pos := "ref.go:98", after := #[{ on := 10, ground := Ground.data }], guard := none }) (v := ?_) rfl (by kernel_rfl) (by kernel_rfl) (by kernel_rfl) (hQ _ _) (_root_.Or.inl ⟨by rfl, ?_⟩) (by assumption) ?_
      rotate_left
      · intro w0 hSw; (try dsimp only at hSw); have y0 := hSw.1; have y1 := hSw.2.1; have y2 := hSw.2.2.1; have y3 := hSw.2.2.2.1; go_simp; try with_reducible rfl
      (simp only [Act.put, List.setIfInBounds_toArray, List.set_cons_zero, List.set_cons_succ])
      refine wpAnyH_take (i := 12) (oi := { dst := some 48, op := Op.extract (Operand.tmp 36) 0, type := 24, pos := "ref.go:98", after := #[{ on := 11, ground := Ground.data }], guard := none }) (v := ?_) rfl (by kernel_rfl) (by kernel_rfl) (by kernel_rfl) (hQ _ _) (_root_.Or.inl ⟨by rfl, ?_⟩) (by assumption) ?_
      rotate_left
      · intro w0 hSw; (try dsimp only at hSw); have y0 := hSw.1; have y1 := hSw.2.1; have y2 := hSw.2.2.1; have y3 := hSw.2.2.2.1; go_simp; try with_reducible rfl
      (simp only [Act.put, List.setIfInBounds_toArray, List.set_cons_zero, List.set_cons_succ])
      refine wpAnyH_take (i := 13) (oi := { dst := some 49, op := Op.extract (Operand.tmp 36) 1, type := 24, pos := "ref.go:98", after := #[{ on := 11, ground := Ground.data }, { on := 17, ground := Ground.gcOnly Departure.lateStores }], guard := none }) (v := ?_) rfl (by kernel_rfl) (by kernel_rfl) (by kernel_rfl) (hQ _ _) (_root_.Or.inl ⟨by rfl, ?_⟩) (by assumption) ?_
      rotate_left
      · intro w0 hSw; (try dsimp only at hSw); have y0 := hSw.1; have y1 := hSw.2.1; have y2 := hSw.2.2.1; have y3 := hSw.2.2.2.1; go_simp; try with_reducible rfl
      (simp only [Act.put, List.setIfInBounds_toArray, List.set_cons_zero, List.set_cons_succ])
      refine wpAnyH_take (i := 14) (oi := { dst := some 50, op := Op.extract (Operand.tmp 36) 2, type := 32, pos := "ref.go:98", after := #[{ on := 11, ground := Ground.data }, { on := 18, ground := Ground.gcOnly Departure.lateStores }], guard := none }) (v := ?_) rfl (by kernel_rfl) (by kernel_rfl) (by kernel_rfl) (hQ _ _) (_root_.Or.inl ⟨by rfl, ?_⟩) (by assumption) ?_
      rotate_left
      · intro w0 hSw; (try dsimp only at hSw); have y0 := hSw.1; have y1 := hSw.2.1; have y2 := hSw.2.2.1; have y3 := hSw.2.2.2.1; go_simp; try with_reducible rfl
      (simp only [Act.put, List.setIfInBounds_toArray, List.set_cons_zero, List.set_cons_succ])
      exact out _ _ _ _ (st10_2 _ _ hHeld (hF0.later g))
    refine AllReadyH.cons (o := { dst := some 13, op := Op.alloc 24, type := 0, pos := "ref.go:98", after := #[], guard := none }) rfl (fun K hK => ?_) ?_
    · go_simp
      have g2 := hS.2.2.2.2.alloc (.cells #[.bool false, .string ⟨#[]⟩] 24)
      refine hK.out _ _ ⟨(g2).keeps x0, (g2).keeps x1, (g2).keeps x2, (g2).keeps x3, g2⟩ (fun hHeld => ?_)
      (simp only [Act.put, List.setIfInBounds_toArray, List.set_cons_zero, List.set_cons_succ])
      exact out _ _ _ _ (st11_1 _ _ _ hHeld (hF0.later (Gr.new w _)) (FreshW.new hS.2.2.2.2 _) (fun e => hF0.ne e.symm))
    exact AllReadyH.nil
  have st01_1 : ∀ (A1 : Nat) (w : World), (fun w' => w'.cell? ⟨XB, 0, none⟩ = some (.bool (decide (x < 0))) ∧ w'.cell? ⟨XB, 1, none⟩ = some (.string (bstr x.natAbs)) ∧ w'.cell? ⟨R, 0, none⟩ = some (.slice (some ⟨gx, ox, none⟩) n ca) ∧ w'.cell? ⟨gx, ox + k, none⟩ = some (.int .u32 q) ∧ Gr W0 w') w → FreshW W0 w A1 → G 9 #[true, true, true, true, true, true, true, true, true, true, false, false, false, false, false, false, true, false, false, false] { tmps := List.toArray (.pointer (some ⟨R, 0, none⟩) :: v1 :: v2 :: v3 :: v4 :: v5 :: v6 :: v7 :: v8 :: .int .i64 k :: .pointer (some ⟨XB, 0, none⟩) :: v11 :: s12 :: .pointer (some ⟨A1, 0, none⟩) :: s14 :: v15 :: v16 :: v17 :: v18 :: v19 :: v20 :: v21 :: v22 :: v23 :: v24 :: v25 :: v26 :: v27 :: v28 :: v29 :: v30 :: v31 :: v32 :: v33 :: v34 :: v35 :: s36 :: wv x :: .pointer (some ⟨R, 0, none⟩) :: .pointer (some ⟨R, 0, none⟩) :: .pointer (some ⟨R, 0, none⟩) :: .slice (some ⟨gx, ox, none⟩) n ca :: .int .i64 k :: .pointer (some ⟨gx, ox + k, none⟩) :: .int .u32 q :: .int .i64 q :: wv q :: s47 :: s48 :: s49 :: s50 :: v51 :: v52 :: v53 :: v54 :: v55 :: v56 :: v57 :: v58 :: v59 :: v60 :: v61 :: v62 :: v63 :: v64 :: v65 :: ([] : List Value)), defers := [] } w := by
    intro A1 w hS hF1
    refine inn _ _ _ _ ?_
    refine wpAnyH_ready (rs := [10, 15]) (by kernel_rfl) (by simp) ?_
    refine AllReadyH.cons (o := { dst := some 47, op := Op.call { callee := Callee.value (Operand.func 77), args := #[Operand.tmp 37, Operand.tmp 46], argTypes := #[24, 24] }, type := 106, pos := "ref.go:98", after := #[{ on := 0, ground := Ground.data }, { on := 9, ground := Ground.data }, { on := 9, ground := Ground.chain }], guard := none }) rfl (fun K hK => ?_) ?_
    · go_simp
      go_at_call 77
      refine (HC2 _).mono ?_
      rintro e w' ⟨rfl, g⟩
      go_wp2_with fail
      have g2 := hS.2.2.2.2.trans g
      refine hK.out _ _ ⟨(g2).keeps x0, (g2).keeps x1, (g2).keeps x2, (g2).keeps x3, g2⟩ (fun hHeld => ?_)
      (simp only [Act.put, List.setIfInBounds_toArray, List.set_cons_zero, List.set_cons_succ])
      refine wpAnyH_take (i := 11) (oi := { dst := some 36, op := Op.move (Operand.tmp 47), type := 106, pos := "ref.go:98", after := #[{ on := 10, ground := Ground.data }], guard := none }) (v := ?_) rfl (by kernel_rfl) (by kernel_rfl) (by kernel_rfl) (hQ _ _) (_root_.Or.inl ⟨by rfl, ?_⟩) (by assumption) ?_
      rotate_left
      · intro w0 hSw; (try dsimp only at hSw); have y0 := hSw.1; have y1 := hSw.2.1; have y2 := hSw.2.2.1; have y3 := hSw.2.2.2.1; go_simp; try with_reducible rfl
      (simp only [Act.put, List.setIfInBounds_toArray, List.set_cons_zero, List.set_cons_succ])
      refine wpAnyH_take (i := 12) (oi := { dst := some 48, op := Op.extract (Operand.tmp 36) 0, type := 24, pos := "ref.go:98", after := #[{ on := 11, ground := Ground.data }], guard := none }) (v := ?_) rfl (by kernel_rfl) (by kernel_rfl) (by kernel_rfl) (hQ _ _) (_root_.Or.inl ⟨by rfl, ?_⟩) (by assumption) ?_
      rotate_left
      · intro w0 hSw; (try dsimp only at hSw); have y0 := hSw.1; have y1 := hSw.2.1; have y2 := hSw.2.2.1; have y3 := hSw.2.2.2.1; go_simp; try with_reducible rfl
      (simp only [Act.put, List.setIfInBounds_toArray, List.set_cons_zero, List.set_cons_succ])
      refine wpAnyH_take (i := 13) (oi := { dst := some 49, op := Op.extract (Operand.tmp 36) 1, type := 24, pos := "ref.go:98", after := #[{ on := 11, ground := Ground.data }, { on := 17, ground := Ground.gcOnly Departure.lateStores }], guard := none }) (v := ?_) rfl (by kernel_rfl) (by kernel_rfl) (by kernel_rfl) (hQ _ _) (_root_.Or.inl ⟨by rfl, ?_⟩) (by assumption) ?_
      rotate_left
      · intro w0 hSw; (try dsimp only at hSw); have y0 := hSw.1; have y1 := hSw.2.1; have y2 := hSw.2.2.1; have y3 := hSw.2.2.2.1; go_simp; try with_reducible rfl
      (simp only [Act.put, List.setIfInBounds_toArray, List.set_cons_zero, List.set_cons_succ])
      refine wpAnyH_take (i := 14) (oi := { dst := some 50, op := Op.extract (Operand.tmp 36) 2, type := 32, pos := "ref.go:98", after := #[{ on := 11, ground := Ground.data }, { on := 18, ground := Ground.gcOnly Departure.lateStores }], guard := none }) (v := ?_) rfl (by kernel_rfl) (by kernel_rfl) (by kernel_rfl) (hQ _ _) (_root_.Or.inl ⟨by rfl, ?_⟩) (by assumption) ?_
      rotate_left
      · intro w0 hSw; (try dsimp only at hSw); have y0 := hSw.1; have y1 := hSw.2.1; have y2 := hSw.2.2.1; have y3 := hSw.2.2.2.1; go_simp; try with_reducible rfl
      (simp only [Act.put, List.setIfInBounds_toArray, List.set_cons_zero, List.set_cons_succ])
      exact out _ _ _ _ (st01_2 _ _ hHeld (hF1.later g))
    refine AllReadyH.cons (o := { dst := some 12, op := Op.alloc 24, type := 0, pos := "ref.go:98", after := #[], guard := none }) rfl (fun K hK => ?_) ?_
    · go_simp
      have g2 := hS.2.2.2.2.alloc (.cells #[.bool false, .string ⟨#[]⟩] 24)
      refine hK.out _ _ ⟨(g2).keeps x0, (g2).keeps x1, (g2).keeps x2, (g2).keeps x3, g2⟩ (fun hHeld => ?_)
      (simp only [Act.put, List.setIfInBounds_toArray, List.set_cons_zero, List.set_cons_succ])
      exact out _ _ _ _ (st11_1 _ _ _ hHeld (FreshW.new hS.2.2.2.2 _) (hF1.later (Gr.new w _)) (fun e => hF1.ne e))
    exact AllReadyH.nil
  have st11_0 : ∀ (A0 : Nat) (A1 : Nat) (w : World), (fun w' => w'.cell? ⟨XB, 0, none⟩ = some (.bool (decide (x < 0))) ∧ w'.cell? ⟨XB, 1, none⟩ = some (.string (bstr x.natAbs)) ∧ w'.cell? ⟨R, 0, none⟩ = some (.slice (some ⟨gx, ox, none⟩) n ca) ∧ w'.cell? ⟨gx, ox + k, none⟩ = some (.int .u32 q) ∧ Gr W0 w') w → FreshW W0 w A0 → FreshW W0 w A1 → ¬ (A0 = A1) → G 9 #[true, true, true, true, true, true, true, true, true, false, false, false, false, false, false, true, true, false, false, false] { tmps := List.toArray (.pointer (some ⟨R, 0, none⟩) :: v1 :: v2 :: v3 :: v4 :: v5 :: v6 :: v7 :: v8 :: .int .i64 k :: .pointer (some ⟨XB, 0, none⟩) :: v11 :: .pointer (some ⟨A0, 0, none⟩) :: .pointer (some ⟨A1, 0, none⟩) :: s14 :: v15 :: v16 :: v17 :: v18 :: v19 :: v20 :: v21 :: v22 :: v23 :: v24 :: v25 :: v26 :: v27 :: v28 :: v29 :: v30 :: v31 :: v32 :: v33 :: v34 :: v35 :: s36 :: wv x :: .pointer (some ⟨R, 0, none⟩) :: .pointer (some ⟨R, 0, none⟩) :: .pointer (some ⟨R, 0, none⟩) :: .slice (some ⟨gx, ox, none⟩) n ca :: .int .i64 k :: .pointer (some ⟨gx, ox + k, none⟩) :: .int .u32 q :: .int .i64 q :: s46 :: s47 :: s48 :: s49 :: s50 :: v51 :: v52 :: v53 :: v54 :: v55 :: v56 :: v57 :: v58 :: v59 :: v60 :: v61 :: v62 :: v63 :: v64 :: v65 :: ([] : List Value)), defers := [] } w := by
    intro A0 A1 w hS hF0 hF1 hne
    refine inn _ _ _ _ ?_
    refine wpAnyH_ready (rs := [9]) (by kernel_rfl) (by simp) ?_
    refine AllReadyH.cons (o := { dst := some 46, op := Op.call { callee := Callee.value (Operand.func 36), args := #[Operand.tmp 45], argTypes := #[2] }, type := 24, pos := "ref.go:98", after := #[{ on := 8, ground := Ground.data }], guard := none }) rfl (fun K hK => ?_) ?_
    · go_simp
      go_at_call 36
      refine (HC1 _ hS.2.2.2.2).mono ?_
      rintro e w' ⟨rfl, g⟩
      go_wp2_with fail
      have g2 := hS.2.2.2.2.trans g
      refine hK.out _ _ ⟨(g2).keeps x0, (g2).keeps x1, (g2).keeps x2, (g2).keeps x3, g2⟩ (fun hHeld => ?_)
      (simp only [Act.put, List.setIfInBounds_toArray, List.set_cons_zero, List.set_cons_succ])
      exact out _ _ _ _ (st11_1 _ _ _ hHeld (hF0.later g) (hF1.later g) hne)
    exact AllReadyH.nil
  have st00_1 : ∀ (w : World), (fun w' => w'.cell? ⟨XB, 0, none⟩ = some (.bool (decide (x < 0))) ∧ w'.cell? ⟨XB, 1, none⟩ = some (.string (bstr x.natAbs)) ∧ w'.cell? ⟨R, 0, none⟩ = some (.slice (some ⟨gx, ox, none⟩) n ca) ∧ w'.cell? ⟨gx, ox + k, none⟩ = some (.int .u32 q) ∧ Gr W0 w') w → G 10 #[true, true, true, true, true, true, true, true, true, true, false, false, false, false, false, false, false, false, false, false] { tmps := List.toArray (.pointer (some ⟨R, 0, none⟩) :: v1 :: v2 :: v3 :: v4 :: v5 :: v6 :: v7 :: v8 :: .int .i64 k :: .pointer (some ⟨XB, 0, none⟩) :: v11 :: s12 :: s13 :: s14 :: v15 :: v16 :: v17 :: v18 :: v19 :: v20 :: v21 :: v22 :: v23 :: v24 :: v25 :: v26 :: v27 :: v28 :: v29 :: v30 :: v31 :: v32 :: v33 :: v34 :: v35 :: s36 :: wv x :: .pointer (some ⟨R, 0, none⟩) :: .pointer (some ⟨R, 0, none⟩) :: .pointer (some ⟨R, 0, none⟩) :: .slice (some ⟨gx, ox, none⟩) n ca :: .int .i64 k :: .pointer (some ⟨gx, ox + k, none⟩) :: .int .u32 q :: .int .i64 q :: wv q :: s47 :: s48 :: s49 :: s50 :: v51 :: v52 :: v53 :: v54 :: v55 :: v56 :: v57 :: v58 :: v59 :: v60 :: v61 :: v62 :: v63 :: v64 :: v65 :: ([] : List Value)), defers := [] } w := by
    intro w hS
    refine inn _ _ _ _ ?_
    refine wpAnyH_ready (rs := [10, 15, 16]) (by kernel_rfl) (by simp) ?_
    refine AllReadyH.cons (o := { dst := some 47, op := Op.call { callee := Callee.value (Operand.func 77), args := #[Operand.tmp 37, Operand.tmp 46], argTypes := #[24, 24] }, type := 106, pos := "ref.go:98", after := #[{ on := 0, ground := Ground.data }, { on := 9, ground := Ground.data }, { on := 9, ground := Ground.chain }], guard := none }) rfl (fun K hK => ?_) ?_
    · go_simp
      go_at_call 77
      refine (HC2 _).mono ?_
      rintro e w' ⟨rfl, g⟩
      go_wp2_with fail
      have g2 := hS.2.2.2.2.trans g
      refine hK.out _ _ ⟨(g2).keeps x0, (g2).keeps x1, (g2).keeps x2, (g2).keeps x3, g2⟩ (fun hHeld => ?_)
      (simp only [Act.put, List.setIfInBounds_toArray, List.set_cons_zero, List.set_cons_succ])
      refine wpAnyH_take (i := 11) (oi := { dst := some 36, op := Op.move (Operand.tmp 47), type := 106, pos := "ref.go:98", after := #[{ on := 10, ground := Ground.data }], guard := none }) (v := ?_) rfl (by kernel_rfl) (by kernel_rfl) (by kernel_rfl) (hQ _ _) (_root_.Or.inl ⟨by rfl, ?_⟩) (by assumption) ?_
      rotate_left
      · intro w0 hSw; (try dsimp only at hSw); have y0 := hSw.1; have y1 := hSw.2.1; have y2 := hSw.2.2.1; have y3 := hSw.2.2.2.1; go_simp; try with_reducible rfl
      (simp only [Act.put, List.setIfInBounds_toArray, List.set_cons_zero, List.set_cons_succ])
      refine wpAnyH_take (i := 12) (oi := { dst := some 48, op := Op.extract (Operand.tmp 36) 0, type := 24, pos := "ref.go:98", after := #[{ on := 11, ground := Ground.data }], guard := none }) (v := ?_) rfl (by kernel_rfl) (by kernel_rfl) (by kernel_rfl) (hQ _ _) (_root_.Or.inl ⟨by rfl, ?_⟩) (by assumption) ?_
      rotate_left
      · intro w0 hSw; (try dsimp only at hSw); have y0 := hSw.1; have y1 := hSw.2.1; have y2 := hSw.2.2.1; have y3 := hSw.2.2.2.1; go_simp; try with_reducible rfl
      (simp only [Act.put, List.setIfInBounds_toArray, List.set_cons_zero, List.set_cons_succ])
      refine wpAnyH_take (i := 13) (oi := { dst := some 49, op := Op.extract (Operand.tmp 36) 1, type := 24, pos := "ref.go:98", after := #[{ on := 11, ground := Ground.data }, { on := 17, ground := Ground.gcOnly Departure.lateStores }], guard := none }) (v := ?_) rfl (by kernel_rfl) (by kernel_rfl) (by kernel_rfl) (hQ _ _) (_root_.Or.inl ⟨by rfl, ?_⟩) (by assumption) ?_
      rotate_left
      · intro w0 hSw; (try dsimp only at hSw); have y0 := hSw.1; have y1 := hSw.2.1; have y2 := hSw.2.2.1; have y3 := hSw.2.2.2.1; go_simp; try with_reducible rfl
      (simp only [Act.put, List.setIfInBounds_toArray, List.set_cons_zero, List.set_cons_succ])
      refine wpAnyH_take (i := 14) (oi := { dst := some 50, op := Op.extract (Operand.tmp 36) 2, type := 32, pos := "ref.go:98", after := #[{ on := 11, ground := Ground.data }, { on := 18, ground := Ground.gcOnly Departure.lateStores }], guard := none }) (v := ?_) rfl (by kernel_rfl) (by kernel_rfl) (by kernel_rfl) (hQ _ _) (_root_.Or.inl ⟨by rfl, ?_⟩) (by assumption) ?_
      rotate_left
      · intro w0 hSw; (try dsimp only at hSw); have y0 := hSw.1; have y1 := hSw.2.1; have y2 := hSw.2.2.1; have y3 := hSw.2.2.2.1; go_simp; try with_reducible rfl
      (simp only [Act.put, List.setIfInBounds_toArray, List.set_cons_zero, List.set_cons_succ])
      exact out _ _ _ _ (st00_2 _ hHeld)
    refine AllReadyH.cons (o := { dst := some 12, op := Op.alloc 24, type := 0, pos := "ref.go:98", after := #[], guard := none }) rfl (fun K hK => ?_) ?_
    · go_simp
      have g2 := hS.2.2.2.2.alloc (.cells #[.bool false, .string ⟨#[]⟩] 24)
      refine hK.out _ _ ⟨(g2).keeps x0, (g2).keeps x1, (g2).keeps x2, (g2).keeps x3, g2⟩ (fun hHeld => ?_)
      (simp only [Act.put, List.setIfInBounds_toArray, List.set_cons_zero, List.set_cons_succ])
      exact out _ _ _ _ (st10_1 _ _ hHeld (FreshW.new hS.2.2.2.2 _))
    refine AllReadyH.cons (o := { dst := some 13, op := Op.alloc 24, type := 0, pos := "ref.go:98", after := #[], guard := none }) rfl (fun K hK => ?_) ?_
    · go_simp
      have g2 := hS.2.2.2.2.alloc (.cells #[.bool false, .string ⟨#[]⟩] 24)
      refine hK.out _ _ ⟨(g2).keeps x0, (g2).keeps x1, (g2).keeps x2, (g2).keeps x3, g2⟩ (fun hHeld => ?_)
      (simp only [Act.put, List.setIfInBounds_toArray, List.set_cons_zero, List.set_cons_succ])
      exact out _ _ _ _ (st01_1 _ _ hHeld (FreshW.new hS.2.2.2.2 _))
    exact AllReadyH.nil
  have st10_0 : ∀ (A0 : Nat) (w : World), (fun w' => w'.cell? ⟨XB, 0, none⟩ = some (.bool (decide (x < 0))) ∧ w'.cell? ⟨XB, 1, none⟩ = some (.string (bstr x.natAbs)) ∧ w'.cell? ⟨R, 0, none⟩ = some (.slice (some ⟨gx, ox, none⟩) n ca) ∧ w'.cell? ⟨gx, ox + k, none⟩ = some (.int .u32 q) ∧ Gr W0 w') w → FreshW W0 w A0 → G 10 #[true, true, true, true, true, true, true, true, true, false, false, false, false, false, false, true, false, false, false, false] { tmps := List.toArray (.pointer (some ⟨R, 0, none⟩) :: v1 :: v2 :: v3 :: v4 :: v5 :: v6 :: v7 :: v8 :: .int .i64 k :: .pointer (some ⟨XB, 0, none⟩) :: v11 :: .pointer (some ⟨A0, 0, none⟩) :: s13 :: s14 :: v15 :: v16 :: v17 :: v18 :: v19 :: v20 :: v21 :: v22 :: v23 :: v24 :: v25 :: v26 :: v27 :: v28 :: v29 :: v30 :: v31 :: v32 :: v33 :: v34 :: v35 :: s36 :: wv x :: .pointer (some ⟨R, 0, none⟩) :: .pointer (some ⟨R, 0, none⟩) :: .pointer (some ⟨R, 0, none⟩) :: .slice (some ⟨gx, ox, none⟩) n ca :: .int .i64 k :: .pointer (some ⟨gx, ox + k, none⟩) :: .int .u32 q :: .int .i64 q :: s46 :: s47 :: s48 :: s49 :: s50 :: v51 :: v52 :: v53 :: v54 :: v55 :: v56 :: v57 :: v58 :: v59 :: v60 :: v61 :: v62 :: v63 :: v64 :: v65 :: ([] : List Value)), defers := [] } w := by
    intro A0 w hS hF0
    refine inn _ _ _ _ ?_
    refine wpAnyH_ready (rs := [9, 16]) (by kernel_rfl) (by simp) ?_
    refine AllReadyH.cons (o := { dst := some 46, op := Op.call { callee := Callee.value (Operand.func 36), args := #[Operand.tmp 45], argTypes := #[2] }, type := 24, pos := "ref.go:98", after := #[{ on := 8, ground := Ground.data }], guard := none }) rfl (fun K hK => ?_) ?_
    · go_simp
      go_at_call 36
      refine (HC1 _ hS.2.2.2.2).mono ?_
      rintro e w' ⟨rfl, g⟩
      go_wp2_with fail
      have g2 := hS.2.2.2.2.trans g
      refine hK.out _ _ ⟨(g2).keeps x0, (g2).keeps x1, (g2).keeps x2, (g2).keeps x3, g2⟩ (fun hHeld => ?_)
      (simp only [Act.put, List.setIfInBounds_toArray, List.set_cons_zero, List.set_cons_succ])
      exact out _ _ _ _ (st10_1 _ _ hHeld (hF0.later g))
    refine AllReadyH.cons (o := { dst := some 13, op := Op.alloc 24, type := 0, pos := "ref.go:98", after := #[], guard := none }) rfl (fun K hK => ?_) ?_
    · go_simp
      have g2 := hS.2.2.2.2.alloc (.cells #[.bool false, .string ⟨#[]⟩] 24)
      refine hK.out _ _ ⟨(g2).keeps x0, (g2).keeps x1, (g2).keeps x2, (g2).keeps x3, g2⟩ (fun hHeld => ?_)
      (simp only [Act.put, List.setIfInBounds_toArray, List.set_cons_zero, List.set_cons_succ])
      exact out _ _ _ _ (st11_0 _ _ _ hHeld (hF0.later (Gr.new w _)) (FreshW.new hS.2.2.2.2 _) (fun e => hF0.ne e.symm))
    exact AllReadyH.nil
  have st01_0 : ∀ (A1 : Nat) (w : World), (fun w' => w'.cell? ⟨XB, 0, none⟩ = some (.bool (decide (x < 0))) ∧ w'.cell? ⟨XB, 1, none⟩ = some (.string (bstr x.natAbs)) ∧ w'.cell? ⟨R, 0, none⟩ = some (.slice (some ⟨gx, ox, none⟩) n ca) ∧ w'.cell? ⟨gx, ox + k, none⟩ = some (.int .u32 q) ∧ Gr W0 w') w → FreshW W0 w A1 → G 10 #[true, true, true, true, true, true, true, true, true, false, false, false, false, false, false, false, true, false, false, false] { tmps := List.toArray (.pointer (some ⟨R, 0, none⟩) :: v1 :: v2 :: v3 :: v4 :: v5 :: v6 :: v7 :: v8 :: .int .i64 k :: .pointer (some ⟨XB, 0, none⟩) :: v11 :: s12 :: .pointer (some ⟨A1, 0, none⟩) :: s14 :: v15 :: v16 :: v17 :: v18 :: v19 :: v20 :: v21 :: v22 :: v23 :: v24 :: v25 :: v26 :: v27 :: v28 :: v29 :: v30 :: v31 :: v32 :: v33 :: v34 :: v35 :: s36 :: wv x :: .pointer (some ⟨R, 0, none⟩) :: .pointer (some ⟨R, 0, none⟩) :: .pointer (some ⟨R, 0, none⟩) :: .slice (some ⟨gx, ox, none⟩) n ca :: .int .i64 k :: .pointer (some ⟨gx, ox + k, none⟩) :: .int .u32 q :: .int .i64 q :: s46 :: s47 :: s48 :: s49 :: s50 :: v51 :: v52 :: v53 :: v54 :: v55 :: v56 :: v57 :: v58 :: v59 :: v60 :: v61 :: v62 :: v63 :: v64 :: v65 :: ([] : List Value)), defers := [] } w := by
    intro A1 w hS hF1
    refine inn _ _ _ _ ?_
    refine wpAnyH_ready (rs := [9, 15]) (by kernel_rfl) (by simp) ?_
    refine AllReadyH.cons (o := { dst := some 46, op := Op.call { callee := Callee.value (Operand.func 36), args := #[Operand.tmp 45], argTypes := #[2] }, type := 24, pos := "ref.go:98", after := #[{ on := 8, ground := Ground.data }], guard := none }) rfl (fun K hK => ?_) ?_
    · go_simp
      go_at_call 36
      refine (HC1 _ hS.2.2.2.2).mono ?_
      rintro e w' ⟨rfl, g⟩
      go_wp2_with fail
      have g2 := hS.2.2.2.2.trans g
      refine hK.out _ _ ⟨(g2).keeps x0, (g2).keeps x1, (g2).keeps x2, (g2).keeps x3, g2⟩ (fun hHeld => ?_)
      (simp only [Act.put, List.setIfInBounds_toArray, List.set_cons_zero, List.set_cons_succ])
      exact out _ _ _ _ (st01_1 _ _ hHeld (hF1.later g))
    refine AllReadyH.cons (o := { dst := some 12, op := Op.alloc 24, type := 0, pos := "ref.go:98", after := #[], guard := none }) rfl (fun K hK => ?_) ?_
    · go_simp
      have g2 := hS.2.2.2.2.alloc (.cells #[.bool false, .string ⟨#[]⟩] 24)
      refine hK.out _ _ ⟨(g2).keeps x0, (g2).keeps x1, (g2).keeps x2, (g2).keeps x3, g2⟩ (fun hHeld => ?_)
      (simp only [Act.put, List.setIfInBounds_toArray, List.set_cons_zero, List.set_cons_succ])
      exact out _ _ _ _ (st11_0 _ _ _ hHeld (FreshW.new hS.2.2.2.2 _) (hF1.later (Gr.new w _)) (fun e => hF1.ne e))
    exact AllReadyH.nil
  have st00_0 : ∀ (w : World), (fun w' => w'.cell? ⟨XB, 0, none⟩ = some (.bool (decide (x < 0))) ∧ w'.cell? ⟨XB, 1, none⟩ = some (.string (bstr x.natAbs)) ∧ w'.cell? ⟨R, 0, none⟩ = some (.slice (some ⟨gx, ox, none⟩) n ca) ∧ w'.cell? ⟨gx, ox + k, none⟩ = some (.int .u32 q) ∧ Gr W0 w') w → G 11 #[true, true, true, true, true, true, true, true, true, false, false, false, false, false, false, false, false, false, false, false] { tmps := List.toArray (.pointer (some ⟨R, 0, none⟩) :: v1 :: v2 :: v3 :: v4 :: v5 :: v6 :: v7 :: v8 :: .int .i64 k :: .pointer (some ⟨XB, 0, none⟩) :: v11 :: s12 :: s13 :: s14 :: v15 :: v16 :: v17 :: v18 :: v19 :: v20 :: v21 :: v22 :: v23 :: v24 :: v25 :: v26 :: v27 :: v28 :: v29 :: v30 :: v31 :: v32 :: v33 :: v34 :: v35 :: s36 :: wv x :: .pointer (some ⟨R, 0, none⟩) :: .pointer (some ⟨R, 0, none⟩) :: .pointer (some ⟨R, 0, none⟩) :: .slice (some ⟨gx, ox, none⟩) n ca :: .int .i64 k :: .pointer (some ⟨gx, ox + k, none⟩) :: .int .u32 q :: .int .i64 q :: s46 :: s47 :: s48 :: s49 :: s50 :: v51 :: v52 :: v53 :: v54 :: v55 :: v56 :: v57 :: v58 :: v59 :: v60 :: v61 :: v62 :: v63 :: v64 :: v65 :: ([] : List Value)), defers := [] } w := by
    intro w hS
    refine inn _ _ _ _ ?_
    refine wpAnyH_ready (rs := [9, 15, 16]) (by kernel_rfl) (by simp) ?_
    refine AllReadyH.cons (o := { dst := some 46, op := Op.call { callee := Callee.value (Operand.func 36), args := #[Operand.tmp 45], argTypes := #[2] }, type := 24, pos := "ref.go:98", after := #[{ on := 8, ground := Ground.data }], guard := none }) rfl (fun K hK => ?_) ?_
    · go_simp
      go_at_call 36
      refine (HC1 _ hS.2.2.2.2).mono ?_
      rintro e w' ⟨rfl, g⟩
      go_wp2_with fail
      have g2 := hS.2.2.2.2.trans g
      refine hK.out _ _ ⟨(g2).keeps x0, (g2).keeps x1, (g2).keeps x2, (g2).keeps x3, g2⟩ (fun hHeld => ?_)
      (simp only [Act.put, List.setIfInBounds_toArray, List.set_cons_zero, List.set_cons_succ])
      exact out _ _ _ _ (st00_1 _ hHeld)
    refine AllReadyH.cons (o := { dst := some 12, op := Op.alloc 24, type := 0, pos := "ref.go:98", after := #[], guard := none }) rfl (fun K hK => ?_) ?_
    · go_simp
      have g2 := hS.2.2.2.2.alloc (.cells #[.bool false, .string ⟨#[]⟩] 24)
      refine hK.out _ _ ⟨(g2).keeps x0, (g2).keeps x1, (g2).keeps x2, (g2).keeps x3, g2⟩ (fun hHeld => ?_)
      (simp only [Act.put, List.setIfInBounds_toArray, List.set_cons_zero, List.set_cons_succ])
      exact out _ _ _ _ (st10_0 _ _ hHeld (FreshW.new hS.2.2.2.2 _))
    refine AllReadyH.cons (o := { dst := some 13, op := Op.alloc 24, type := 0, pos := "ref.go:98", after := #[], guard := none }) rfl (fun K hK => ?_) ?_
    · go_simp
      have g2 := hS.2.2.2.2.alloc (.cells #[.bool false, .string ⟨#[]⟩] 24)
      refine hK.out _ _ ⟨(g2).keeps x0, (g2).keeps x1, (g2).keeps x2, (g2).keeps x3, g2⟩ (fun hHeld => ?_)
      (simp only [Act.put, List.setIfInBounds_toArray, List.set_cons_zero, List.set_cons_succ])
      exact out _ _ _ _ (st01_0 _ _ hHeld (FreshW.new hS.2.2.2.2 _))
    exact AllReadyH.nil
  show wpAnyH _ _ _ _ _ 20 #[false, false, false, false, false, false, false, false, false, false, false, false, false, false, false, false, false, false, false, false] _ _
  refine wpAnyH_take (i := 0) (oi := { dst := some 37, op := Op.load 24 (Operand.tmp 10), type := 24, pos := "ref.go:98", after := #[], guard := none }) (v := ?_) rfl (by kernel_rfl) (by kernel_rfl) (by kernel_rfl) (hQ _ _) (_root_.Or.inl ⟨by rfl, ?_⟩) (by assumption) ?_
  rotate_left
  · intro w0 hSw; (try dsimp only at hSw); have y0 := hSw.1; have y1 := hSw.2.1; have y2 := hSw.2.2.1; have y3 := hSw.2.2.2.1; go_simp; try with_reducible rfl
  (simp only [Act.put, List.setIfInBounds_toArray, List.set_cons_zero, List.set_cons_succ])
  refine wpAnyH_take (i := 1) (oi := { dst := some 38, op := Op.move (Operand.tmp 0), type := 29, pos := "ref.go:98", after := #[], guard := none }) (v := ?_) rfl (by kernel_rfl) (by kernel_rfl) (by kernel_rfl) (hQ _ _) (_root_.Or.inl ⟨by rfl, ?_⟩) (by assumption) ?_
  rotate_left
  · intro w0 hSw; (try dsimp only at hSw); have y0 := hSw.1; have y1 := hSw.2.1; have y2 := hSw.2.2.1; have y3 := hSw.2.2.2.1; go_simp; try with_reducible rfl
  (simp only [Act.put, List.setIfInBounds_toArray, List.set_cons_zero, List.set_cons_succ])
  refine wpAnyH_take (i := 2) (oi := { dst := some 39, op := Op.nilCheck (Operand.tmp 38), type := 0, pos := "ref.go:98", after := #[{ on := 1, ground := Ground.data }], guard := none }) (v := ?_) rfl (by kernel_rfl) (by kernel_rfl) (by kernel_rfl) (hQ _ _) (_root_.Or.inl ⟨by rfl, ?_⟩) (by assumption) ?_
  rotate_left
  · intro w0 hSw; (try dsimp only at hSw); have y0 := hSw.1; have y1 := hSw.2.1; have y2 := hSw.2.2.1; have y3 := hSw.2.2.2.1; go_simp; try with_reducible rfl
  (simp only [Act.put, List.setIfInBounds_toArray, List.set_cons_zero, List.set_cons_succ])
  refine wpAnyH_take (i := 3) (oi := { dst := some 40, op := Op.fieldAddr 62 (Operand.tmp 39) 0, type := 0, pos := "ref.go:98", after := #[{ on := 2, ground := Ground.data }], guard := none }) (v := ?_) rfl (by kernel_rfl) (by kernel_rfl) (by kernel_rfl) (hQ _ _) (_root_.Or.inl ⟨by rfl, ?_⟩) (by assumption) ?_
  rotate_left
  · intro w0 hSw; (try dsimp only at hSw); have y0 := hSw.1; have y1 := hSw.2.1; have y2 := hSw.2.2.1; have y3 := hSw.2.2.2.1; go_simp; try with_reducible rfl
  (simp only [Act.put, List.setIfInBounds_toArray, List.set_cons_zero, List.set_cons_succ])
  refine wpAnyH_take (i := 4) (oi := { dst := some 41, op := Op.load 22 (Operand.tmp 40), type := 22, pos := "ref.go:98", after := #[{ on := 3, ground := Ground.data }], guard := none }) (v := ?_) rfl (by kernel_rfl) (by kernel_rfl) (by kernel_rfl) (hQ _ _) (_root_.Or.inl ⟨by rfl, ?_⟩) (by assumption) ?_
  rotate_left
  · intro w0 hSw; (try dsimp only at hSw); have y0 := hSw.1; have y1 := hSw.2.1; have y2 := hSw.2.2.1; have y3 := hSw.2.2.2.1; go_simp; try with_reducible rfl
  (simp only [Act.put, List.setIfInBounds_toArray, List.set_cons_zero, List.set_cons_succ])
  refine wpAnyH_take (i := 5) (oi := { dst := some 42, op := Op.move (Operand.tmp 9), type := 3, pos := "ref.go:98", after := #[], guard := none }) (v := ?_) rfl (by kernel_rfl) (by kernel_rfl) (by kernel_rfl) (hQ _ _) (_root_.Or.inl ⟨by rfl, ?_⟩) (by assumption) ?_
  rotate_left
  · intro w0 hSw; (try dsimp only at hSw); have y0 := hSw.1; have y1 := hSw.2.1; have y2 := hSw.2.2.1; have y3 := hSw.2.2.2.1; go_simp; try with_reducible rfl
  (simp only [Act.put, List.setIfInBounds_toArray, List.set_cons_zero, List.set_cons_succ])
  refine wpAnyH_take (i := 6) (oi := { dst := some 43, op := Op.indexAddr 22 (Operand.tmp 41) (Operand.tmp 42), type := 0, pos := "ref.go:98", after := #[{ on := 4, ground := Ground.data }, { on := 5, ground := Ground.data }], guard := none }) (v := ?_) rfl (by kernel_rfl) (by kernel_rfl) (by kernel_rfl) (hQ _ _) (_root_.Or.inl ⟨by rfl, ?_⟩) (by assumption) ?_
  rotate_left
  · intro w0 hSw; (try dsimp only at hSw); have y0 := hSw.1; have y1 := hSw.2.1; have y2 := hSw.2.2.1; have y3 := hSw.2.2.2.1; go_simp; try with_reducible rfl
  (simp only [Act.put, List.setIfInBounds_toArray, List.set_cons_zero, List.set_cons_succ])
  refine wpAnyH_take (i := 7) (oi := { dst := some 44, op := Op.load 42 (Operand.tmp 43), type := 42, pos := "ref.go:98", after := #[{ on := 6, ground := Ground.data }], guard := none }) (v := ?_) rfl (by kernel_rfl) (by kernel_rfl) (by kernel_rfl) (hQ _ _) (_root_.Or.inl ⟨by rfl, ?_⟩) (by assumption) ?_
  rotate_left
  · intro w0 hSw; (try dsimp only at hSw); have y0 := hSw.1; have y1 := hSw.2.1; have y2 := hSw.2.2.1; have y3 := hSw.2.2.2.1; go_simp; try with_reducible rfl
  (simp only [Act.put, List.setIfInBounds_toArray, List.set_cons_zero, List.set_cons_succ])
  refine wpAnyH_take (i := 8) (oi := { dst := some 45, op := Op.convert 42 2 (Operand.tmp 44), type := 2, pos := "ref.go:98", after := #[{ on := 7, ground := Ground.data }], guard := none }) (v := .int .i64 q) rfl (by kernel_rfl) (by kernel_rfl) (by kernel_rfl) (hQ _ _) (_root_.Or.inl ⟨by rfl, ?_⟩) (by assumption) ?_
  · intro w0 hSw; (try dsimp only at hSw); have y0 := hSw.1; have y1 := hSw.2.1; have y2 := hSw.2.2.1; have y3 := hSw.2.2.2.1; go_simp <;> first | with_reducible rfl | simp only [hw0]
  (simp only [Act.put, List.setIfInBounds_toArray, List.set_cons_zero, List.set_cons_succ])
  exact out _ _ _ _ (st00_0 _ hHeld)
end Go.Proofs.YtfpdemmdkiohhaaGreat.Mo
/- The reference of package residue: divided, Drop, Scale, Convert. -/
namespace Go.Proofs.YtfpdemmdkiohhaaGreat.Mo
open Go.RowKit
set_option linter.unusedVariables false

/-- The row that the reference gives is the program's. -/
theorem ref_row {l r row : List Int} {t d X : Int} (hs : Sys l) (hr : RowOf l r) (hX : JoinV l r X) (ht : 1 ≤ t) (hd : DivR l r t d row) : resL (l.take (l.length - 1)) ((X - d) / Op.cf l (l.length - 1)) = row := by
  obtain ⟨Y, h1, h2, -⟩ := divR_math hs hs.2.2.2.1 hr hX ht hd
  have hq := hs.at_ (i := l.length - 1) (by have := hs.2.2.2.1; omega)
  rw [h1, Int.mul_ediv_cancel _ (by omega), h2]
theorem inR_quot {y q : Int} (h : InR y) (hq : 1 ≤ q) : InR (y / q) := by
  have h1 : (y / q).natAbs ≤ y.natAbs := by
    have h2 := Int.emod_add_mul_ediv y q
    have h3 := emod_lo y q hq
    have h4 := emod_hi y q hq
    rcases Int.lt_or_le y 0 with hy | hy
    · have h5 : y / q < 0 := Int.ediv_neg_of_neg_of_pos hy (by omega)
      have h6 : y ≤ y / q := by
        rw [Int.le_ediv_iff_mul_le (by omega)]
        have : y * q ≤ y * 1 := Int.mul_le_mul_of_nonpos_left (by omega) hq
        omega
      omega
    · have h5 := Int.ediv_nonneg hy (show 0 ≤ q by omega)
      have h6 := Int.ediv_le_self q hy
      omega
  unfold InR at *
  omega

def RowPost (l r : List Int) (m : Nat) (d q : Int) (w : World) (e : Ending) (w' : World) : Prop := ∃ a n c X, e = .returned (.slice a n c) ∧ HasP w' (.slice a n c) (resL (l.take m) ((X - d) / q)) ∧ JoinV l r X ∧ Gr w w'
set_option maxRecDepth 100000 in
set_option maxHeartbeats 8000000 in
theorem rdivided_any (R : Nat) (l r : List Int) (vr : Value) (d : Int) (w : World) (h : RefPr w R l) (hs : Sys l) (hu : HasP w vr r) (hr : RowOf l r) (h2 : 2 ≤ l.length) (hd : InR d) (hXd : ∀ X, JoinV l r X → InR (X - d)) :
    Calls Tryz.prog 47 #[.pointer (some ⟨R, 0, none⟩), vr, wv d] w (RowPost l r (l.length - 1) d (Op.cf l (l.length - 1)) w) := by
  obtain ⟨n, hn⟩ : ∃ n, n = l.length := ⟨_, rfl⟩
  obtain ⟨m, hm⟩ : ∃ m, m = n - 1 := ⟨_, rfl⟩
  obtain ⟨q, hq⟩ : ∃ q, q = Op.cf l m := ⟨_, rfl⟩
  rw [← hn, ← hm, ← hq]
  rw [← hn] at h2
  have g := Gr.new w (.cells #[.bool (decide (d < 0)), .string (bstr d.natAbs)] 24)
  have H := Lib.hid (h.later g)
  have HU := Lib.hid (hu.later g)
  have HG := Lib.hid g
  have HS := Lib.hid hs
  have HROW := Lib.hid hr
  have HD := Lib.hid hd
  have HXD := Lib.hid hXd
  obtain ⟨-, xb, cb, rfl, -, -, -⟩ := hu
  have d0 : (w.alloc (.cells #[.bool (decide (d < 0)), .string (bstr d.natAbs)] 24)).cell? ⟨w.heap.size, 0, none⟩ = some (.bool (decide (d < 0))) := by simp [go_sem]
  have d1 : (w.alloc (.cells #[.bool (decide (d < 0)), .string (bstr d.natAbs)] 24)).cell? ⟨w.heap.size, 1, none⟩ = some (.string (bstr d.natAbs)) := by simp [go_sem]
  clear h hs g hr hd hXd
  unfold wv
  go_enter Tryz.func47, Tryz.ntmps47
  go_wp2_with fail
  generalize w.alloc (.cells #[.bool (decide (d < 0)), .string (bstr d.natAbs)] 24) = w0 at *
  generalize w.heap.size = DB at *
  refine (rjoin_any R l r _ _ H.out HS.out HU.out).mono ?_
  rintro e w1 ⟨X', c, rfl, hj, g⟩
  rcases hj with ⟨hnr, -, -⟩ | ⟨-, rfl, hj⟩
  · exact absurd HROW.out hnr
  have HX := Lib.hid hj
  have HXD := Lib.hid (HXD.out X' hj)
  have d0 := g.keeps d0
  have d1 := g.keeps d1
  have HG := Lib.hid (HG.out.trans g)
  have H := Lib.hid (H.out.later g)
  clear g hj
  have g := Gr.new w1 (.cells #[.bool (decide (X' < 0)), .string (bstr X'.natAbs)] 24)
  have x0 : (w1.alloc (.cells #[.bool (decide (X' < 0)), .string (bstr X'.natAbs)] 24)).cell? ⟨w1.heap.size, 0, none⟩ = some (.bool (decide (X' < 0))) := by simp [go_sem]
  have x1 : (w1.alloc (.cells #[.bool (decide (X' < 0)), .string (bstr X'.natAbs)] 24)).cell? ⟨w1.heap.size, 1, none⟩ = some (.string (bstr X'.natAbs)) := by simp [go_sem]
  have d0 := g.keeps d0
  have d1 := g.keeps d1
  have HG := Lib.hid (HG.out.trans g)
  have H := Lib.hid (H.out.later g)
  clear g
  obtain ⟨v, h0, hv⟩ := H.out
  have HV := Lib.hid hv
  obtain ⟨-, xa, ca, rfl, -, -, -⟩ := hv
  rw [← hn] at HV h0
  obtain ⟨gx, ox, rfl, cx⟩ : ∃ gx ox, xa = some ⟨gx, ox, none⟩ ∧ (w1.alloc (.cells #[.bool (decide (X' < 0)), .string (bstr X'.natAbs)] 24)).cell? ⟨gx, ox + m, none⟩ = some (.int .u32 (Op.cf l m)) := by
    obtain ⟨_, a, c', e, _, _, h3⟩ := HV.out
    cases e
    obtain ⟨gx, ox, e, hc⟩ := h3 m (by omega)
    exact ⟨gx, ox, e, hc⟩
  have hq3 := HS.out.at_ (i := m) (by omega)
  rw [← hq] at cx hq3
  have i0 : (0 : Int) ≤ (m : Int) := by omega
  have i1 : (m : Int) < (n : Int) := by omega
  have i2 : (n : Int) - 1 = (m : Int) := by omega
  have i3 : (m : Int) ≤ (ca : Int) := by have := HV.out.len; omega
  have hn25 : n ≤ 25 := by rw [hn]; exact HS.out.2.2.2.2
  have hm25 : m ≤ 25 := by omega
  have HN := Lib.hid hn
  have HM := Lib.hid hm
  have HQ := Lib.hid (show okP q from ⟨by omega, by omega⟩)
  have HW0 := Lib.hid (show IntKind.i64.wrap q = q from IntWalk.i64_in _ (by omega))
  clear hn hm hq hq3
  unfold wv
  go_wp2_with fail
  generalize w1.alloc (.cells #[.bool (decide (X' < 0)), .string (bstr X'.natAbs)] 24) = w2 at *
  generalize w1.heap.size = XB at *
  refine (rwsub_any X' d _ (inR_join HS.out HX.out) HD.out HXD.out).mono ?_
  rintro e w3 ⟨rfl, g⟩
  have cx := g.keeps cx
  have h0 := g.keeps h0
  have HG := Lib.hid (HG.out.trans g)
  have HV := Lib.hid (HV.out.later g)
  clear g
  obtain ⟨y, hy⟩ : ∃ y, y = X' - d := ⟨_, rfl⟩
  rw [← hy] at HXD ⊢
  have HYY := Lib.hid hy
  clear hy
  have g := Gr.new w3 (.cells #[.bool (decide (y < 0)), .string (bstr y.natAbs)] 24)
  have y0 : (w3.alloc (.cells #[.bool (decide (y < 0)), .string (bstr y.natAbs)] 24)).cell? ⟨w3.heap.size, 0, none⟩ = some (.bool (decide (y < 0))) := by simp [go_sem]
  have y1 : (w3.alloc (.cells #[.bool (decide (y < 0)), .string (bstr y.natAbs)] 24)).cell? ⟨w3.heap.size, 1, none⟩ = some (.string (bstr y.natAbs)) := by simp [go_sem]
  have cx := g.keeps cx
  have h0 := g.keeps h0
  have HG := Lib.hid (HG.out.trans g)
  have HV := Lib.hid (HV.out.later g)
  clear g
  unfold wv
  go_wp2_with fail
  generalize w3.alloc (.cells #[.bool (decide (y < 0)), .string (bstr y.natAbs)] 24) = w4 at *
  generalize w3.heap.size = YB at *
  refine wp_region_noPanic ?_
  refine rd_quot y q R gx ox n ca m YB w4 _ y0 y1 h0 cx (Gr.refl _) HW0.out i0 i1 (fun w _ => rwof_any q w ⟨by have := HQ.out.1; omega, by have := HQ.out.2; omega⟩) (fun w => rwdiv_any y q w HXD.out (inR_small ⟨by have := HQ.out.1; omega, by have := HQ.out.2; omega⟩) (by have := HQ.out.1; omega) (inR_quot HXD.out (by have := HQ.out.1; omega)) (inR_small ⟨by have := emod_lo y q (by have := HQ.out.1; omega); omega, by have := emod_hi y q (by have := HQ.out.1; omega); have := HQ.out.2; omega⟩)) _ _ _ _ _ _ _ _ _ _ _ _ _ _ _ _ _ _ _ _ _ _ _ _ _ _ _ _ _ _ _ _ _ _ _ _ _ _ _ _ _ _ _ _ _ _ _ _ _ _ _ _ _ _ _ _ _ _ _ _ _ _ _ _ (fun _ _ _ _ _ h => h) ?_
  intro u1 u2 u3 u4 u5 u6 u7 u8 u9 u10 u11 u12 u13 u14 u15 A0 A1 w5 a0 a1 b0 b1 g
  refine NoPanic.normal ?_
  have h0 := g.keeps h0
  have HG := Lib.hid (HG.out.trans g)
  have HV := Lib.hid (HV.out.later g)
  clear g b0 b1 cx y0 y1
  obtain ⟨z, hz⟩ : ∃ z, z = y / q := ⟨_, rfl⟩
  rw [← hz] at a0 a1
  have HZZ := Lib.hid hz
  have HZR := Lib.hid (show InR z by rw [hz]; exact inR_quot HXD.out (by have := HQ.out.1; omega))
  clear hz
  have g := Gr.new w5 (.cells #[.slice (some ⟨gx, ox, none⟩) m ca, .bool false, .string ⟨#[]⟩] 62)
  have l0 : (w5.alloc (.cells #[.slice (some ⟨gx, ox, none⟩) m ca, .bool false, .string ⟨#[]⟩] 62)).cell? ⟨w5.heap.size, 0, none⟩ = some (.slice (some ⟨gx, ox, none⟩) m ca) := by simp [go_sem]
  have a0 := g.keeps a0
  have a1 := g.keeps a1
  have HL := Lib.hid (show RefPr (w5.alloc (.cells #[.slice (some ⟨gx, ox, none⟩) m ca, .bool false, .string ⟨#[]⟩] 62)) w5.heap.size (l.take m) from ⟨_, l0, (HV.out.later g).take (by have := HN.out; omega)⟩)
  have HG := Lib.hid (HG.out.trans g)
  clear g l0
  go_wp2_with fail
  generalize w5.alloc (.cells #[.slice (some ⟨gx, ox, none⟩) m ca, .bool false, .string ⟨#[]⟩] 62) = w6 at *
  generalize w5.heap.size = LB at *
  have hlen : (l.take m).length ≤ 25 := by rw [List.length_take]; have := HS.out.2.2.2.2; omega
  have HFZ := Lib.hid (form_bstr z HZR.out)
  have hszz : (bstr z.natAbs).size ≤ 9223372036854775807 := by
    rcases HFZ.out with ⟨h0, _⟩ | ⟨_, h2, _⟩ <;> omega
  refine (rsplit_any LB (l.take m) (decide (z < 0)) (bstr z.natAbs) _ HL.out (HS.out.1.take m) hlen hszz).mono ?_
  rintro e w7 ⟨ar, nr, cr, row, E, rfl, hp, hr, g⟩
  rcases hr with ⟨hnf, -, -⟩ | ⟨-, rfl, hrow⟩
  · exact absurd HFZ.out hnf
  rw [zOf_bstr] at hrow
  change row = resL (l.take m) z at hrow
  rw [HZZ.out, HYY.out] at hrow
  subst hrow
  have HP := Lib.hid hp
  have HG := Lib.hid (HG.out.trans g)
  clear g hp
  go_wp2_with fail
  go_ret
  exact ⟨ar, nr, cr, X', rfl, HP.out, HX.out, HG.out⟩

set_option maxRecDepth 100000 in
set_option maxHeartbeats 4000000 in
theorem rconvert_any (R T : Nat) (l l' r : List Int) (vr : Value) (w : World) (h : RefPr w R l) (ht : RefPr w T l') (hs : Sys l) (hs' : Sys l') (hu : HasP w vr r) : Calls Tryz.prog 15 #[.pointer (some ⟨R, 0, none⟩), vr, .pointer (some ⟨T, 0, none⟩)] w (ScalePost (ConvR l l' r) w) := by
  have HS := Lib.hid hs
  have HS' := Lib.hid hs'
  have HT := Lib.hid ht
  have H := Lib.hid h
  have HU := Lib.hid hu
  obtain ⟨-, xb, cb, rfl, -, -, -⟩ := hu
  clear h hs hs' ht
  go_enter Tryz.func15, Tryz.ntmps15
  go_wp2_with fail
  refine (rjoin_any R l r _ _ H.out HS.out HU.out).mono ?_
  rintro e w1 ⟨X, c, rfl, hj, g⟩
  have HG := Lib.hid g
  have HT := Lib.hid (HT.out.later g)
  clear g
  rcases hj with ⟨hnr, rfl, rfl⟩ | ⟨hrow, rfl, hj⟩
  · have HNR := Lib.hid hnr
    clear hnr
    rw [wv_zero]
    go_wp2_with fail
    go_ret2
    exact ⟨none, 0, 0, [], 2, rfl, HasP.nil _, .inl ⟨HNR.out, rfl, rfl⟩, HG.out.trans (Gr.new w1 _)⟩
  · have HROW := Lib.hid hrow
    have HJ := Lib.hid hj
    have g := Gr.new w1 (.cells #[.bool (decide (X < 0)), .string (bstr X.natAbs)] 24)
    have x0 : (w1.alloc (.cells #[.bool (decide (X < 0)), .string (bstr X.natAbs)] 24)).cell? ⟨w1.heap.size, 0, none⟩ = some (.bool (decide (X < 0))) := by simp [go_sem]
    have x1 : (w1.alloc (.cells #[.bool (decide (X < 0)), .string (bstr X.natAbs)] 24)).cell? ⟨w1.heap.size, 1, none⟩ = some (.string (bstr X.natAbs)) := by simp [go_sem]
    have HG := Lib.hid (HG.out.trans g)
    have HT := Lib.hid (HT.out.later g)
    have HFX := Lib.hid (form_bstr X (inR_join HS.out hj))
    have hszz : (bstr X.natAbs).size ≤ 9223372036854775807 := by
      rcases HFX.out with ⟨h0, _⟩ | ⟨_, h2, _⟩ <;> omega
    clear g hrow hj
    unfold wv
    go_wp2_with fail
    generalize w1.alloc (.cells #[.bool (decide (X < 0)), .string (bstr X.natAbs)] 24) = w2 at *
    generalize w1.heap.size = XB at *
    refine (rsplit_any T l' (decide (X < 0)) (bstr X.natAbs) _ HT.out HS'.out.1 HS'.out.2.2.2.2 hszz).mono ?_
    rintro e w3 ⟨ar, nr, cr, row, E, rfl, hp, hr, g⟩
    rcases hr with ⟨hnf, -, -⟩ | ⟨-, rfl, hrow⟩
    · exact absurd HFX.out hnf
    rw [zOf_bstr] at hrow
    subst hrow
    have HP := Lib.hid hp
    have HG := Lib.hid (HG.out.trans g)
    clear g hp
    go_wp2_with fail
    go_ret2
    exact ⟨ar, nr, cr, _, 0, rfl, HP.out, .inr ⟨HROW.out, rfl, X, HJ.out, rfl⟩, HG.out⟩
end Go.Proofs.YtfpdemmdkiohhaaGreat.Mo
/- The reference of package residue: Drop, Scale. -/
namespace Go.Proofs.YtfpdemmdkiohhaaGreat.Mo
open Go.RowKit
set_option linter.unusedVariables false

theorem quo_of_inv {t q b inv : Int} (hq : 1 ≤ q) (hi : IsInv (t % q) q inv) : Quo b t q (b * inv % q) := by
  refine ⟨emod_lo _ _ hq, emod_hi _ _ hq, ?_⟩
  have d1 : q ∣ b * inv % q - b * inv := dvd_self_sub_mod _ q
  have d2 : q ∣ t - t % q := dvd_sub_mod t q
  have d3 : q ∣ (t % q) * inv - 1 := by
    have := dvd_sub_mod (t % q * inv) q
    rwa [hi.2.2] at this
  generalize b * inv % q = e at *
  generalize t % q = s at *
  have e1 : t * (e - b * inv) = t * e - t * (b * inv) := Int.mul_sub _ _ _
  have e2 : (t - s) * (b * inv) = t * (b * inv) - s * (b * inv) := Int.sub_mul _ _ _
  have e3 : b * (s * inv - 1) = s * (b * inv) - b := by rw [Int.mul_sub, Int.mul_one, Int.mul_left_comm]
  have eq : t * e - b = t * (e - b * inv) + (t - s) * (b * inv) + b * (s * inv - 1) := by rw [e1, e2, e3]; omega
  rw [eq]
  exact Int.dvd_add (Int.dvd_add (Int.dvd_mul_of_dvd_right d1) (Int.dvd_mul_of_dvd_left d2)) (Int.dvd_mul_of_dvd_right d3)

set_option maxRecDepth 100000 in
set_option maxHeartbeats 8000000 in
theorem rdrop_any (R : Nat) (l r : List Int) (vr : Value) (w : World) (h : RefPr w R l) (hs : Sys l) (hu : HasP w vr r) : Calls Tryz.prog 17 #[.pointer (some ⟨R, 0, none⟩), vr] w (DropPost (DropR l r) w) := by
  have H := Lib.hid h
  have HS := Lib.hid hs
  obtain ⟨-, xb, cb, rfl, -, -, -⟩ := id hu
  obtain ⟨n, hn⟩ : ∃ n, n = r.length := ⟨_, rfl⟩
  rw [← hn] at hu ⊢
  have HU := Lib.hid hu
  have HRN := Lib.hid hn
  clear h hs hu hn
  go_enter Tryz.func17, Tryz.ntmps17
  go_wp2_with fail
  refine (rrow_any R l r _ _ H.out HU.out HS.out.2.2.2.2).mono ?_
  rintro e w1 ⟨b, rfl, hb, g⟩
  have HB := Lib.hid hb
  have HG := Lib.hid g
  have H := Lib.hid (H.out.later g)
  have HU := Lib.hid (HU.out.later g)
  clear g hb
  cases b with
  | false =>
    have HNR := Lib.hid (show ¬ RowOf l r from fun h => by have := HB.out.2 h; simp at this)
    go_wp2_with fail
    go_ret3
    exact ⟨none, 0, 0, [], 0, 2, rfl, HasP.nil _, .inl ⟨HNR.out, rfl, rfl, rfl⟩, HG.out⟩
  | true =>
  have HROW := Lib.hid (HB.out.1 (by simp))
  have hln : l.length = n := by rw [HRN.out]; exact HROW.out.1.symm
  have hn25 : n ≤ 25 := by rw [← hln]; exact HS.out.2.2.2.2
  have hn1 : 1 ≤ n := by rw [← hln]; exact HS.out.2.2.2.1
  obtain ⟨m, hm⟩ : ∃ m, m = n - 1 := ⟨_, rfl⟩
  have i2 : (n : Int) - 1 = (m : Int) := by omega
  have HLN := Lib.hid hln
  have HM := Lib.hid hm
  clear hln hm
  by_cases h2 : n < 2
  · have hm0 : m = 0 := by have := HM.out; omega
    obtain rfl : n = 1 := by omega
    subst hm0
    clear i2 h2
    go_wp2_with fail
    go_ret3
    exact ⟨none, 0, 0, [], 0, 9, rfl, HasP.nil _, .inr (.inl ⟨HROW.out, HLN.out, rfl, rfl, rfl⟩), HG.out⟩
  have hm25 : m ≤ 25 := by have := HM.out; omega
  have hmb : ((m : Int) == 0) = false := by have := HM.out; simp; omega
  have hmb2 : ¬ (m : Int) = 0 := by have := HM.out; omega
  have i0 : (0 : Int) ≤ (m : Int) := by omega
  have i1 : (m : Int) < (n : Int) := by omega
  obtain ⟨v, h0, hv⟩ := H.out
  have HV := Lib.hid hv
  obtain ⟨-, xa, ca, rfl, -, -, -⟩ := hv
  rw [HLN.out] at HV h0
  obtain ⟨gx, ox, rfl, hcx⟩ : ∃ gx ox, xa = some ⟨gx, ox, none⟩ ∧ w1.cell? ⟨gx, ox + m, none⟩ = some (.int .u32 (Op.cf l m)) := by
    obtain ⟨_, a, c', e, _, _, h3⟩ := HV.out
    cases e
    obtain ⟨gx, ox, e, hc⟩ := h3 m (by have := HLN.out; omega)
    exact ⟨gx, ox, e, hc⟩
  obtain ⟨gy, oy, rfl, hcy⟩ : ∃ gy oy, xb = some ⟨gy, oy, none⟩ ∧ w1.cell? ⟨gy, oy + m, none⟩ = some (.int .u32 (Op.cf r m)) := by
    obtain ⟨_, a, c', e, _, _, h3⟩ := HU.out
    cases e
    obtain ⟨gx, ox, e, hc⟩ := h3 m (by have := HRN.out; omega)
    exact ⟨gx, ox, e, hc⟩
  have hq3 := HS.out.at_ (i := m) (by have := HLN.out; omega)
  have hrk := HROW.out.2 m (by have := HLN.out; omega)
  obtain ⟨q, hq⟩ : ∃ q, q = Op.cf l m := ⟨_, rfl⟩
  obtain ⟨b, hb⟩ : ∃ b, b = Op.cf r m := ⟨_, rfl⟩
  rw [← hq] at hcx hq3 hrk
  rw [← hb] at hcy hrk
  have HQ := Lib.hid hq
  have HBB := Lib.hid hb
  have HRK := Lib.hid hrk
  have HQ3 := Lib.hid hq3
  clear hq hb hq3 hrk h2
  go_upto_region 6 with (fail)
  have gd : Gr w1 w1.drew := (Gr.refl w1).drew
  have h0 := gd.keeps h0
  have hcx := gd.keeps hcx
  have hcy := gd.keeps hcy
  have HG := Lib.hid (HG.out.trans gd)
  have H := Lib.hid (H.out.later gd)
  have HU := Lib.hid (HU.out.later gd)
  clear gd
  go_region_held3 (fun w' => w'.cell? ⟨R, 0, none⟩ = some (.slice (some ⟨gx, ox, none⟩) n ca) ∧ w'.cell? ⟨gx, ox + m, none⟩ = some (.int .u32 q) ∧ w'.cell? ⟨gy, oy + m, none⟩ = some (.int .u32 b)) (first | exact ⟨h0, hcx, hcy⟩ | go_keep)
    (first
      | (go_at_call 46; (with_reducible refine (rbalanced_ok b q _ (by have := HQ3.out; omega) HQ3.out.2.1 HRK.out.1 HRK.out.2).mono ?_); rintro e w' ⟨rfl, g⟩; have h0 := g.keeps h0; have hcx := g.keeps hcx; have hcy := g.keeps hcy; have HG := Lib.hid (HG.out.trans g); have H := Lib.hid (H.out.later g); have HU := Lib.hid (HU.out.later g); clear g))
  all_goals
    have hbal := bal_odd HQ3.out.2.2 HRK.out
    obtain ⟨d, hd⟩ : ∃ d, d = bal b q := ⟨_, rfl⟩
    rw [← hd] at hbal ⊢
    have HDB := Lib.hid (And.intro hbal HQ3.out.2.1)
    have HDD := Lib.hid hd
    have HDW := Lib.hid (show isW d from ⟨by have := HQ3.out; omega, by have := HQ3.out; omega⟩)
    clear hbal hd h0 hcx hcy
    go_wp2_with fail
    refine (rwof_any d _ HDW.out).mono ?_
    rintro e w3 ⟨rfl, g⟩
    have HG := Lib.hid (HG.out.trans g)
    have H := Lib.hid (H.out.later g)
    have HU := Lib.hid (HU.out.later g)
    clear g
    go_wp2_with fail
    refine (rdivided_any R l r _ d _ H.out HS.out HU.out HROW.out (by have := HLN.out; have := HM.out; omega) (inR_small HDW.out) (fun X hX => inR_near HS.out hX (by have := HDB.out; omega))).mono ?_
    rintro e w4 ⟨a, k, c, X, rfl, hp, hx, g⟩
    have HP := Lib.hid hp
    have HX := Lib.hid hx
    have HG := Lib.hid (HG.out.trans g)
    clear g hp hx
    go_wp2_with fail
    go_ret3
    have hml : l.length - 1 = m := by have := HLN.out; have := HM.out; omega
    have hdiv : DivR l r 1 d (rowL (l.length - 1) (fun i => qf (Op.cf r i - d) (Op.cf l (l.length - 1)) (Op.cf l i))) := by
      refine ⟨b, ?_, ?_, rfl⟩
      · rw [hml, ← HQ.out, ← HBB.out]
        exact ⟨HRK.out.1, HRK.out.2, by rw [Int.one_mul, Int.sub_self]; exact Int.dvd_zero q⟩
      · rw [hml, ← HQ.out, Int.one_mul]; exact HDD.out
    have hrr := ref_row HS.out HROW.out HX.out (by omega) hdiv
    have hp := HP.out
    rw [hrr] at hp
    exact ⟨a, k, c, _, d, 0, rfl, hp, .inr (.inr ⟨HROW.out, by have := HLN.out; have := HM.out; omega, rfl, hdiv⟩), HG.out⟩
end Go.Proofs.YtfpdemmdkiohhaaGreat.Mo
/- The reference of package residue: Scale. -/
namespace Go.Proofs.YtfpdemmdkiohhaaGreat.Mo
open Go.RowKit
set_option linter.unusedVariables false

set_option maxRecDepth 100000 in
set_option maxHeartbeats 8000000 in
theorem rscale_any (R : Nat) (l r : List Int) (t : Int) (vr : Value) (w : World) (h : RefPr w R l) (hs : Sys l) (hpl : PrimeL l) (hu : HasP w vr r) (ht : 0 ≤ t ∧ t ≤ 4294967295) : Calls Tryz.prog 19 #[.pointer (some ⟨R, 0, none⟩), vr, .int .u32 t] w (ScalePost (ScaleR l r t) w) := by
  have H := Lib.hid h
  have HS := Lib.hid hs
  have HPL := Lib.hid hpl
  obtain ⟨-, xb, cb, rfl, -, -, -⟩ := id hu
  obtain ⟨n, hn⟩ : ∃ n, n = r.length := ⟨_, rfl⟩
  rw [← hn] at hu ⊢
  have HU := Lib.hid hu
  have HRN := Lib.hid hn
  obtain ⟨ht0, ht1⟩ := ht
  clear h hs hu hn hpl
  go_enter Tryz.func19, Tryz.ntmps19
  go_wp2_with fail
  refine (rrow_any R l r _ _ H.out HU.out HS.out.2.2.2.2).mono ?_
  rintro e w1 ⟨b, rfl, hb, g⟩
  have HB := Lib.hid hb
  have HG := Lib.hid g
  have H := Lib.hid (H.out.later g)
  have HU := Lib.hid (HU.out.later g)
  clear g hb
  cases b with
  | false =>
    have HNR := Lib.hid (show ¬ RowOf l r from fun h => by have := HB.out.2 h; simp at this)
    go_wp2_with fail
    go_ret2
    exact ⟨none, 0, 0, [], 2, rfl, HasP.nil _, .inl ⟨HNR.out, rfl, rfl⟩, HG.out⟩
  | true =>
  have HROW := Lib.hid (HB.out.1 (by simp))
  have hln : l.length = n := by rw [HRN.out]; exact HROW.out.1.symm
  have hn25 : n ≤ 25 := by rw [← hln]; exact HS.out.2.2.2.2
  have hn1 : 1 ≤ n := by rw [← hln]; exact HS.out.2.2.2.1
  obtain ⟨m, hm⟩ : ∃ m, m = n - 1 := ⟨_, rfl⟩
  have i2 : (n : Int) - 1 = (m : Int) := by omega
  have HLN := Lib.hid hln
  have HM := Lib.hid hm
  have HML := Lib.hid (show l.length - 1 = m by omega)
  clear hln hm
  have hm25 : m ≤ 25 := by have := HM.out; omega
  have i0 : (0 : Int) ≤ (m : Int) := by omega
  have i1 : (m : Int) < (n : Int) := by have := HM.out; omega
  obtain ⟨v, h0, hv⟩ := H.out
  have HV := Lib.hid hv
  obtain ⟨-, xa, ca, rfl, -, -, -⟩ := hv
  rw [HLN.out] at HV h0
  obtain ⟨gx, ox, rfl, hcx⟩ : ∃ gx ox, xa = some ⟨gx, ox, none⟩ ∧ w1.cell? ⟨gx, ox + m, none⟩ = some (.int .u32 (Op.cf l m)) := by
    obtain ⟨_, a, c', e, _, _, h3⟩ := HV.out
    cases e
    obtain ⟨gx, ox, e, hc⟩ := h3 m (by have := HLN.out; omega)
    exact ⟨gx, ox, e, hc⟩
  obtain ⟨gy, oy, rfl, hcy⟩ : ∃ gy oy, xb = some ⟨gy, oy, none⟩ ∧ w1.cell? ⟨gy, oy + m, none⟩ = some (.int .u32 (Op.cf r m)) := by
    obtain ⟨_, a, c', e, _, _, h3⟩ := HU.out
    cases e
    obtain ⟨gx, ox, e, hc⟩ := h3 m (by have := HRN.out; omega)
    exact ⟨gx, ox, e, hc⟩
  have hq3 := HS.out.at_ (i := m) (by have := HLN.out; omega)
  have hrk := HROW.out.2 m (by have := HLN.out; omega)
  have HMEM := Lib.hid (show Op.cf l m ∈ l from Op.cf_mem (by have := HLN.out; omega))
  obtain ⟨q, hq⟩ : ∃ q, q = Op.cf l m := ⟨_, rfl⟩
  obtain ⟨b, hb⟩ : ∃ b, b = Op.cf r m := ⟨_, rfl⟩
  rw [← hq] at hcx hq3 hrk HMEM
  rw [← hb] at hcy hrk
  have HQ := Lib.hid hq
  have HBB := Lib.hid hb
  have HRK := Lib.hid hrk
  have HQ3 := Lib.hid hq3
  have hq0 : ¬ q = 0 := by omega
  have hq0b : (q == 0) = false := by simp; omega
  have hr0 := emod_lo t q (by omega)
  have hr1 := emod_hi t q (by omega)
  have hqb : 3 ≤ q ∧ q ≤ 2147483647 := ⟨hq3.1, hq3.2.1⟩
  have HSR := Lib.hid (show ∀ row c, ScaleR l r t row c ↔ ((¬ RowOf l r ∧ c = 2 ∧ row = []) ∨ (RowOf l r ∧ (t < 1 ∨ t > 2147483647 ∨ t % q = 0) ∧ c = 2 ∧ row = []) ∨ (RowOf l r ∧ ¬ (t < 1 ∨ t > 2147483647 ∨ t % q = 0) ∧ l.length = 1 ∧ c = 9 ∧ row = []) ∨ (RowOf l r ∧ ¬ (t < 1 ∨ t > 2147483647 ∨ t % q = 0) ∧ 2 ≤ l.length ∧ c = 0 ∧ ∃ d, DivR l r t d row)) from fun row c => by rw [hq, ← HML.out]; exact Iff.rfl)
  clear hq hb hq3 hrk
  have hcase : t < 1 ∨ (¬ t < 1 ∧ t > 2147483647) ∨ (¬ t < 1 ∧ ¬ t > 2147483647 ∧ t % q = 0) ∨ (¬ t < 1 ∧ ¬ t > 2147483647 ∧ ¬ t % q = 0) := by omega
  rcases hcase with h3 | ⟨h3, h4⟩ | ⟨h3, h4, h5⟩ | ⟨h3, h4, h5⟩
  · go_wp2_with fail
    go_ret2
    exact ⟨none, 0, 0, [], 2, rfl, HasP.nil _, (HSR.out _ _).2 (.inr (.inl ⟨HROW.out, .inl h3, rfl, rfl⟩)), HG.out⟩
  · go_wp2_with fail
    go_ret2
    exact ⟨none, 0, 0, [], 2, rfl, HasP.nil _, (HSR.out _ _).2 (.inr (.inl ⟨HROW.out, .inr (.inl h4), rfl, rfl⟩)), HG.out⟩
  · have H5 := Lib.hid h5
    have h5b : (t % q == 0) = true := by simpa using h5
    clear h5
    go_wp2_with fail
    go_ret2
    exact ⟨none, 0, 0, [], 2, rfl, HasP.nil _, (HSR.out _ _).2 (.inr (.inl ⟨HROW.out, .inr (.inr H5.out), rfl, rfl⟩)), HG.out⟩
  have H5 := Lib.hid (show ¬ (t < 1 ∨ t > 2147483647 ∨ t % q = 0) by omega)
  have h5b : (t % q == 0) = false := by simpa using h5
  have HGC := Lib.hid (show Int.gcd t q = 1 from HPL.out q HMEM.out t (fun hd => h5 (Int.emod_eq_zero_of_dvd hd)))
  have HT := Lib.hid (show 1 ≤ t ∧ t ≤ 2147483647 by omega)
  clear h5
  by_cases h2 : n < 2
  · have hm0 : m = 0 := by have := HM.out; omega
    obtain rfl : n = 1 := by omega
    subst hm0
    rw [Nat.add_zero] at hcx
    clear i2 h2 i0 i1
    go_wp2_with fail
    go_ret2
    exact ⟨none, 0, 0, [], 9, rfl, HasP.nil _, (HSR.out _ _).2 (.inr (.inr (.inl ⟨HROW.out, H5.out, HLN.out, rfl, rfl⟩))), HG.out⟩
  have hmb : ((m : Int) == 0) = false := by have := HM.out; simp; omega
  have hmb2 : ¬ (m : Int) = 0 := by have := HM.out; omega
  have HL2 := Lib.hid (show 2 ≤ l.length by have := HLN.out; omega)
  have HOK := Lib.hid (show okP q from ⟨by omega, by omega⟩)
  clear h2
  go_wp2_with fail
  refine (rinv_any t q _ HOK.out HGC.out).mono ?_
  rintro e w2 ⟨inv, rfl, hinv, g⟩
  have hcy := g.keeps hcy
  have HG := Lib.hid (HG.out.trans g)
  have H := Lib.hid (H.out.later g)
  have HU := Lib.hid (HU.out.later g)
  have HINV := Lib.hid hinv
  clear g hinv h0 hcx
  go_wp2_with fail
  refine (rmul_ok b inv q _ (by have := HQ3.out; omega) HQ3.out.2.1 HRK.out.1 HINV.out.1 HRK.out.2 HINV.out.2.1).mono ?_
  rintro e w3 ⟨rfl, g⟩
  have HG := Lib.hid (HG.out.trans g)
  have H := Lib.hid (H.out.later g)
  have HU := Lib.hid (HU.out.later g)
  clear g hcy
  have HQUO := Lib.hid (quo_of_inv (b := b) (show 1 ≤ q by omega) HINV.out)
  obtain ⟨e0, he0⟩ : ∃ y, y = b * inv % q := ⟨_, rfl⟩
  rw [← he0] at HQUO ⊢
  clear he0
  go_wp2_with fail
  refine (rbalanced_ok e0 q _ (by have := HQ3.out; omega) HQ3.out.2.1 HQUO.out.1 HQUO.out.2.1).mono ?_
  rintro e w4 ⟨rfl, g⟩
  have HG := Lib.hid (HG.out.trans g)
  have H := Lib.hid (H.out.later g)
  have HU := Lib.hid (HU.out.later g)
  clear g
  have hbal := bal_odd HQ3.out.2.2 ⟨HQUO.out.1, HQUO.out.2.1⟩
  obtain ⟨f0, hf0⟩ : ∃ y, y = bal e0 q := ⟨_, rfl⟩
  rw [← hf0] at hbal ⊢
  have HF0 := Lib.hid hf0
  have HFB := Lib.hid (show -1073741824 ≤ f0 ∧ f0 ≤ 1073741824 by have := HQ3.out.2.1; omega)
  clear hbal hf0
  go_wp2_with fail
  refine (rwof_any f0 _ ⟨by have := HFB.out; omega, by have := HFB.out; omega⟩).mono ?_
  rintro e w5 ⟨rfl, g⟩
  have HG := Lib.hid (HG.out.trans g)
  have H := Lib.hid (H.out.later g)
  have HU := Lib.hid (HU.out.later g)
  clear g
  go_wp2_with fail
  refine (rwof_any t _ ⟨by omega, by omega⟩).mono ?_
  rintro e w6 ⟨rfl, g⟩
  have HG := Lib.hid (HG.out.trans g)
  have H := Lib.hid (H.out.later g)
  have HU := Lib.hid (HU.out.later g)
  clear g
  have hdb : -2305843009213693952 ≤ f0 * t ∧ f0 * t ≤ 2305843009213693952 := by
    have h1 := HFB.out
    have h2 := HT.out
    have a1 : f0 * t ≤ 1073741824 * t := Int.mul_le_mul_of_nonneg_right h1.2 (by omega)
    have a2 : (-1073741824) * t ≤ f0 * t := Int.mul_le_mul_of_nonneg_right h1.1 (by omega)
    omega
  have HDW := Lib.hid (show isW (f0 * t) from ⟨by omega, by omega⟩)
  have HDB := Lib.hid hdb
  clear hdb
  go_wp2_with fail
  refine (rwmul_any f0 t _ (inR_small ⟨by have := HFB.out; omega, by have := HFB.out; omega⟩) (inR_small ⟨by omega, by omega⟩) (inR_small HDW.out)).mono ?_
  rintro e w7 ⟨rfl, g⟩
  have HG := Lib.hid (HG.out.trans g)
  have H := Lib.hid (H.out.later g)
  have HU := Lib.hid (HU.out.later g)
  clear g
  obtain ⟨d, hd⟩ : ∃ d, d = f0 * t := ⟨_, rfl⟩
  rw [← hd] at HDW HDB ⊢
  have HDD := Lib.hid hd
  clear hd
  have g := Gr.new w7 (.cells #[.bool (decide (d < 0)), .string (bstr d.natAbs)] 24)
  have d0 : (w7.alloc (.cells #[.bool (decide (d < 0)), .string (bstr d.natAbs)] 24)).cell? ⟨w7.heap.size, 0, none⟩ = some (.bool (decide (d < 0))) := by simp [go_sem]
  have d1 : (w7.alloc (.cells #[.bool (decide (d < 0)), .string (bstr d.natAbs)] 24)).cell? ⟨w7.heap.size, 1, none⟩ = some (.string (bstr d.natAbs)) := by simp [go_sem]
  have HG := Lib.hid (HG.out.trans g)
  have H := Lib.hid (H.out.later g)
  have HU := Lib.hid (HU.out.later g)
  clear g
  unfold wv
  go_wp2_with fail
  generalize w7.alloc (.cells #[.bool (decide (d < 0)), .string (bstr d.natAbs)] 24) = w8 at *
  generalize w7.heap.size = DB at *
  refine (rdivided_any R l r _ d _ H.out HS.out HU.out HROW.out HL2.out (inR_small HDW.out) (fun X hX => inR_near HS.out hX (by have := HDB.out; omega))).mono ?_
  rintro e w9 ⟨a, k, c, X, rfl, hp, hx, g⟩
  have HP := Lib.hid hp
  have HX := Lib.hid hx
  have HG := Lib.hid (HG.out.trans g)
  clear g hp hx d0 d1
  go_wp2_with fail
  go_ret2
  have hdiv : DivR l r t d (rowL (l.length - 1) (fun i => qf (Op.cf r i - d) (Op.cf l (l.length - 1)) (Op.cf l i))) := by
    refine ⟨e0, ?_, ?_, rfl⟩
    · rw [HML.out, ← HQ.out, ← HBB.out]; exact HQUO.out
    · rw [HML.out, ← HQ.out, ← HF0.out, HDD.out]; exact Int.mul_comm _ _
  have hrr := ref_row HS.out HROW.out HX.out HT.out.1 hdiv
  have hp := HP.out
  rw [hrr] at hp
  exact ⟨a, k, c, _, 0, rfl, hp, (HSR.out _ _).2 (.inr (.inr (.inr ⟨HROW.out, H5.out, HL2.out, rfl, d, hdiv⟩))), HG.out⟩
end Go.Proofs.YtfpdemmdkiohhaaGreat.Mo
/- The laws ResidueDivides, ResidueSplits: what both sides determine. -/
namespace Go.Proofs.YtfpdemmdkiohhaaGreat.Mo
open Go.RowKit
set_option linter.unusedVariables false

theorem RefSys.pr {b : Nat} {W : World} {R : Nat} {l : List Int} (h : RefSys b W R l) : RefPr W R l := by
  obtain ⟨-, v, h1, h2, -⟩ := h
  exact ⟨v, h1, h2⟩
theorem SplitR.det {l row row' : List Int} {neg : Bool} {s : ByteArray} {c c' : Int} (h : SplitR l neg s row c) (k : SplitR l neg s row' c') : row = row' ∧ c = c' := by
  rcases h with ⟨h1, rfl, rfl⟩ | ⟨h1, rfl, rfl⟩ <;> rcases k with ⟨k1, rfl, rfl⟩ | ⟨k1, rfl, rfl⟩
  · exact ⟨rfl, rfl⟩
  · exact absurd k1 h1
  · exact absurd h1 k1
  · exact ⟨rfl, rfl⟩
theorem SplitR.len {l row : List Int} {neg : Bool} {s : ByteArray} {c : Int} (h : SplitR l neg s row c) (hl : l.length ≤ 25) : row.length ≤ 1000000 := by
  rcases h with ⟨h1, rfl, rfl⟩ | ⟨h1, rfl, rfl⟩
  · simp
  · rw [rowL_len]; omega
theorem JoinR.det {l r : List Int} {X X' c c' : Int} (hs : Sys l) (h : JoinR l r X c) (k : JoinR l r X' c') : X = X' ∧ c = c' := by
  rcases h with ⟨h1, rfl, rfl⟩ | ⟨h1, rfl, h2⟩ <;> rcases k with ⟨k1, rfl, rfl⟩ | ⟨k1, rfl, k2⟩
  · exact ⟨rfl, rfl⟩
  · exact absurd k1 h1
  · exact absurd h1 k1
  · exact ⟨h2.unique hs k2, rfl⟩
theorem ConvR.det {l l' r row row' : List Int} {c c' : Int} (hs : Sys l) (h : ConvR l l' r row c) (k : ConvR l l' r row' c') : row = row' ∧ c = c' := by
  rcases h with ⟨h1, rfl, rfl⟩ | ⟨h1, rfl, X, h2, rfl⟩ <;> rcases k with ⟨k1, rfl, rfl⟩ | ⟨k1, rfl, Y, k2, rfl⟩
  · exact ⟨rfl, rfl⟩
  · exact absurd k1 h1
  · exact absurd h1 k1
  · rw [h2.unique hs k2]; exact ⟨rfl, rfl⟩
theorem ConvR.len {l l' r row : List Int} {c : Int} (h : ConvR l l' r row c) (hl : l'.length ≤ 25) : row.length ≤ 1000000 := by
  rcases h with ⟨h1, rfl, rfl⟩ | ⟨h1, rfl, X, h2, rfl⟩
  · simp
  · rw [rowL_len]; omega
theorem DivR.det {l r row row' : List Int} {t d d' : Int} (hc : Int.gcd t (Op.cf l (l.length - 1)) = 1) (h : DivR l r t d row) (k : DivR l r t d' row') : row = row' ∧ d = d' := by
  obtain ⟨b, h1, h2, h3⟩ := h
  obtain ⟨c, k1, k2, k3⟩ := k
  have e : b = c := Quo.unique hc h1 k1
  subst e
  exact ⟨by rw [h3, k3, h2, k2], by rw [h2, k2]⟩
theorem DivR.len {l r row : List Int} {t d : Int} (h : DivR l r t d row) (hl : l.length ≤ 25) : row.length ≤ 1000000 := by
  obtain ⟨b, h1, h2, rfl⟩ := h
  rw [rowL_len]; omega
theorem DropR.det {l r row row' : List Int} {d d' c c' : Int} (h : DropR l r row d c) (k : DropR l r row' d' c') : row = row' ∧ d = d' ∧ c = c' := by
  rcases h with ⟨h1, rfl, rfl, rfl⟩ | ⟨h1, h2, rfl, rfl, rfl⟩ | ⟨h1, h2, rfl, h3⟩ <;> rcases k with ⟨k1, rfl, rfl, rfl⟩ | ⟨k1, k2, rfl, rfl, rfl⟩ | ⟨k1, k2, rfl, k3⟩
  · exact ⟨rfl, rfl, rfl⟩
  · exact absurd k1 h1
  · exact absurd k1 h1
  · exact absurd h1 k1
  · exact ⟨rfl, rfl, rfl⟩
  · omega
  · exact absurd h1 k1
  · omega
  · have := DivR.det (Int.gcd_eq_natAbs_gcd_natAbs 1 _ ▸ Nat.gcd_one_left _) h3 k3
    exact ⟨this.1, this.2, rfl⟩
theorem DropR.len {l r row : List Int} {d c : Int} (h : DropR l r row d c) (hl : l.length ≤ 25) : row.length ≤ 1000000 := by
  rcases h with ⟨h1, rfl, rfl, rfl⟩ | ⟨h1, h2, rfl, rfl, rfl⟩ | ⟨h1, h2, rfl, h3⟩
  · simp
  · simp
  · exact h3.len hl
theorem ScaleR.det {l r row row' : List Int} {t c c' : Int} (hs : Sys l) (hpl : PrimeL l) (h : ScaleR l r t row c) (k : ScaleR l r t row' c') : row = row' ∧ c = c' := by
  have hlast : Op.cf l (l.length - 1) ∈ l := Op.cf_mem (by have := hs.2.2.2.1; omega)
  rcases h with ⟨h1, rfl, rfl⟩ | ⟨h1, h2, rfl, rfl⟩ | ⟨h1, h2, h3, rfl, rfl⟩ | ⟨h1, h2, h3, rfl, d, h4⟩ <;> rcases k with ⟨k1, rfl, rfl⟩ | ⟨k1, k2, rfl, rfl⟩ | ⟨k1, k2, k3, rfl, rfl⟩ | ⟨k1, k2, k3, rfl, d', k4⟩
  all_goals first
    | exact ⟨rfl, rfl⟩
    | exact absurd k1 h1
    | exact absurd h1 k1
    | exact absurd h2 k2
    | exact absurd k2 h2
    | omega
    | exact ⟨(DivR.det (hpl _ hlast t (fun hd => h2 (.inr (.inr (Int.emod_eq_zero_of_dvd hd))))) h4 k4).1, rfl⟩
theorem ScaleR.len {l r row : List Int} {t c : Int} (h : ScaleR l r t row c) (hl : l.length ≤ 25) : row.length ≤ 1000000 := by
  rcases h with ⟨h1, rfl, rfl⟩ | ⟨h1, h2, rfl, rfl⟩ | ⟨h1, h2, h3, rfl, rfl⟩ | ⟨h1, h2, h3, rfl, d, h4⟩
  · simp
  · simp
  · simp
  · exact h4.len hl

/-- What both gives. -/
def BothP (l : List Int) (w : World) (e : Ending) (w' : World) : Prop := Gr w w' ∧ ((Dis l ∧ ∃ S R, e = .returned (.tuple #[.pointer (some ⟨S, 0, none⟩), .pointer (some ⟨R, 0, none⟩), .bool true]) ∧ IsSys w' S l ∧ RefPr w' R l) ∨ (¬ Dis l ∧ e = .returned (.tuple #[.pointer none, .pointer none, .bool true])))
set_option maxRecDepth 100000 in
set_option maxHeartbeats 4000000 in
theorem both_any (l : List Int) (v : Value) (w : World) (hv : HasP w v l) : Calls Tryz.prog 6 #[v] w (BothP l w) := by
  have HV := Lib.hid hv
  obtain ⟨-, xa, ca, rfl, -, -, -⟩ := hv
  go_enter Tryz.func6, Tryz.ntmps6
  go_wp2_with fail
  refine (new_any l _ _ HV.out).mono ?_
  rintro e w1 ⟨g, hc⟩
  have HG := Lib.hid g
  have HV := Lib.hid (HV.out.later g)
  clear g
  rcases hc with ⟨hd, S, rfl, hs, -⟩ | ⟨hnd, rfl⟩
  · have HD := Lib.hid hd
    have HS := Lib.hid hs
    clear hd hs
    go_wp2_with fail
    refine (rnew_any l _ _ HV.out).mono ?_
    rintro e w2 ⟨g, (⟨-, R, rfl, hr⟩ | ⟨hnd, -⟩)⟩
    rotate_left
    · exact absurd HD.out hnd
    have HG := Lib.hid (HG.out.trans g)
    have HS := Lib.hid (HS.out.later g)
    have HR := Lib.hid hr.pr
    clear g hr
    go_wp2_with fail
    go_ret3
    exact ⟨HG.out, .inl ⟨HD.out, S, R, rfl, HS.out, HR.out⟩⟩
  · have HND := Lib.hid hnd
    clear hnd
    go_wp2_with fail
    refine (rnew_any l _ _ HV.out).mono ?_
    rintro e w2 ⟨g, (⟨hd, -⟩ | ⟨-, rfl⟩)⟩
    · exact absurd hd HND.out
    have HG := Lib.hid (HG.out.trans g)
    clear g
    go_wp2_with fail
    go_ret3
    exact ⟨HG.out, .inr ⟨HND.out, rfl⟩⟩
/-- A copy that is lent, and what KeptWords says of it from then on. -/
def LendK (v : Value) (l : List Int) (w : World) (e : Ending) (w' : World) : Prop := ∃ a n c, e = .returned (.slice a n c) ∧ HasP w' (.slice a n c) l ∧ (∀ W, Gr w' W → Calls Tryz.prog 13 #[.slice a n c, v] W (fun e W' => e = .returned (.bool true) ∧ Gr W W')) ∧ Gr w w'
theorem lendK_any (l : List Int) (v : Value) (w : World) (h : HasP w v l) (hl : l.length ≤ 1000) : Calls Tryz.prog 10 #[v] w (LendK v l w) := by
  refine (lent_any l v w h hl).mono ?_
  rintro e w' (⟨⟨n, c, rfl⟩, rfl, rfl, g⟩ | ⟨⟨ga, n, c, rfl⟩, gb, cb, rfl, h1, h2, -, hr, g⟩)
  · refine ⟨none, 0, 0, rfl, HasP.nil _, fun W gW => ?_, g⟩
    have hv := (h.later g).later gW
    have hn : n = 0 := by have := hv.len; simpa using this.1
    subst hn
    exact keptNil_any c W hv
  · have h3 := (hr.hasP (cap := cb) (by simpa using h1) h2).take (k := l.length) (by simp)
    rw [List.take_left] at h3
    exact ⟨some ⟨gb, 0, none⟩, l.length, cb, rfl, h3, fun W gW => kept_any gb l.length cb l _ W rfl h1 h2 (hr.later gW) ((h.later g).later gW) hl ⟨_, _, _, rfl⟩, g⟩
end Go.Proofs.YtfpdemmdkiohhaaGreat.Mo
