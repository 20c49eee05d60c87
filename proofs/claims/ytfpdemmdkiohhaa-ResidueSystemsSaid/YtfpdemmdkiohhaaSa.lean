import Derived.Test.YtfpdemmdkiohhaaZE
import Derived.Test.YtfpdemmdkiohhaaSwa
/- The reference of package residue: New's product. -/
namespace Go.Proofs.Ytfpdemmdkiohhaa.Mo
open Go.RowKit
set_option linter.unusedVariables false
set_option linter.unusedSimpArgs false

theorem Own1.gr {W W' : World} {base : Nat} {v : Value} {l : List Int} (h : Own1 W base v l) (k : Gr W W') : Own1 W' base v l := by
  refine ⟨h.1, h.2.1, ?_⟩
  rcases h.2.2 with hh | ⟨g, cap, cur, e, hb, hg, hr⟩
  · exact .inl hh
  · exact .inr ⟨g, cap, cur, e, hb, (k.block g (Array.getElem?_eq_some_iff.1 hg).1).trans hg, hr⟩
theorem Own1.setCell {w : World} {base : Nat} {v : Value} {l : List Int} (h : Own1 w base v l) {p : Addr} (hp : p.block < base) (u : Value) : Own1 (w.setCell p u) base v l := by
  refine ⟨h.1, h.2.1, ?_⟩
  rcases h.2.2 with hh | ⟨g, cap, cur, e, hb, hg, hr⟩
  · exact .inl hh
  · exact .inr ⟨g, cap, cur, e, hb, (Below.heap_setCell _ p _ _ (by omega)).trans hg, hr⟩
theorem Own1.fresh' {W : World} {base : Nat} {v : Value} {l : List Int} (h : Own1 W base v l) : ∀ B, some B = v.ownBlock → base ≤ B := by
  intro B hB
  rcases h.2.2 with ⟨rfl, _⟩ | ⟨g, cap, cur, rfl, hb, _⟩
  · simp [Value.ownBlock] at hB
  · obtain rfl : B = g := by simpa [Value.ownBlock] using hB
    exact hb
/-- A system of the reference that is being made: its numbers so far, of the call's own, and their product. -/
def RS (W0 : World) (R base : Nat) (v : Value) (l : List Int) (z : Int) (w : World) : Prop :=
  W0.heap.size ≤ R ∧ w.cell? ⟨R, 1, none⟩ = some (.bool (decide (z < 0))) ∧ w.cell? ⟨R, 2, none⟩ = some (.string (bstr z.natAbs)) ∧ w.cell? ⟨R, 0, none⟩ = some v ∧
  (w.frozen? ⟨R, 0, none⟩ = false ∧ w.frozen? ⟨R, 1, none⟩ = false ∧ w.frozen? ⟨R, 2, none⟩ = false) ∧ Own1 w base v l ∧ R < base ∧ base ≤ w.heap.size
theorem RS.later {W0 : World} {R base : Nat} {v : Value} {l : List Int} {z : Int} {w w' : World} (h : RS W0 R base v l z w) (g : Gr w w') : RS W0 R base v l z w' := by
  obtain ⟨h0, h1, h2, h3, ⟨f0, f1, f2⟩, ho, hb, hs⟩ := h
  exact ⟨h0, g.keeps h1, g.keeps h2, g.keeps h3, ⟨(Below.frozen g (World.block_lt_of_cell? w _ h3)).trans f0, (Below.frozen g (World.block_lt_of_cell? w _ h1)).trans f1, (Below.frozen g (World.block_lt_of_cell? w _ h2)).trans f2⟩, ho.gr g, hb, Nat.le_trans hs g.size⟩
theorem RS.put {W0 : World} {R base : Nat} {v : Value} {l : List Int} {z : Int} {w : World} (h : RS W0 R base v l z w) (y : Int) :
    RS W0 R base v l y ((w.setCell ⟨R, 1, none⟩ (.bool (decide (y < 0)))).setCell ⟨R, 2, none⟩ (.string (bstr y.natAbs))) := by
  obtain ⟨h0, h1, h2, h3, ⟨f0, f1, f2⟩, ho, hb, hs⟩ := h
  have n12 : (⟨R, 2, none⟩ : Addr) ≠ ⟨R, 1, none⟩ := by simp
  have n21 : (⟨R, 1, none⟩ : Addr) ≠ ⟨R, 2, none⟩ := by simp
  have n10 : (⟨R, 1, none⟩ : Addr) ≠ ⟨R, 0, none⟩ := by simp
  have n20 : (⟨R, 2, none⟩ : Addr) ≠ ⟨R, 0, none⟩ := by simp
  refine ⟨h0, (Lo.cell_far n12 _).trans (Lo.cell_set h1 _), Lo.cell_set ((Lo.cell_far n21 _).trans h2) _, (Lo.cell_far n20 _).trans ((Lo.cell_far n10 _).trans h3), ⟨?_, ?_, ?_⟩, (ho.setCell (p := ⟨R, 1, none⟩) hb _).setCell (p := ⟨R, 2, none⟩) hb _, hb, by rw [World.size_setCell, World.size_setCell]; exact hs⟩
  · rw [Lo.frozen_set1, Lo.frozen_set1]; exact f0
  · rw [Lo.frozen_set1, Lo.frozen_set1]; exact f1
  · rw [Lo.frozen_set1, Lo.frozen_set1]; exact f2
/-- The number is appended, and stored. -/
theorem RS.grow {W0 : World} {R base : Nat} {v v' : Value} {l m : List Int} {z : Int} {w w' : World} (h : RS W0 R base v l z w) (ho : Own1 w' base v' m) (hg : w.grownBy w' v.ownBlock) :
    RS W0 R base v' m z (w'.setCell ⟨R, 0, none⟩ v') := by
  obtain ⟨h0, h1, h2, h3, ⟨f0, f1, f2⟩, ho0, hb, hs⟩ := h
  have hk : w'.heap[R]? = w.heap[R]? := hg.block R (by omega) (fun e => by have := ho0.fresh' R e; omega)
  have n01 : (⟨R, 0, none⟩ : Addr) ≠ ⟨R, 1, none⟩ := by simp
  have n02 : (⟨R, 0, none⟩ : Addr) ≠ ⟨R, 2, none⟩ := by simp
  refine ⟨h0, (Lo.cell_far n01 _).trans ((World.cell?_of_block (w := w) hk).trans h1), (Lo.cell_far n02 _).trans ((World.cell?_of_block (w := w) hk).trans h2), Lo.cell_set ((World.cell?_of_block (w := w) hk).trans h3) _, ⟨?_, ?_, ?_⟩, ho.setCell (p := ⟨R, 0, none⟩) hb _, hb, by rw [World.size_setCell]; exact Nat.le_trans hs hg.size⟩
  · rw [Lo.frozen_set1]; exact (World.frozen?_of_block hk).trans f0
  · rw [Lo.frozen_set1]; exact (World.frozen?_of_block hk).trans f1
  · rw [Lo.frozen_set1]; exact (World.frozen?_of_block hk).trans f2
theorem RS.grow_cell {W0 : World} {R base : Nat} {v : Value} {l : List Int} {z : Int} {w w' : World} (h : RS W0 R base v l z w) (hg : w.grownBy w' v.ownBlock) : w'.cell? ⟨R, 0, none⟩ = some v ∧ w'.frozen? ⟨R, 0, none⟩ = false := by
  obtain ⟨h0, h1, h2, h3, ⟨f0, f1, f2⟩, ho0, hb, hs⟩ := h
  have hk : w'.heap[R]? = w.heap[R]? := hg.block R (by omega) (fun e => by have := ho0.fresh' R e; omega)
  exact ⟨(World.cell?_of_block (w := w) hk).trans h3, (World.frozen?_of_block hk).trans f0⟩

set_option maxRecDepth 100000 in
set_option maxHeartbeats 8000000 in
theorem rnew_region (x p : Int) (W0 W : World) (R base : Nat) (v : Value) (l : List Int) (HK : isW p) (HX : InR x) (HKR : InR p) (HZ : InR (x * p))
    (hG : Gr W0 W) (hX0 : RS W0 R base v l x W)
    (v0 v1 v2 v3 v5 v7 v8 v9 v10 v11 v12 v13 v14 v15 v16 v17 v18 v19 v20 v21 v22 v23 v24 v25 v26 v27 v28 v29 v30 v31 v32 v33 v34 v35 v36 v37 v38 v39 v40 v41 v42 v43 v44 v45 v46 v47 v48 v49 v50 v51 v52 v53 v54 v55 v56 v57 v58 v59 v60 v61 v76 s62 s63 s64 s65 s66 s67 s68 s69 s70 s71 s72 s73 s74 s75 : Value) (Q : Exit → Act → World → Prop) (hQ : ∀ (d : Option Tmp) (v : Value) c a w, Q (.panic c) (a.put d v) w → Q (.panic c) a w)
    (hpost : ∀ u62 u63 u64 u65 u66 u67 u68 u69 u70 u71 u72 u73 u74 u75 wx, RS W0 R base v l (x * p) wx → Gr W0 wx → Q .normal { tmps := List.toArray (v0 :: v1 :: v2 :: v3 :: .pointer (some ⟨R, 0, none⟩) :: v5 :: .int .u32 p :: v7 :: v8 :: v9 :: v10 :: v11 :: v12 :: v13 :: v14 :: v15 :: v16 :: v17 :: v18 :: v19 :: v20 :: v21 :: v22 :: v23 :: v24 :: v25 :: v26 :: v27 :: v28 :: v29 :: v30 :: v31 :: v32 :: v33 :: v34 :: v35 :: v36 :: v37 :: v38 :: v39 :: v40 :: v41 :: v42 :: v43 :: v44 :: v45 :: v46 :: v47 :: v48 :: v49 :: v50 :: v51 :: v52 :: v53 :: v54 :: v55 :: v56 :: v57 :: v58 :: v59 :: v60 :: v61 :: u62 :: u63 :: u64 :: u65 :: u66 :: u67 :: u68 :: u69 :: u70 :: u71 :: u72 :: u73 :: u74 :: u75 :: v76 :: ([] : List Value)), defers := [] } wx) :
    (Code.region 16 #[{ dst := some 63, op := Op.move (Operand.tmp 4), type := 29, pos := "ref.go:33", after := #[], guard := none },
      { dst := some 64, op := Op.move (Operand.tmp 4), type := 29, pos := "ref.go:33", after := #[], guard := none },
      { dst := some 65, op := Op.nilCheck (Operand.tmp 64), type := 0, pos := "ref.go:33", after := #[{ on := 1, ground := Ground.data }], guard := none },
      { dst := some 66, op := Op.fieldAddr 38 (Operand.tmp 65) 1, type := 0, pos := "ref.go:33", after := #[{ on := 2, ground := Ground.data }], guard := none },
      { dst := some 67, op := Op.load 36 (Operand.tmp 66), type := 36, pos := "ref.go:33", after := #[{ on := 3, ground := Ground.data }], guard := none },
      { dst := some 68, op := Op.move (Operand.tmp 6), type := 33, pos := "ref.go:33", after := #[], guard := none },
      { dst := some 69, op := Op.convert 33 2 (Operand.tmp 68), type := 2, pos := "ref.go:33", after := #[{ on := 5, ground := Ground.data }], guard := none },
      { dst := some 70, op := Op.call { callee := Callee.value (Operand.func 24), args := #[Operand.tmp 69], argTypes := #[2] }, type := 36, pos := "ref.go:33", after := #[{ on := 6, ground := Ground.data }], guard := none },
      { dst := some 71, op := Op.call { callee := Callee.value (Operand.func 26), args := #[Operand.tmp 67, Operand.tmp 70], argTypes := #[36, 36] }, type := 44, pos := "ref.go:33", after := #[{ on := 4, ground := Ground.data }, { on := 7, ground := Ground.data }, { on := 7, ground := Ground.chain }], guard := none },
      { dst := some 62, op := Op.move (Operand.tmp 71), type := 44, pos := "ref.go:33", after := #[{ on := 8, ground := Ground.data }], guard := none },
      { dst := some 72, op := Op.extract (Operand.tmp 62) 0, type := 36, pos := "ref.go:33", after := #[{ on := 9, ground := Ground.data }], guard := none },
      { dst := some 73, op := Op.extract (Operand.tmp 62) 1, type := 26, pos := "ref.go:33", after := #[{ on := 9, ground := Ground.data }, { on := 14, ground := Ground.gcOnly Departure.lateStores }], guard := none },
      { dst := some 74, op := Op.nilCheck (Operand.tmp 63), type := 0, pos := "ref.go:33", after := #[{ on := 0, ground := Ground.data }, { on := 0, ground := Ground.phase }, { on := 1, ground := Ground.phase }, { on := 2, ground := Ground.phase }, { on := 3, ground := Ground.phase }, { on := 4, ground := Ground.phase }, { on := 5, ground := Ground.phase }, { on := 6, ground := Ground.phase }, { on := 7, ground := Ground.phase }, { on := 8, ground := Ground.phase }, { on := 9, ground := Ground.phase }, { on := 10, ground := Ground.phase }, { on := 11, ground := Ground.textOnly Departure.lateStores }], guard := none },
      { dst := some 75, op := Op.fieldAddr 38 (Operand.tmp 74) 1, type := 0, pos := "ref.go:33", after := #[{ on := 12, ground := Ground.data }, { on := 0, ground := Ground.phase }, { on := 1, ground := Ground.phase }, { on := 2, ground := Ground.phase }, { on := 3, ground := Ground.phase }, { on := 4, ground := Ground.phase }, { on := 5, ground := Ground.phase }, { on := 6, ground := Ground.phase }, { on := 7, ground := Ground.phase }, { on := 8, ground := Ground.phase }, { on := 9, ground := Ground.phase }, { on := 10, ground := Ground.phase }, { on := 11, ground := Ground.textOnly Departure.lateStores }], guard := none },
      { dst := none, op := Op.store 36 (Operand.tmp 75) (Operand.tmp 72), type := 0, pos := "ref.go:33", after := #[{ on := 13, ground := Ground.data }, { on := 10, ground := Ground.data }, { on := 8, ground := Ground.chain }, { on := 0, ground := Ground.phase }, { on := 1, ground := Ground.phase }, { on := 2, ground := Ground.phase }, { on := 3, ground := Ground.phase }, { on := 4, ground := Ground.phase }, { on := 5, ground := Ground.phase }, { on := 6, ground := Ground.phase }, { on := 7, ground := Ground.phase }, { on := 8, ground := Ground.phase }, { on := 9, ground := Ground.phase }, { on := 10, ground := Ground.phase }, { on := 11, ground := Ground.textOnly Departure.lateStores }], guard := none }] true).wp Try.prog Q { tmps := List.toArray (v0 :: v1 :: v2 :: v3 :: .pointer (some ⟨R, 0, none⟩) :: v5 :: .int .u32 p :: v7 :: v8 :: v9 :: v10 :: v11 :: v12 :: v13 :: v14 :: v15 :: v16 :: v17 :: v18 :: v19 :: v20 :: v21 :: v22 :: v23 :: v24 :: v25 :: v26 :: v27 :: v28 :: v29 :: v30 :: v31 :: v32 :: v33 :: v34 :: v35 :: v36 :: v37 :: v38 :: v39 :: v40 :: v41 :: v42 :: v43 :: v44 :: v45 :: v46 :: v47 :: v48 :: v49 :: v50 :: v51 :: v52 :: v53 :: v54 :: v55 :: v56 :: v57 :: v58 :: v59 :: v60 :: v61 :: s62 :: s63 :: s64 :: s65 :: s66 :: s67 :: s68 :: s69 :: s70 :: s71 :: s72 :: s73 :: s74 :: s75 :: v76 :: ([] : List Value)), defers := [] } W := by
  refine wp_region_held_drew (S := fun w' => Gr W0 w') (by kernel_rfl) (have g : Gr W0 W.drew := hG.drew; g) (fun hHeld => ?_)
  have hw : IntKind.i64.wrap p = p := IntWalk.i64_in _ (by have a := HK.1; have b := HK.2; omega)
  refine chain_any (fun G out inn => ?_)
  have st12 : ∀ (w : World), (fun w' => Gr W0 w') w → RS W0 R base v l x w → G 1 #[true, true, true, true, true, true, true, true, true, true, true, true, true, true, false] { tmps := List.toArray (v0 :: v1 :: v2 :: v3 :: .pointer (some ⟨R, 0, none⟩) :: v5 :: .int .u32 p :: v7 :: v8 :: v9 :: v10 :: v11 :: v12 :: v13 :: v14 :: v15 :: v16 :: v17 :: v18 :: v19 :: v20 :: v21 :: v22 :: v23 :: v24 :: v25 :: v26 :: v27 :: v28 :: v29 :: v30 :: v31 :: v32 :: v33 :: v34 :: v35 :: v36 :: v37 :: v38 :: v39 :: v40 :: v41 :: v42 :: v43 :: v44 :: v45 :: v46 :: v47 :: v48 :: v49 :: v50 :: v51 :: v52 :: v53 :: v54 :: v55 :: v56 :: v57 :: v58 :: v59 :: v60 :: v61 :: .tuple #[wv (x * p), .int .i64 0] :: .pointer (some ⟨R, 0, none⟩) :: .pointer (some ⟨R, 0, none⟩) :: .pointer (some ⟨R, 0, none⟩) :: .pointer (some ⟨R, 1, none⟩) :: wv x :: .int .u32 p :: .int .i64 p :: wv p :: .tuple #[wv (x * p), .int .i64 0] :: wv (x * p) :: .int .i64 0 :: .pointer (some ⟨R, 0, none⟩) :: .pointer (some ⟨R, 1, none⟩) :: v76 :: ([] : List Value)), defers := [] } w := by
    intro w hS hX
    refine inn _ _ _ _ ?_
    have hP := hX.put (x * p)
    have c1 := hX.2.1
    have c2 := hX.2.2.1
    have f1 := hX.2.2.2.2.1.2.1
    have f2 := hX.2.2.2.2.1.2.2
    refine wpAnyH_ready (rs := [14]) (by kernel_rfl) (by simp) ?_
    refine AllReadyH.cons (o := { dst := none, op := Op.store 36 (Operand.tmp 75) (Operand.tmp 72), type := 0, pos := "ref.go:33", after := #[{ on := 13, ground := Ground.data }, { on := 10, ground := Ground.data }, { on := 8, ground := Ground.chain }, { on := 0, ground := Ground.phase }, { on := 1, ground := Ground.phase }, { on := 2, ground := Ground.phase }, { on := 3, ground := Ground.phase }, { on := 4, ground := Ground.phase }, { on := 5, ground := Ground.phase }, { on := 6, ground := Ground.phase }, { on := 7, ground := Ground.phase }, { on := 8, ground := Ground.phase }, { on := 9, ground := Ground.phase }, { on := 10, ground := Ground.phase }, { on := 11, ground := Ground.textOnly Departure.lateStores }], guard := none }) rfl (fun K hK => ?_) AllReadyH.nil
    unfold wv
    go_simp
    have g2 : Gr W0 ((w.setCell ⟨R, 1, none⟩ (.bool (decide (x * p < 0)))).setCell ⟨R, 2, none⟩ (.string (bstr (x * p).natAbs))) := (hS.setCell (p := ⟨R, 1, none⟩) hX.1 _).setCell (p := ⟨R, 2, none⟩) hX.1 _
    refine hK.out _ _ g2 (fun hHeld => ?_)
    clear hK K
    (simp only [Act.put, List.setIfInBounds_toArray, List.set_cons_zero, List.set_cons_succ])
    refine wpAnyH_done (by kernel_rfl) ?_ _
    exact hpost _ _ _ _ _ _ _ _ _ _ _ _ _ _ _ hP g2
  have st11 : ∀ (w : World), (fun w' => Gr W0 w') w → RS W0 R base v l x w → G 7 #[true, true, true, true, true, true, true, true, false, false, false, false, false, false, false] { tmps := List.toArray (v0 :: v1 :: v2 :: v3 :: .pointer (some ⟨R, 0, none⟩) :: v5 :: .int .u32 p :: v7 :: v8 :: v9 :: v10 :: v11 :: v12 :: v13 :: v14 :: v15 :: v16 :: v17 :: v18 :: v19 :: v20 :: v21 :: v22 :: v23 :: v24 :: v25 :: v26 :: v27 :: v28 :: v29 :: v30 :: v31 :: v32 :: v33 :: v34 :: v35 :: v36 :: v37 :: v38 :: v39 :: v40 :: v41 :: v42 :: v43 :: v44 :: v45 :: v46 :: v47 :: v48 :: v49 :: v50 :: v51 :: v52 :: v53 :: v54 :: v55 :: v56 :: v57 :: v58 :: v59 :: v60 :: v61 :: s62 :: .pointer (some ⟨R, 0, none⟩) :: .pointer (some ⟨R, 0, none⟩) :: .pointer (some ⟨R, 0, none⟩) :: .pointer (some ⟨R, 1, none⟩) :: wv x :: .int .u32 p :: .int .i64 p :: wv p :: s71 :: s72 :: s73 :: s74 :: s75 :: v76 :: ([] : List Value)), defers := [] } w := by
    intro w hS hX
    refine inn _ _ _ _ ?_
    refine wpAnyH_ready (rs := [8]) (by kernel_rfl) (by simp) ?_
    refine AllReadyH.cons (o := { dst := some 71, op := Op.call { callee := Callee.value (Operand.func 26), args := #[Operand.tmp 67, Operand.tmp 70], argTypes := #[36, 36] }, type := 44, pos := "ref.go:33", after := #[{ on := 4, ground := Ground.data }, { on := 7, ground := Ground.data }, { on := 7, ground := Ground.chain }], guard := none }) rfl (fun K hK => ?_) ?_
    · go_simp
      go_at_call 26
      refine (rwmul_any x p _ HX HKR HZ).mono ?_
      rintro e w' ⟨rfl, g⟩
      go_wp2_with fail
      refine hK.out _ _ (hS.trans g) (fun hHeld => ?_)
      (simp only [Act.put, List.setIfInBounds_toArray, List.set_cons_zero, List.set_cons_succ])
      refine wpAnyH_take (i := 9) (oi := { dst := some 62, op := Op.move (Operand.tmp 71), type := 44, pos := "ref.go:33", after := #[{ on := 8, ground := Ground.data }], guard := none }) (v := ?_) rfl (by kernel_rfl) (by kernel_rfl) (by kernel_rfl) (hQ _ _) (_root_.Or.inl ⟨by rfl, ?_⟩) (by assumption) ?_
      rotate_left
      · intro w0 hSw; (try dsimp only at hSw); go_simp; try with_reducible rfl
      (simp only [Act.put, List.setIfInBounds_toArray, List.set_cons_zero, List.set_cons_succ])
      refine wpAnyH_take (i := 10) (oi := { dst := some 72, op := Op.extract (Operand.tmp 62) 0, type := 36, pos := "ref.go:33", after := #[{ on := 9, ground := Ground.data }], guard := none }) (v := ?_) rfl (by kernel_rfl) (by kernel_rfl) (by kernel_rfl) (hQ _ _) (_root_.Or.inl ⟨by rfl, ?_⟩) (by assumption) ?_
      rotate_left
      · intro w0 hSw; (try dsimp only at hSw); go_simp; try with_reducible rfl
      (simp only [Act.put, List.setIfInBounds_toArray, List.set_cons_zero, List.set_cons_succ])
      refine wpAnyH_take (i := 11) (oi := { dst := some 73, op := Op.extract (Operand.tmp 62) 1, type := 26, pos := "ref.go:33", after := #[{ on := 9, ground := Ground.data }, { on := 14, ground := Ground.gcOnly Departure.lateStores }], guard := none }) (v := ?_) rfl (by kernel_rfl) (by kernel_rfl) (by kernel_rfl) (hQ _ _) (_root_.Or.inl ⟨by rfl, ?_⟩) (by assumption) ?_
      rotate_left
      · intro w0 hSw; (try dsimp only at hSw); go_simp; try with_reducible rfl
      (simp only [Act.put, List.setIfInBounds_toArray, List.set_cons_zero, List.set_cons_succ])
      refine wpAnyH_take (i := 12) (oi := { dst := some 74, op := Op.nilCheck (Operand.tmp 63), type := 0, pos := "ref.go:33", after := #[{ on := 0, ground := Ground.data }, { on := 0, ground := Ground.phase }, { on := 1, ground := Ground.phase }, { on := 2, ground := Ground.phase }, { on := 3, ground := Ground.phase }, { on := 4, ground := Ground.phase }, { on := 5, ground := Ground.phase }, { on := 6, ground := Ground.phase }, { on := 7, ground := Ground.phase }, { on := 8, ground := Ground.phase }, { on := 9, ground := Ground.phase }, { on := 10, ground := Ground.phase }, { on := 11, ground := Ground.textOnly Departure.lateStores }], guard := none }) (v := ?_) rfl (by kernel_rfl) (by kernel_rfl) (by kernel_rfl) (hQ _ _) (_root_.Or.inl ⟨by rfl, ?_⟩) (by assumption) ?_
      rotate_left
      · intro w0 hSw; (try dsimp only at hSw); go_simp; try with_reducible rfl
      (simp only [Act.put, List.setIfInBounds_toArray, List.set_cons_zero, List.set_cons_succ])
      refine wpAnyH_take (i := 13) (oi := { dst := some 75, op := Op.fieldAddr 38 (Operand.tmp 74) 1, type := 0, pos := "ref.go:33", after := #[{ on := 12, ground := Ground.data }, { on := 0, ground := Ground.phase }, { on := 1, ground := Ground.phase }, { on := 2, ground := Ground.phase }, { on := 3, ground := Ground.phase }, { on := 4, ground := Ground.phase }, { on := 5, ground := Ground.phase }, { on := 6, ground := Ground.phase }, { on := 7, ground := Ground.phase }, { on := 8, ground := Ground.phase }, { on := 9, ground := Ground.phase }, { on := 10, ground := Ground.phase }, { on := 11, ground := Ground.textOnly Departure.lateStores }], guard := none }) (v := ?_) rfl (by kernel_rfl) (by kernel_rfl) (by kernel_rfl) (hQ _ _) (_root_.Or.inl ⟨by rfl, ?_⟩) (by assumption) ?_
      rotate_left
      · intro w0 hSw; (try dsimp only at hSw); go_simp; try with_reducible rfl
      (simp only [Act.put, List.setIfInBounds_toArray, List.set_cons_zero, List.set_cons_succ])
      exact out _ _ _ _ (st12 _ hHeld (hX.later g))
    exact AllReadyH.nil
  have st01 : ∀ (w : World), (fun w' => Gr W0 w') w → RS W0 R base v l x w → G 8 #[true, true, true, true, false, true, true, true, false, false, false, false, false, false, false] { tmps := List.toArray (v0 :: v1 :: v2 :: v3 :: .pointer (some ⟨R, 0, none⟩) :: v5 :: .int .u32 p :: v7 :: v8 :: v9 :: v10 :: v11 :: v12 :: v13 :: v14 :: v15 :: v16 :: v17 :: v18 :: v19 :: v20 :: v21 :: v22 :: v23 :: v24 :: v25 :: v26 :: v27 :: v28 :: v29 :: v30 :: v31 :: v32 :: v33 :: v34 :: v35 :: v36 :: v37 :: v38 :: v39 :: v40 :: v41 :: v42 :: v43 :: v44 :: v45 :: v46 :: v47 :: v48 :: v49 :: v50 :: v51 :: v52 :: v53 :: v54 :: v55 :: v56 :: v57 :: v58 :: v59 :: v60 :: v61 :: s62 :: .pointer (some ⟨R, 0, none⟩) :: .pointer (some ⟨R, 0, none⟩) :: .pointer (some ⟨R, 0, none⟩) :: .pointer (some ⟨R, 1, none⟩) :: s67 :: .int .u32 p :: .int .i64 p :: wv p :: s71 :: s72 :: s73 :: s74 :: s75 :: v76 :: ([] : List Value)), defers := [] } w := by
    intro w hS hX
    refine inn _ _ _ _ ?_
    refine wpAnyH_ready (rs := [4]) (by kernel_rfl) (by simp) ?_
    refine AllReadyH.cons (o := { dst := some 67, op := Op.load 36 (Operand.tmp 66), type := 36, pos := "ref.go:33", after := #[{ on := 3, ground := Ground.data }], guard := none }) rfl (fun K hK => ?_) ?_
    · have c1 := hX.2.1
      have c2 := hX.2.2.1
      go_simp
      refine hK.out _ _ hS (fun hHeld => ?_)
      (simp only [Act.put, List.setIfInBounds_toArray, List.set_cons_zero, List.set_cons_succ])
      exact out _ _ _ _ (st11 _ hHeld hX)
    exact AllReadyH.nil
  have st10 : ∀ (w : World), (fun w' => Gr W0 w') w → RS W0 R base v l x w → G 8 #[true, true, true, true, true, true, true, false, false, false, false, false, false, false, false] { tmps := List.toArray (v0 :: v1 :: v2 :: v3 :: .pointer (some ⟨R, 0, none⟩) :: v5 :: .int .u32 p :: v7 :: v8 :: v9 :: v10 :: v11 :: v12 :: v13 :: v14 :: v15 :: v16 :: v17 :: v18 :: v19 :: v20 :: v21 :: v22 :: v23 :: v24 :: v25 :: v26 :: v27 :: v28 :: v29 :: v30 :: v31 :: v32 :: v33 :: v34 :: v35 :: v36 :: v37 :: v38 :: v39 :: v40 :: v41 :: v42 :: v43 :: v44 :: v45 :: v46 :: v47 :: v48 :: v49 :: v50 :: v51 :: v52 :: v53 :: v54 :: v55 :: v56 :: v57 :: v58 :: v59 :: v60 :: v61 :: s62 :: .pointer (some ⟨R, 0, none⟩) :: .pointer (some ⟨R, 0, none⟩) :: .pointer (some ⟨R, 0, none⟩) :: .pointer (some ⟨R, 1, none⟩) :: wv x :: .int .u32 p :: .int .i64 p :: s70 :: s71 :: s72 :: s73 :: s74 :: s75 :: v76 :: ([] : List Value)), defers := [] } w := by
    intro w hS hX
    refine inn _ _ _ _ ?_
    refine wpAnyH_ready (rs := [7]) (by kernel_rfl) (by simp) ?_
    refine AllReadyH.cons (o := { dst := some 70, op := Op.call { callee := Callee.value (Operand.func 24), args := #[Operand.tmp 69], argTypes := #[2] }, type := 36, pos := "ref.go:33", after := #[{ on := 6, ground := Ground.data }], guard := none }) rfl (fun K hK => ?_) ?_
    · go_simp
      go_at_call 24
      refine (rwof_any p _ HK).mono ?_
      rintro e w' ⟨rfl, g⟩
      go_wp2_with fail
      refine hK.out _ _ (hS.trans g) (fun hHeld => ?_)
      (simp only [Act.put, List.setIfInBounds_toArray, List.set_cons_zero, List.set_cons_succ])
      exact out _ _ _ _ (st11 _ hHeld (hX.later g))
    exact AllReadyH.nil
  have st00 : ∀ (w : World), (fun w' => Gr W0 w') w → RS W0 R base v l x w → G 9 #[true, true, true, true, false, true, true, false, false, false, false, false, false, false, false] { tmps := List.toArray (v0 :: v1 :: v2 :: v3 :: .pointer (some ⟨R, 0, none⟩) :: v5 :: .int .u32 p :: v7 :: v8 :: v9 :: v10 :: v11 :: v12 :: v13 :: v14 :: v15 :: v16 :: v17 :: v18 :: v19 :: v20 :: v21 :: v22 :: v23 :: v24 :: v25 :: v26 :: v27 :: v28 :: v29 :: v30 :: v31 :: v32 :: v33 :: v34 :: v35 :: v36 :: v37 :: v38 :: v39 :: v40 :: v41 :: v42 :: v43 :: v44 :: v45 :: v46 :: v47 :: v48 :: v49 :: v50 :: v51 :: v52 :: v53 :: v54 :: v55 :: v56 :: v57 :: v58 :: v59 :: v60 :: v61 :: s62 :: .pointer (some ⟨R, 0, none⟩) :: .pointer (some ⟨R, 0, none⟩) :: .pointer (some ⟨R, 0, none⟩) :: .pointer (some ⟨R, 1, none⟩) :: s67 :: .int .u32 p :: .int .i64 p :: s70 :: s71 :: s72 :: s73 :: s74 :: s75 :: v76 :: ([] : List Value)), defers := [] } w := by
    intro w hS hX
    refine inn _ _ _ _ ?_
    refine wpAnyH_ready (rs := [4, 7]) (by kernel_rfl) (by simp) ?_
    refine AllReadyH.cons (o := { dst := some 67, op := Op.load 36 (Operand.tmp 66), type := 36, pos := "ref.go:33", after := #[{ on := 3, ground := Ground.data }], guard := none }) rfl (fun K hK => ?_) ?_
    · have c1 := hX.2.1
      have c2 := hX.2.2.1
      go_simp
      refine hK.out _ _ hS (fun hHeld => ?_)
      (simp only [Act.put, List.setIfInBounds_toArray, List.set_cons_zero, List.set_cons_succ])
      exact out _ _ _ _ (st10 _ hHeld hX)
    refine AllReadyH.cons (o := { dst := some 70, op := Op.call { callee := Callee.value (Operand.func 24), args := #[Operand.tmp 69], argTypes := #[2] }, type := 36, pos := "ref.go:33", after := #[{ on := 6, ground := Ground.data }], guard := none }) rfl (fun K hK => ?_) ?_
    · go_simp
      go_at_call 24
      refine (rwof_any p _ HK).mono ?_
      rintro e w' ⟨rfl, g⟩
      go_wp2_with fail
      refine hK.out _ _ (hS.trans g) (fun hHeld => ?_)
      (simp only [Act.put, List.setIfInBounds_toArray, List.set_cons_zero, List.set_cons_succ])
      exact out _ _ _ _ (st01 _ hHeld (hX.later g))
    exact AllReadyH.nil
  show wpAnyH _ _ _ _ _ 15 #[false, false, false, false, false, false, false, false, false, false, false, false, false, false, false] _ _
  refine wpAnyH_take (i := 0) (oi := { dst := some 63, op := Op.move (Operand.tmp 4), type := 29, pos := "ref.go:33", after := #[], guard := none }) (v := ?_) rfl (by kernel_rfl) (by kernel_rfl) (by kernel_rfl) (hQ _ _) (_root_.Or.inl ⟨by rfl, ?_⟩) (by assumption) ?_
  rotate_left
  · intro w0 hSw; (try dsimp only at hSw); go_simp; try with_reducible rfl
  (simp only [Act.put, List.setIfInBounds_toArray, List.set_cons_zero, List.set_cons_succ])
  refine wpAnyH_take (i := 1) (oi := { dst := some 64, op := Op.move (Operand.tmp 4), type := 29, pos := "ref.go:33", after := #[], guard := none }) (v := ?_) rfl (by kernel_rfl) (by kernel_rfl) (by kernel_rfl) (hQ _ _) (_root_.Or.inl ⟨by rfl, ?_⟩) (by assumption) ?_
  rotate_left
  · intro w0 hSw; (try dsimp only at hSw); go_simp; try with_reducible rfl
  (simp only [Act.put, List.setIfInBounds_toArray, List.set_cons_zero, List.set_cons_succ])
  refine wpAnyH_take (i := 2) (oi := { dst := some 65, op := Op.nilCheck (Operand.tmp 64), type := 0, pos := "ref.go:33", after := #[{ on := 1, ground := Ground.data }], guard := none }) (v := ?_) rfl (by kernel_rfl) (by kernel_rfl) (by kernel_rfl) (hQ _ _) (_root_.Or.inl ⟨by rfl, ?_⟩) (by assumption) ?_
  rotate_left
  · intro w0 hSw; (try dsimp only at hSw); go_simp; try with_reducible rfl
  (simp only [Act.put, List.setIfInBounds_toArray, List.set_cons_zero, List.set_cons_succ])
  refine wpAnyH_take (i := 3) (oi := { dst := some 66, op := Op.fieldAddr 38 (Operand.tmp 65) 1, type := 0, pos := "ref.go:33", after := #[{ on := 2, ground := Ground.data }], guard := none }) (v := ?_) rfl (by kernel_rfl) (by kernel_rfl) (by kernel_rfl) (hQ _ _) (_root_.Or.inl ⟨by rfl, ?_⟩) (by assumption) ?_
  rotate_left
  · intro w0 hSw; (try dsimp only at hSw); go_simp; try with_reducible rfl
  (simp only [Act.put, List.setIfInBounds_toArray, List.set_cons_zero, List.set_cons_succ])
  refine wpAnyH_take (i := 5) (oi := { dst := some 68, op := Op.move (Operand.tmp 6), type := 33, pos := "ref.go:33", after := #[], guard := none }) (v := ?_) rfl (by kernel_rfl) (by kernel_rfl) (by kernel_rfl) (hQ _ _) (_root_.Or.inl ⟨by rfl, ?_⟩) (by assumption) ?_
  rotate_left
  · intro w0 hSw; (try dsimp only at hSw); go_simp; try with_reducible rfl
  (simp only [Act.put, List.setIfInBounds_toArray, List.set_cons_zero, List.set_cons_succ])
  refine wpAnyH_take (i := 6) (oi := { dst := some 69, op := Op.convert 33 2 (Operand.tmp 68), type := 2, pos := "ref.go:33", after := #[{ on := 5, ground := Ground.data }], guard := none }) (v := ?_) rfl (by kernel_rfl) (by kernel_rfl) (by kernel_rfl) (hQ _ _) (_root_.Or.inl ⟨by rfl, ?_⟩) (by assumption) ?_
  rotate_left
  · intro w0 hSw; (try dsimp only at hSw); go_simp; try with_reducible rfl
  (simp only [Act.put, List.setIfInBounds_toArray, List.set_cons_zero, List.set_cons_succ])
  try rw [hw]
  exact out _ _ _ _ (st00 _ hHeld (hX0.later (Gr.refl W).drew))
end Go.Proofs.Ytfpdemmdkiohhaa.Mo
