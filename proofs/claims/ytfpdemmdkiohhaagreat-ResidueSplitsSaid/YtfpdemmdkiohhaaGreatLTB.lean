import Derived.Test.YtfpdemmdkiohhaaGreatLZE
import Derived.Test.YtfpdemmdkiohhaaGreatLTA
/- The reference of package residue: New's product. -/
namespace Go.Proofs.YtfpdemmdkiohhaaGreat.Mo
open Go.RowKit
set_option linter.unusedVariables false
set_option linter.unusedSimpArgs false

theorem Own1.gr {W W' : World} {base : Nat} {v : Value} {l : List Int} (h : Own1 W base v l) (k : Gr W W') : Own1 W' base v l := by
  refine ⟨h.1, h.2.1, ?_⟩
  rcases h.2.2 with hh | ⟨g, cap, cur, e, hb, hg, hr⟩
  · exact .inl hh
  · exact .inr ⟨g, cap, cur, e, hb, (k.block g (Array.getElem?_eq_some_iff.1 hg).1).trans hg, hr⟩
theorem Own1.setCell {w : World} {base : Nat} {v : Value} {l : List Int} (h : Own1 w base v l) {p : Addr} (hp : p.block < base) (u : Value) : Own1 (w.setCell p u) base v l := by
  refine ⟨h.1, h.2.1, ?_⟩
  rcases h.2.2 with hh | ⟨g, cap, cur, e, hb, hg, hr⟩
  · exact .inl hh
  · exact .inr ⟨g, cap, cur, e, hb, (Below.heap_setCell _ p _ _ (by omega)).trans hg, hr⟩
theorem Own1.fresh' {W : World} {base : Nat} {v : Value} {l : List Int} (h : Own1 W base v l) : ∀ B, some B = v.ownBlock → base ≤ B := by
  intro B hB
  rcases h.2.2 with ⟨rfl, _⟩ | ⟨g, cap, cur, rfl, hb, _⟩
  · simp [Value.ownBlock] at hB
  · obtain rfl : B = g := by simpa [Value.ownBlock] using hB
    exact hb
/-- A system of the reference that is being made: its numbers so far, of the call's own, and their product. -/
def RS (W0 : World) (R base : Nat) (v : Value) (l : List Int) (z : Int) (w : World) : Prop :=
  W0.heap.size ≤ R ∧ w.cell? ⟨R, 1, none⟩ = some (.bool (decide (z < 0))) ∧ w.cell? ⟨R, 2, none⟩ = some (.string (bstr z.natAbs)) ∧ w.cell? ⟨R, 0, none⟩ = some v ∧
  (w.frozen? ⟨R, 0, none⟩ = false ∧ w.frozen? ⟨R, 1, none⟩ = false ∧ w.frozen? ⟨R, 2, none⟩ = false) ∧ Own1 w base v l ∧ R < base ∧ base ≤ w.heap.size
theorem RS.later {W0 : World} {R base : Nat} {v : Value} {l : List Int} {z : Int} {w w' : World} (h : RS W0 R base v l z w) (g : Gr w w') : RS W0 R base v l z w' := by
  obtain ⟨h0, h1, h2, h3, ⟨f0, f1, f2⟩, ho, hb, hs⟩ := h
  exact ⟨h0, g.keeps h1, g.keeps h2, g.keeps h3, ⟨(Below.frozen g (World.block_lt_of_cell? w _ h3)).trans f0, (Below.frozen g (World.block_lt_of_cell? w _ h1)).trans f1, (Below.frozen g (World.block_lt_of_cell? w _ h2)).trans f2⟩, ho.gr g, hb, Nat.le_trans hs g.size⟩
theorem RS.put {W0 : World} {R base : Nat} {v : Value} {l : List Int} {z : Int} {w : World} (h : RS W0 R base v l z w) (y : Int) :
    RS W0 R base v l y ((w.setCell ⟨R, 1, none⟩ (.bool (decide (y < 0)))).setCell ⟨R, 2, none⟩ (.string (bstr y.natAbs))) := by
  obtain ⟨h0, h1, h2, h3, ⟨f0, f1, f2⟩, ho, hb, hs⟩ := h
  have n12 : (⟨R, 2, none⟩ : Addr) ≠ ⟨R, 1, none⟩ := by simp
  have n21 : (⟨R, 1, none⟩ : Addr) ≠ ⟨R, 2, none⟩ := by simp
  have n10 : (⟨R, 1, none⟩ : Addr) ≠ ⟨R, 0, none⟩ := by simp
  have n20 : (⟨R, 2, none⟩ : Addr) ≠ ⟨R, 0, none⟩ := by simp
  refine ⟨h0, (Lo.cell_far n12 _).trans (Lo.cell_set h1 _), Lo.cell_set ((Lo.cell_far n21 _).trans h2) _, (Lo.cell_far n20 _).trans ((Lo.cell_far n10 _).trans h3), ⟨?_, ?_, ?_⟩, (ho.setCell (p := ⟨R, 1, none⟩) hb _).setCell (p := ⟨R, 2, none⟩) hb _, hb, by rw [World.size_setCell, World.size_setCell]; exact hs⟩
  · rw [Lo.frozen_set1, Lo.frozen_set1]; exact f0
  · rw [Lo.frozen_set1, Lo.frozen_set1]; exact f1
  · rw [Lo.frozen_set1, Lo.frozen_set1]; exact f2
/-- The number is appended, and stored. -/
theorem RS.grow {W0 : World} {R base : Nat} {v v' : Value} {l m : List Int} {z : Int} {w w' : World} (h : RS W0 R base v l z w) (ho : Own1 w' base v' m) (hg : w.grownBy w' v.ownBlock) :
    RS W0 R base v' m z (w'.setCell ⟨R, 0, none⟩ v') := by
  obtain ⟨h0, h1, h2, h3, ⟨f0, f1, f2⟩, ho0, hb, hs⟩ := h
  have hk : w'.heap[R]? = w.heap[R]? := hg.block R (by omega) (fun e => by have := ho0.fresh' R e; omega)
  have n01 : (⟨R, 0, none⟩ : Addr) ≠ ⟨R, 1, none⟩ := by simp
  have n02 : (⟨R, 0, none⟩ : Addr) ≠ ⟨R, 2, none⟩ := by simp
  refine ⟨h0, (Lo.cell_far n01 _).trans ((World.cell?_of_block (w := w) hk).trans h1), (Lo.cell_far n02 _).trans ((World.cell?_of_block (w := w) hk).trans h2), Lo.cell_set ((World.cell?_of_block (w := w) hk).trans h3) _, ⟨?_, ?_, ?_⟩, ho.setCell (p := ⟨R, 0, none⟩) hb _, hb, by rw [World.size_setCell]; exact Nat.le_trans hs hg.size⟩
  · rw [Lo.frozen_set1]; exact (World.frozen?_of_block hk).trans f0
  · rw [Lo.frozen_set1]; exact (World.frozen?_of_block hk).trans f1
  · rw [Lo.frozen_set1]; exact (World.frozen?_of_block hk).trans f2
theorem RS.grow_cell {W0 : World} {R base : Nat} {v : Value} {l : List Int} {z : Int} {w w' : World} (h : RS W0 R base v l z w) (hg : w.grownBy w' v.ownBlock) : w'.cell? ⟨R, 0, none⟩ = some v ∧ w'.frozen? ⟨R, 0, none⟩ = false := by
  obtain ⟨h0, h1, h2, h3, ⟨f0, f1, f2⟩, ho0, hb, hs⟩ := h
  have hk : w'.heap[R]? = w.heap[R]? := hg.block R (by omega) (fun e => by have := ho0.fresh' R e; omega)
  exact ⟨(World.cell?_of_block (w := w) hk).trans h3, (World.frozen?_of_block hk).trans f0⟩

set_option maxRecDepth 100000 in
set_option maxHeartbeats 8000000 in
theorem rnew_region (x p : Int) (W0 W : World) (R base : Nat) (v : Value) (l : List Int) (HK : isW p) (HX : InR x) (HKR : InR p) (HZ : InR (x * p))
    (hG : Gr W0 W) (hX0 : RS W0 R base v l x W)
    (v0 v1 v2 v3 v5 v7 v8 v9 v10 v11 v12 v13 v14 v15 v16 v17 v18 v19 v20 v21 v22 v23 v24 v25 v26 v27 v28 v29 v30 v31 v32 v33 v34 v35 v36 v37 v38 v39 v40 v41 v42 v43 v44 v45 v46 v47 v48 v49 v50 v51 v52 v53 v54 v55 v56 v57 v58 v59 v60 v61 v76 s62 s63 s64 s65 s66 s67 s68 s69 s70 s71 s72 s73 s74 s75 : Value) (Q : Exit → Act → World → Prop) (hQ : ∀ (d : Option Tmp) (v : Value) c a w, Q (.panic c) (a.put d v) w → Q (.panic c) a w)
    (hpost : ∀ u62 u63 u64 u65 u66 u67 u68 u69 u70 u71 u72 u73 u74 u75 wx, RS W0 R base v l (x * p) wx → Gr W0 wx → Q .normal { tmps := List.toArray (v0 :: v1 :: v2 :: v3 :: .pointer (some ⟨R, 0, none⟩) :: v5 :: .int .u32 p :: v7 :: v8 :: v9 :: v10 :: v11 :: v12 :: v13 :: v14 :: v15 :: v16 :: v17 :: v18 :: v19 :: v20 :: v21 :: v22 :: v23 :: v24 :: v25 :: v26 :: v27 :: v28 :: v29 :: v30 :: v31 :: v32 :: v33 :: v34 :: v35 :: v36 :: v37 :: v38 :: v39 :: v40 :: v41 :: v42 :: v43 :: v44 :: v45 :: v46 :: v47 :: v48 :: v49 :: v50 :: v51 :: v52 :: v53 :: v54 :: v55 :: v56 :: v57 :: v58 :: v59 :: v60 :: v61 :: u62 :: u63 :: u64 :: u65 :: u66 :: u67 :: u68 :: u69 :: u70 :: u71 :: u72 :: u73 :: u74 :: u75 :: v76 :: ([] : List Value)), defers := [] } wx) :
    (Code.region 16 #[{ dst := some 63, op := Op.move (Operand.tmp 4), type := 29, pos := "ref.go:33", after := #[], guard := none },
      { dst := some 64, op := Op.move (Operand.tmp 4), type := 29, pos := "ref.go:33", after := #[], guard := none },
      { dst := some 65, op := Op.nilCheck (Operand.tmp 64), type := 0, pos := "ref.go:33", after := #[{ on := 1, ground := Ground.data }], guard := none },
      { dst := some 66, op := Op.fieldAddr 62 (Operand.tmp 65) 1, type := 0, pos := "ref.go:33", after := #[{ on := 2, ground := Ground.data }], guard := none },
      { dst := some 67, op := Op.load 24 (Operand.tmp 66), type := 24, pos := "ref.go:33", after := #[{ on := 3, ground := Ground.data }], guard := none },
      { dst := some 68, op := Op.move (Operand.tmp 6), type := 42, pos := "ref.go:33", after := #[], guard := none },
      { dst := some 69, op := Op.convert 42 2 (Operand.tmp 68), type := 2, pos := "ref.go:33", after := #[{ on := 5, ground := Ground.data }], guard := none },
      { dst := some 70, op := Op.call { callee := Callee.value (Operand.func 36), args := #[Operand.tmp 69], argTypes := #[2] }, type := 24, pos := "ref.go:33", after := #[{ on := 6, ground := Ground.data }], guard := none },
      { dst := some 71, op := Op.call { callee := Callee.value (Operand.func 40), args := #[Operand.tmp 67, Operand.tmp 70], argTypes := #[24, 24] }, type := 37, pos := "ref.go:33", after := #[{ on := 4, ground := Ground.data }, { on := 7, ground := Ground.data }, { on := 7, ground := Ground.chain }], guard := none },
      { dst := some 62, op := Op.move (Operand.tmp 71), type := 37, pos := "ref.go:33", after := #[{ on := 8, ground := Ground.data }], guard := none },
      { dst := some 72, op := Op.extract (Operand.tmp 62) 0, type := 24, pos := "ref.go:33", after := #[{ on := 9, ground := Ground.data }], guard := none },
      { dst := some 73, op := Op.extract (Operand.tmp 62) 1, type := 32, pos := "ref.go:33", after := #[{ on := 9, ground := Ground.data }, { on := 14, ground := Ground.gcOnly Departure.lateStores }], guard := none },
      { dst := some 74, op := Op.nilCheck (Operand.tmp 63), type := 0, pos := "ref.go:33", after := #[{ on := 0, ground := Ground.data }, { on := 0, ground := Ground.phase }, { on := 1, ground := Ground.phase }, { on := 2, ground := Ground.phase }, { on := 3, ground := Ground.phase }, { on := 4, ground := Ground.phase }, { on := 5, ground := Ground.phase }, { on := 6, ground := Ground.phase }, { on := 7, ground := Ground.phase }, { on := 8, ground := Ground.phase }, { on := 9, ground := Ground.phase }, { on := 10, ground := Ground.phase }, { on := 11, ground := Ground.textOnly Departure.lateStores }], guard := none },
      { dst := some 75, op := Op.fieldAddr 62 (Operand.tmp 74) 1, type := 0, pos := "ref.go:33", after := #[{ on := 12, ground := Ground.data }, { on := 0, ground := Ground.phase }, { on := 1, ground := Ground.phase }, { on := 2, ground := Ground.phase }, { on := 3, ground := Ground.phase }, { on := 4, ground := Ground.phase }, { on := 5, ground := Ground.phase }, { on := 6, ground := Ground.phase }, { on := 7, ground := Ground.phase }, { on := 8, ground := Ground.phase }, { on := 9, ground := Ground.phase }, { on := 10, ground := Ground.phase }, { on := 11, ground := Ground.textOnly Departure.lateStores }], guard := none },
      { dst := none, op := Op.store 24 (Operand.tmp 75) (Operand.tmp 72), type := 0, pos := "ref.go:33", after := #[{ on := 13, ground := Ground.data }, { on := 10, ground := Ground.data }, { on := 8, ground := Ground.chain }, { on := 0, ground := Ground.phase }, { on := 1, ground := Ground.phase }, { on := 2, ground := Ground.phase }, { on := 3, ground := Ground.phase }, { on := 4, ground := Ground.phase }, { on := 5, ground := Ground.phase }, { on := 6, ground := Ground.phase }, { on := 7, ground := Ground.phase }, { on := 8, ground := Ground.phase }, { on := 9, ground := Ground.phase }, { on := 10, ground := Ground.phase }, { on := 11, ground := Ground.textOnly Departure.lateStores }], guard := none }] true).wp Tryz.prog Q { tmps := List.toArray (v0 :: v1 :: v2 :: v3 :: .pointer (some ⟨R, 0, none⟩) :: v5 :: .int .u32 p :: v7 :: v8 :: v9 :: v10 :: v11 :: v12 :: v13 :: v14 :: v15 :: v16 :: v17 :: v18 :: v19 :: v20 :: v21 :: v22 :: v23 :: v24 :: v25 :: v26 :: v27 :: v28 :: v29 :: v30 :: v31 :: v32 :: v33 :: v34 :: v35 :: v36 :: v37 :: v38 :: v39 :: v40 :: v41 :: v42 :: v43 :: v44 :: v45 :: v46 :: v47 :: v48 :: v49 :: v50 :: v51 :: v52 :: v53 :: v54 :: v55 :: v56 :: v57 :: v58 :: v59 :: v60 :: v61 :: s62 :: s63 :: s64 :: s65 :: s66 :: s67 :: s68 :: s69 :: s70 :: s71 :: s72 :: s73 :: s74 :: s75 :: v76 :: ([] : List Value)), defers := [] } W := by
  refine wp_region_held_drew (S := fun w' => Gr W0 w') (by kernel_rfl) (have g : Gr W0 W.drew := hG.drew; g) (fun hHeld => ?_)
  have hw : IntKind.i64.wrap p = p := IntWalk.i64_in _ (by have a := HK.1; have b := HK.2; omega)
  refine chain_any (fun G out inn => ?_)
  have st12 : ∀ (w : World), (fun w' => Gr W0 w') w → RS W0 R base v l x w → G 1 #[true, true, true, true, true, true, true, true, true, true, true, true, true, true, false] { tmps := List.toArray (v0 :: v1 :: v2 :: v3 :: .pointer (some ⟨R, 0, none⟩) :: v5 :: .int .u32 p :: v7 :: v8 :: v9 :: v10 :: v11 :: v12 :: v13 :: v14 :: v15 :: v16 :: v17 :: v18 :: v19 :: v20 :: v21 :: v22 :: v23 :: v24 :: v25 :: v26 :: v27 :: v28 :: v29 :: v30 :: v31 :: v32 :: v33 :: v34 :: v35 :: v36 :: v37 :: v38 :: v39 :: v40 :: v41 :: v42 :: v43 :: v44 :: v45 :: v46 :: v47 :: v48 :: v49 :: v50 :: v51 :: v52 :: v53 :: v54 :: v55 :: v56 :: v57 :: v58 :: v59 :: v60 :: v61 :: .tuple #[wv (x * p), .int .i64 0] :: .pointer (some ⟨R, 0, none⟩) :: .pointer (some ⟨R, 0, none⟩) :: .pointer (some ⟨R, 0, none⟩) :: .pointer (some ⟨R, 1, none⟩) :: wv x :: .int .u32 p :: .int .i64 p :: wv p :: .tuple #[wv (x * p), .int .i64 0] :: wv (x * p) :: .int .i64 0 :: .pointer (some ⟨R, 0, none⟩) :: .pointer (some ⟨R, 1, none⟩) :: v76 :: ([] : List Value)), defers := [] } w := by
    intro w hS hX
    refine inn _ _ _ _ ?_
    have hP := hX.put (x * p)
    have c1 := hX.2.1
    have c2 := hX.2.2.1
    have f1 := hX.2.2.2.2.1.2.1
    have f2 := hX.2.2.2.2.1.2.2
    refine wpAnyH_ready (rs := [14]) (by kernel_rfl) (by simp) ?_
    refine AllReadyH.cons (o := { dst := none, op := Op.store 24 (Operand.tmp 75) (Operand.tmp 72), type := 0, pos := "ref.go:33", after := #[{ on := 13, ground := Ground.data }, { on := 10, ground := Ground.data }, { on := 8, ground := Ground.chain }, { on := 0, ground := Ground.phase }, { on := 1, ground := Ground.phase }, { on := 2, ground := Ground.phase }, { on := 3, ground := Ground.phase }, { on := 4, ground := Ground.phase }, { on := 5, ground := Ground.phase }, { on := 6, ground := Ground.phase }, { on := 7, ground := Ground.phase }, { on := 8, ground := Ground.phase }, { on := 9, ground := Ground.phase }, { on := 10, ground := Ground.phase }, { on := 11, ground := Ground.textOnly Departure.lateStores }], guard := none }) rfl (fun K hK => ?_) AllReadyH.nil
    unfold wv
    go_simp
    have g2 : Gr W0 ((w.setCell ⟨R, 1, none⟩ (.bool (decide (x * p < 0)))).setCell ⟨R, 2, none⟩ (.string (bstr (x * p).natAbs))) := (hS.setCell (p := ⟨R, 1, none⟩) hX.1 _).setCell (p := ⟨R, 2, none⟩) hX.1 _
    refine hK.out _ _ g2 (fun hHeld => ?_)
    clear hK K
    (simp only [Act.put, List.setIfInBounds_toArray, List.set_cons_zero, List.set_cons_succ])
    refine wpAnyH_done (by kernel_rfl) ?_ _
    exact hpost _ _ _ _ _ _ _ _ _ _ _ _ _ _ _ hP g2
  have st11 : ∀ (w : World), (fun w' => Gr W0 w') w → RS W0 R base v l x w → G 7 #[true, true, true, true, true, true, true, true, false, false, false, false, false, false, false] { tmps := List.toArray (v0 :: v1 :: v2 :: v3 :: .pointer (some ⟨R, 0, none⟩) :: v5 :: .int .u32 p :: v7 :: v8 :: v9 :: v10 :: v11 :: v12 :: v13 :: v14 :: v15 :: v16 :: v17 :: v18 :: v19 :: v20 :: v21 :: v22 :: v23 :: v24 :: v25 :: v26 :: v27 :: v28 :: v29 :: v30 :: v31 :: v32 :: v33 :: v34 :: v35 :: v36 :: v37 :: v38 :: v39 :: v40 :: v41 :: v42 :: v43 :: v44 :: v45 :: v46 :: v47 :: v48 :: v49 :: v50 :: v51 :: v52 :: v53 :: v54 :: v55 :: v56 :: v57 :: v58 :: v59 :: v60 :: v61 :: s62 :: .pointer (some ⟨R, 0, none⟩) :: .pointer (some ⟨R, 0, none⟩) :: .pointer (some ⟨R, 0, none⟩) :: .pointer (some ⟨R, 1, none⟩) :: wv x :: .int .u32 p :: .int .i64 p :: wv p :: s71 :: s72 :: s73 :: s74 :: s75 :: v76 :: ([] : List Value)), defers := [] } w := by
    intro w hS hX
    refine inn _ _ _ _ ?_
    refine wpAnyH_ready (rs := [8]) (by kernel_rfl) (by simp) ?_
    refine AllReadyH.cons (o := { dst := some 71, op := Op.call { callee := Callee.value (Operand.func 40), args := #[Operand.tmp 67, Operand.tmp 70], argTypes := #[24, 24] }, type := 37, pos := "ref.go:33", after := #[{ on := 4, ground := Ground.data }, { on := 7, ground := Ground.data }, { on := 7, ground := Ground.chain }], guard := none }) rfl (fun K hK => ?_) ?_
    · go_simp
      go_at_call 40
      refine (rwmul_any x p _ HX HKR HZ).mono ?_
      rintro e w' ⟨rfl, g⟩
      go_wp2_with fail
      refine hK.out _ _ (hS.trans g) (fun hHeld => ?_)
      (simp only [Act.put, List.setIfInBounds_toArray, List.set_cons_zero, List.set_cons_succ])
      refine wpAnyH_take (i := 9) (oi := { dst := some 62, op := Op.move (Operand.tmp 71), type := 37, pos := "ref.go:33", after := #[{ on := 8, ground := Ground.data }], guard := none }) (v := ?_) rfl (by kernel_rfl) (by kernel_rfl) (by kernel_rfl) (hQ _ _) (_root_.Or.inl ⟨by rfl, ?_⟩) (by assumption) ?_
      rotate_left
      · intro w0 hSw; (try dsimp only at hSw); go_simp; try with_reducible rfl
      (simp only [Act.put, List.setIfInBounds_toArray, List.set_cons_zero, List.set_cons_succ])
      refine wpAnyH_take (i := 10) (oi := { dst := some 72, op := Op.extract (Operand.tmp 62) 0, type := 24, pos := "ref.go:33", after := #[{ on := 9, ground := Ground.data }], guard := none }) (v := ?_) rfl (by kernel_rfl) (by kernel_rfl) (by kernel_rfl) (hQ _ _) (_root_.Or.inl ⟨by rfl, ?_⟩) (by assumption) ?_
      rotate_left
      · intro w0 hSw; (try dsimp only at hSw); go_simp; try with_reducible rfl
      (simp only [Act.put, List.setIfInBounds_toArray, List.set_cons_zero, List.set_cons_succ])
      refine wpAnyH_take (i := 11) (oi := { dst := some 73, op := Op.extract (Operand.tmp 62) 1, type := 32, pos := "ref.go:33", after := #[{ on := 9, ground := Ground.data }, { on := 14, ground := Ground.gcOnly Departure.lateStores }], guard := none }) (v := ?_) rfl (by kernel_rfl) (by kernel_rfl) (by kernel_rfl) (hQ _ _) (_root_.Or.inl ⟨by rfl, ?_⟩) (by assumption) ?_
      rotate_left
      · intro w0 hSw; (try dsimp only at hSw); go_simp; try with_reducible rfl
      (simp only [Act.put, List.setIfInBounds_toArray, List.set_cons_zero, List.set_cons_succ])
      refine wpAnyH_take (i := 12) (oi := { dst := some 74, op := Op.nilCheck (Operand.tmp 63), type := 0, pos := "ref.go:33", after := #[{ on := 0, ground := Ground.data }, { on := 0, ground := Ground.phase }, { on := 1, ground := Ground.phase }, { on := 2, ground := Ground.phase }, { on := 3, ground := Ground.phase }, { on := 4, ground := Ground.phase }, { on := 5, ground := Ground.phase }, { on := 6, ground := Ground.phase }, { on := 7, ground := Ground.phase }, { on := 8, ground := Ground.phase }, { on := 9, ground := Ground.phase }, { on := 10, ground := Ground.phase }, { on := 11, ground := Ground.textOnly Departure.lateStores }], guard := none }) (v := ?_) rfl (by kernel_rfl) (by kernel_rfl) (by kernel_rfl) (hQ _ _) (_root_.Or.inl ⟨by rfl, ?_⟩) (by assumption) ?_
      rotate_left
      · intro w0 hSw; (try dsimp only at hSw); go_simp; try with_reducible rfl
      (simp only [Act.put, List.setIfInBounds_toArray, List.set_cons_zero, List.set_cons_succ])
      refine wpAnyH_take (i := 13) (oi := { dst := some 75, op := Op.fieldAddr 62 (Operand.tmp 74) 1, type := 0, pos := "ref.go:33", after := #[{ on := 12, ground := Ground.data }, { on := 0, ground := Ground.phase }, { on := 1, ground := Ground.phase }, { on := 2, ground := Ground.phase }, { on := 3, ground := Ground.phase }, { on := 4, ground := Ground.phase }, { on := 5, ground := Ground.phase }, { on := 6, ground := Ground.phase }, { on := 7, ground := Ground.phase }, { on := 8, ground := Ground.phase }, { on := 9, ground := Ground.phase }, { on := 10, ground := Ground.phase }, { on := 11, ground := Ground.textOnly Departure.lateStores }], guard := none }) (v := ?_) rfl (by kernel_rfl) (by kernel_rfl) (by kernel_rfl) (hQ _ _) (_root_.Or.inl ⟨by rfl, ?_⟩) (by assumption) ?_
      rotate_left
      · intro w0 hSw; (try dsimp only at hSw); go_simp; try with_reducible rfl
      (simp only [Act.put, List.setIfInBounds_toArray, List.set_cons_zero, List.set_cons_succ])
      exact out _ _ _ _ (st12 _ hHeld (hX.later g))
    exact AllReadyH.nil
  have st01 : ∀ (w : World), (fun w' => Gr W0 w') w → RS W0 R base v l x w → G 8 #[true, true, true, true, false, true, true, true, false, false, false, false, false, false, false] { tmps := List.toArray (v0 :: v1 :: v2 :: v3 :: .pointer (some ⟨R, 0, none⟩) :: v5 :: .int .u32 p :: v7 :: v8 :: v9 :: v10 :: v11 :: v12 :: v13 :: v14 :: v15 :: v16 :: v17 :: v18 :: v19 :: v20 :: v21 :: v22 :: v23 :: v24 :: v25 :: v26 :: v27 :: v28 :: v29 :: v30 :: v31 :: v32 :: v33 :: v34 :: v35 :: v36 :: v37 :: v38 :: v39 :: v40 :: v41 :: v42 :: v43 :: v44 :: v45 :: v46 :: v47 :: v48 :: v49 :: v50 :: v51 :: v52 :: v53 :: v54 :: v55 :: v56 :: v57 :: v58 :: v59 :: v60 :: v61 :: s62 :: .pointer (some ⟨R, 0, none⟩) :: .pointer (some ⟨R, 0, none⟩) :: .pointer (some ⟨R, 0, none⟩) :: .pointer (some ⟨R, 1, none⟩) :: s67 :: .int .u32 p :: .int .i64 p :: wv p :: s71 :: s72 :: s73 :: s74 :: s75 :: v76 :: ([] : List Value)), defers := [] } w := by
    intro w hS hX
    refine inn _ _ _ _ ?_
    refine wpAnyH_ready (rs := [4]) (by kernel_rfl) (by simp) ?_
    refine AllReadyH.cons (o := { dst := some 67, op := Op.load 24 (Operand.tmp 66), type := 24, pos := "ref.go:33", after := #[{ on := 3, ground := Ground.data }], guard := none }) rfl (fun K hK => ?_) ?_
    · have c1 := hX.2.1
      have c2 := hX.2.2.1
      go_simp
      refine hK.out _ _ hS (fun hHeld => ?_)
      (simp only [Act.put, List.setIfInBounds_toArray, List.set_cons_zero, List.set_cons_succ])
      exact out _ _ _ _ (st11 _ hHeld hX)
    exact AllReadyH.nil
  have st10 : ∀ (w : World), (fun w' => Gr W0 w') w → RS W0 R base v l x w → G 8 #[true, true, true, true, true, true, true, false, false, false, false, false, false, false, false] { tmps := List.toArray (v0 :: v1 :: v2 :: v3 :: .pointer (some ⟨R, 0, none⟩) :: v5 :: .int .u32 p :: v7 :: v8 :: v9 :: v10 :: v11 :: v12 :: v13 :: v14 :: v15 :: v16 :: v17 :: v18 :: v19 :: v20 :: v21 :: v22 :: v23 :: v24 :: v25 :: v26 :: v27 :: v28 :: v29 :: v30 :: v31 :: v32 :: v33 :: v34 :: v35 :: v36 :: v37 :: v38 :: v39 :: v40 :: v41 :: v42 :: v43 :: v44 :: v45 :: v46 :: v47 :: v48 :: v49 :: v50 :: v51 :: v52 :: v53 :: v54 :: v55 :: v56 :: v57 :: v58 :: v59 :: v60 :: v61 :: s62 :: .pointer (some ⟨R, 0, none⟩) :: .pointer (some ⟨R, 0, none⟩) :: .pointer (some ⟨R, 0, none⟩) :: .pointer (some ⟨R, 1, none⟩) :: wv x :: .int .u32 p :: .int .i64 p :: s70 :: s71 :: s72 :: s73 :: s74 :: s75 :: v76 :: ([] : List Value)), defers := [] } w := by
    intro w hS hX
    refine inn _ _ _ _ ?_
    refine wpAnyH_ready (rs := [7]) (by kernel_rfl) (by simp) ?_
    refine AllReadyH.cons (o := { dst := some 70, op := Op.call { callee := Callee.value (Operand.func 36), args := #[Operand.tmp 69], argTypes := #[2] }, type := 24, pos := "ref.go:33", after := #[{ on := 6, ground := Ground.data }], guard := none }) rfl (fun K hK => ?_) ?_
    · go_simp
      go_at_call 36
      refine (rwof_any p _ HK).mono ?_
      rintro e w' ⟨rfl, g⟩
      go_wp2_with fail
      refine hK.out _ _ (hS.trans g) (fun hHeld => ?_)
      (simp only [Act.put, List.setIfInBounds_toArray, List.set_cons_zero, List.set_cons_succ])
      exact out _ _ _ _ (st11 _ hHeld (hX.later g))
    exact AllReadyH.nil
  have st00 : ∀ (w : World), (fun w' => Gr W0 w') w → RS W0 R base v l x w → G 9 #[true, true, true, true, false, true, true, false, false, false, false, false, false, false, false] { tmps := List.toArray (v0 :: v1 :: v2 :: v3 :: .pointer (some ⟨R, 0, none⟩) :: v5 :: .int .u32 p :: v7 :: v8 :: v9 :: v10 :: v11 :: v12 :: v13 :: v14 :: v15 :: v16 :: v17 :: v18 :: v19 :: v20 :: v21 :: v22 :: v23 :: v24 :: v25 :: v26 :: v27 :: v28 :: v29 :: v30 :: v31 :: v32 :: v33 :: v34 :: v35 :: v36 :: v37 :: v38 :: v39 :: v40 :: v41 :: v42 :: v43 :: v44 :: v45 :: v46 :: v47 :: v48 :: v49 :: v50 :: v51 :: v52 :: v53 :: v54 :: v55 :: v56 :: v57 :: v58 :: v59 :: v60 :: v61 :: s62 :: .pointer (some ⟨R, 0, none⟩) :: .pointer (some ⟨R, 0, none⟩) :: .pointer (some ⟨R, 0, none⟩) :: .pointer (some ⟨R, 1, none⟩) :: s67 :: .int .u32 p :: .int .i64 p :: s70 :: s71 :: s72 :: s73 :: s74 :: s75 :: v76 :: ([] : List Value)), defers := [] } w := by
    intro w hS hX
    refine inn _ _ _ _ ?_
    refine wpAnyH_ready (rs := [4, 7]) (by kernel_rfl) (by simp) ?_
    refine AllReadyH.cons (o := { dst := some 67, op := Op.load 24 (Operand.tmp 66), type := 24, pos := "ref.go:33", after := #[{ on := 3, ground := Ground.data }], guard := none }) rfl (fun K hK => ?_) ?_
    · have c1 := hX.2.1
      have c2 := hX.2.2.1
      go_simp
      refine hK.out _ _ hS (fun hHeld => ?_)
      (simp only [Act.put, List.setIfInBounds_toArray, List.set_cons_zero, List.set_cons_succ])
      exact out _ _ _ _ (st10 _ hHeld hX)
    refine AllReadyH.cons (o := { dst := some 70, op := Op.call { callee := Callee.value (Operand.func 36), args := #[Operand.tmp 69], argTypes := #[2] }, type := 24, pos := "ref.go:33", after := #[{ on := 6, ground := Ground.data }], guard := none }) rfl (fun K hK => ?_) ?_
    · go_simp
      go_at_call 36
      refine (rwof_any p _ HK).mono ?_
      rintro e w' ⟨rfl, g⟩
      go_wp2_with fail
      refine hK.out _ _ (hS.trans g) (fun hHeld => ?_)
      (simp only [Act.put, List.setIfInBounds_toArray, List.set_cons_zero, List.set_cons_succ])
      exact out _ _ _ _ (st01 _ hHeld (hX.later g))
    exact AllReadyH.nil
  show wpAnyH _ _ _ _ _ 15 #[false, false, false, false, false, false, false, false, false, false, false, false, false, false, false] _ _
  refine wpAnyH_take (i := 0) (oi := { dst := some 63, op := Op.move (Operand.tmp 4), type := 29, pos := "ref.go:33", after := #[], guard := none }) (v := ?_) rfl (by kernel_rfl) (by kernel_rfl) (by kernel_rfl) (hQ _ _) (_root_.Or.inl ⟨by rfl, ?_⟩) (by assumption) ?_
  rotate_left
  · intro w0 hSw; (try dsimp only at hSw); go_simp; try with_reducible rfl
  (simp only [Act.put, List.setIfInBounds_toArray, List.set_cons_zero, List.set_cons_succ])
  refine wpAnyH_take (i := 1) (oi := { dst := some 64, op := Op.move (Operand.tmp 4), type := 29, pos := "ref.go:33", after := #[], guard := none }) (v := ?_) rfl (by kernel_rfl) (by kernel_rfl) (by kernel_rfl) (hQ _ _) (_root_.Or.inl ⟨by rfl, ?_⟩) (by assumption) ?_
  rotate_left
  · intro w0 hSw; (try dsimp only at hSw); go_simp; try with_reducible rfl
  (simp only [Act.put, List.setIfInBounds_toArray, List.set_cons_zero, List.set_cons_succ])
  refine wpAnyH_take (i := 2) (oi := { dst := some 65, op := Op.nilCheck (Operand.tmp 64), type := 0, pos := "ref.go:33", after := #[{ on := 1, ground := Ground.data }], guard := none }) (v := ?_) rfl (by kernel_rfl) (by kernel_rfl) (by kernel_rfl) (hQ _ _) (_root_.Or.inl ⟨by rfl, ?_⟩) (by assumption) ?_
  rotate_left
  · intro w0 hSw; (try dsimp only at hSw); go_simp; try with_reducible rfl
  (simp only [Act.put, List.setIfInBounds_toArray, List.set_cons_zero, List.set_cons_succ])
  refine wpAnyH_take (i := 3) (oi := { dst := some 66, op := Op.fieldAddr 62 (Operand.tmp 65) 1, type := 0, pos := "ref.go:33", after := #[{ on := 2, ground := Ground.data }], guard := none }) (v := ?_) rfl (by kernel_rfl) (by kernel_rfl) (by kernel_rfl) (hQ _ _) (_root_.Or.inl ⟨by rfl, ?_⟩) (by assumption) ?_
  rotate_left
  · intro w0 hSw; (try dsimp only at hSw); go_simp; try with_reducible rfl
  (simp only [Act.put, List.setIfInBounds_toArray, List.set_cons_zero, List.set_cons_succ])
  refine wpAnyH_take (i := 5) (oi := { dst := some 68, op := Op.move (Operand.tmp 6), type := 42, pos := "ref.go:33", after := #[], guard := none }) (v := ?_) rfl (by kernel_rfl) (by kernel_rfl) (by kernel_rfl) (hQ _ _) (_root_.Or.inl ⟨by rfl, ?_⟩) (by assumption) ?_
  rotate_left
  · intro w0 hSw; (try dsimp only at hSw); go_simp; try with_reducible rfl
  (simp only [Act.put, List.setIfInBounds_toArray, List.set_cons_zero, List.set_cons_succ])
  refine wpAnyH_take (i := 6) (oi := { dst := some 69, op := Op.convert 42 2 (Operand.tmp 68), type := 2, pos := "ref.go:33", after := #[{ on := 5, ground := Ground.data }], guard := none }) (v := ?_) rfl (by kernel_rfl) (by kernel_rfl) (by kernel_rfl) (hQ _ _) (_root_.Or.inl ⟨by rfl, ?_⟩) (by assumption) ?_
  rotate_left
  · intro w0 hSw; (try dsimp only at hSw); go_simp; try with_reducible rfl
  (simp only [Act.put, List.setIfInBounds_toArray, List.set_cons_zero, List.set_cons_succ])
  try rw [hw]
  exact out _ _ _ _ (st00 _ hHeld (hX0.later (Gr.refl W).drew))
end Go.Proofs.YtfpdemmdkiohhaaGreat.Mo
/- The reference of package residue: New. -/
namespace Go.Proofs.YtfpdemmdkiohhaaGreat.Mo
open Go.RowKit
set_option linter.unusedVariables false

/-- A place that holds a system of the reference; it and its numbers lie behind b. -/
def RefSys (b : Nat) (W : World) (R : Nat) (l : List Int) : Prop := b ≤ R ∧ ∃ v, W.cell? ⟨R, 0, none⟩ = some v ∧ HasP W v l ∧ (∀ B, some B = v.ownBlock → b ≤ B) ∧ W.cell? ⟨R, 1, none⟩ = some (.bool (decide (Or.pr l < 0))) ∧ W.cell? ⟨R, 2, none⟩ = some (.string (bstr (Or.pr l).natAbs))
theorem RefSys.later {b : Nat} {W W' : World} {R : Nat} {l : List Int} (h : RefSys b W R l) (g : Gr W W') : RefSys b W' R l := by
  obtain ⟨h0, v, h1, h2, h3, h4, h5⟩ := h
  exact ⟨h0, v, g.keeps h1, h2.later g, h3, g.keeps h4, g.keeps h5⟩
/-- What New returns. -/
def NewRef (l : List Int) (w : World) (e : Ending) (w' : World) : Prop := Gr w w' ∧ ((Dis l ∧ ∃ R, e = .returned (.tuple #[.pointer (some ⟨R, 0, none⟩), .int .i64 0]) ∧ RefSys w.heap.size w' R l) ∨ (¬ Dis l ∧ e = .returned (.tuple #[.pointer none, .int .i64 2])))
theorem not_take {l : List Int} {k : Nat} {q : Int} (hk : k ≤ l.length) (h : ∀ i, i < k → Op.cf l i ≠ q) : ¬ q ∈ l.take k := by
  intro hm
  obtain ⟨j, hj, e⟩ := List.getElem_of_mem hm
  have hj' : j < k := by rw [List.length_take] at hj; omega
  have h1 := h j hj'
  rw [cf_get (by omega)] at h1
  rw [List.getElem_take] at e
  exact h1 e
theorem in_take {l : List Int} {k j : Nat} {q : Int} (hj : j < k) (hk : k ≤ l.length) (h : Op.cf l j = q) : q ∈ l.take k := by
  have h1 : j < (l.take k).length := by rw [List.length_take]; omega
  have h2 := Op.cf_mem h1
  rwa [Op.cf_take, if_pos hj, h] at h2

set_option maxRecDepth 100000 in
set_option maxHeartbeats 8000000 in
theorem rnew_any (l : List Int) (v : Value) (w : World) (hv : HasP w v l) : Calls Tryz.prog 23 #[v] w (NewRef l w) := by
  obtain ⟨-, xa, ca, rfl, -, hcap, -⟩ := id hv
  obtain ⟨n, hn⟩ : ∃ n, n = l.length := ⟨_, rfl⟩
  have hlen := hv.len
  rw [← hn] at hv hlen ⊢
  have HV := Lib.hid hv
  have HN := Lib.hid hn
  have hnb : n ≤ 9223372036854775807 := by omega
  clear hv hn hlen hcap
  have hc : n < 1 ∨ (¬ n < 1 ∧ 25 < n) ∨ (¬ n < 1 ∧ n ≤ 25) := by omega
  rcases hc with h1 | ⟨h1, h2⟩ | ⟨h1, h2⟩
  · have i1 : (n : Int) < 1 := by omega
    go_enter Tryz.func23, Tryz.ntmps23
    go_wp2_with fail
    go_ret2
    exact ⟨Gr.refl w, .inr ⟨fun h => by have := h.1; have := HN.out; omega, rfl⟩⟩
  · have i1 : ¬ (n : Int) < 1 := by omega
    have i2 : (n : Int) > 25 := by omega
    go_enter Tryz.func23, Tryz.ntmps23
    go_wp2_with fail
    go_ret2
    exact ⟨Gr.refl w, .inr ⟨fun h => by have := h.2.1; have := HN.out; omega, rfl⟩⟩
  · have i1 : ¬ (n : Int) < 1 := by omega
    have i2 : ¬ (n : Int) > 25 := by omega
    go_enter Tryz.func23, Tryz.ntmps23
    go_wp2_with fail
    refine (rwof_any 1 _ ⟨by omega, by omega⟩).mono ?_
    rintro e w0 ⟨rfl, hg⟩
    have HG0 := Lib.hid hg
    clear hg
    unfold wv
    go_wp2_with fail
    obtain ⟨W, hW⟩ : ∃ W : World, W = (w0.alloc (.cells #[.slice none 0 0, .bool false, .string (bstr 1)] 62)) := ⟨_, rfl⟩
    rw [← hW]
    have HG := Lib.hid (show Gr w0 W by rw [hW]; exact Gr.new w0 _)
    have HRS := Lib.hid (show RS w0 w0.heap.size (w0.heap.size + 1) (.slice none 0 0) [] 1 W from ⟨Nat.le_refl _, by rw [hW]; simp [go_sem], by rw [hW]; simp [go_sem], by rw [hW]; simp [go_sem], ⟨by rw [hW]; simp [go_sem], by rw [hW]; simp [go_sem], by rw [hW]; simp [go_sem]⟩, Own1.nil _ _, by omega, by rw [hW]; simp [go_sem]⟩)
    clear hW
    obtain ⟨R, hR⟩ : ∃ R, R = w0.heap.size := ⟨_, rfl⟩
    rw [← hR] at HRS ⊢
    have HRR := Lib.hid hR
    clear hR
    go_loopw [5] (fun t wr => ∃ (k : Nat) (vs : Value), t = .int .i64 k ∧ k ≤ n ∧ (∀ i, i < k → 3 ≤ Op.cf l i ∧ Op.cf l i ≤ 2147483647 ∧ Prm (Op.cf l i).toNat ∧ ¬ Op.cf l i ∈ l.take i) ∧ RS w0 R (R + 1) vs (l.take k) (Or.pr (l.take k)) wr ∧ Gr w0 wr) (fun t _ => n - (intOf t).toNat)
    case atStart => exact ⟨0, _, rfl, by omega, fun j hj => by omega, HRS.out, HG.out⟩
    case round =>
      obtain ⟨k, vs, rfl, hk, hlow, hrs, hg⟩ := hrel
      have HLOW := Lib.hid hlow
      have HGR := Lib.hid hg
      have HRSK := Lib.hid hrs
      clear hlow hg hrs
      by_cases hlt : k < n
      · have hk0 : (0 : Int) ≤ (k : Int) := by omega
        have hk1 : (k : Int) < (n : Int) := by omega
        have hkl : k < l.length := by have := HN.out; omega
        have HKL := Lib.hid hkl
        obtain ⟨gx, ox, rfl, hcx⟩ : ∃ gx ox, xa = some ⟨gx, ox, none⟩ ∧ wr.cell? ⟨gx, ox + k, none⟩ = some (.int .u32 (Op.cf l k)) := by
          obtain ⟨_, a, c', e, _, _, h3⟩ := (HV.out.later HG0.out).later HGR.out
          cases e
          obtain ⟨gx, ox, e, hc⟩ := h3 k hkl
          exact ⟨gx, ox, e, hc⟩
        have hqb := HV.out.1.at_ k
        obtain ⟨q, hq⟩ : ∃ q : Nat, (q : Int) = Op.cf l k := ⟨(Op.cf l k).toNat, Int.toNat_of_nonneg hqb.1⟩
        rw [← hq] at hcx hqb
        have HQ := Lib.hid hq
        clear hq hkl
        obtain ⟨m2, hm2⟩ : ∃ m : Int, m = (q : Int) % 2 := ⟨_, rfl⟩
        have hmt : Int.tmod (q : Int) 2 = m2 := by rw [hm2, Int.tmod_eq_emod_of_nonneg (by omega)]
        have hmb : 0 ≤ m2 ∧ m2 < 2 := by omega
        have HM2 := Lib.hid hm2
        clear hm2
        have hcase : m2 = 0 ∨ (m2 = 1 ∧ (q : Int) > 2147483647) ∨ (m2 = 1 ∧ ¬ (q : Int) > 2147483647) := by omega
        rcases hcase with rfl | ⟨rfl, h4⟩ | ⟨rfl, h4⟩
        · have HOD := Lib.hid (show ¬ Dis l from fun h => by
            have h5 := h.at_pr HKL.out
            have h6 := (h.2.2 k HKL.out).1
            have h7 := pr_odd h5 h6
            have := HQ.out
            have := HM2.out
            omega)
          go_wp2_with fail
          go_ret2
          exact ⟨HG0.out.trans HGR.out, .inr ⟨HOD.out, rfl⟩⟩
        · go_wp2_with fail
          go_ret2
          exact ⟨HG0.out.trans HGR.out, .inr ⟨fun h => by have := (h.2.2 k HKL.out).2.1; have := HQ.out; omega, rfl⟩⟩
        · go_wp2_with fail
          refine (rprime_any q _ (by omega)).mono ?_
          rintro e w1 ⟨b, rfl, hb, hg⟩
          have HB := Lib.hid (hb.trans (prm_iff q).symm)
          have hcx := hg.keeps hcx
          have HG1 := Lib.hid (HGR.out.trans hg)
          have HRS1 := Lib.hid (HRSK.out.later hg)
          clear hb hg
          cases b with
          | false =>
            go_wp2_with fail
            go_ret2
            refine ⟨HG0.out.trans HG1.out, .inr ⟨fun h => ?_, rfl⟩⟩
            have h5 := (h.2.2 k HKL.out).2.2.1
            rw [← HQ.out, Int.toNat_natCast] at h5
            exact absurd (HB.out.2 h5) (by simp)
          | true =>
            go_wp2_with fail
            go_loopw [7] (fun t wi => ∃ j : Nat, t = .int .i64 j ∧ j ≤ k ∧ (∀ i, i < j → Op.cf l i ≠ q) ∧ wi = w1) (fun t _ => k - (intOf t).toNat)
            case atStart => exact ⟨0, rfl, by omega, fun i hi => by omega, rfl⟩
            case round =>
              obtain ⟨j, rfl, hj, hne, rfl⟩ := hrel
              have HNE := Lib.hid hne
              clear hne
              by_cases hjk : j < k
              · have j0 : (0 : Int) ≤ (j : Int) := by omega
                have j1 : (j : Int) < (k : Int) := by omega
                have j2 : (j : Int) < (n : Int) := by omega
                have hcj : wr.cell? ⟨gx, ox + j, none⟩ = some (.int .u32 (Op.cf l j)) := by
                  obtain ⟨_, a, c', e, _, _, h3⟩ := (HV.out.later HG0.out).later HG1.out
                  cases e
                  obtain ⟨gx', ox', e, hc⟩ := h3 j (by have := HN.out; omega)
                  cases e
                  exact hc
                obtain ⟨p, hp⟩ : ∃ p, p = Op.cf l j := ⟨_, rfl⟩
                rw [← hp] at hcj
                have HP := Lib.hid hp
                clear hp
                by_cases hpq : p = (q : Int)
                · have hb : (p == (q : Int)) = true := by simp [hpq]
                  have HD := Lib.hid (show ¬ Dis l from fun h => by
                    have h5 := (h.2.2 k HKL.out).2.2.2
                    rw [← HQ.out] at h5
                    exact h5 (in_take hjk (by have := HKL.out; omega) (by rw [← HP.out]; exact hpq)))
                  clear hpq
                  go_wp2_with fail
                  go_ret2
                  exact ⟨HG0.out.trans HG1.out, .inr ⟨HD.out, rfl⟩⟩
                · have hb : (p == (q : Int)) = false := by simpa using hpq
                  have HPQ := Lib.hid hpq
                  clear hpq
                  go_wp2_with fail
                  go_roundw
                  case rel =>
                    refine ⟨j + 1, by simp, by omega, fun i hi => ?_, by first | rfl | trivial⟩
                    by_cases hij : i = j
                    · subst hij; rw [← HP.out]; exact HPQ.out
                    · exact HNE.out i (by omega)
                  case measure => simp [intOf]; omega
              · obtain rfl : j = k := by omega
                have j1 : ¬ (j : Int) < (j : Int) := by omega
                have hkl := HKL.out
                have hln : (l.take j).length = j := by rw [List.length_take]; omega
                have hst := Or.pr_take_succ hkl
                rw [at_cf, ← HQ.out] at hst
                have hts := Or.take_succ hkl
                rw [at_cf, ← HQ.out] at hts
                have HST := Lib.hid hst
                have HTS := Lib.hid hts
                have HQN := Lib.hid (not_take (by omega) HNE.out)
                have HOKL := Lib.hid (show okL (l.take (j + 1)) from fun y hy => by
                  obtain ⟨i, hi, rfl⟩ := List.getElem_of_mem hy
                  rw [List.length_take] at hi
                  have e : (l.take (j + 1))[i] = Op.cf l i := by rw [List.getElem_take, cf_get (by omega)]
                  rw [e]
                  by_cases hij : i = j
                  · subst hij
                    have hpp := HB.out.1 (by simp)
                    rw [← HQ.out]
                    have h3 : ¬ q = 2 := fun e => by have := HM2.out; omega
                    rcases hpp with hpp | hpp <;> omega
                  · have := HLOW.out i (by omega); omega)
                have HK1 := Lib.hid (show InR (Or.pr (l.take j)) from by
                  have h5 : okL (l.take j) := fun y hy => HOKL.out y (by rw [hts]; exact List.mem_append_left _ hy)
                  exact inR_pr h5 (by omega))
                have HK2 := Lib.hid (show InR (Or.pr (l.take j) * (q : Int)) from by rw [← hst]; exact inR_pr HOKL.out (by rw [List.length_take]; omega))
                have HQW := Lib.hid (show isW (q : Int) from ⟨by omega, by omega⟩)
                clear hst hts hkl hcx
                obtain ⟨va, vc, e, -, -⟩ := HRS1.out.2.2.2.2.2.1.form
                rw [hln] at e
                subst e
                have c0 := HRS1.out.2.2.2.1
                have gz := Gr.new wr (.cells #[.int .u32 (q : Int)] 42)
                have HRS2 := Lib.hid (HRS1.out.later gz)
                have HG2 := Lib.hid (HG1.out.trans gz)
                have HONE := Lib.hid (one_hasP wr (q : Int) ⟨by omega, by omega⟩)
                have HLE := Lib.hid (show (l.take j).length + [(q : Int)].length ≤ 1000000 by rw [hln]; simp; omega)
                clear gz
                go_wp2_with (at_builtin; refine wpList_app rfl (.tmp 56) (.tmp 58) rfl rfl (R + 1) _ (l.take j) rfl HRS2.out.2.2.2.2.2.1 _ [(q : Int)] rfl HONE.out HLE.out HRS2.out.2.2.2.2.2.2.2 ?_; intro v' w3 hown hgrow; obtain ⟨an, cn, e, -, -⟩ := hown.form; rw [List.length_append, hln] at e; change v' = .slice an (j + 1) cn at e; subst e; have c0 := (HRS2.out.grow_cell hgrow).1; have f0 := (HRS2.out.grow_cell hgrow).2; have HRS3 := Lib.hid (HRS2.out.grow hown hgrow); have HG3 := Lib.hid ((grown_own HG2.out HRS2.out.2.2.2.2.2.1 hgrow (by have := HRR.out; omega)).setCell (p := ⟨R, 0, none⟩) (by have := HRR.out; show w0.heap.size ≤ R; omega) (.slice an (j + 1) cn)); clear hown hgrow)
                refine wp_region_noPanic ?_
                refine rnew_region (Or.pr (l.take j)) q w0 _ R (R + 1) _ (l.take j ++ [(q : Int)]) HQW.out HK1.out (inR_small HQW.out) HK2.out HG3.out HRS3.out _ _ _ _ _ _ _ _ _ _ _ _ _ _ _ _ _ _ _ _ _ _ _ _ _ _ _ _ _ _ _ _ _ _ _ _ _ _ _ _ _ _ _ _ _ _ _ _ _ _ _ _ _ _ _ _ _ _ _ _ _ _ _ _ _ _ _ _ _ _ _ _ _ _ _ _ (fun _ _ _ _ _ h => h) ?_
                intro u1 u2 u3 u4 u5 u6 u7 u8 u9 u10 u11 u12 u13 u14 wx hx hgx
                refine NoPanic.normal ?_
                have HXN := Lib.hid hx
                have HGN := Lib.hid hgx
                clear hx hgx
                go_wp2_with fail
                refine ⟨⟨j + 1, _, by simp, by omega, fun i hi => ?_, by rw [HST.out, HTS.out]; exact HXN.out, HGN.out⟩, by simp [intOf]; omega⟩
                by_cases hij : i = j
                · subst hij
                  have hpp := HB.out.1 (by simp)
                  have h3 : ¬ q = 2 := fun e => by have := HM2.out; omega
                  have hqn := HQN.out
                  rw [← HQ.out, Int.toNat_natCast]
                  refine ⟨?_, by omega, hpp, hqn⟩
                  rcases hpp with hpp | hpp <;> omega
                · exact HLOW.out i (by omega)
      · obtain rfl : k = n := by omega
        have hk1 : ¬ (k : Int) < (k : Int) := by omega
        have HF := Lib.hid HRSK.out
        clear HRSK
        go_wp2_with fail
        go_ret2
        have hx := HF.out
        rw [show l.take k = l by rw [HN.out, List.take_length]] at hx
        refine ⟨HG0.out.trans HGR.out, .inl ⟨⟨by have := HN.out; omega, by have := HN.out; omega, fun i hi => HLOW.out i (by have := HN.out; omega)⟩, R, rfl, ?_⟩⟩
        have hsz := HG0.out.size
        refine ⟨by have := HRR.out; omega, vs, hx.2.2.2.1, hx.2.2.2.2.2.1.hasP, fun B hB => ?_, hx.2.1, hx.2.2.1⟩
        have := hx.2.2.2.2.2.1.fresh' B hB
        have := HRR.out
        omega
end Go.Proofs.YtfpdemmdkiohhaaGreat.Mo
