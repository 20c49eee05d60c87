import Derived.Test.YtlfiakpmnkhcdaaGreatLZE
import Derived.Test.YtlfiakpmnkhcdaaGreatLSwa
namespace Go.Proofs.YtlfiakpmnkhcdaaGreat.Mo
open Go.RowKit
set_option linter.unusedVariables false
set_option linter.unusedSimpArgs false
theorem Own1.gr {W W' : World} {base : Nat} {v : Value} {l : List Int} (h : Own1 W base v l) (k : Gr W W') : Own1 W' base v l := by
 refine ⟨h.1, h.2.1, ?_⟩
 rcases h.2.2 with hh | ⟨g, cap, cur, e, hb, hg, hr⟩
 ·exact .inl hh
 ·exact .inr ⟨g, cap, cur, e, hb, (k.block g (Array.getElem?_eq_some_iff.1 hg).1).trans hg, hr⟩
theorem Own1.setCell {w : World} {base : Nat} {v : Value} {l : List Int} (h : Own1 w base v l) {p : Addr} (hp : p.block < base) (u : Value) : Own1 (w.setCell p u) base v l := by
 refine ⟨h.1, h.2.1, ?_⟩
 rcases h.2.2 with hh | ⟨g, cap, cur, e, hb, hg, hr⟩
 ·exact .inl hh
 ·exact .inr ⟨g, cap, cur, e, hb, (Below.heap_setCell _ p _ _ (by omega)).trans hg, hr⟩
theorem Own1.fresh' {W : World} {base : Nat} {v : Value} {l : List Int} (h : Own1 W base v l) : ∀ B, some B = v.ownBlock → base ≤ B := by
 intro B hB
 rcases h.2.2 with ⟨rfl, _⟩ | ⟨g, cap, cur, rfl, hb, _⟩
 ·simp [Value.ownBlock] at hB
 ·obtain rfl : B = g := by simpa [Value.ownBlock] using hB
  exact hb
def RS (W0 : World) (R base : Nat) (v : Value) (l : List Int) (z : Int) (w : World) : Prop :=
 W0.heap.size ≤ R ∧ w.cell? ⟨R, 1, none⟩ = some (.bool (decide (z < 0))) ∧ w.cell? ⟨R, 2, none⟩ = some (.string (bstr z.natAbs)) ∧ w.cell? ⟨R, 0, none⟩ = some v ∧
 (w.frozen? ⟨R, 0, none⟩ = false ∧ w.frozen? ⟨R, 1, none⟩ = false ∧ w.frozen? ⟨R, 2, none⟩ = false) ∧ Own1 w base v l ∧ R < base ∧ base ≤ w.heap.size
theorem RS.later {W0 : World} {R base : Nat} {v : Value} {l : List Int} {z : Int} {w w' : World} (h : RS W0 R base v l z w) (g : Gr w w') : RS W0 R base v l z w' := by
 obtain ⟨h0, h1, h2, h3, ⟨f0, f1, f2⟩, ho, hb, hs⟩ := h
 exact ⟨h0, g.keeps h1, g.keeps h2, g.keeps h3, ⟨(Below.frozen g (World.block_lt_of_cell? w _ h3)).trans f0, (Below.frozen g (World.block_lt_of_cell? w _ h1)).trans f1, (Below.frozen g (World.block_lt_of_cell? w _ h2)).trans f2⟩, ho.gr g, hb, Nat.le_trans hs g.size⟩
theorem RS.put {W0 : World} {R base : Nat} {v : Value} {l : List Int} {z : Int} {w : World} (h : RS W0 R base v l z w) (y : Int) :
  RS W0 R base v l y ((w.setCell ⟨R, 1, none⟩ (.bool (decide (y < 0)))).setCell ⟨R, 2, none⟩ (.string (bstr y.natAbs))) := by
 obtain ⟨h0, h1, h2, h3, ⟨f0, f1, f2⟩, ho, hb, hs⟩ := h
 have n12 : (⟨R, 2, none⟩ : Addr) ≠ ⟨R, 1, none⟩ := by simp
 have n21 : (⟨R, 1, none⟩ : Addr) ≠ ⟨R, 2, none⟩ := by simp
 have n10 : (⟨R, 1, none⟩ : Addr) ≠ ⟨R, 0, none⟩ := by simp
 have n20 : (⟨R, 2, none⟩ : Addr) ≠ ⟨R, 0, none⟩ := by simp
 refine ⟨h0, (Lo.cell_far n12 _).trans (Lo.cell_set h1 _), Lo.cell_set ((Lo.cell_far n21 _).trans h2) _, (Lo.cell_far n20 _).trans ((Lo.cell_far n10 _).trans h3), ⟨?_, ?_, ?_⟩, (ho.setCell (p := ⟨R, 1, none⟩) hb _).setCell (p := ⟨R, 2, none⟩) hb _, hb, by rw [World.size_setCell, World.size_setCell]; exact hs⟩
 ·rw [Lo.frozen_set1, Lo.frozen_set1]; exact f0
 ·rw [Lo.frozen_set1, Lo.frozen_set1]; exact f1
 ·rw [Lo.frozen_set1, Lo.frozen_set1]; exact f2
theorem RS.grow {W0 : World} {R base : Nat} {v v' : Value} {l m : List Int} {z : Int} {w w' : World} (h : RS W0 R base v l z w) (ho : Own1 w' base v' m) (hg : w.grownBy w' v.ownBlock) :
  RS W0 R base v' m z (w'.setCell ⟨R, 0, none⟩ v') := by
 obtain ⟨h0, h1, h2, h3, ⟨f0, f1, f2⟩, ho0, hb, hs⟩ := h
 have hk : w'.heap[R]? = w.heap[R]? := hg.block R (by omega) (fun e => by have := ho0.fresh' R e; omega)
 have n01 : (⟨R, 0, none⟩ : Addr) ≠ ⟨R, 1, none⟩ := by simp
 have n02 : (⟨R, 0, none⟩ : Addr) ≠ ⟨R, 2, none⟩ := by simp
 refine ⟨h0, (Lo.cell_far n01 _).trans ((World.cell?_of_block (w := w) hk).trans h1), (Lo.cell_far n02 _).trans ((World.cell?_of_block (w := w) hk).trans h2), Lo.cell_set ((World.cell?_of_block (w := w) hk).trans h3) _, ⟨?_, ?_, ?_⟩, ho.setCell (p := ⟨R, 0, none⟩) hb _, hb, by rw [World.size_setCell]; exact Nat.le_trans hs hg.size⟩
 ·rw [Lo.frozen_set1]; exact (World.frozen?_of_block hk).trans f0
 ·rw [Lo.frozen_set1]; exact (World.frozen?_of_block hk).trans f1
 ·rw [Lo.frozen_set1]; exact (World.frozen?_of_block hk).trans f2
theorem RS.grow_cell {W0 : World} {R base : Nat} {v : Value} {l : List Int} {z : Int} {w w' : World} (h : RS W0 R base v l z w) (hg : w.grownBy w' v.ownBlock) : w'.cell? ⟨R, 0, none⟩ = some v ∧ w'.frozen? ⟨R, 0, none⟩ = false := by
 obtain ⟨h0, h1, h2, h3, ⟨f0, f1, f2⟩, ho0, hb, hs⟩ := h
 have hk : w'.heap[R]? = w.heap[R]? := hg.block R (by omega) (fun e => by have := ho0.fresh' R e; omega)
 exact ⟨(World.cell?_of_block (w := w) hk).trans h3, (World.frozen?_of_block hk).trans f0⟩
set_option maxRecDepth 100000 in
set_option maxHeartbeats 8000000 in
theorem rnew_region (x p : Int) (W0 W : World) (R base : Nat) (v : Value) (l : List Int) (HK : isW p) (HX : InR x) (HKR : InR p) (HZ : InR (x * p))
  (hG : Gr W0 W) (hX0 : RS W0 R base v l x W)
  (v0 v1 v2 v3 v5 v7 v8 v9 v10 v11 v12 v13 v14 v15 v16 v17 v18 v19 v20 v21 v22 v23 v24 v25 v26 v27 v28 v29 v30 v31 v32 v33 v34 v35 v36 v37 v38 v39 v40 v41 v42 v43 v44 v45 v46 v47 v48 v49 v50 v51 v52 v53 v54 v55 v56 v57 v58 v59 v60 v61 v76 s62 s63 s64 s65 s66 s67 s68 s69 s70 s71 s72 s73 s74 s75 : Value) (Q : Exit → Act → World → Prop) (hQ : ∀ (d : Option Tmp) (v : Value) c a w, Q (.panic c) (a.put d v) w → Q (.panic c) a w)
  (hpost : ∀ u62 u63 u64 u65 u66 u67 u68 u69 u70 u71 u72 u73 u74 u75 wx, RS W0 R base v l (x * p) wx → Gr W0 wx → Q .normal { tmps := List.toArray (v0 :: v1 :: v2 :: v3 :: .pointer (some ⟨R, 0, none⟩) :: v5 :: .int .u32 p :: v7 :: v8 :: v9 :: v10 :: v11 :: v12 :: v13 :: v14 :: v15 :: v16 :: v17 :: v18 :: v19 :: v20 :: v21 :: v22 :: v23 :: v24 :: v25 :: v26 :: v27 :: v28 :: v29 :: v30 :: v31 :: v32 :: v33 :: v34 :: v35 :: v36 :: v37 :: v38 :: v39 :: v40 :: v41 :: v42 :: v43 :: v44 :: v45 :: v46 :: v47 :: v48 :: v49 :: v50 :: v51 :: v52 :: v53 :: v54 :: v55 :: v56 :: v57 :: v58 :: v59 :: v60 :: v61 :: u62 :: u63 :: u64 :: u65 :: u66 :: u67 :: u68 :: u69 :: u70 :: u71 :: u72 :: u73 :: u74 :: u75 :: v76 :: ([] : List Value)), defers := [] } wx) :
  (Code.region 16 #[⟨some 63, .move (.tmp 4), 95, "ref.go:33", #[], none⟩,
   ⟨some 64, .move (.tmp 4), 95, "ref.go:33", #[], none⟩,
   ⟨some 65, .nilCheck (.tmp 64), 0, "ref.go:33", #[⟨1, .data⟩], none⟩,
   ⟨some 66, .fieldAddr 131 (.tmp 65) 1, 0, "ref.go:33", #[⟨2, .data⟩], none⟩,
   ⟨some 67, .load 50 (.tmp 66), 50, "ref.go:33", #[⟨3, .data⟩], none⟩,
   ⟨some 68, .move (.tmp 6), 22, "ref.go:33", #[], none⟩,
   ⟨some 69, .convert 22 2 (.tmp 68), 2, "ref.go:33", #[⟨5, .data⟩], none⟩,
   ⟨some 70, .call ⟨.value (.func 44), #[.tmp 69], #[2]⟩, 50, "ref.go:33", #[⟨6, .data⟩], none⟩,
   ⟨some 71, .call ⟨.value (.func 41), #[.tmp 67, .tmp 70], #[50, 50]⟩, 51, "ref.go:33", #[⟨4, .data⟩, ⟨7, .data⟩, ⟨7, .chain⟩], none⟩,
   ⟨some 62, .move (.tmp 71), 51, "ref.go:33", #[⟨8, .data⟩], none⟩,
   ⟨some 72, .extract (.tmp 62) 0, 50, "ref.go:33", #[⟨9, .data⟩], none⟩,
   ⟨some 73, .extract (.tmp 62) 1, 35, "ref.go:33", #[⟨9, .data⟩, ⟨14, .gcOnly .lateStores⟩], none⟩,
   ⟨some 74, .nilCheck (.tmp 63), 0, "ref.go:33", #[⟨0, .data⟩, ⟨0, .phase⟩, ⟨1, .phase⟩, ⟨2, .phase⟩, ⟨3, .phase⟩, ⟨4, .phase⟩, ⟨5, .phase⟩, ⟨6, .phase⟩, ⟨7, .phase⟩, ⟨8, .phase⟩, ⟨9, .phase⟩, ⟨10, .phase⟩, ⟨11, .textOnly .lateStores⟩], none⟩,
   ⟨some 75, .fieldAddr 131 (.tmp 74) 1, 0, "ref.go:33", #[⟨12, .data⟩, ⟨0, .phase⟩, ⟨1, .phase⟩, ⟨2, .phase⟩, ⟨3, .phase⟩, ⟨4, .phase⟩, ⟨5, .phase⟩, ⟨6, .phase⟩, ⟨7, .phase⟩, ⟨8, .phase⟩, ⟨9, .phase⟩, ⟨10, .phase⟩, ⟨11, .textOnly .lateStores⟩], none⟩,
   ⟨none, .store 50 (.tmp 75) (.tmp 72), 0, "ref.go:33", #[⟨13, .data⟩, ⟨10, .data⟩, ⟨8, .chain⟩, ⟨0, .phase⟩, ⟨1, .phase⟩, ⟨2, .phase⟩, ⟨3, .phase⟩, ⟨4, .phase⟩, ⟨5, .phase⟩, ⟨6, .phase⟩, ⟨7, .phase⟩, ⟨8, .phase⟩, ⟨9, .phase⟩, ⟨10, .phase⟩, ⟨11, .textOnly .lateStores⟩], none⟩] true).wp Tryz.prog Q { tmps := List.toArray (v0 :: v1 :: v2 :: v3 :: .pointer (some ⟨R, 0, none⟩) :: v5 :: .int .u32 p :: v7 :: v8 :: v9 :: v10 :: v11 :: v12 :: v13 :: v14 :: v15 :: v16 :: v17 :: v18 :: v19 :: v20 :: v21 :: v22 :: v23 :: v24 :: v25 :: v26 :: v27 :: v28 :: v29 :: v30 :: v31 :: v32 :: v33 :: v34 :: v35 :: v36 :: v37 :: v38 :: v39 :: v40 :: v41 :: v42 :: v43 :: v44 :: v45 :: v46 :: v47 :: v48 :: v49 :: v50 :: v51 :: v52 :: v53 :: v54 :: v55 :: v56 :: v57 :: v58 :: v59 :: v60 :: v61 :: s62 :: s63 :: s64 :: s65 :: s66 :: s67 :: s68 :: s69 :: s70 :: s71 :: s72 :: s73 :: s74 :: s75 :: v76 :: ([] : List Value)), defers := [] } W := by
 refine wp_region_held_drew (S := fun w' => Gr W0 w') (by kernel_rfl) (have g : Gr W0 W.drew := hG.drew; g) (fun hHeld => ?_)
 have hw : IntKind.i64.wrap p = p := IntWalk.i64_in _ (by have a := HK.1; have b := HK.2; omega)
 refine chain_any (fun G out inn => ?_)
 have st12 : ∀ (w : World), (fun w' => Gr W0 w') w → RS W0 R base v l x w → G 1 #[true, true, true, true, true, true, true, true, true, true, true, true, true, true, false] { tmps := List.toArray (v0 :: v1 :: v2 :: v3 :: .pointer (some ⟨R, 0, none⟩) :: v5 :: .int .u32 p :: v7 :: v8 :: v9 :: v10 :: v11 :: v12 :: v13 :: v14 :: v15 :: v16 :: v17 :: v18 :: v19 :: v20 :: v21 :: v22 :: v23 :: v24 :: v25 :: v26 :: v27 :: v28 :: v29 :: v30 :: v31 :: v32 :: v33 :: v34 :: v35 :: v36 :: v37 :: v38 :: v39 :: v40 :: v41 :: v42 :: v43 :: v44 :: v45 :: v46 :: v47 :: v48 :: v49 :: v50 :: v51 :: v52 :: v53 :: v54 :: v55 :: v56 :: v57 :: v58 :: v59 :: v60 :: v61 :: .tuple #[wv (x * p), .int .i64 0] :: .pointer (some ⟨R, 0, none⟩) :: .pointer (some ⟨R, 0, none⟩) :: .pointer (some ⟨R, 0, none⟩) :: .pointer (some ⟨R, 1, none⟩) :: wv x :: .int .u32 p :: .int .i64 p :: wv p :: .tuple #[wv (x * p), .int .i64 0] :: wv (x * p) :: .int .i64 0 :: .pointer (some ⟨R, 0, none⟩) :: .pointer (some ⟨R, 1, none⟩) :: v76 :: ([] : List Value)), defers := [] } w := by
  intro w hS hX
  refine inn _ _ _ _ ?_
  have hP := hX.put (x * p)
  have c1 := hX.2.1
  have c2 := hX.2.2.1
  have f1 := hX.2.2.2.2.1.2.1
  have f2 := hX.2.2.2.2.1.2.2
  refine wpAnyH_ready (rs := [14]) (by kernel_rfl) (by simp) ?_
  refine AllReadyH.cons (o := ⟨none, .store 50 (.tmp 75) (.tmp 72), 0, "ref.go:33", #[⟨13, .data⟩, ⟨10, .data⟩, ⟨8, .chain⟩, ⟨0, .phase⟩, ⟨1, .phase⟩, ⟨2, .phase⟩, ⟨3, .phase⟩, ⟨4, .phase⟩, ⟨5, .phase⟩, ⟨6, .phase⟩, ⟨7, .phase⟩, ⟨8, .phase⟩, ⟨9, .phase⟩, ⟨10, .phase⟩, ⟨11, .textOnly .lateStores⟩], none⟩) rfl (fun K hK => ?_) AllReadyH.nil
  unfold wv
  go_simp
  have g2 : Gr W0 ((w.setCell ⟨R, 1, none⟩ (.bool (decide (x * p < 0)))).setCell ⟨R, 2, none⟩ (.string (bstr (x * p).natAbs))) := (hS.setCell (p := ⟨R, 1, none⟩) hX.1 _).setCell (p := ⟨R, 2, none⟩) hX.1 _
  refine hK.out _ _ g2 (fun hHeld => ?_)
  clear hK K
  (simp only [Act.put, List.setIfInBounds_toArray, List.set_cons_zero, List.set_cons_succ])
  refine wpAnyH_done (by kernel_rfl) ?_ _
  exact hpost _ _ _ _ _ _ _ _ _ _ _ _ _ _ _ hP g2
 have st11 : ∀ (w : World), (fun w' => Gr W0 w') w → RS W0 R base v l x w → G 7 #[true, true, true, true, true, true, true, true, false, false, false, false, false, false, false] { tmps := List.toArray (v0 :: v1 :: v2 :: v3 :: .pointer (some ⟨R, 0, none⟩) :: v5 :: .int .u32 p :: v7 :: v8 :: v9 :: v10 :: v11 :: v12 :: v13 :: v14 :: v15 :: v16 :: v17 :: v18 :: v19 :: v20 :: v21 :: v22 :: v23 :: v24 :: v25 :: v26 :: v27 :: v28 :: v29 :: v30 :: v31 :: v32 :: v33 :: v34 :: v35 :: v36 :: v37 :: v38 :: v39 :: v40 :: v41 :: v42 :: v43 :: v44 :: v45 :: v46 :: v47 :: v48 :: v49 :: v50 :: v51 :: v52 :: v53 :: v54 :: v55 :: v56 :: v57 :: v58 :: v59 :: v60 :: v61 :: s62 :: .pointer (some ⟨R, 0, none⟩) :: .pointer (some ⟨R, 0, none⟩) :: .pointer (some ⟨R, 0, none⟩) :: .pointer (some ⟨R, 1, none⟩) :: wv x :: .int .u32 p :: .int .i64 p :: wv p :: s71 :: s72 :: s73 :: s74 :: s75 :: v76 :: ([] : List Value)), defers := [] } w := by
  intro w hS hX
  refine inn _ _ _ _ ?_
  refine wpAnyH_ready (rs := [8]) (by kernel_rfl) (by simp) ?_
  refine AllReadyH.cons (o := ⟨some 71, .call ⟨.value (.func 41), #[.tmp 67, .tmp 70], #[50, 50]⟩, 51, "ref.go:33", #[⟨4, .data⟩, ⟨7, .data⟩, ⟨7, .chain⟩], none⟩) rfl (fun K hK => ?_) ?_
  ·go_simp
   go_at_call 41
   refine (rwmul_any x p _ HX HKR HZ).mono ?_
   rintro e w' ⟨rfl, g⟩
   go_wp2_with fail
   refine hK.out _ _ (hS.trans g) (fun hHeld => ?_)
   (simp only [Act.put, List.setIfInBounds_toArray, List.set_cons_zero, List.set_cons_succ])
   refine wpAnyH_take (i := 9) (oi := ⟨some 62, .move (.tmp 71), 51, "ref.go:33", #[⟨8, .data⟩], none⟩) (v := ?_) rfl (by kernel_rfl) (by kernel_rfl) (by kernel_rfl) (hQ _ _) (_root_.Or.inl ⟨by rfl, ?_⟩) (by assumption) ?_
   rotate_left
   ·intro w0 hSw; (try dsimp only at hSw); go_simp; try with_reducible rfl
   (simp only [Act.put, List.setIfInBounds_toArray, List.set_cons_zero, List.set_cons_succ])
   refine wpAnyH_take (i := 10) (oi := ⟨some 72, .extract (.tmp 62) 0, 50, "ref.go:33", #[⟨9, .data⟩], none⟩) (v := ?_) rfl (by kernel_rfl) (by kernel_rfl) (by kernel_rfl) (hQ _ _) (_root_.Or.inl ⟨by rfl, ?_⟩) (by assumption) ?_
   rotate_left
   ·intro w0 hSw; (try dsimp only at hSw); go_simp; try with_reducible rfl
   (simp only [Act.put, List.setIfInBounds_toArray, List.set_cons_zero, List.set_cons_succ])
   refine wpAnyH_take (i := 11) (oi := ⟨some 73, .extract (.tmp 62) 1, 35, "ref.go:33", #[⟨9, .data⟩, ⟨14, .gcOnly .lateStores⟩], none⟩) (v := ?_) rfl (by kernel_rfl) (by kernel_rfl) (by kernel_rfl) (hQ _ _) (_root_.Or.inl ⟨by rfl, ?_⟩) (by assumption) ?_
   rotate_left
   ·intro w0 hSw; (try dsimp only at hSw); go_simp; try with_reducible rfl
   (simp only [Act.put, List.setIfInBounds_toArray, List.set_cons_zero, List.set_cons_succ])
   refine wpAnyH_take (i := 12) (oi := ⟨some 74, .nilCheck (.tmp 63), 0, "ref.go:33", #[⟨0, .data⟩, ⟨0, .phase⟩, ⟨1, .phase⟩, ⟨2, .phase⟩, ⟨3, .phase⟩, ⟨4, .phase⟩, ⟨5, .phase⟩, ⟨6, .phase⟩, ⟨7, .phase⟩, ⟨8, .phase⟩, ⟨9, .phase⟩, ⟨10, .phase⟩, ⟨11, .textOnly .lateStores⟩], none⟩) (v := ?_) rfl (by kernel_rfl) (by kernel_rfl) (by kernel_rfl) (hQ _ _) (_root_.Or.inl ⟨by rfl, ?_⟩) (by assumption) ?_
   rotate_left
   ·intro w0 hSw; (try dsimp only at hSw); go_simp; try with_reducible rfl
   (simp only [Act.put, List.setIfInBounds_toArray, List.set_cons_zero, List.set_cons_succ])
   refine wpAnyH_take (i := 13) (oi := ⟨some 75, .fieldAddr 131 (.tmp 74) 1, 0, "ref.go:33", #[⟨12, .data⟩, ⟨0, .phase⟩, ⟨1, .phase⟩, ⟨2, .phase⟩, ⟨3, .phase⟩, ⟨4, .phase⟩, ⟨5, .phase⟩, ⟨6, .phase⟩, ⟨7, .phase⟩, ⟨8, .phase⟩, ⟨9, .phase⟩, ⟨10, .phase⟩, ⟨11, .textOnly .lateStores⟩], none⟩) (v := ?_) rfl (by kernel_rfl) (by kernel_rfl) (by kernel_rfl) (hQ _ _) (_root_.Or.inl ⟨by rfl, ?_⟩) (by assumption) ?_
   rotate_left
   ·intro w0 hSw; (try dsimp only at hSw); go_simp; try with_reducible rfl
   (simp only [Act.put, List.setIfInBounds_toArray, List.set_cons_zero, List.set_cons_succ])
   exact out _ _ _ _ (st12 _ hHeld (hX.later g))
  exact AllReadyH.nil
 have st01 : ∀ (w : World), (fun w' => Gr W0 w') w → RS W0 R base v l x w → G 8 #[true, true, true, true, false, true, true, true, false, false, false, false, false, false, false] { tmps := List.toArray (v0 :: v1 :: v2 :: v3 :: .pointer (some ⟨R, 0, none⟩) :: v5 :: .int .u32 p :: v7 :: v8 :: v9 :: v10 :: v11 :: v12 :: v13 :: v14 :: v15 :: v16 :: v17 :: v18 :: v19 :: v20 :: v21 :: v22 :: v23 :: v24 :: v25 :: v26 :: v27 :: v28 :: v29 :: v30 :: v31 :: v32 :: v33 :: v34 :: v35 :: v36 :: v37 :: v38 :: v39 :: v40 :: v41 :: v42 :: v43 :: v44 :: v45 :: v46 :: v47 :: v48 :: v49 :: v50 :: v51 :: v52 :: v53 :: v54 :: v55 :: v56 :: v57 :: v58 :: v59 :: v60 :: v61 :: s62 :: .pointer (some ⟨R, 0, none⟩) :: .pointer (some ⟨R, 0, none⟩) :: .pointer (some ⟨R, 0, none⟩) :: .pointer (some ⟨R, 1, none⟩) :: s67 :: .int .u32 p :: .int .i64 p :: wv p :: s71 :: s72 :: s73 :: s74 :: s75 :: v76 :: ([] : List Value)), defers := [] } w := by
  intro w hS hX
  refine inn _ _ _ _ ?_
  refine wpAnyH_ready (rs := [4]) (by kernel_rfl) (by simp) ?_
  refine AllReadyH.cons (o := ⟨some 67, .load 50 (.tmp 66), 50, "ref.go:33", #[⟨3, .data⟩], none⟩) rfl (fun K hK => ?_) ?_
  ·have c1 := hX.2.1
   have c2 := hX.2.2.1
   go_simp
   refine hK.out _ _ hS (fun hHeld => ?_)
   (simp only [Act.put, List.setIfInBounds_toArray, List.set_cons_zero, List.set_cons_succ])
   exact out _ _ _ _ (st11 _ hHeld hX)
  exact AllReadyH.nil
 have st10 : ∀ (w : World), (fun w' => Gr W0 w') w → RS W0 R base v l x w → G 8 #[true, true, true, true, true, true, true, false, false, false, false, false, false, false, false] { tmps := List.toArray (v0 :: v1 :: v2 :: v3 :: .pointer (some ⟨R, 0, none⟩) :: v5 :: .int .u32 p :: v7 :: v8 :: v9 :: v10 :: v11 :: v12 :: v13 :: v14 :: v15 :: v16 :: v17 :: v18 :: v19 :: v20 :: v21 :: v22 :: v23 :: v24 :: v25 :: v26 :: v27 :: v28 :: v29 :: v30 :: v31 :: v32 :: v33 :: v34 :: v35 :: v36 :: v37 :: v38 :: v39 :: v40 :: v41 :: v42 :: v43 :: v44 :: v45 :: v46 :: v47 :: v48 :: v49 :: v50 :: v51 :: v52 :: v53 :: v54 :: v55 :: v56 :: v57 :: v58 :: v59 :: v60 :: v61 :: s62 :: .pointer (some ⟨R, 0, none⟩) :: .pointer (some ⟨R, 0, none⟩) :: .pointer (some ⟨R, 0, none⟩) :: .pointer (some ⟨R, 1, none⟩) :: wv x :: .int .u32 p :: .int .i64 p :: s70 :: s71 :: s72 :: s73 :: s74 :: s75 :: v76 :: ([] : List Value)), defers := [] } w := by
  intro w hS hX
  refine inn _ _ _ _ ?_
  refine wpAnyH_ready (rs := [7]) (by kernel_rfl) (by simp) ?_
  refine AllReadyH.cons (o := ⟨some 70, .call ⟨.value (.func 44), #[.tmp 69], #[2]⟩, 50, "ref.go:33", #[⟨6, .data⟩], none⟩) rfl (fun K hK => ?_) ?_
  ·go_simp
   go_at_call 44
   refine (rwof_any p _ HK).mono ?_
   rintro e w' ⟨rfl, g⟩
   go_wp2_with fail
   refine hK.out _ _ (hS.trans g) (fun hHeld => ?_)
   (simp only [Act.put, List.setIfInBounds_toArray, List.set_cons_zero, List.set_cons_succ])
   exact out _ _ _ _ (st11 _ hHeld (hX.later g))
  exact AllReadyH.nil
 have st00 : ∀ (w : World), (fun w' => Gr W0 w') w → RS W0 R base v l x w → G 9 #[true, true, true, true, false, true, true, false, false, false, false, false, false, false, false] { tmps := List.toArray (v0 :: v1 :: v2 :: v3 :: .pointer (some ⟨R, 0, none⟩) :: v5 :: .int .u32 p :: v7 :: v8 :: v9 :: v10 :: v11 :: v12 :: v13 :: v14 :: v15 :: v16 :: v17 :: v18 :: v19 :: v20 :: v21 :: v22 :: v23 :: v24 :: v25 :: v26 :: v27 :: v28 :: v29 :: v30 :: v31 :: v32 :: v33 :: v34 :: v35 :: v36 :: v37 :: v38 :: v39 :: v40 :: v41 :: v42 :: v43 :: v44 :: v45 :: v46 :: v47 :: v48 :: v49 :: v50 :: v51 :: v52 :: v53 :: v54 :: v55 :: v56 :: v57 :: v58 :: v59 :: v60 :: v61 :: s62 :: .pointer (some ⟨R, 0, none⟩) :: .pointer (some ⟨R, 0, none⟩) :: .pointer (some ⟨R, 0, none⟩) :: .pointer (some ⟨R, 1, none⟩) :: s67 :: .int .u32 p :: .int .i64 p :: s70 :: s71 :: s72 :: s73 :: s74 :: s75 :: v76 :: ([] : List Value)), defers := [] } w := by
  intro w hS hX
  refine inn _ _ _ _ ?_
  refine wpAnyH_ready (rs := [4, 7]) (by kernel_rfl) (by simp) ?_
  refine AllReadyH.cons (o := ⟨some 67, .load 50 (.tmp 66), 50, "ref.go:33", #[⟨3, .data⟩], none⟩) rfl (fun K hK => ?_) ?_
  ·have c1 := hX.2.1
   have c2 := hX.2.2.1
   go_simp
   refine hK.out _ _ hS (fun hHeld => ?_)
   (simp only [Act.put, List.setIfInBounds_toArray, List.set_cons_zero, List.set_cons_succ])
   exact out _ _ _ _ (st10 _ hHeld hX)
  refine AllReadyH.cons (o := ⟨some 70, .call ⟨.value (.func 44), #[.tmp 69], #[2]⟩, 50, "ref.go:33", #[⟨6, .data⟩], none⟩) rfl (fun K hK => ?_) ?_
  ·go_simp
   go_at_call 44
   refine (rwof_any p _ HK).mono ?_
   rintro e w' ⟨rfl, g⟩
   go_wp2_with fail
   refine hK.out _ _ (hS.trans g) (fun hHeld => ?_)
   (simp only [Act.put, List.setIfInBounds_toArray, List.set_cons_zero, List.set_cons_succ])
   exact out _ _ _ _ (st01 _ hHeld (hX.later g))
  exact AllReadyH.nil
 show wpAnyH _ _ _ _ _ 15 #[false, false, false, false, false, false, false, false, false, false, false, false, false, false, false] _ _
 refine wpAnyH_take (i := 0) (oi := ⟨some 63, .move (.tmp 4), 95, "ref.go:33", #[], none⟩) (v := ?_) rfl (by kernel_rfl) (by kernel_rfl) (by kernel_rfl) (hQ _ _) (_root_.Or.inl ⟨by rfl, ?_⟩) (by assumption) ?_
 rotate_left
 ·intro w0 hSw; (try dsimp only at hSw); go_simp; try with_reducible rfl
 (simp only [Act.put, List.setIfInBounds_toArray, List.set_cons_zero, List.set_cons_succ])
 refine wpAnyH_take (i := 1) (oi := ⟨some 64, .move (.tmp 4), 95, "ref.go:33", #[], none⟩) (v := ?_) rfl (by kernel_rfl) (by kernel_rfl) (by kernel_rfl) (hQ _ _) (_root_.Or.inl ⟨by rfl, ?_⟩) (by assumption) ?_
 rotate_left
 ·intro w0 hSw; (try dsimp only at hSw); go_simp; try with_reducible rfl
 (simp only [Act.put, List.setIfInBounds_toArray, List.set_cons_zero, List.set_cons_succ])
 refine wpAnyH_take (i := 2) (oi := ⟨some 65, .nilCheck (.tmp 64), 0, "ref.go:33", #[⟨1, .data⟩], none⟩) (v := ?_) rfl (by kernel_rfl) (by kernel_rfl) (by kernel_rfl) (hQ _ _) (_root_.Or.inl ⟨by rfl, ?_⟩) (by assumption) ?_
 rotate_left
 ·intro w0 hSw; (try dsimp only at hSw); go_simp; try with_reducible rfl
 (simp only [Act.put, List.setIfInBounds_toArray, List.set_cons_zero, List.set_cons_succ])
 refine wpAnyH_take (i := 3) (oi := ⟨some 66, .fieldAddr 131 (.tmp 65) 1, 0, "ref.go:33", #[⟨2, .data⟩], none⟩) (v := ?_) rfl (by kernel_rfl) (by kernel_rfl) (by kernel_rfl) (hQ _ _) (_root_.Or.inl ⟨by rfl, ?_⟩) (by assumption) ?_
 rotate_left
 ·intro w0 hSw; (try dsimp only at hSw); go_simp; try with_reducible rfl
 (simp only [Act.put, List.setIfInBounds_toArray, List.set_cons_zero, List.set_cons_succ])
 refine wpAnyH_take (i := 5) (oi := ⟨some 68, .move (.tmp 6), 22, "ref.go:33", #[], none⟩) (v := ?_) rfl (by kernel_rfl) (by kernel_rfl) (by kernel_rfl) (hQ _ _) (_root_.Or.inl ⟨by rfl, ?_⟩) (by assumption) ?_
 rotate_left
 ·intro w0 hSw; (try dsimp only at hSw); go_simp; try with_reducible rfl
 (simp only [Act.put, List.setIfInBounds_toArray, List.set_cons_zero, List.set_cons_succ])
 refine wpAnyH_take (i := 6) (oi := ⟨some 69, .convert 22 2 (.tmp 68), 2, "ref.go:33", #[⟨5, .data⟩], none⟩) (v := ?_) rfl (by kernel_rfl) (by kernel_rfl) (by kernel_rfl) (hQ _ _) (_root_.Or.inl ⟨by rfl, ?_⟩) (by assumption) ?_
 rotate_left
 ·intro w0 hSw; (try dsimp only at hSw); go_simp; try with_reducible rfl
 (simp only [Act.put, List.setIfInBounds_toArray, List.set_cons_zero, List.set_cons_succ])
 try rw [hw]
 exact out _ _ _ _ (st00 _ hHeld (hX0.later (Gr.refl W).drew))
end Go.Proofs.YtlfiakpmnkhcdaaGreat.Mo
