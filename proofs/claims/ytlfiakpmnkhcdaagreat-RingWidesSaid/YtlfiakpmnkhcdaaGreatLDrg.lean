import Derived.Test.YtlfiakpmnkhcdaaGreatLRdiv
import Derived.Test.YtlfiakpmnkhcdaaGreatLWN
import Derived.Test.YtlfiakpmnkhcdaaGreatLWO
import Derived.Test.YtlfiakpmnkhcdaaGreatLDivs
namespace Go.Proofs.YtlfiakpmnkhcdaaGreat
open Go.RowKit
set_option linter.unusedVariables false
set_option linter.unusedSimpArgs false
theorem HasJ.setAt {N : Nat} {W : World} {v : Value} {z : Int} (h : HasJ N W v z) {p : Addr} {u0 : Value} (hc : W.cell? p = some u0) (hu : ∀ n, u0 ≠ .int .u32 n) (u : Value) : HasJ N (W.setCell p u) v z := by
 obtain ⟨s, l, h1, h2, h3⟩ := h
 exact ⟨s, l, h1, h2.setAt hc hu u, h3⟩
theorem HasJ.set2 {N : Nat} {W : World} {v : Value} {z : Int} {B : Nat} {b : Bool} {u w : Value} (h : HasJ N W v z) (h0 : W.cell? ⟨B, 0, none⟩ = some (.bool b)) (h1 : W.cell? ⟨B, 1, none⟩ = some (.slice none 0 0)) :
  HasJ N ((W.setCell ⟨B, 0, none⟩ u).setCell ⟨B, 1, none⟩ w) v z := (h.setAt h0 (by simp) u).setAt ((cell_other (by simp) u).trans h1) (by simp) w
def CutJ (NQ NR : Nat) (q r : Int) (W : World) (s7 s8 : Value) (wx : World) : Prop := ∃ (B C : Nat) (nq : Bool) (aq : Option Addr) (kq cq : Nat) (nr : Bool) (ar : Option Addr) (kr cr : Nat), s7 = .pointer (some ⟨B, 0, none⟩) ∧ s8 = .pointer (some ⟨C, 0, none⟩) ∧ W.heap.size ≤ B ∧ W.heap.size ≤ C ∧
 wx.cell? ⟨B, 0, none⟩ = some (.bool nq) ∧ wx.cell? ⟨B, 1, none⟩ = some (.slice aq kq cq) ∧ wx.cell? ⟨C, 0, none⟩ = some (.bool nr) ∧ wx.cell? ⟨C, 1, none⟩ = some (.slice ar kr cr) ∧ wx.frozen? ⟨C, 0, none⟩ = false ∧ wx.frozen? ⟨C, 1, none⟩ = false ∧
 HasJ NQ wx (.agg #[.bool nq, .slice aq kq cq]) q ∧ HasJ NR wx (.agg #[.bool nr, .slice ar kr cr]) r ∧ Gr W wx
def DivJ2 (N : Nat) (x y : Int) (w : World) (e : Ending) (w' : World) : Prop := ∃ u v, e = .returned (.tuple #[u, v]) ∧ HasJ (N + 1) w' u (x / y) ∧ HasJ N w' v (x % y) ∧ Gr w w'
theorem rdiv_two (N : Nat) (x y : Int) (u v : Value) (w : World) (hu : HasJ N w u x) (hv : HasJ N w v y) (hy : y ≠ 0) (hN : N ≤ 80000) :
  Calls Tryz.prog 150 #[u, v] w (DivJ2 N x y w) := by
 refine (rdiv_num N x y u v w hu hv hy hN).mono ?_
 rintro e w' ⟨qn, qa, qk, qc, rn, ra, rk, rc, rfl, h1, h2, h3⟩
 exact ⟨_, _, rfl, h1, h2, h3⟩
theorem rin_129 (neg : Bool) (s : ByteArray) (w : World) (h : Form neg s) : Calls Tryz.prog 89 #[.agg #[.bool neg, .string s]] w (NumZ 129 (zOf neg s) w) := by
 refine (rin_any neg s w h).mono ?_
 rintro e w' ⟨v, rfl, hv, g⟩
 exact ⟨v, rfl, hv.wider (Nat.le_trans (form_small h) (by omega)), g⟩
set_option maxRecDepth 100000 in
set_option maxHeartbeats 8000000 in
theorem rdiv_region (neg : Bool) (s : ByteArray) (neg' : Bool) (s' : ByteArray) (HF : Form neg s) (HF' : Form neg' s') (HY : zOf neg' s' ≠ 0) (W : World) (A B : Nat)
  (x0 : W.cell? ⟨A, 0, none⟩ = some (.bool neg)) (x1 : W.cell? ⟨A, 1, none⟩ = some (.string s)) (y0 : W.cell? ⟨B, 0, none⟩ = some (.bool neg')) (y1 : W.cell? ⟨B, 1, none⟩ = some (.string s')) 
  (v0 v1 v4 v5 v6 v9 v10 v11 v12 v13 v14 v15 v16 v17 v18 v19 v20 v21 v22 v23 v24 v25 v26 v35 v36 v37 v38 v39 v40 v41 v42 v43 v44 v45 v46 v47 v48 v49 v50 v51 v52 v53 v54 : Value) (Q : Exit → Act → World → Prop) (hQ : ∀ (d : Option Tmp) (v : Value) c a w, Q (.panic c) (a.put d v) w → Q (.panic c) a w)
  (hpost : ∀ s7 s8 u27 u28 u29 u30 u31 u32 u33 u34 wx, CutJ 130 129 (zOf neg s / zOf neg' s') (zOf neg s % zOf neg' s') W s7 s8 wx → Q .normal { tmps := List.toArray (v0 :: v1 :: .pointer (some ⟨A, 0, none⟩) :: .pointer (some ⟨B, 0, none⟩) :: v4 :: v5 :: v6 :: s7 :: s8 :: v9 :: v10 :: v11 :: v12 :: v13 :: v14 :: v15 :: v16 :: v17 :: v18 :: v19 :: v20 :: v21 :: v22 :: v23 :: v24 :: v25 :: v26 :: u27 :: u28 :: u29 :: u30 :: u31 :: u32 :: u33 :: u34 :: v35 :: v36 :: v37 :: v38 :: v39 :: v40 :: v41 :: v42 :: v43 :: v44 :: v45 :: v46 :: v47 :: v48 :: v49 :: v50 :: v51 :: v52 :: v53 :: v54 :: ([] : List Value)), defers := [] } wx) :
  (Code.region 3 #[⟨some 28, .load 50 (.tmp 2), 50, "ref.go:409", #[], none⟩,
   ⟨some 29, .call ⟨.value (.func 89), #[.tmp 28], #[50]⟩, 101, "ref.go:409", #[⟨0, .data⟩], none⟩,
   ⟨some 30, .load 50 (.tmp 3), 50, "ref.go:409", #[], none⟩,
   ⟨some 31, .call ⟨.value (.func 89), #[.tmp 30], #[50]⟩, 101, "ref.go:409", #[⟨2, .data⟩, ⟨1, .chain⟩], none⟩,
   ⟨some 32, .call ⟨.value (.func 150), #[.tmp 29, .tmp 31], #[101, 101]⟩, 151, "ref.go:409", #[⟨1, .data⟩, ⟨3, .data⟩, ⟨3, .chain⟩], none⟩,
   ⟨some 27, .move (.tmp 32), 151, "ref.go:409", #[⟨4, .data⟩], none⟩,
   ⟨some 33, .extract (.tmp 27) 0, 101, "ref.go:409", #[⟨5, .data⟩], none⟩,
   ⟨some 34, .extract (.tmp 27) 1, 101, "ref.go:409", #[⟨5, .data⟩, ⟨10, .gcOnly .lateStores⟩], none⟩,
   ⟨some 7, .alloc 101, 0, "ref.go:409", #[], none⟩,
   ⟨some 8, .alloc 101, 0, "ref.go:409", #[], none⟩,
   ⟨none, .store 101 (.tmp 7) (.tmp 33), 0, "ref.go:409", #[⟨8, .data⟩, ⟨6, .data⟩, ⟨4, .chain⟩, ⟨0, .phase⟩, ⟨1, .phase⟩, ⟨2, .phase⟩, ⟨3, .phase⟩, ⟨4, .phase⟩, ⟨5, .phase⟩, ⟨6, .phase⟩, ⟨7, .textOnly .lateStores⟩, ⟨8, .phase⟩, ⟨9, .phase⟩], none⟩,
   ⟨none, .store 101 (.tmp 8) (.tmp 34), 0, "ref.go:409", #[⟨9, .data⟩, ⟨7, .data⟩, ⟨10, .chain⟩, ⟨0, .phase⟩, ⟨1, .phase⟩, ⟨2, .phase⟩, ⟨3, .phase⟩, ⟨4, .phase⟩, ⟨5, .phase⟩, ⟨6, .phase⟩, ⟨7, .phase⟩, ⟨8, .phase⟩, ⟨9, .phase⟩, ⟨10, .phase⟩], none⟩] true).wp Tryz.prog Q { tmps := List.toArray (v0 :: v1 :: .pointer (some ⟨A, 0, none⟩) :: .pointer (some ⟨B, 0, none⟩) :: v4 :: v5 :: v6 :: undef :: undef :: v9 :: v10 :: v11 :: v12 :: v13 :: v14 :: v15 :: v16 :: v17 :: v18 :: v19 :: v20 :: v21 :: v22 :: v23 :: v24 :: v25 :: v26 :: undef :: undef :: undef :: undef :: undef :: undef :: undef :: undef :: v35 :: v36 :: v37 :: v38 :: v39 :: v40 :: v41 :: v42 :: v43 :: v44 :: v45 :: v46 :: v47 :: v48 :: v49 :: v50 :: v51 :: v52 :: v53 :: v54 :: ([] : List Value)), defers := [] } W := by
 refine wp_region_held_drew (S := fun w' => w'.cell? ⟨A, 0, none⟩ = some (.bool neg) ∧ w'.cell? ⟨A, 1, none⟩ = some (.string s) ∧ w'.cell? ⟨B, 0, none⟩ = some (.bool neg') ∧ w'.cell? ⟨B, 1, none⟩ = some (.string s') ∧ Gr W w') (by kernel_rfl) ⟨x0, x1, y0, y1, (Gr.refl W).drewOne⟩ (fun hHeld => ?_)
 refine chain_any (fun G out inn => ?_)
 have keepS : ∀ {w w' : World}, (fun w' => w'.cell? ⟨A, 0, none⟩ = some (.bool neg) ∧ w'.cell? ⟨A, 1, none⟩ = some (.string s) ∧ w'.cell? ⟨B, 0, none⟩ = some (.bool neg') ∧ w'.cell? ⟨B, 1, none⟩ = some (.string s') ∧ Gr W w') w → Gr w w' → (fun w' => w'.cell? ⟨A, 0, none⟩ = some (.bool neg) ∧ w'.cell? ⟨A, 1, none⟩ = some (.string s) ∧ w'.cell? ⟨B, 0, none⟩ = some (.bool neg') ∧ w'.cell? ⟨B, 1, none⟩ = some (.string s') ∧ Gr W w') w' := fun h g => ⟨g.keeps h.1, g.keeps h.2.1, g.keeps h.2.2.1, g.keeps h.2.2.2.1, h.2.2.2.2.trans g⟩
 have st311 : ∀ (u v q r : Value) (B7 B8 : Nat) (w : World), (fun w' => w'.cell? ⟨A, 0, none⟩ = some (.bool neg) ∧ w'.cell? ⟨A, 1, none⟩ = some (.string s) ∧ w'.cell? ⟨B, 0, none⟩ = some (.bool neg') ∧ w'.cell? ⟨B, 1, none⟩ = some (.string s') ∧ Gr W w') w → HasJ 130 w q (zOf neg s / zOf neg' s') → HasJ 129 w r (zOf neg s % zOf neg' s') → Fresh W w B7 → Fresh W w B8 → ¬ (B7 = B8) → G 2 #[true, true, true, true, true, true, true, true, true, true, false, false] { tmps := List.toArray (v0 :: v1 :: .pointer (some ⟨A, 0, none⟩) :: .pointer (some ⟨B, 0, none⟩) :: v4 :: v5 :: v6 :: .pointer (some ⟨B7, 0, none⟩) :: .pointer (some ⟨B8, 0, none⟩) :: v9 :: v10 :: v11 :: v12 :: v13 :: v14 :: v15 :: v16 :: v17 :: v18 :: v19 :: v20 :: v21 :: v22 :: v23 :: v24 :: v25 :: v26 :: .tuple #[q, r] :: .agg #[.bool neg, .string s] :: u :: .agg #[.bool neg', .string s'] :: v :: .tuple #[q, r] :: q :: r :: v35 :: v36 :: v37 :: v38 :: v39 :: v40 :: v41 :: v42 :: v43 :: v44 :: v45 :: v46 :: v47 :: v48 :: v49 :: v50 :: v51 :: v52 :: v53 :: v54 :: ([] : List Value)), defers := [] } w := by
  intro u v q r B7 B8 w hS hq hr f7 f8 hne
  refine inn _ _ _ _ ?_
  obtain ⟨sq, lq, rfl, hsq, hnq⟩ := id hq
  obtain ⟨-, aq, cq, rfl, -, -, -⟩ := id hsq
  obtain ⟨sr, lr, rfl, hsr, hnr⟩ := id hr
  obtain ⟨-, ar, cr, rfl, -, -, -⟩ := id hsr
  obtain ⟨nq, hnq'⟩ : ∃ n, n = decide (zOf neg s / zOf neg' s' < 0) := ⟨_, rfl⟩
  obtain ⟨nr, hnr'⟩ : ∃ n, n = decide (zOf neg s % zOf neg' s' < 0) := ⟨_, rfl⟩
  rw [← hnq'] at hq
  rw [← hnr'] at hr
  rw [← hnq', ← hnr']
  clear hsq hnq hsr hnr hnq' hnr'
  have HQ := Lib.hid hq
  have HR := Lib.hid hr
  clear hq hr
  obtain ⟨l7, c70, c71, z70, z71⟩ := f7
  obtain ⟨l8, c80, c81, z80, z81⟩ := f8
  refine wpAnyH_ready (rs := [10]) (by kernel_rfl) (by simp) ?_
  refine AllReadyH.cons (o := ⟨none, .store 101 (.tmp 7) (.tmp 33), 0, "ref.go:409", #[⟨8, .data⟩, ⟨6, .data⟩, ⟨4, .chain⟩, ⟨0, .phase⟩, ⟨1, .phase⟩, ⟨2, .phase⟩, ⟨3, .phase⟩, ⟨4, .phase⟩, ⟨5, .phase⟩, ⟨6, .phase⟩, ⟨7, .textOnly .lateStores⟩, ⟨8, .phase⟩, ⟨9, .phase⟩], none⟩) rfl (fun K hK => ?_) AllReadyH.nil
  go_simp
  have hbA : A < W.heap.size := World.block_lt_of_cell? W _ x0
  have hbB : B < W.heap.size := World.block_lt_of_cell? W _ y0
  obtain ⟨V, hV⟩ : ∃ V, V = (w.setCell ⟨B7, 0, none⟩ (.bool nq)).setCell ⟨B7, 1, none⟩ (.slice aq lq.length cq) := ⟨_, rfl⟩
  have kS : (fun w' => w'.cell? ⟨A, 0, none⟩ = some (.bool neg) ∧ w'.cell? ⟨A, 1, none⟩ = some (.string s) ∧ w'.cell? ⟨B, 0, none⟩ = some (.bool neg') ∧ w'.cell? ⟨B, 1, none⟩ = some (.string s') ∧ Gr W w') V := by
   rw [hV]
   exact ⟨keep2 hS.1 (by omega), keep2 hS.2.1 (by omega), keep2 hS.2.2.1 (by omega), keep2 hS.2.2.2.1 (by omega), (hS.2.2.2.2.setCell (p := ⟨B7, 0, none⟩) l7 _).setCell (p := ⟨B7, 1, none⟩) l7 _⟩
  have d70 : V.cell? ⟨B7, 0, none⟩ = some (.bool nq) := by rw [hV]; exact (put2 c70 c71 _ _).1
  have d71 : V.cell? ⟨B7, 1, none⟩ = some (.slice aq lq.length cq) := by rw [hV]; exact (put2 c70 c71 _ _).2
  have d80 : V.cell? ⟨B8, 0, none⟩ = some (.bool false) := by rw [hV]; exact keep2 c80 (fun e => hne e.symm)
  have d81 : V.cell? ⟨B8, 1, none⟩ = some (.slice none 0 0) := by rw [hV]; exact keep2 c81 (fun e => hne e.symm)
  have y80 : V.frozen? ⟨B8, 0, none⟩ = false := by rw [hV]; simp only [frozen_set]; exact z80
  have y81 : V.frozen? ⟨B8, 1, none⟩ = false := by rw [hV]; simp only [frozen_set]; exact z81
  have y70 : V.frozen? ⟨B7, 0, none⟩ = false := by rw [hV]; simp only [frozen_set]; exact z70
  have y71 : V.frozen? ⟨B7, 1, none⟩ = false := by rw [hV]; simp only [frozen_set]; exact z71
  have HQ := Lib.hid (show HasJ 130 V _ _ by rw [hV]; exact HQ.out.set2 c70 c71)
  have HR := Lib.hid (show HasJ 129 V _ _ by rw [hV]; exact HR.out.set2 c70 c71)
  rw [← hV]
  clear hV c70 c71 c80 c81 z70 z71 z80 z81
  refine hK.out _ _ kS (fun hHeld => ?_)
  clear hK K
  (simp only [Act.put, List.setIfInBounds_toArray, List.set_cons_zero, List.set_cons_succ])
  refine wpAnyH_ready (rs := [11]) (by kernel_rfl) (by simp) ?_
  refine AllReadyH.cons (o := ⟨none, .store 101 (.tmp 8) (.tmp 34), 0, "ref.go:409", #[⟨9, .data⟩, ⟨7, .data⟩, ⟨10, .chain⟩, ⟨0, .phase⟩, ⟨1, .phase⟩, ⟨2, .phase⟩, ⟨3, .phase⟩, ⟨4, .phase⟩, ⟨5, .phase⟩, ⟨6, .phase⟩, ⟨7, .phase⟩, ⟨8, .phase⟩, ⟨9, .phase⟩, ⟨10, .phase⟩], none⟩) rfl (fun K hK => ?_) AllReadyH.nil
  go_simp
  obtain ⟨V2, hV2⟩ : ∃ V2, V2 = (V.setCell ⟨B8, 0, none⟩ (.bool nr)).setCell ⟨B8, 1, none⟩ (.slice ar lr.length cr) := ⟨_, rfl⟩
  have kS2 : (fun w' => w'.cell? ⟨A, 0, none⟩ = some (.bool neg) ∧ w'.cell? ⟨A, 1, none⟩ = some (.string s) ∧ w'.cell? ⟨B, 0, none⟩ = some (.bool neg') ∧ w'.cell? ⟨B, 1, none⟩ = some (.string s') ∧ Gr W w') V2 := by
   rw [hV2]
   exact ⟨keep2 kS.1 (by omega), keep2 kS.2.1 (by omega), keep2 kS.2.2.1 (by omega), keep2 kS.2.2.2.1 (by omega), (kS.2.2.2.2.setCell (p := ⟨B8, 0, none⟩) l8 _).setCell (p := ⟨B8, 1, none⟩) l8 _⟩
  have e70 : V2.cell? ⟨B7, 0, none⟩ = some (.bool nq) := by rw [hV2]; exact keep2 d70 hne
  have e71 : V2.cell? ⟨B7, 1, none⟩ = some (.slice aq lq.length cq) := by rw [hV2]; exact keep2 d71 hne
  have e80 : V2.cell? ⟨B8, 0, none⟩ = some (.bool nr) := by rw [hV2]; exact (put2 d80 d81 _ _).1
  have e81 : V2.cell? ⟨B8, 1, none⟩ = some (.slice ar lr.length cr) := by rw [hV2]; exact (put2 d80 d81 _ _).2
  have x80 : V2.frozen? ⟨B8, 0, none⟩ = false := by rw [hV2]; simp only [frozen_set]; exact y80
  have x81 : V2.frozen? ⟨B8, 1, none⟩ = false := by rw [hV2]; simp only [frozen_set]; exact y81
  have HQ := Lib.hid (show HasJ 130 V2 _ _ by rw [hV2]; exact HQ.out.set2 d80 d81)
  have HR := Lib.hid (show HasJ 129 V2 _ _ by rw [hV2]; exact HR.out.set2 d80 d81)
  rw [← hV2]
  clear hV2
  refine hK.out _ _ kS2 (fun hHeld => ?_)
  clear hK K
  (simp only [Act.put, List.setIfInBounds_toArray, List.set_cons_zero, List.set_cons_succ])
  refine wpAnyH_done (by kernel_rfl) ?_ _
  exact hpost _ _ _ _ _ _ _ _ _ _ _ ⟨_, _, nq, aq, _, cq, nr, ar, _, cr, rfl, rfl, l7, l8, e70, e71, e80, e81, x80, x81, HQ.out, HR.out, kS2.2.2.2.2⟩
 have st310 : ∀ (u v q r : Value) (B7 : Nat) (w : World), (fun w' => w'.cell? ⟨A, 0, none⟩ = some (.bool neg) ∧ w'.cell? ⟨A, 1, none⟩ = some (.string s) ∧ w'.cell? ⟨B, 0, none⟩ = some (.bool neg') ∧ w'.cell? ⟨B, 1, none⟩ = some (.string s') ∧ Gr W w') w → HasJ 130 w q (zOf neg s / zOf neg' s') → HasJ 129 w r (zOf neg s % zOf neg' s') → Fresh W w B7 → G 3 #[true, true, true, true, true, true, true, true, true, false, false, false] { tmps := List.toArray (v0 :: v1 :: .pointer (some ⟨A, 0, none⟩) :: .pointer (some ⟨B, 0, none⟩) :: v4 :: v5 :: v6 :: .pointer (some ⟨B7, 0, none⟩) :: undef :: v9 :: v10 :: v11 :: v12 :: v13 :: v14 :: v15 :: v16 :: v17 :: v18 :: v19 :: v20 :: v21 :: v22 :: v23 :: v24 :: v25 :: v26 :: .tuple #[q, r] :: .agg #[.bool neg, .string s] :: u :: .agg #[.bool neg', .string s'] :: v :: .tuple #[q, r] :: q :: r :: v35 :: v36 :: v37 :: v38 :: v39 :: v40 :: v41 :: v42 :: v43 :: v44 :: v45 :: v46 :: v47 :: v48 :: v49 :: v50 :: v51 :: v52 :: v53 :: v54 :: ([] : List Value)), defers := [] } w := by
  intro u v q r B7 w hS hq hr f7
  refine inn _ _ _ _ ?_
  refine wpAnyH_ready (rs := [9]) (by kernel_rfl) (by simp) ?_
  refine AllReadyH.cons (o := ⟨some 8, .alloc 101, 0, "ref.go:409", #[], none⟩) rfl (fun K hK => ?_) ?_
  ·go_simp
   have g : Gr w (w.alloc (.cells #[.bool false, .slice none 0 0] 101)) := Gr.new w _
   refine hK.out _ _ (keepS hS g) (fun hHeld => ?_)
   (simp only [Act.put, List.setIfInBounds_toArray, List.set_cons_zero, List.set_cons_succ])
   exact out _ _ _ _ (st311 _ _ _ _ _ _ _ hHeld (hq.later g) (hr.later g) (f7.later g) (Fresh.new hS.2.2.2.2 _) (fun e => f7.ne e.symm))
  exact AllReadyH.nil
 have st301 : ∀ (u v q r : Value) (B8 : Nat) (w : World), (fun w' => w'.cell? ⟨A, 0, none⟩ = some (.bool neg) ∧ w'.cell? ⟨A, 1, none⟩ = some (.string s) ∧ w'.cell? ⟨B, 0, none⟩ = some (.bool neg') ∧ w'.cell? ⟨B, 1, none⟩ = some (.string s') ∧ Gr W w') w → HasJ 130 w q (zOf neg s / zOf neg' s') → HasJ 129 w r (zOf neg s % zOf neg' s') → Fresh W w B8 → G 3 #[true, true, true, true, true, true, true, true, false, true, false, false] { tmps := List.toArray (v0 :: v1 :: .pointer (some ⟨A, 0, none⟩) :: .pointer (some ⟨B, 0, none⟩) :: v4 :: v5 :: v6 :: undef :: .pointer (some ⟨B8, 0, none⟩) :: v9 :: v10 :: v11 :: v12 :: v13 :: v14 :: v15 :: v16 :: v17 :: v18 :: v19 :: v20 :: v21 :: v22 :: v23 :: v24 :: v25 :: v26 :: .tuple #[q, r] :: .agg #[.bool neg, .string s] :: u :: .agg #[.bool neg', .string s'] :: v :: .tuple #[q, r] :: q :: r :: v35 :: v36 :: v37 :: v38 :: v39 :: v40 :: v41 :: v42 :: v43 :: v44 :: v45 :: v46 :: v47 :: v48 :: v49 :: v50 :: v51 :: v52 :: v53 :: v54 :: ([] : List Value)), defers := [] } w := by
  intro u v q r B8 w hS hq hr f8
  refine inn _ _ _ _ ?_
  refine wpAnyH_ready (rs := [8]) (by kernel_rfl) (by simp) ?_
  refine AllReadyH.cons (o := ⟨some 7, .alloc 101, 0, "ref.go:409", #[], none⟩) rfl (fun K hK => ?_) ?_
  ·go_simp
   have g : Gr w (w.alloc (.cells #[.bool false, .slice none 0 0] 101)) := Gr.new w _
   refine hK.out _ _ (keepS hS g) (fun hHeld => ?_)
   (simp only [Act.put, List.setIfInBounds_toArray, List.set_cons_zero, List.set_cons_succ])
   exact out _ _ _ _ (st311 _ _ _ _ _ _ _ hHeld (hq.later g) (hr.later g) (Fresh.new hS.2.2.2.2 _) (f8.later g) (f8.ne))
  exact AllReadyH.nil
 have st300 : ∀ (u v q r : Value) (w : World), (fun w' => w'.cell? ⟨A, 0, none⟩ = some (.bool neg) ∧ w'.cell? ⟨A, 1, none⟩ = some (.string s) ∧ w'.cell? ⟨B, 0, none⟩ = some (.bool neg') ∧ w'.cell? ⟨B, 1, none⟩ = some (.string s') ∧ Gr W w') w → HasJ 130 w q (zOf neg s / zOf neg' s') → HasJ 129 w r (zOf neg s % zOf neg' s') → G 4 #[true, true, true, true, true, true, true, true, false, false, false, false] { tmps := List.toArray (v0 :: v1 :: .pointer (some ⟨A, 0, none⟩) :: .pointer (some ⟨B, 0, none⟩) :: v4 :: v5 :: v6 :: undef :: undef :: v9 :: v10 :: v11 :: v12 :: v13 :: v14 :: v15 :: v16 :: v17 :: v18 :: v19 :: v20 :: v21 :: v22 :: v23 :: v24 :: v25 :: v26 :: .tuple #[q, r] :: .agg #[.bool neg, .string s] :: u :: .agg #[.bool neg', .string s'] :: v :: .tuple #[q, r] :: q :: r :: v35 :: v36 :: v37 :: v38 :: v39 :: v40 :: v41 :: v42 :: v43 :: v44 :: v45 :: v46 :: v47 :: v48 :: v49 :: v50 :: v51 :: v52 :: v53 :: v54 :: ([] : List Value)), defers := [] } w := by
  intro u v q r w hS hq hr
  refine inn _ _ _ _ ?_
  refine wpAnyH_ready (rs := [8, 9]) (by kernel_rfl) (by simp) ?_
  refine AllReadyH.cons (o := ⟨some 7, .alloc 101, 0, "ref.go:409", #[], none⟩) rfl (fun K hK => ?_) ?_
  ·go_simp
   have g : Gr w (w.alloc (.cells #[.bool false, .slice none 0 0] 101)) := Gr.new w _
   refine hK.out _ _ (keepS hS g) (fun hHeld => ?_)
   (simp only [Act.put, List.setIfInBounds_toArray, List.set_cons_zero, List.set_cons_succ])
   exact out _ _ _ _ (st310 _ _ _ _ _ _ hHeld (hq.later g) (hr.later g) (Fresh.new hS.2.2.2.2 _))
  refine AllReadyH.cons (o := ⟨some 8, .alloc 101, 0, "ref.go:409", #[], none⟩) rfl (fun K hK => ?_) ?_
  ·go_simp
   have g : Gr w (w.alloc (.cells #[.bool false, .slice none 0 0] 101)) := Gr.new w _
   refine hK.out _ _ (keepS hS g) (fun hHeld => ?_)
   (simp only [Act.put, List.setIfInBounds_toArray, List.set_cons_zero, List.set_cons_succ])
   exact out _ _ _ _ (st301 _ _ _ _ _ _ hHeld (hq.later g) (hr.later g) (Fresh.new hS.2.2.2.2 _))
  exact AllReadyH.nil
 have st211 : ∀ (u v : Value) (B7 B8 : Nat) (w : World), (fun w' => w'.cell? ⟨A, 0, none⟩ = some (.bool neg) ∧ w'.cell? ⟨A, 1, none⟩ = some (.string s) ∧ w'.cell? ⟨B, 0, none⟩ = some (.bool neg') ∧ w'.cell? ⟨B, 1, none⟩ = some (.string s') ∧ Gr W w') w → HasJ 129 w u (zOf neg s) → HasJ 129 w v (zOf neg' s') → Fresh W w B7 → Fresh W w B8 → ¬ (B7 = B8) → G 6 #[true, true, true, true, false, false, false, false, true, true, false, false] { tmps := List.toArray (v0 :: v1 :: .pointer (some ⟨A, 0, none⟩) :: .pointer (some ⟨B, 0, none⟩) :: v4 :: v5 :: v6 :: .pointer (some ⟨B7, 0, none⟩) :: .pointer (some ⟨B8, 0, none⟩) :: v9 :: v10 :: v11 :: v12 :: v13 :: v14 :: v15 :: v16 :: v17 :: v18 :: v19 :: v20 :: v21 :: v22 :: v23 :: v24 :: v25 :: v26 :: undef :: .agg #[.bool neg, .string s] :: u :: .agg #[.bool neg', .string s'] :: v :: undef :: undef :: undef :: v35 :: v36 :: v37 :: v38 :: v39 :: v40 :: v41 :: v42 :: v43 :: v44 :: v45 :: v46 :: v47 :: v48 :: v49 :: v50 :: v51 :: v52 :: v53 :: v54 :: ([] : List Value)), defers := [] } w := by
  intro u v B7 B8 w hS hu hv f7 f8 hne
  refine inn _ _ _ _ ?_
  refine wpAnyH_ready (rs := [4]) (by kernel_rfl) (by simp) ?_
  refine AllReadyH.cons (o := ⟨some 32, .call ⟨.value (.func 150), #[.tmp 29, .tmp 31], #[101, 101]⟩, 151, "ref.go:409", #[⟨1, .data⟩, ⟨3, .data⟩, ⟨3, .chain⟩], none⟩) rfl (fun K hK => ?_) ?_
  ·go_simp
   go_at_call 150
   refine (rdiv_two 129 _ _ _ _ _ hu hv HY (by omega)).mono ?_
   rintro e w' ⟨q, r, rfl, hq, hr, g⟩
   go_wp2_with fail
   refine hK.out _ _ (keepS hS g) (fun hHeld => ?_)
   (simp only [Act.put, List.setIfInBounds_toArray, List.set_cons_zero, List.set_cons_succ])
   refine wpAnyH_take (i := 5) (oi := ⟨some 27, .move (.tmp 32), 151, "ref.go:409", #[⟨4, .data⟩], none⟩) (v := ?_) rfl (by kernel_rfl) (by kernel_rfl) (by kernel_rfl) (hQ _ _) (Or.inl ⟨by rfl, ?_⟩) (by assumption) ?_
   rotate_left
   ·intro w0 hSw; (try dsimp only at hSw); go_simp; try with_reducible rfl
   (simp only [Act.put, List.setIfInBounds_toArray, List.set_cons_zero, List.set_cons_succ])
   refine wpAnyH_take (i := 6) (oi := ⟨some 33, .extract (.tmp 27) 0, 101, "ref.go:409", #[⟨5, .data⟩], none⟩) (v := ?_) rfl (by kernel_rfl) (by kernel_rfl) (by kernel_rfl) (hQ _ _) (Or.inl ⟨by rfl, ?_⟩) (by assumption) ?_
   rotate_left
   ·intro w0 hSw; (try dsimp only at hSw); go_simp; try with_reducible rfl
   (simp only [Act.put, List.setIfInBounds_toArray, List.set_cons_zero, List.set_cons_succ])
   refine wpAnyH_take (i := 7) (oi := ⟨some 34, .extract (.tmp 27) 1, 101, "ref.go:409", #[⟨5, .data⟩, ⟨10, .gcOnly .lateStores⟩], none⟩) (v := ?_) rfl (by kernel_rfl) (by kernel_rfl) (by kernel_rfl) (hQ _ _) (Or.inl ⟨by rfl, ?_⟩) (by assumption) ?_
   rotate_left
   ·intro w0 hSw; (try dsimp only at hSw); go_simp; try with_reducible rfl
   (simp only [Act.put, List.setIfInBounds_toArray, List.set_cons_zero, List.set_cons_succ])
   exact out _ _ _ _ (st311 _ _ _ _ _ _ _ hHeld hq hr (f7.later g) (f8.later g) hne)
  exact AllReadyH.nil
 have st210 : ∀ (u v : Value) (B7 : Nat) (w : World), (fun w' => w'.cell? ⟨A, 0, none⟩ = some (.bool neg) ∧ w'.cell? ⟨A, 1, none⟩ = some (.string s) ∧ w'.cell? ⟨B, 0, none⟩ = some (.bool neg') ∧ w'.cell? ⟨B, 1, none⟩ = some (.string s') ∧ Gr W w') w → HasJ 129 w u (zOf neg s) → HasJ 129 w v (zOf neg' s') → Fresh W w B7 → G 7 #[true, true, true, true, false, false, false, false, true, false, false, false] { tmps := List.toArray (v0 :: v1 :: .pointer (some ⟨A, 0, none⟩) :: .pointer (some ⟨B, 0, none⟩) :: v4 :: v5 :: v6 :: .pointer (some ⟨B7, 0, none⟩) :: undef :: v9 :: v10 :: v11 :: v12 :: v13 :: v14 :: v15 :: v16 :: v17 :: v18 :: v19 :: v20 :: v21 :: v22 :: v23 :: v24 :: v25 :: v26 :: undef :: .agg #[.bool neg, .string s] :: u :: .agg #[.bool neg', .string s'] :: v :: undef :: undef :: undef :: v35 :: v36 :: v37 :: v38 :: v39 :: v40 :: v41 :: v42 :: v43 :: v44 :: v45 :: v46 :: v47 :: v48 :: v49 :: v50 :: v51 :: v52 :: v53 :: v54 :: ([] : List Value)), defers := [] } w := by
  intro u v B7 w hS hu hv f7
  refine inn _ _ _ _ ?_
  refine wpAnyH_ready (rs := [4, 9]) (by kernel_rfl) (by simp) ?_
  refine AllReadyH.cons (o := ⟨some 32, .call ⟨.value (.func 150), #[.tmp 29, .tmp 31], #[101, 101]⟩, 151, "ref.go:409", #[⟨1, .data⟩, ⟨3, .data⟩, ⟨3, .chain⟩], none⟩) rfl (fun K hK => ?_) ?_
  ·go_simp
   go_at_call 150
   refine (rdiv_two 129 _ _ _ _ _ hu hv HY (by omega)).mono ?_
   rintro e w' ⟨q, r, rfl, hq, hr, g⟩
   go_wp2_with fail
   refine hK.out _ _ (keepS hS g) (fun hHeld => ?_)
   (simp only [Act.put, List.setIfInBounds_toArray, List.set_cons_zero, List.set_cons_succ])
   refine wpAnyH_take (i := 5) (oi := ⟨some 27, .move (.tmp 32), 151, "ref.go:409", #[⟨4, .data⟩], none⟩) (v := ?_) rfl (by kernel_rfl) (by kernel_rfl) (by kernel_rfl) (hQ _ _) (Or.inl ⟨by rfl, ?_⟩) (by assumption) ?_
   rotate_left
   ·intro w0 hSw; (try dsimp only at hSw); go_simp; try with_reducible rfl
   (simp only [Act.put, List.setIfInBounds_toArray, List.set_cons_zero, List.set_cons_succ])
   refine wpAnyH_take (i := 6) (oi := ⟨some 33, .extract (.tmp 27) 0, 101, "ref.go:409", #[⟨5, .data⟩], none⟩) (v := ?_) rfl (by kernel_rfl) (by kernel_rfl) (by kernel_rfl) (hQ _ _) (Or.inl ⟨by rfl, ?_⟩) (by assumption) ?_
   rotate_left
   ·intro w0 hSw; (try dsimp only at hSw); go_simp; try with_reducible rfl
   (simp only [Act.put, List.setIfInBounds_toArray, List.set_cons_zero, List.set_cons_succ])
   refine wpAnyH_take (i := 7) (oi := ⟨some 34, .extract (.tmp 27) 1, 101, "ref.go:409", #[⟨5, .data⟩, ⟨10, .gcOnly .lateStores⟩], none⟩) (v := ?_) rfl (by kernel_rfl) (by kernel_rfl) (by kernel_rfl) (hQ _ _) (Or.inl ⟨by rfl, ?_⟩) (by assumption) ?_
   rotate_left
   ·intro w0 hSw; (try dsimp only at hSw); go_simp; try with_reducible rfl
   (simp only [Act.put, List.setIfInBounds_toArray, List.set_cons_zero, List.set_cons_succ])
   exact out _ _ _ _ (st310 _ _ _ _ _ _ hHeld hq hr (f7.later g))
  refine AllReadyH.cons (o := ⟨some 8, .alloc 101, 0, "ref.go:409", #[], none⟩) rfl (fun K hK => ?_) ?_
  ·go_simp
   have g : Gr w (w.alloc (.cells #[.bool false, .slice none 0 0] 101)) := Gr.new w _
   refine hK.out _ _ (keepS hS g) (fun hHeld => ?_)
   (simp only [Act.put, List.setIfInBounds_toArray, List.set_cons_zero, List.set_cons_succ])
   exact out _ _ _ _ (st211 _ _ _ _ _ hHeld (hu.later g) (hv.later g) (f7.later g) (Fresh.new hS.2.2.2.2 _) (fun e => f7.ne e.symm))
  exact AllReadyH.nil
 have st201 : ∀ (u v : Value) (B8 : Nat) (w : World), (fun w' => w'.cell? ⟨A, 0, none⟩ = some (.bool neg) ∧ w'.cell? ⟨A, 1, none⟩ = some (.string s) ∧ w'.cell? ⟨B, 0, none⟩ = some (.bool neg') ∧ w'.cell? ⟨B, 1, none⟩ = some (.string s') ∧ Gr W w') w → HasJ 129 w u (zOf neg s) → HasJ 129 w v (zOf neg' s') → Fresh W w B8 → G 7 #[true, true, true, true, false, false, false, false, false, true, false, false] { tmps := List.toArray (v0 :: v1 :: .pointer (some ⟨A, 0, none⟩) :: .pointer (some ⟨B, 0, none⟩) :: v4 :: v5 :: v6 :: undef :: .pointer (some ⟨B8, 0, none⟩) :: v9 :: v10 :: v11 :: v12 :: v13 :: v14 :: v15 :: v16 :: v17 :: v18 :: v19 :: v20 :: v21 :: v22 :: v23 :: v24 :: v25 :: v26 :: undef :: .agg #[.bool neg, .string s] :: u :: .agg #[.bool neg', .string s'] :: v :: undef :: undef :: undef :: v35 :: v36 :: v37 :: v38 :: v39 :: v40 :: v41 :: v42 :: v43 :: v44 :: v45 :: v46 :: v47 :: v48 :: v49 :: v50 :: v51 :: v52 :: v53 :: v54 :: ([] : List Value)), defers := [] } w := by
  intro u v B8 w hS hu hv f8
  refine inn _ _ _ _ ?_
  refine wpAnyH_ready (rs := [4, 8]) (by kernel_rfl) (by simp) ?_
  refine AllReadyH.cons (o := ⟨some 32, .call ⟨.value (.func 150), #[.tmp 29, .tmp 31], #[101, 101]⟩, 151, "ref.go:409", #[⟨1, .data⟩, ⟨3, .data⟩, ⟨3, .chain⟩], none⟩) rfl (fun K hK => ?_) ?_
  ·go_simp
   go_at_call 150
   refine (rdiv_two 129 _ _ _ _ _ hu hv HY (by omega)).mono ?_
   rintro e w' ⟨q, r, rfl, hq, hr, g⟩
   go_wp2_with fail
   refine hK.out _ _ (keepS hS g) (fun hHeld => ?_)
   (simp only [Act.put, List.setIfInBounds_toArray, List.set_cons_zero, List.set_cons_succ])
   refine wpAnyH_take (i := 5) (oi := ⟨some 27, .move (.tmp 32), 151, "ref.go:409", #[⟨4, .data⟩], none⟩) (v := ?_) rfl (by kernel_rfl) (by kernel_rfl) (by kernel_rfl) (hQ _ _) (Or.inl ⟨by rfl, ?_⟩) (by assumption) ?_
   rotate_left
   ·intro w0 hSw; (try dsimp only at hSw); go_simp; try with_reducible rfl
   (simp only [Act.put, List.setIfInBounds_toArray, List.set_cons_zero, List.set_cons_succ])
   refine wpAnyH_take (i := 6) (oi := ⟨some 33, .extract (.tmp 27) 0, 101, "ref.go:409", #[⟨5, .data⟩], none⟩) (v := ?_) rfl (by kernel_rfl) (by kernel_rfl) (by kernel_rfl) (hQ _ _) (Or.inl ⟨by rfl, ?_⟩) (by assumption) ?_
   rotate_left
   ·intro w0 hSw; (try dsimp only at hSw); go_simp; try with_reducible rfl
   (simp only [Act.put, List.setIfInBounds_toArray, List.set_cons_zero, List.set_cons_succ])
   refine wpAnyH_take (i := 7) (oi := ⟨some 34, .extract (.tmp 27) 1, 101, "ref.go:409", #[⟨5, .data⟩, ⟨10, .gcOnly .lateStores⟩], none⟩) (v := ?_) rfl (by kernel_rfl) (by kernel_rfl) (by kernel_rfl) (hQ _ _) (Or.inl ⟨by rfl, ?_⟩) (by assumption) ?_
   rotate_left
   ·intro w0 hSw; (try dsimp only at hSw); go_simp; try with_reducible rfl
   (simp only [Act.put, List.setIfInBounds_toArray, List.set_cons_zero, List.set_cons_succ])
   exact out _ _ _ _ (st301 _ _ _ _ _ _ hHeld hq hr (f8.later g))
  refine AllReadyH.cons (o := ⟨some 7, .alloc 101, 0, "ref.go:409", #[], none⟩) rfl (fun K hK => ?_) ?_
  ·go_simp
   have g : Gr w (w.alloc (.cells #[.bool false, .slice none 0 0] 101)) := Gr.new w _
   refine hK.out _ _ (keepS hS g) (fun hHeld => ?_)
   (simp only [Act.put, List.setIfInBounds_toArray, List.set_cons_zero, List.set_cons_succ])
   exact out _ _ _ _ (st211 _ _ _ _ _ hHeld (hu.later g) (hv.later g) (Fresh.new hS.2.2.2.2 _) (f8.later g) (f8.ne))
  exact AllReadyH.nil
 have st200 : ∀ (u v : Value) (w : World), (fun w' => w'.cell? ⟨A, 0, none⟩ = some (.bool neg) ∧ w'.cell? ⟨A, 1, none⟩ = some (.string s) ∧ w'.cell? ⟨B, 0, none⟩ = some (.bool neg') ∧ w'.cell? ⟨B, 1, none⟩ = some (.string s') ∧ Gr W w') w → HasJ 129 w u (zOf neg s) → HasJ 129 w v (zOf neg' s') → G 8 #[true, true, true, true, false, false, false, false, false, false, false, false] { tmps := List.toArray (v0 :: v1 :: .pointer (some ⟨A, 0, none⟩) :: .pointer (some ⟨B, 0, none⟩) :: v4 :: v5 :: v6 :: undef :: undef :: v9 :: v10 :: v11 :: v12 :: v13 :: v14 :: v15 :: v16 :: v17 :: v18 :: v19 :: v20 :: v21 :: v22 :: v23 :: v24 :: v25 :: v26 :: undef :: .agg #[.bool neg, .string s] :: u :: .agg #[.bool neg', .string s'] :: v :: undef :: undef :: undef :: v35 :: v36 :: v37 :: v38 :: v39 :: v40 :: v41 :: v42 :: v43 :: v44 :: v45 :: v46 :: v47 :: v48 :: v49 :: v50 :: v51 :: v52 :: v53 :: v54 :: ([] : List Value)), defers := [] } w := by
  intro u v w hS hu hv
  refine inn _ _ _ _ ?_
  refine wpAnyH_ready (rs := [4, 8, 9]) (by kernel_rfl) (by simp) ?_
  refine AllReadyH.cons (o := ⟨some 32, .call ⟨.value (.func 150), #[.tmp 29, .tmp 31], #[101, 101]⟩, 151, "ref.go:409", #[⟨1, .data⟩, ⟨3, .data⟩, ⟨3, .chain⟩], none⟩) rfl (fun K hK => ?_) ?_
  ·go_simp
   go_at_call 150
   refine (rdiv_two 129 _ _ _ _ _ hu hv HY (by omega)).mono ?_
   rintro e w' ⟨q, r, rfl, hq, hr, g⟩
   go_wp2_with fail
   refine hK.out _ _ (keepS hS g) (fun hHeld => ?_)
   (simp only [Act.put, List.setIfInBounds_toArray, List.set_cons_zero, List.set_cons_succ])
   refine wpAnyH_take (i := 5) (oi := ⟨some 27, .move (.tmp 32), 151, "ref.go:409", #[⟨4, .data⟩], none⟩) (v := ?_) rfl (by kernel_rfl) (by kernel_rfl) (by kernel_rfl) (hQ _ _) (Or.inl ⟨by rfl, ?_⟩) (by assumption) ?_
   rotate_left
   ·intro w0 hSw; (try dsimp only at hSw); go_simp; try with_reducible rfl
   (simp only [Act.put, List.setIfInBounds_toArray, List.set_cons_zero, List.set_cons_succ])
   refine wpAnyH_take (i := 6) (oi := ⟨some 33, .extract (.tmp 27) 0, 101, "ref.go:409", #[⟨5, .data⟩], none⟩) (v := ?_) rfl (by kernel_rfl) (by kernel_rfl) (by kernel_rfl) (hQ _ _) (Or.inl ⟨by rfl, ?_⟩) (by assumption) ?_
   rotate_left
   ·intro w0 hSw; (try dsimp only at hSw); go_simp; try with_reducible rfl
   (simp only [Act.put, List.setIfInBounds_toArray, List.set_cons_zero, List.set_cons_succ])
   refine wpAnyH_take (i := 7) (oi := ⟨some 34, .extract (.tmp 27) 1, 101, "ref.go:409", #[⟨5, .data⟩, ⟨10, .gcOnly .lateStores⟩], none⟩) (v := ?_) rfl (by kernel_rfl) (by kernel_rfl) (by kernel_rfl) (hQ _ _) (Or.inl ⟨by rfl, ?_⟩) (by assumption) ?_
   rotate_left
   ·intro w0 hSw; (try dsimp only at hSw); go_simp; try with_reducible rfl
   (simp only [Act.put, List.setIfInBounds_toArray, List.set_cons_zero, List.set_cons_succ])
   exact out _ _ _ _ (st300 _ _ _ _ _ hHeld hq hr)
  refine AllReadyH.cons (o := ⟨some 7, .alloc 101, 0, "ref.go:409", #[], none⟩) rfl (fun K hK => ?_) ?_
  ·go_simp
   have g : Gr w (w.alloc (.cells #[.bool false, .slice none 0 0] 101)) := Gr.new w _
   refine hK.out _ _ (keepS hS g) (fun hHeld => ?_)
   (simp only [Act.put, List.setIfInBounds_toArray, List.set_cons_zero, List.set_cons_succ])
   exact out _ _ _ _ (st210 _ _ _ _ hHeld (hu.later g) (hv.later g) (Fresh.new hS.2.2.2.2 _))
  refine AllReadyH.cons (o := ⟨some 8, .alloc 101, 0, "ref.go:409", #[], none⟩) rfl (fun K hK => ?_) ?_
  ·go_simp
   have g : Gr w (w.alloc (.cells #[.bool false, .slice none 0 0] 101)) := Gr.new w _
   refine hK.out _ _ (keepS hS g) (fun hHeld => ?_)
   (simp only [Act.put, List.setIfInBounds_toArray, List.set_cons_zero, List.set_cons_succ])
   exact out _ _ _ _ (st201 _ _ _ _ hHeld (hu.later g) (hv.later g) (Fresh.new hS.2.2.2.2 _))
  exact AllReadyH.nil
 have st111 : ∀ (u : Value) (B7 B8 : Nat) (w : World), (fun w' => w'.cell? ⟨A, 0, none⟩ = some (.bool neg) ∧ w'.cell? ⟨A, 1, none⟩ = some (.string s) ∧ w'.cell? ⟨B, 0, none⟩ = some (.bool neg') ∧ w'.cell? ⟨B, 1, none⟩ = some (.string s') ∧ Gr W w') w → HasJ 129 w u (zOf neg s) → Fresh W w B7 → Fresh W w B8 → ¬ (B7 = B8) → G 7 #[true, true, true, false, false, false, false, false, true, true, false, false] { tmps := List.toArray (v0 :: v1 :: .pointer (some ⟨A, 0, none⟩) :: .pointer (some ⟨B, 0, none⟩) :: v4 :: v5 :: v6 :: .pointer (some ⟨B7, 0, none⟩) :: .pointer (some ⟨B8, 0, none⟩) :: v9 :: v10 :: v11 :: v12 :: v13 :: v14 :: v15 :: v16 :: v17 :: v18 :: v19 :: v20 :: v21 :: v22 :: v23 :: v24 :: v25 :: v26 :: undef :: .agg #[.bool neg, .string s] :: u :: .agg #[.bool neg', .string s'] :: undef :: undef :: undef :: undef :: v35 :: v36 :: v37 :: v38 :: v39 :: v40 :: v41 :: v42 :: v43 :: v44 :: v45 :: v46 :: v47 :: v48 :: v49 :: v50 :: v51 :: v52 :: v53 :: v54 :: ([] : List Value)), defers := [] } w := by
  intro u B7 B8 w hS hu f7 f8 hne
  refine inn _ _ _ _ ?_
  refine wpAnyH_ready (rs := [3]) (by kernel_rfl) (by simp) ?_
  refine AllReadyH.cons (o := ⟨some 31, .call ⟨.value (.func 89), #[.tmp 30], #[50]⟩, 101, "ref.go:409", #[⟨2, .data⟩, ⟨1, .chain⟩], none⟩) rfl (fun K hK => ?_) ?_
  ·go_simp
   go_at_call 89
   refine (rin_129 neg' s' _ HF').mono ?_
   rintro e w' ⟨v, rfl, hv, g⟩
   go_wp2_with fail
   refine hK.out _ _ (keepS hS g) (fun hHeld => ?_)
   (simp only [Act.put, List.setIfInBounds_toArray, List.set_cons_zero, List.set_cons_succ])
   exact out _ _ _ _ (st211 _ _ _ _ _ hHeld (hu.later g) hv (f7.later g) (f8.later g) hne)
  exact AllReadyH.nil
 have st110 : ∀ (u : Value) (B7 : Nat) (w : World), (fun w' => w'.cell? ⟨A, 0, none⟩ = some (.bool neg) ∧ w'.cell? ⟨A, 1, none⟩ = some (.string s) ∧ w'.cell? ⟨B, 0, none⟩ = some (.bool neg') ∧ w'.cell? ⟨B, 1, none⟩ = some (.string s') ∧ Gr W w') w → HasJ 129 w u (zOf neg s) → Fresh W w B7 → G 8 #[true, true, true, false, false, false, false, false, true, false, false, false] { tmps := List.toArray (v0 :: v1 :: .pointer (some ⟨A, 0, none⟩) :: .pointer (some ⟨B, 0, none⟩) :: v4 :: v5 :: v6 :: .pointer (some ⟨B7, 0, none⟩) :: undef :: v9 :: v10 :: v11 :: v12 :: v13 :: v14 :: v15 :: v16 :: v17 :: v18 :: v19 :: v20 :: v21 :: v22 :: v23 :: v24 :: v25 :: v26 :: undef :: .agg #[.bool neg, .string s] :: u :: .agg #[.bool neg', .string s'] :: undef :: undef :: undef :: undef :: v35 :: v36 :: v37 :: v38 :: v39 :: v40 :: v41 :: v42 :: v43 :: v44 :: v45 :: v46 :: v47 :: v48 :: v49 :: v50 :: v51 :: v52 :: v53 :: v54 :: ([] : List Value)), defers := [] } w := by
  intro u B7 w hS hu f7
  refine inn _ _ _ _ ?_
  refine wpAnyH_ready (rs := [3, 9]) (by kernel_rfl) (by simp) ?_
  refine AllReadyH.cons (o := ⟨some 31, .call ⟨.value (.func 89), #[.tmp 30], #[50]⟩, 101, "ref.go:409", #[⟨2, .data⟩, ⟨1, .chain⟩], none⟩) rfl (fun K hK => ?_) ?_
  ·go_simp
   go_at_call 89
   refine (rin_129 neg' s' _ HF').mono ?_
   rintro e w' ⟨v, rfl, hv, g⟩
   go_wp2_with fail
   refine hK.out _ _ (keepS hS g) (fun hHeld => ?_)
   (simp only [Act.put, List.setIfInBounds_toArray, List.set_cons_zero, List.set_cons_succ])
   exact out _ _ _ _ (st210 _ _ _ _ hHeld (hu.later g) hv (f7.later g))
  refine AllReadyH.cons (o := ⟨some 8, .alloc 101, 0, "ref.go:409", #[], none⟩) rfl (fun K hK => ?_) ?_
  ·go_simp
   have g : Gr w (w.alloc (.cells #[.bool false, .slice none 0 0] 101)) := Gr.new w _
   refine hK.out _ _ (keepS hS g) (fun hHeld => ?_)
   (simp only [Act.put, List.setIfInBounds_toArray, List.set_cons_zero, List.set_cons_succ])
   exact out _ _ _ _ (st111 _ _ _ _ hHeld (hu.later g) (f7.later g) (Fresh.new hS.2.2.2.2 _) (fun e => f7.ne e.symm))
  exact AllReadyH.nil
 have st101 : ∀ (u : Value) (B8 : Nat) (w : World), (fun w' => w'.cell? ⟨A, 0, none⟩ = some (.bool neg) ∧ w'.cell? ⟨A, 1, none⟩ = some (.string s) ∧ w'.cell? ⟨B, 0, none⟩ = some (.bool neg') ∧ w'.cell? ⟨B, 1, none⟩ = some (.string s') ∧ Gr W w') w → HasJ 129 w u (zOf neg s) → Fresh W w B8 → G 8 #[true, true, true, false, false, false, false, false, false, true, false, false] { tmps := List.toArray (v0 :: v1 :: .pointer (some ⟨A, 0, none⟩) :: .pointer (some ⟨B, 0, none⟩) :: v4 :: v5 :: v6 :: undef :: .pointer (some ⟨B8, 0, none⟩) :: v9 :: v10 :: v11 :: v12 :: v13 :: v14 :: v15 :: v16 :: v17 :: v18 :: v19 :: v20 :: v21 :: v22 :: v23 :: v24 :: v25 :: v26 :: undef :: .agg #[.bool neg, .string s] :: u :: .agg #[.bool neg', .string s'] :: undef :: undef :: undef :: undef :: v35 :: v36 :: v37 :: v38 :: v39 :: v40 :: v41 :: v42 :: v43 :: v44 :: v45 :: v46 :: v47 :: v48 :: v49 :: v50 :: v51 :: v52 :: v53 :: v54 :: ([] : List Value)), defers := [] } w := by
  intro u B8 w hS hu f8
  refine inn _ _ _ _ ?_
  refine wpAnyH_ready (rs := [3, 8]) (by kernel_rfl) (by simp) ?_
  refine AllReadyH.cons (o := ⟨some 31, .call ⟨.value (.func 89), #[.tmp 30], #[50]⟩, 101, "ref.go:409", #[⟨2, .data⟩, ⟨1, .chain⟩], none⟩) rfl (fun K hK => ?_) ?_
  ·go_simp
   go_at_call 89
   refine (rin_129 neg' s' _ HF').mono ?_
   rintro e w' ⟨v, rfl, hv, g⟩
   go_wp2_with fail
   refine hK.out _ _ (keepS hS g) (fun hHeld => ?_)
   (simp only [Act.put, List.setIfInBounds_toArray, List.set_cons_zero, List.set_cons_succ])
   exact out _ _ _ _ (st201 _ _ _ _ hHeld (hu.later g) hv (f8.later g))
  refine AllReadyH.cons (o := ⟨some 7, .alloc 101, 0, "ref.go:409", #[], none⟩) rfl (fun K hK => ?_) ?_
  ·go_simp
   have g : Gr w (w.alloc (.cells #[.bool false, .slice none 0 0] 101)) := Gr.new w _
   refine hK.out _ _ (keepS hS g) (fun hHeld => ?_)
   (simp only [Act.put, List.setIfInBounds_toArray, List.set_cons_zero, List.set_cons_succ])
   exact out _ _ _ _ (st111 _ _ _ _ hHeld (hu.later g) (Fresh.new hS.2.2.2.2 _) (f8.later g) (f8.ne))
  exact AllReadyH.nil
 have st100 : ∀ (u : Value) (w : World), (fun w' => w'.cell? ⟨A, 0, none⟩ = some (.bool neg) ∧ w'.cell? ⟨A, 1, none⟩ = some (.string s) ∧ w'.cell? ⟨B, 0, none⟩ = some (.bool neg') ∧ w'.cell? ⟨B, 1, none⟩ = some (.string s') ∧ Gr W w') w → HasJ 129 w u (zOf neg s) → G 9 #[true, true, true, false, false, false, false, false, false, false, false, false] { tmps := List.toArray (v0 :: v1 :: .pointer (some ⟨A, 0, none⟩) :: .pointer (some ⟨B, 0, none⟩) :: v4 :: v5 :: v6 :: undef :: undef :: v9 :: v10 :: v11 :: v12 :: v13 :: v14 :: v15 :: v16 :: v17 :: v18 :: v19 :: v20 :: v21 :: v22 :: v23 :: v24 :: v25 :: v26 :: undef :: .agg #[.bool neg, .string s] :: u :: .agg #[.bool neg', .string s'] :: undef :: undef :: undef :: undef :: v35 :: v36 :: v37 :: v38 :: v39 :: v40 :: v41 :: v42 :: v43 :: v44 :: v45 :: v46 :: v47 :: v48 :: v49 :: v50 :: v51 :: v52 :: v53 :: v54 :: ([] : List Value)), defers := [] } w := by
  intro u w hS hu
  refine inn _ _ _ _ ?_
  refine wpAnyH_ready (rs := [3, 8, 9]) (by kernel_rfl) (by simp) ?_
  refine AllReadyH.cons (o := ⟨some 31, .call ⟨.value (.func 89), #[.tmp 30], #[50]⟩, 101, "ref.go:409", #[⟨2, .data⟩, ⟨1, .chain⟩], none⟩) rfl (fun K hK => ?_) ?_
  ·go_simp
   go_at_call 89
   refine (rin_129 neg' s' _ HF').mono ?_
   rintro e w' ⟨v, rfl, hv, g⟩
   go_wp2_with fail
   refine hK.out _ _ (keepS hS g) (fun hHeld => ?_)
   (simp only [Act.put, List.setIfInBounds_toArray, List.set_cons_zero, List.set_cons_succ])
   exact out _ _ _ _ (st200 _ _ _ hHeld (hu.later g) hv)
  refine AllReadyH.cons (o := ⟨some 7, .alloc 101, 0, "ref.go:409", #[], none⟩) rfl (fun K hK => ?_) ?_
  ·go_simp
   have g : Gr w (w.alloc (.cells #[.bool false, .slice none 0 0] 101)) := Gr.new w _
   refine hK.out _ _ (keepS hS g) (fun hHeld => ?_)
   (simp only [Act.put, List.setIfInBounds_toArray, List.set_cons_zero, List.set_cons_succ])
   exact out _ _ _ _ (st110 _ _ _ hHeld (hu.later g) (Fresh.new hS.2.2.2.2 _))
  refine AllReadyH.cons (o := ⟨some 8, .alloc 101, 0, "ref.go:409", #[], none⟩) rfl (fun K hK => ?_) ?_
  ·go_simp
   have g : Gr w (w.alloc (.cells #[.bool false, .slice none 0 0] 101)) := Gr.new w _
   refine hK.out _ _ (keepS hS g) (fun hHeld => ?_)
   (simp only [Act.put, List.setIfInBounds_toArray, List.set_cons_zero, List.set_cons_succ])
   exact out _ _ _ _ (st101 _ _ _ hHeld (hu.later g) (Fresh.new hS.2.2.2.2 _))
  exact AllReadyH.nil
 have st011 : ∀ (B7 B8 : Nat) (w : World), (fun w' => w'.cell? ⟨A, 0, none⟩ = some (.bool neg) ∧ w'.cell? ⟨A, 1, none⟩ = some (.string s) ∧ w'.cell? ⟨B, 0, none⟩ = some (.bool neg') ∧ w'.cell? ⟨B, 1, none⟩ = some (.string s') ∧ Gr W w') w → Fresh W w B7 → Fresh W w B8 → ¬ (B7 = B8) → G 8 #[true, false, true, false, false, false, false, false, true, true, false, false] { tmps := List.toArray (v0 :: v1 :: .pointer (some ⟨A, 0, none⟩) :: .pointer (some ⟨B, 0, none⟩) :: v4 :: v5 :: v6 :: .pointer (some ⟨B7, 0, none⟩) :: .pointer (some ⟨B8, 0, none⟩) :: v9 :: v10 :: v11 :: v12 :: v13 :: v14 :: v15 :: v16 :: v17 :: v18 :: v19 :: v20 :: v21 :: v22 :: v23 :: v24 :: v25 :: v26 :: undef :: .agg #[.bool neg, .string s] :: undef :: .agg #[.bool neg', .string s'] :: undef :: undef :: undef :: undef :: v35 :: v36 :: v37 :: v38 :: v39 :: v40 :: v41 :: v42 :: v43 :: v44 :: v45 :: v46 :: v47 :: v48 :: v49 :: v50 :: v51 :: v52 :: v53 :: v54 :: ([] : List Value)), defers := [] } w := by
  intro B7 B8 w hS f7 f8 hne
  refine inn _ _ _ _ ?_
  refine wpAnyH_ready (rs := [1]) (by kernel_rfl) (by simp) ?_
  refine AllReadyH.cons (o := ⟨some 29, .call ⟨.value (.func 89), #[.tmp 28], #[50]⟩, 101, "ref.go:409", #[⟨0, .data⟩], none⟩) rfl (fun K hK => ?_) ?_
  ·go_simp
   go_at_call 89
   refine (rin_129 neg s _ HF).mono ?_
   rintro e w' ⟨u, rfl, hu, g⟩
   go_wp2_with fail
   refine hK.out _ _ (keepS hS g) (fun hHeld => ?_)
   (simp only [Act.put, List.setIfInBounds_toArray, List.set_cons_zero, List.set_cons_succ])
   exact out _ _ _ _ (st111 _ _ _ _ hHeld hu (f7.later g) (f8.later g) hne)
  exact AllReadyH.nil
 have st010 : ∀ (B7 : Nat) (w : World), (fun w' => w'.cell? ⟨A, 0, none⟩ = some (.bool neg) ∧ w'.cell? ⟨A, 1, none⟩ = some (.string s) ∧ w'.cell? ⟨B, 0, none⟩ = some (.bool neg') ∧ w'.cell? ⟨B, 1, none⟩ = some (.string s') ∧ Gr W w') w → Fresh W w B7 → G 9 #[true, false, true, false, false, false, false, false, true, false, false, false] { tmps := List.toArray (v0 :: v1 :: .pointer (some ⟨A, 0, none⟩) :: .pointer (some ⟨B, 0, none⟩) :: v4 :: v5 :: v6 :: .pointer (some ⟨B7, 0, none⟩) :: undef :: v9 :: v10 :: v11 :: v12 :: v13 :: v14 :: v15 :: v16 :: v17 :: v18 :: v19 :: v20 :: v21 :: v22 :: v23 :: v24 :: v25 :: v26 :: undef :: .agg #[.bool neg, .string s] :: undef :: .agg #[.bool neg', .string s'] :: undef :: undef :: undef :: undef :: v35 :: v36 :: v37 :: v38 :: v39 :: v40 :: v41 :: v42 :: v43 :: v44 :: v45 :: v46 :: v47 :: v48 :: v49 :: v50 :: v51 :: v52 :: v53 :: v54 :: ([] : List Value)), defers := [] } w := by
  intro B7 w hS f7
  refine inn _ _ _ _ ?_
  refine wpAnyH_ready (rs := [1, 9]) (by kernel_rfl) (by simp) ?_
  refine AllReadyH.cons (o := ⟨some 29, .call ⟨.value (.func 89), #[.tmp 28], #[50]⟩, 101, "ref.go:409", #[⟨0, .data⟩], none⟩) rfl (fun K hK => ?_) ?_
  ·go_simp
   go_at_call 89
   refine (rin_129 neg s _ HF).mono ?_
   rintro e w' ⟨u, rfl, hu, g⟩
   go_wp2_with fail
   refine hK.out _ _ (keepS hS g) (fun hHeld => ?_)
   (simp only [Act.put, List.setIfInBounds_toArray, List.set_cons_zero, List.set_cons_succ])
   exact out _ _ _ _ (st110 _ _ _ hHeld hu (f7.later g))
  refine AllReadyH.cons (o := ⟨some 8, .alloc 101, 0, "ref.go:409", #[], none⟩) rfl (fun K hK => ?_) ?_
  ·go_simp
   have g : Gr w (w.alloc (.cells #[.bool false, .slice none 0 0] 101)) := Gr.new w _
   refine hK.out _ _ (keepS hS g) (fun hHeld => ?_)
   (simp only [Act.put, List.setIfInBounds_toArray, List.set_cons_zero, List.set_cons_succ])
   exact out _ _ _ _ (st011 _ _ _ hHeld (f7.later g) (Fresh.new hS.2.2.2.2 _) (fun e => f7.ne e.symm))
  exact AllReadyH.nil
 have st001 : ∀ (B8 : Nat) (w : World), (fun w' => w'.cell? ⟨A, 0, none⟩ = some (.bool neg) ∧ w'.cell? ⟨A, 1, none⟩ = some (.string s) ∧ w'.cell? ⟨B, 0, none⟩ = some (.bool neg') ∧ w'.cell? ⟨B, 1, none⟩ = some (.string s') ∧ Gr W w') w → Fresh W w B8 → G 9 #[true, false, true, false, false, false, false, false, false, true, false, false] { tmps := List.toArray (v0 :: v1 :: .pointer (some ⟨A, 0, none⟩) :: .pointer (some ⟨B, 0, none⟩) :: v4 :: v5 :: v6 :: undef :: .pointer (some ⟨B8, 0, none⟩) :: v9 :: v10 :: v11 :: v12 :: v13 :: v14 :: v15 :: v16 :: v17 :: v18 :: v19 :: v20 :: v21 :: v22 :: v23 :: v24 :: v25 :: v26 :: undef :: .agg #[.bool neg, .string s] :: undef :: .agg #[.bool neg', .string s'] :: undef :: undef :: undef :: undef :: v35 :: v36 :: v37 :: v38 :: v39 :: v40 :: v41 :: v42 :: v43 :: v44 :: v45 :: v46 :: v47 :: v48 :: v49 :: v50 :: v51 :: v52 :: v53 :: v54 :: ([] : List Value)), defers := [] } w := by
  intro B8 w hS f8
  refine inn _ _ _ _ ?_
  refine wpAnyH_ready (rs := [1, 8]) (by kernel_rfl) (by simp) ?_
  refine AllReadyH.cons (o := ⟨some 29, .call ⟨.value (.func 89), #[.tmp 28], #[50]⟩, 101, "ref.go:409", #[⟨0, .data⟩], none⟩) rfl (fun K hK => ?_) ?_
  ·go_simp
   go_at_call 89
   refine (rin_129 neg s _ HF).mono ?_
   rintro e w' ⟨u, rfl, hu, g⟩
   go_wp2_with fail
   refine hK.out _ _ (keepS hS g) (fun hHeld => ?_)
   (simp only [Act.put, List.setIfInBounds_toArray, List.set_cons_zero, List.set_cons_succ])
   exact out _ _ _ _ (st101 _ _ _ hHeld hu (f8.later g))
  refine AllReadyH.cons (o := ⟨some 7, .alloc 101, 0, "ref.go:409", #[], none⟩) rfl (fun K hK => ?_) ?_
  ·go_simp
   have g : Gr w (w.alloc (.cells #[.bool false, .slice none 0 0] 101)) := Gr.new w _
   refine hK.out _ _ (keepS hS g) (fun hHeld => ?_)
   (simp only [Act.put, List.setIfInBounds_toArray, List.set_cons_zero, List.set_cons_succ])
   exact out _ _ _ _ (st011 _ _ _ hHeld (Fresh.new hS.2.2.2.2 _) (f8.later g) (f8.ne))
  exact AllReadyH.nil
 have st000 : ∀ (w : World), (fun w' => w'.cell? ⟨A, 0, none⟩ = some (.bool neg) ∧ w'.cell? ⟨A, 1, none⟩ = some (.string s) ∧ w'.cell? ⟨B, 0, none⟩ = some (.bool neg') ∧ w'.cell? ⟨B, 1, none⟩ = some (.string s') ∧ Gr W w') w → G 10 #[true, false, true, false, false, false, false, false, false, false, false, false] { tmps := List.toArray (v0 :: v1 :: .pointer (some ⟨A, 0, none⟩) :: .pointer (some ⟨B, 0, none⟩) :: v4 :: v5 :: v6 :: undef :: undef :: v9 :: v10 :: v11 :: v12 :: v13 :: v14 :: v15 :: v16 :: v17 :: v18 :: v19 :: v20 :: v21 :: v22 :: v23 :: v24 :: v25 :: v26 :: undef :: .agg #[.bool neg, .string s] :: undef :: .agg #[.bool neg', .string s'] :: undef :: undef :: undef :: undef :: v35 :: v36 :: v37 :: v38 :: v39 :: v40 :: v41 :: v42 :: v43 :: v44 :: v45 :: v46 :: v47 :: v48 :: v49 :: v50 :: v51 :: v52 :: v53 :: v54 :: ([] : List Value)), defers := [] } w := by
  intro w hS
  refine inn _ _ _ _ ?_
  refine wpAnyH_ready (rs := [1, 8, 9]) (by kernel_rfl) (by simp) ?_
  refine AllReadyH.cons (o := ⟨some 29, .call ⟨.value (.func 89), #[.tmp 28], #[50]⟩, 101, "ref.go:409", #[⟨0, .data⟩], none⟩) rfl (fun K hK => ?_) ?_
  ·go_simp
   go_at_call 89
   refine (rin_129 neg s _ HF).mono ?_
   rintro e w' ⟨u, rfl, hu, g⟩
   go_wp2_with fail
   refine hK.out _ _ (keepS hS g) (fun hHeld => ?_)
   (simp only [Act.put, List.setIfInBounds_toArray, List.set_cons_zero, List.set_cons_succ])
   exact out _ _ _ _ (st100 _ _ hHeld hu)
  refine AllReadyH.cons (o := ⟨some 7, .alloc 101, 0, "ref.go:409", #[], none⟩) rfl (fun K hK => ?_) ?_
  ·go_simp
   have g : Gr w (w.alloc (.cells #[.bool false, .slice none 0 0] 101)) := Gr.new w _
   refine hK.out _ _ (keepS hS g) (fun hHeld => ?_)
   (simp only [Act.put, List.setIfInBounds_toArray, List.set_cons_zero, List.set_cons_succ])
   exact out _ _ _ _ (st010 _ _ hHeld (Fresh.new hS.2.2.2.2 _))
  refine AllReadyH.cons (o := ⟨some 8, .alloc 101, 0, "ref.go:409", #[], none⟩) rfl (fun K hK => ?_) ?_
  ·go_simp
   have g : Gr w (w.alloc (.cells #[.bool false, .slice none 0 0] 101)) := Gr.new w _
   refine hK.out _ _ (keepS hS g) (fun hHeld => ?_)
   (simp only [Act.put, List.setIfInBounds_toArray, List.set_cons_zero, List.set_cons_succ])
   exact out _ _ _ _ (st001 _ _ hHeld (Fresh.new hS.2.2.2.2 _))
  exact AllReadyH.nil
 show wpAnyH _ _ _ _ _ 12 #[false, false, false, false, false, false, false, false, false, false, false, false] _ _
 refine wpAnyH_take (i := 0) (oi := ⟨some 28, .load 50 (.tmp 2), 50, "ref.go:409", #[], none⟩) (v := ?_) rfl (by kernel_rfl) (by kernel_rfl) (by kernel_rfl) (hQ _ _) (Or.inl ⟨by rfl, ?_⟩) (by assumption) ?_
 rotate_left
 ·intro w0 hSw; (try dsimp only at hSw); go_simp; try with_reducible rfl
 (simp only [Act.put, List.setIfInBounds_toArray, List.set_cons_zero, List.set_cons_succ])
 refine wpAnyH_take (i := 2) (oi := ⟨some 30, .load 50 (.tmp 3), 50, "ref.go:409", #[], none⟩) (v := ?_) rfl (by kernel_rfl) (by kernel_rfl) (by kernel_rfl) (hQ _ _) (Or.inl ⟨by rfl, ?_⟩) (by assumption) ?_
 rotate_left
 ·intro w0 hSw; (try dsimp only at hSw); go_simp; try with_reducible rfl
 (simp only [Act.put, List.setIfInBounds_toArray, List.set_cons_zero, List.set_cons_succ])
 exact out _ _ _ _ (st000 _ hHeld)
set_option maxRecDepth 100000 in
set_option maxHeartbeats 8000000 in
theorem rbal_region (neg : Bool) (s : ByteArray) (neg' : Bool) (s' : ByteArray) (HF : Form neg s) (HF' : Form neg' s') (HY : zOf neg' s' ≠ 0) (W : World) (A B : Nat)
  (x0 : W.cell? ⟨A, 0, none⟩ = some (.bool neg)) (x1 : W.cell? ⟨A, 1, none⟩ = some (.string s)) (y0 : W.cell? ⟨B, 0, none⟩ = some (.bool neg')) (y1 : W.cell? ⟨B, 1, none⟩ = some (.string s')) 
  (v0 v1 v4 v5 v8 v9 v10 v11 v12 v13 v14 v15 v16 v17 v18 v19 v20 v21 v22 v23 v24 v25 v34 v35 v36 v37 v38 v39 v40 v41 v42 v43 v44 v45 v46 v47 v48 v49 : Value) (Q : Exit → Act → World → Prop) (hQ : ∀ (d : Option Tmp) (v : Value) c a w, Q (.panic c) (a.put d v) w → Q (.panic c) a w)
  (hpost : ∀ s7 s8 u26 u27 u28 u29 u30 u31 u32 u33 wx, CutJ 130 129 (zOf neg s / zOf neg' s') (zOf neg s % zOf neg' s') W s7 s8 wx → Q .normal { tmps := List.toArray (v0 :: v1 :: .pointer (some ⟨A, 0, none⟩) :: .pointer (some ⟨B, 0, none⟩) :: v4 :: v5 :: s7 :: s8 :: v8 :: v9 :: v10 :: v11 :: v12 :: v13 :: v14 :: v15 :: v16 :: v17 :: v18 :: v19 :: v20 :: v21 :: v22 :: v23 :: v24 :: v25 :: u26 :: u27 :: u28 :: u29 :: u30 :: u31 :: u32 :: u33 :: v34 :: v35 :: v36 :: v37 :: v38 :: v39 :: v40 :: v41 :: v42 :: v43 :: v44 :: v45 :: v46 :: v47 :: v48 :: v49 :: ([] : List Value)), defers := [] } wx) :
  (Code.region 3 #[⟨some 27, .load 50 (.tmp 2), 50, "ref.go:433", #[], none⟩,
   ⟨some 28, .call ⟨.value (.func 89), #[.tmp 27], #[50]⟩, 101, "ref.go:433", #[⟨0, .data⟩], none⟩,
   ⟨some 29, .load 50 (.tmp 3), 50, "ref.go:433", #[], none⟩,
   ⟨some 30, .call ⟨.value (.func 89), #[.tmp 29], #[50]⟩, 101, "ref.go:433", #[⟨2, .data⟩, ⟨1, .chain⟩], none⟩,
   ⟨some 31, .call ⟨.value (.func 150), #[.tmp 28, .tmp 30], #[101, 101]⟩, 151, "ref.go:433", #[⟨1, .data⟩, ⟨3, .data⟩, ⟨3, .chain⟩], none⟩,
   ⟨some 26, .move (.tmp 31), 151, "ref.go:433", #[⟨4, .data⟩], none⟩,
   ⟨some 32, .extract (.tmp 26) 0, 101, "ref.go:433", #[⟨5, .data⟩], none⟩,
   ⟨some 33, .extract (.tmp 26) 1, 101, "ref.go:433", #[⟨5, .data⟩, ⟨10, .gcOnly .lateStores⟩], none⟩,
   ⟨some 6, .alloc 101, 0, "ref.go:433", #[], none⟩,
   ⟨some 7, .alloc 101, 0, "ref.go:433", #[], none⟩,
   ⟨none, .store 101 (.tmp 6) (.tmp 32), 0, "ref.go:433", #[⟨8, .data⟩, ⟨6, .data⟩, ⟨4, .chain⟩, ⟨0, .phase⟩, ⟨1, .phase⟩, ⟨2, .phase⟩, ⟨3, .phase⟩, ⟨4, .phase⟩, ⟨5, .phase⟩, ⟨6, .phase⟩, ⟨7, .textOnly .lateStores⟩, ⟨8, .phase⟩, ⟨9, .phase⟩], none⟩,
   ⟨none, .store 101 (.tmp 7) (.tmp 33), 0, "ref.go:433", #[⟨9, .data⟩, ⟨7, .data⟩, ⟨10, .chain⟩, ⟨0, .phase⟩, ⟨1, .phase⟩, ⟨2, .phase⟩, ⟨3, .phase⟩, ⟨4, .phase⟩, ⟨5, .phase⟩, ⟨6, .phase⟩, ⟨7, .phase⟩, ⟨8, .phase⟩, ⟨9, .phase⟩, ⟨10, .phase⟩], none⟩] true).wp Tryz.prog Q { tmps := List.toArray (v0 :: v1 :: .pointer (some ⟨A, 0, none⟩) :: .pointer (some ⟨B, 0, none⟩) :: v4 :: v5 :: undef :: undef :: v8 :: v9 :: v10 :: v11 :: v12 :: v13 :: v14 :: v15 :: v16 :: v17 :: v18 :: v19 :: v20 :: v21 :: v22 :: v23 :: v24 :: v25 :: undef :: undef :: undef :: undef :: undef :: undef :: undef :: undef :: v34 :: v35 :: v36 :: v37 :: v38 :: v39 :: v40 :: v41 :: v42 :: v43 :: v44 :: v45 :: v46 :: v47 :: v48 :: v49 :: ([] : List Value)), defers := [] } W := by
 refine wp_region_held_drew (S := fun w' => w'.cell? ⟨A, 0, none⟩ = some (.bool neg) ∧ w'.cell? ⟨A, 1, none⟩ = some (.string s) ∧ w'.cell? ⟨B, 0, none⟩ = some (.bool neg') ∧ w'.cell? ⟨B, 1, none⟩ = some (.string s') ∧ Gr W w') (by kernel_rfl) ⟨x0, x1, y0, y1, (Gr.refl W).drewOne⟩ (fun hHeld => ?_)
 refine chain_any (fun G out inn => ?_)
 have keepS : ∀ {w w' : World}, (fun w' => w'.cell? ⟨A, 0, none⟩ = some (.bool neg) ∧ w'.cell? ⟨A, 1, none⟩ = some (.string s) ∧ w'.cell? ⟨B, 0, none⟩ = some (.bool neg') ∧ w'.cell? ⟨B, 1, none⟩ = some (.string s') ∧ Gr W w') w → Gr w w' → (fun w' => w'.cell? ⟨A, 0, none⟩ = some (.bool neg) ∧ w'.cell? ⟨A, 1, none⟩ = some (.string s) ∧ w'.cell? ⟨B, 0, none⟩ = some (.bool neg') ∧ w'.cell? ⟨B, 1, none⟩ = some (.string s') ∧ Gr W w') w' := fun h g => ⟨g.keeps h.1, g.keeps h.2.1, g.keeps h.2.2.1, g.keeps h.2.2.2.1, h.2.2.2.2.trans g⟩
 have st311 : ∀ (u v q r : Value) (B7 B8 : Nat) (w : World), (fun w' => w'.cell? ⟨A, 0, none⟩ = some (.bool neg) ∧ w'.cell? ⟨A, 1, none⟩ = some (.string s) ∧ w'.cell? ⟨B, 0, none⟩ = some (.bool neg') ∧ w'.cell? ⟨B, 1, none⟩ = some (.string s') ∧ Gr W w') w → HasJ 130 w q (zOf neg s / zOf neg' s') → HasJ 129 w r (zOf neg s % zOf neg' s') → Fresh W w B7 → Fresh W w B8 → ¬ (B7 = B8) → G 2 #[true, true, true, true, true, true, true, true, true, true, false, false] { tmps := List.toArray (v0 :: v1 :: .pointer (some ⟨A, 0, none⟩) :: .pointer (some ⟨B, 0, none⟩) :: v4 :: v5 :: .pointer (some ⟨B7, 0, none⟩) :: .pointer (some ⟨B8, 0, none⟩) :: v8 :: v9 :: v10 :: v11 :: v12 :: v13 :: v14 :: v15 :: v16 :: v17 :: v18 :: v19 :: v20 :: v21 :: v22 :: v23 :: v24 :: v25 :: .tuple #[q, r] :: .agg #[.bool neg, .string s] :: u :: .agg #[.bool neg', .string s'] :: v :: .tuple #[q, r] :: q :: r :: v34 :: v35 :: v36 :: v37 :: v38 :: v39 :: v40 :: v41 :: v42 :: v43 :: v44 :: v45 :: v46 :: v47 :: v48 :: v49 :: ([] : List Value)), defers := [] } w := by
  intro u v q r B7 B8 w hS hq hr f7 f8 hne
  refine inn _ _ _ _ ?_
  obtain ⟨sq, lq, rfl, hsq, hnq⟩ := id hq
  obtain ⟨-, aq, cq, rfl, -, -, -⟩ := id hsq
  obtain ⟨sr, lr, rfl, hsr, hnr⟩ := id hr
  obtain ⟨-, ar, cr, rfl, -, -, -⟩ := id hsr
  obtain ⟨nq, hnq'⟩ : ∃ n, n = decide (zOf neg s / zOf neg' s' < 0) := ⟨_, rfl⟩
  obtain ⟨nr, hnr'⟩ : ∃ n, n = decide (zOf neg s % zOf neg' s' < 0) := ⟨_, rfl⟩
  rw [← hnq'] at hq
  rw [← hnr'] at hr
  rw [← hnq', ← hnr']
  clear hsq hnq hsr hnr hnq' hnr'
  have HQ := Lib.hid hq
  have HR := Lib.hid hr
  clear hq hr
  obtain ⟨l7, c70, c71, z70, z71⟩ := f7
  obtain ⟨l8, c80, c81, z80, z81⟩ := f8
  refine wpAnyH_ready (rs := [10]) (by kernel_rfl) (by simp) ?_
  refine AllReadyH.cons (o := ⟨none, .store 101 (.tmp 6) (.tmp 32), 0, "ref.go:433", #[⟨8, .data⟩, ⟨6, .data⟩, ⟨4, .chain⟩, ⟨0, .phase⟩, ⟨1, .phase⟩, ⟨2, .phase⟩, ⟨3, .phase⟩, ⟨4, .phase⟩, ⟨5, .phase⟩, ⟨6, .phase⟩, ⟨7, .textOnly .lateStores⟩, ⟨8, .phase⟩, ⟨9, .phase⟩], none⟩) rfl (fun K hK => ?_) AllReadyH.nil
  go_simp
  have hbA : A < W.heap.size := World.block_lt_of_cell? W _ x0
  have hbB : B < W.heap.size := World.block_lt_of_cell? W _ y0
  obtain ⟨V, hV⟩ : ∃ V, V = (w.setCell ⟨B7, 0, none⟩ (.bool nq)).setCell ⟨B7, 1, none⟩ (.slice aq lq.length cq) := ⟨_, rfl⟩
  have kS : (fun w' => w'.cell? ⟨A, 0, none⟩ = some (.bool neg) ∧ w'.cell? ⟨A, 1, none⟩ = some (.string s) ∧ w'.cell? ⟨B, 0, none⟩ = some (.bool neg') ∧ w'.cell? ⟨B, 1, none⟩ = some (.string s') ∧ Gr W w') V := by
   rw [hV]
   exact ⟨keep2 hS.1 (by omega), keep2 hS.2.1 (by omega), keep2 hS.2.2.1 (by omega), keep2 hS.2.2.2.1 (by omega), (hS.2.2.2.2.setCell (p := ⟨B7, 0, none⟩) l7 _).setCell (p := ⟨B7, 1, none⟩) l7 _⟩
  have d70 : V.cell? ⟨B7, 0, none⟩ = some (.bool nq) := by rw [hV]; exact (put2 c70 c71 _ _).1
  have d71 : V.cell? ⟨B7, 1, none⟩ = some (.slice aq lq.length cq) := by rw [hV]; exact (put2 c70 c71 _ _).2
  have d80 : V.cell? ⟨B8, 0, none⟩ = some (.bool false) := by rw [hV]; exact keep2 c80 (fun e => hne e.symm)
  have d81 : V.cell? ⟨B8, 1, none⟩ = some (.slice none 0 0) := by rw [hV]; exact keep2 c81 (fun e => hne e.symm)
  have y80 : V.frozen? ⟨B8, 0, none⟩ = false := by rw [hV]; simp only [frozen_set]; exact z80
  have y81 : V.frozen? ⟨B8, 1, none⟩ = false := by rw [hV]; simp only [frozen_set]; exact z81
  have y70 : V.frozen? ⟨B7, 0, none⟩ = false := by rw [hV]; simp only [frozen_set]; exact z70
  have y71 : V.frozen? ⟨B7, 1, none⟩ = false := by rw [hV]; simp only [frozen_set]; exact z71
  have HQ := Lib.hid (show HasJ 130 V _ _ by rw [hV]; exact HQ.out.set2 c70 c71)
  have HR := Lib.hid (show HasJ 129 V _ _ by rw [hV]; exact HR.out.set2 c70 c71)
  rw [← hV]
  clear hV c70 c71 c80 c81 z70 z71 z80 z81
  refine hK.out _ _ kS (fun hHeld => ?_)
  clear hK K
  (simp only [Act.put, List.setIfInBounds_toArray, List.set_cons_zero, List.set_cons_succ])
  refine wpAnyH_ready (rs := [11]) (by kernel_rfl) (by simp) ?_
  refine AllReadyH.cons (o := ⟨none, .store 101 (.tmp 7) (.tmp 33), 0, "ref.go:433", #[⟨9, .data⟩, ⟨7, .data⟩, ⟨10, .chain⟩, ⟨0, .phase⟩, ⟨1, .phase⟩, ⟨2, .phase⟩, ⟨3, .phase⟩, ⟨4, .phase⟩, ⟨5, .phase⟩, ⟨6, .phase⟩, ⟨7, .phase⟩, ⟨8, .phase⟩, ⟨9, .phase⟩, ⟨10, .phase⟩], none⟩) rfl (fun K hK => ?_) AllReadyH.nil
  go_simp
  obtain ⟨V2, hV2⟩ : ∃ V2, V2 = (V.setCell ⟨B8, 0, none⟩ (.bool nr)).setCell ⟨B8, 1, none⟩ (.slice ar lr.length cr) := ⟨_, rfl⟩
  have kS2 : (fun w' => w'.cell? ⟨A, 0, none⟩ = some (.bool neg) ∧ w'.cell? ⟨A, 1, none⟩ = some (.string s) ∧ w'.cell? ⟨B, 0, none⟩ = some (.bool neg') ∧ w'.cell? ⟨B, 1, none⟩ = some (.string s') ∧ Gr W w') V2 := by
   rw [hV2]
   exact ⟨keep2 kS.1 (by omega), keep2 kS.2.1 (by omega), keep2 kS.2.2.1 (by omega), keep2 kS.2.2.2.1 (by omega), (kS.2.2.2.2.setCell (p := ⟨B8, 0, none⟩) l8 _).setCell (p := ⟨B8, 1, none⟩) l8 _⟩
  have e70 : V2.cell? ⟨B7, 0, none⟩ = some (.bool nq) := by rw [hV2]; exact keep2 d70 hne
  have e71 : V2.cell? ⟨B7, 1, none⟩ = some (.slice aq lq.length cq) := by rw [hV2]; exact keep2 d71 hne
  have e80 : V2.cell? ⟨B8, 0, none⟩ = some (.bool nr) := by rw [hV2]; exact (put2 d80 d81 _ _).1
  have e81 : V2.cell? ⟨B8, 1, none⟩ = some (.slice ar lr.length cr) := by rw [hV2]; exact (put2 d80 d81 _ _).2
  have x80 : V2.frozen? ⟨B8, 0, none⟩ = false := by rw [hV2]; simp only [frozen_set]; exact y80
  have x81 : V2.frozen? ⟨B8, 1, none⟩ = false := by rw [hV2]; simp only [frozen_set]; exact y81
  have HQ := Lib.hid (show HasJ 130 V2 _ _ by rw [hV2]; exact HQ.out.set2 d80 d81)
  have HR := Lib.hid (show HasJ 129 V2 _ _ by rw [hV2]; exact HR.out.set2 d80 d81)
  rw [← hV2]
  clear hV2
  refine hK.out _ _ kS2 (fun hHeld => ?_)
  clear hK K
  (simp only [Act.put, List.setIfInBounds_toArray, List.set_cons_zero, List.set_cons_succ])
  refine wpAnyH_done (by kernel_rfl) ?_ _
  exact hpost _ _ _ _ _ _ _ _ _ _ _ ⟨_, _, nq, aq, _, cq, nr, ar, _, cr, rfl, rfl, l7, l8, e70, e71, e80, e81, x80, x81, HQ.out, HR.out, kS2.2.2.2.2⟩
 have st310 : ∀ (u v q r : Value) (B7 : Nat) (w : World), (fun w' => w'.cell? ⟨A, 0, none⟩ = some (.bool neg) ∧ w'.cell? ⟨A, 1, none⟩ = some (.string s) ∧ w'.cell? ⟨B, 0, none⟩ = some (.bool neg') ∧ w'.cell? ⟨B, 1, none⟩ = some (.string s') ∧ Gr W w') w → HasJ 130 w q (zOf neg s / zOf neg' s') → HasJ 129 w r (zOf neg s % zOf neg' s') → Fresh W w B7 → G 3 #[true, true, true, true, true, true, true, true, true, false, false, false] { tmps := List.toArray (v0 :: v1 :: .pointer (some ⟨A, 0, none⟩) :: .pointer (some ⟨B, 0, none⟩) :: v4 :: v5 :: .pointer (some ⟨B7, 0, none⟩) :: undef :: v8 :: v9 :: v10 :: v11 :: v12 :: v13 :: v14 :: v15 :: v16 :: v17 :: v18 :: v19 :: v20 :: v21 :: v22 :: v23 :: v24 :: v25 :: .tuple #[q, r] :: .agg #[.bool neg, .string s] :: u :: .agg #[.bool neg', .string s'] :: v :: .tuple #[q, r] :: q :: r :: v34 :: v35 :: v36 :: v37 :: v38 :: v39 :: v40 :: v41 :: v42 :: v43 :: v44 :: v45 :: v46 :: v47 :: v48 :: v49 :: ([] : List Value)), defers := [] } w := by
  intro u v q r B7 w hS hq hr f7
  refine inn _ _ _ _ ?_
  refine wpAnyH_ready (rs := [9]) (by kernel_rfl) (by simp) ?_
  refine AllReadyH.cons (o := ⟨some 7, .alloc 101, 0, "ref.go:433", #[], none⟩) rfl (fun K hK => ?_) ?_
  ·go_simp
   have g : Gr w (w.alloc (.cells #[.bool false, .slice none 0 0] 101)) := Gr.new w _
   refine hK.out _ _ (keepS hS g) (fun hHeld => ?_)
   (simp only [Act.put, List.setIfInBounds_toArray, List.set_cons_zero, List.set_cons_succ])
   exact out _ _ _ _ (st311 _ _ _ _ _ _ _ hHeld (hq.later g) (hr.later g) (f7.later g) (Fresh.new hS.2.2.2.2 _) (fun e => f7.ne e.symm))
  exact AllReadyH.nil
 have st301 : ∀ (u v q r : Value) (B8 : Nat) (w : World), (fun w' => w'.cell? ⟨A, 0, none⟩ = some (.bool neg) ∧ w'.cell? ⟨A, 1, none⟩ = some (.string s) ∧ w'.cell? ⟨B, 0, none⟩ = some (.bool neg') ∧ w'.cell? ⟨B, 1, none⟩ = some (.string s') ∧ Gr W w') w → HasJ 130 w q (zOf neg s / zOf neg' s') → HasJ 129 w r (zOf neg s % zOf neg' s') → Fresh W w B8 → G 3 #[true, true, true, true, true, true, true, true, false, true, false, false] { tmps := List.toArray (v0 :: v1 :: .pointer (some ⟨A, 0, none⟩) :: .pointer (some ⟨B, 0, none⟩) :: v4 :: v5 :: undef :: .pointer (some ⟨B8, 0, none⟩) :: v8 :: v9 :: v10 :: v11 :: v12 :: v13 :: v14 :: v15 :: v16 :: v17 :: v18 :: v19 :: v20 :: v21 :: v22 :: v23 :: v24 :: v25 :: .tuple #[q, r] :: .agg #[.bool neg, .string s] :: u :: .agg #[.bool neg', .string s'] :: v :: .tuple #[q, r] :: q :: r :: v34 :: v35 :: v36 :: v37 :: v38 :: v39 :: v40 :: v41 :: v42 :: v43 :: v44 :: v45 :: v46 :: v47 :: v48 :: v49 :: ([] : List Value)), defers := [] } w := by
  intro u v q r B8 w hS hq hr f8
  refine inn _ _ _ _ ?_
  refine wpAnyH_ready (rs := [8]) (by kernel_rfl) (by simp) ?_
  refine AllReadyH.cons (o := ⟨some 6, .alloc 101, 0, "ref.go:433", #[], none⟩) rfl (fun K hK => ?_) ?_
  ·go_simp
   have g : Gr w (w.alloc (.cells #[.bool false, .slice none 0 0] 101)) := Gr.new w _
   refine hK.out _ _ (keepS hS g) (fun hHeld => ?_)
   (simp only [Act.put, List.setIfInBounds_toArray, List.set_cons_zero, List.set_cons_succ])
   exact out _ _ _ _ (st311 _ _ _ _ _ _ _ hHeld (hq.later g) (hr.later g) (Fresh.new hS.2.2.2.2 _) (f8.later g) (f8.ne))
  exact AllReadyH.nil
 have st300 : ∀ (u v q r : Value) (w : World), (fun w' => w'.cell? ⟨A, 0, none⟩ = some (.bool neg) ∧ w'.cell? ⟨A, 1, none⟩ = some (.string s) ∧ w'.cell? ⟨B, 0, none⟩ = some (.bool neg') ∧ w'.cell? ⟨B, 1, none⟩ = some (.string s') ∧ Gr W w') w → HasJ 130 w q (zOf neg s / zOf neg' s') → HasJ 129 w r (zOf neg s % zOf neg' s') → G 4 #[true, true, true, true, true, true, true, true, false, false, false, false] { tmps := List.toArray (v0 :: v1 :: .pointer (some ⟨A, 0, none⟩) :: .pointer (some ⟨B, 0, none⟩) :: v4 :: v5 :: undef :: undef :: v8 :: v9 :: v10 :: v11 :: v12 :: v13 :: v14 :: v15 :: v16 :: v17 :: v18 :: v19 :: v20 :: v21 :: v22 :: v23 :: v24 :: v25 :: .tuple #[q, r] :: .agg #[.bool neg, .string s] :: u :: .agg #[.bool neg', .string s'] :: v :: .tuple #[q, r] :: q :: r :: v34 :: v35 :: v36 :: v37 :: v38 :: v39 :: v40 :: v41 :: v42 :: v43 :: v44 :: v45 :: v46 :: v47 :: v48 :: v49 :: ([] : List Value)), defers := [] } w := by
  intro u v q r w hS hq hr
  refine inn _ _ _ _ ?_
  refine wpAnyH_ready (rs := [8, 9]) (by kernel_rfl) (by simp) ?_
  refine AllReadyH.cons (o := ⟨some 6, .alloc 101, 0, "ref.go:433", #[], none⟩) rfl (fun K hK => ?_) ?_
  ·go_simp
   have g : Gr w (w.alloc (.cells #[.bool false, .slice none 0 0] 101)) := Gr.new w _
   refine hK.out _ _ (keepS hS g) (fun hHeld => ?_)
   (simp only [Act.put, List.setIfInBounds_toArray, List.set_cons_zero, List.set_cons_succ])
   exact out _ _ _ _ (st310 _ _ _ _ _ _ hHeld (hq.later g) (hr.later g) (Fresh.new hS.2.2.2.2 _))
  refine AllReadyH.cons (o := ⟨some 7, .alloc 101, 0, "ref.go:433", #[], none⟩) rfl (fun K hK => ?_) ?_
  ·go_simp
   have g : Gr w (w.alloc (.cells #[.bool false, .slice none 0 0] 101)) := Gr.new w _
   refine hK.out _ _ (keepS hS g) (fun hHeld => ?_)
   (simp only [Act.put, List.setIfInBounds_toArray, List.set_cons_zero, List.set_cons_succ])
   exact out _ _ _ _ (st301 _ _ _ _ _ _ hHeld (hq.later g) (hr.later g) (Fresh.new hS.2.2.2.2 _))
  exact AllReadyH.nil
 have st211 : ∀ (u v : Value) (B7 B8 : Nat) (w : World), (fun w' => w'.cell? ⟨A, 0, none⟩ = some (.bool neg) ∧ w'.cell? ⟨A, 1, none⟩ = some (.string s) ∧ w'.cell? ⟨B, 0, none⟩ = some (.bool neg') ∧ w'.cell? ⟨B, 1, none⟩ = some (.string s') ∧ Gr W w') w → HasJ 129 w u (zOf neg s) → HasJ 129 w v (zOf neg' s') → Fresh W w B7 → Fresh W w B8 → ¬ (B7 = B8) → G 6 #[true, true, true, true, false, false, false, false, true, true, false, false] { tmps := List.toArray (v0 :: v1 :: .pointer (some ⟨A, 0, none⟩) :: .pointer (some ⟨B, 0, none⟩) :: v4 :: v5 :: .pointer (some ⟨B7, 0, none⟩) :: .pointer (some ⟨B8, 0, none⟩) :: v8 :: v9 :: v10 :: v11 :: v12 :: v13 :: v14 :: v15 :: v16 :: v17 :: v18 :: v19 :: v20 :: v21 :: v22 :: v23 :: v24 :: v25 :: undef :: .agg #[.bool neg, .string s] :: u :: .agg #[.bool neg', .string s'] :: v :: undef :: undef :: undef :: v34 :: v35 :: v36 :: v37 :: v38 :: v39 :: v40 :: v41 :: v42 :: v43 :: v44 :: v45 :: v46 :: v47 :: v48 :: v49 :: ([] : List Value)), defers := [] } w := by
  intro u v B7 B8 w hS hu hv f7 f8 hne
  refine inn _ _ _ _ ?_
  refine wpAnyH_ready (rs := [4]) (by kernel_rfl) (by simp) ?_
  refine AllReadyH.cons (o := ⟨some 31, .call ⟨.value (.func 150), #[.tmp 28, .tmp 30], #[101, 101]⟩, 151, "ref.go:433", #[⟨1, .data⟩, ⟨3, .data⟩, ⟨3, .chain⟩], none⟩) rfl (fun K hK => ?_) ?_
  ·go_simp
   go_at_call 150
   refine (rdiv_two 129 _ _ _ _ _ hu hv HY (by omega)).mono ?_
   rintro e w' ⟨q, r, rfl, hq, hr, g⟩
   go_wp2_with fail
   refine hK.out _ _ (keepS hS g) (fun hHeld => ?_)
   (simp only [Act.put, List.setIfInBounds_toArray, List.set_cons_zero, List.set_cons_succ])
   refine wpAnyH_take (i := 5) (oi := ⟨some 26, .move (.tmp 31), 151, "ref.go:433", #[⟨4, .data⟩], none⟩) (v := ?_) rfl (by kernel_rfl) (by kernel_rfl) (by kernel_rfl) (hQ _ _) (Or.inl ⟨by rfl, ?_⟩) (by assumption) ?_
   rotate_left
   ·intro w0 hSw; (try dsimp only at hSw); go_simp; try with_reducible rfl
   (simp only [Act.put, List.setIfInBounds_toArray, List.set_cons_zero, List.set_cons_succ])
   refine wpAnyH_take (i := 6) (oi := ⟨some 32, .extract (.tmp 26) 0, 101, "ref.go:433", #[⟨5, .data⟩], none⟩) (v := ?_) rfl (by kernel_rfl) (by kernel_rfl) (by kernel_rfl) (hQ _ _) (Or.inl ⟨by rfl, ?_⟩) (by assumption) ?_
   rotate_left
   ·intro w0 hSw; (try dsimp only at hSw); go_simp; try with_reducible rfl
   (simp only [Act.put, List.setIfInBounds_toArray, List.set_cons_zero, List.set_cons_succ])
   refine wpAnyH_take (i := 7) (oi := ⟨some 33, .extract (.tmp 26) 1, 101, "ref.go:433", #[⟨5, .data⟩, ⟨10, .gcOnly .lateStores⟩], none⟩) (v := ?_) rfl (by kernel_rfl) (by kernel_rfl) (by kernel_rfl) (hQ _ _) (Or.inl ⟨by rfl, ?_⟩) (by assumption) ?_
   rotate_left
   ·intro w0 hSw; (try dsimp only at hSw); go_simp; try with_reducible rfl
   (simp only [Act.put, List.setIfInBounds_toArray, List.set_cons_zero, List.set_cons_succ])
   exact out _ _ _ _ (st311 _ _ _ _ _ _ _ hHeld hq hr (f7.later g) (f8.later g) hne)
  exact AllReadyH.nil
 have st210 : ∀ (u v : Value) (B7 : Nat) (w : World), (fun w' => w'.cell? ⟨A, 0, none⟩ = some (.bool neg) ∧ w'.cell? ⟨A, 1, none⟩ = some (.string s) ∧ w'.cell? ⟨B, 0, none⟩ = some (.bool neg') ∧ w'.cell? ⟨B, 1, none⟩ = some (.string s') ∧ Gr W w') w → HasJ 129 w u (zOf neg s) → HasJ 129 w v (zOf neg' s') → Fresh W w B7 → G 7 #[true, true, true, true, false, false, false, false, true, false, false, false] { tmps := List.toArray (v0 :: v1 :: .pointer (some ⟨A, 0, none⟩) :: .pointer (some ⟨B, 0, none⟩) :: v4 :: v5 :: .pointer (some ⟨B7, 0, none⟩) :: undef :: v8 :: v9 :: v10 :: v11 :: v12 :: v13 :: v14 :: v15 :: v16 :: v17 :: v18 :: v19 :: v20 :: v21 :: v22 :: v23 :: v24 :: v25 :: undef :: .agg #[.bool neg, .string s] :: u :: .agg #[.bool neg', .string s'] :: v :: undef :: undef :: undef :: v34 :: v35 :: v36 :: v37 :: v38 :: v39 :: v40 :: v41 :: v42 :: v43 :: v44 :: v45 :: v46 :: v47 :: v48 :: v49 :: ([] : List Value)), defers := [] } w := by
  intro u v B7 w hS hu hv f7
  refine inn _ _ _ _ ?_
  refine wpAnyH_ready (rs := [4, 9]) (by kernel_rfl) (by simp) ?_
  refine AllReadyH.cons (o := ⟨some 31, .call ⟨.value (.func 150), #[.tmp 28, .tmp 30], #[101, 101]⟩, 151, "ref.go:433", #[⟨1, .data⟩, ⟨3, .data⟩, ⟨3, .chain⟩], none⟩) rfl (fun K hK => ?_) ?_
  ·go_simp
   go_at_call 150
   refine (rdiv_two 129 _ _ _ _ _ hu hv HY (by omega)).mono ?_
   rintro e w' ⟨q, r, rfl, hq, hr, g⟩
   go_wp2_with fail
   refine hK.out _ _ (keepS hS g) (fun hHeld => ?_)
   (simp only [Act.put, List.setIfInBounds_toArray, List.set_cons_zero, List.set_cons_succ])
   refine wpAnyH_take (i := 5) (oi := ⟨some 26, .move (.tmp 31), 151, "ref.go:433", #[⟨4, .data⟩], none⟩) (v := ?_) rfl (by kernel_rfl) (by kernel_rfl) (by kernel_rfl) (hQ _ _) (Or.inl ⟨by rfl, ?_⟩) (by assumption) ?_
   rotate_left
   ·intro w0 hSw; (try dsimp only at hSw); go_simp; try with_reducible rfl
   (simp only [Act.put, List.setIfInBounds_toArray, List.set_cons_zero, List.set_cons_succ])
   refine wpAnyH_take (i := 6) (oi := ⟨some 32, .extract (.tmp 26) 0, 101, "ref.go:433", #[⟨5, .data⟩], none⟩) (v := ?_) rfl (by kernel_rfl) (by kernel_rfl) (by kernel_rfl) (hQ _ _) (Or.inl ⟨by rfl, ?_⟩) (by assumption) ?_
   rotate_left
   ·intro w0 hSw; (try dsimp only at hSw); go_simp; try with_reducible rfl
   (simp only [Act.put, List.setIfInBounds_toArray, List.set_cons_zero, List.set_cons_succ])
   refine wpAnyH_take (i := 7) (oi := ⟨some 33, .extract (.tmp 26) 1, 101, "ref.go:433", #[⟨5, .data⟩, ⟨10, .gcOnly .lateStores⟩], none⟩) (v := ?_) rfl (by kernel_rfl) (by kernel_rfl) (by kernel_rfl) (hQ _ _) (Or.inl ⟨by rfl, ?_⟩) (by assumption) ?_
   rotate_left
   ·intro w0 hSw; (try dsimp only at hSw); go_simp; try with_reducible rfl
   (simp only [Act.put, List.setIfInBounds_toArray, List.set_cons_zero, List.set_cons_succ])
   exact out _ _ _ _ (st310 _ _ _ _ _ _ hHeld hq hr (f7.later g))
  refine AllReadyH.cons (o := ⟨some 7, .alloc 101, 0, "ref.go:433", #[], none⟩) rfl (fun K hK => ?_) ?_
  ·go_simp
   have g : Gr w (w.alloc (.cells #[.bool false, .slice none 0 0] 101)) := Gr.new w _
   refine hK.out _ _ (keepS hS g) (fun hHeld => ?_)
   (simp only [Act.put, List.setIfInBounds_toArray, List.set_cons_zero, List.set_cons_succ])
   exact out _ _ _ _ (st211 _ _ _ _ _ hHeld (hu.later g) (hv.later g) (f7.later g) (Fresh.new hS.2.2.2.2 _) (fun e => f7.ne e.symm))
  exact AllReadyH.nil
 have st201 : ∀ (u v : Value) (B8 : Nat) (w : World), (fun w' => w'.cell? ⟨A, 0, none⟩ = some (.bool neg) ∧ w'.cell? ⟨A, 1, none⟩ = some (.string s) ∧ w'.cell? ⟨B, 0, none⟩ = some (.bool neg') ∧ w'.cell? ⟨B, 1, none⟩ = some (.string s') ∧ Gr W w') w → HasJ 129 w u (zOf neg s) → HasJ 129 w v (zOf neg' s') → Fresh W w B8 → G 7 #[true, true, true, true, false, false, false, false, false, true, false, false] { tmps := List.toArray (v0 :: v1 :: .pointer (some ⟨A, 0, none⟩) :: .pointer (some ⟨B, 0, none⟩) :: v4 :: v5 :: undef :: .pointer (some ⟨B8, 0, none⟩) :: v8 :: v9 :: v10 :: v11 :: v12 :: v13 :: v14 :: v15 :: v16 :: v17 :: v18 :: v19 :: v20 :: v21 :: v22 :: v23 :: v24 :: v25 :: undef :: .agg #[.bool neg, .string s] :: u :: .agg #[.bool neg', .string s'] :: v :: undef :: undef :: undef :: v34 :: v35 :: v36 :: v37 :: v38 :: v39 :: v40 :: v41 :: v42 :: v43 :: v44 :: v45 :: v46 :: v47 :: v48 :: v49 :: ([] : List Value)), defers := [] } w := by
  intro u v B8 w hS hu hv f8
  refine inn _ _ _ _ ?_
  refine wpAnyH_ready (rs := [4, 8]) (by kernel_rfl) (by simp) ?_
  refine AllReadyH.cons (o := ⟨some 31, .call ⟨.value (.func 150), #[.tmp 28, .tmp 30], #[101, 101]⟩, 151, "ref.go:433", #[⟨1, .data⟩, ⟨3, .data⟩, ⟨3, .chain⟩], none⟩) rfl (fun K hK => ?_) ?_
  ·go_simp
   go_at_call 150
   refine (rdiv_two 129 _ _ _ _ _ hu hv HY (by omega)).mono ?_
   rintro e w' ⟨q, r, rfl, hq, hr, g⟩
   go_wp2_with fail
   refine hK.out _ _ (keepS hS g) (fun hHeld => ?_)
   (simp only [Act.put, List.setIfInBounds_toArray, List.set_cons_zero, List.set_cons_succ])
   refine wpAnyH_take (i := 5) (oi := ⟨some 26, .move (.tmp 31), 151, "ref.go:433", #[⟨4, .data⟩], none⟩) (v := ?_) rfl (by kernel_rfl) (by kernel_rfl) (by kernel_rfl) (hQ _ _) (Or.inl ⟨by rfl, ?_⟩) (by assumption) ?_
   rotate_left
   ·intro w0 hSw; (try dsimp only at hSw); go_simp; try with_reducible rfl
   (simp only [Act.put, List.setIfInBounds_toArray, List.set_cons_zero, List.set_cons_succ])
   refine wpAnyH_take (i := 6) (oi := ⟨some 32, .extract (.tmp 26) 0, 101, "ref.go:433", #[⟨5, .data⟩], none⟩) (v := ?_) rfl (by kernel_rfl) (by kernel_rfl) (by kernel_rfl) (hQ _ _) (Or.inl ⟨by rfl, ?_⟩) (by assumption) ?_
   rotate_left
   ·intro w0 hSw; (try dsimp only at hSw); go_simp; try with_reducible rfl
   (simp only [Act.put, List.setIfInBounds_toArray, List.set_cons_zero, List.set_cons_succ])
   refine wpAnyH_take (i := 7) (oi := ⟨some 33, .extract (.tmp 26) 1, 101, "ref.go:433", #[⟨5, .data⟩, ⟨10, .gcOnly .lateStores⟩], none⟩) (v := ?_) rfl (by kernel_rfl) (by kernel_rfl) (by kernel_rfl) (hQ _ _) (Or.inl ⟨by rfl, ?_⟩) (by assumption) ?_
   rotate_left
   ·intro w0 hSw; (try dsimp only at hSw); go_simp; try with_reducible rfl
   (simp only [Act.put, List.setIfInBounds_toArray, List.set_cons_zero, List.set_cons_succ])
   exact out _ _ _ _ (st301 _ _ _ _ _ _ hHeld hq hr (f8.later g))
  refine AllReadyH.cons (o := ⟨some 6, .alloc 101, 0, "ref.go:433", #[], none⟩) rfl (fun K hK => ?_) ?_
  ·go_simp
   have g : Gr w (w.alloc (.cells #[.bool false, .slice none 0 0] 101)) := Gr.new w _
   refine hK.out _ _ (keepS hS g) (fun hHeld => ?_)
   (simp only [Act.put, List.setIfInBounds_toArray, List.set_cons_zero, List.set_cons_succ])
   exact out _ _ _ _ (st211 _ _ _ _ _ hHeld (hu.later g) (hv.later g) (Fresh.new hS.2.2.2.2 _) (f8.later g) (f8.ne))
  exact AllReadyH.nil
 have st200 : ∀ (u v : Value) (w : World), (fun w' => w'.cell? ⟨A, 0, none⟩ = some (.bool neg) ∧ w'.cell? ⟨A, 1, none⟩ = some (.string s) ∧ w'.cell? ⟨B, 0, none⟩ = some (.bool neg') ∧ w'.cell? ⟨B, 1, none⟩ = some (.string s') ∧ Gr W w') w → HasJ 129 w u (zOf neg s) → HasJ 129 w v (zOf neg' s') → G 8 #[true, true, true, true, false, false, false, false, false, false, false, false] { tmps := List.toArray (v0 :: v1 :: .pointer (some ⟨A, 0, none⟩) :: .pointer (some ⟨B, 0, none⟩) :: v4 :: v5 :: undef :: undef :: v8 :: v9 :: v10 :: v11 :: v12 :: v13 :: v14 :: v15 :: v16 :: v17 :: v18 :: v19 :: v20 :: v21 :: v22 :: v23 :: v24 :: v25 :: undef :: .agg #[.bool neg, .string s] :: u :: .agg #[.bool neg', .string s'] :: v :: undef :: undef :: undef :: v34 :: v35 :: v36 :: v37 :: v38 :: v39 :: v40 :: v41 :: v42 :: v43 :: v44 :: v45 :: v46 :: v47 :: v48 :: v49 :: ([] : List Value)), defers := [] } w := by
  intro u v w hS hu hv
  refine inn _ _ _ _ ?_
  refine wpAnyH_ready (rs := [4, 8, 9]) (by kernel_rfl) (by simp) ?_
  refine AllReadyH.cons (o := ⟨some 31, .call ⟨.value (.func 150), #[.tmp 28, .tmp 30], #[101, 101]⟩, 151, "ref.go:433", #[⟨1, .data⟩, ⟨3, .data⟩, ⟨3, .chain⟩], none⟩) rfl (fun K hK => ?_) ?_
  ·go_simp
   go_at_call 150
   refine (rdiv_two 129 _ _ _ _ _ hu hv HY (by omega)).mono ?_
   rintro e w' ⟨q, r, rfl, hq, hr, g⟩
   go_wp2_with fail
   refine hK.out _ _ (keepS hS g) (fun hHeld => ?_)
   (simp only [Act.put, List.setIfInBounds_toArray, List.set_cons_zero, List.set_cons_succ])
   refine wpAnyH_take (i := 5) (oi := ⟨some 26, .move (.tmp 31), 151, "ref.go:433", #[⟨4, .data⟩], none⟩) (v := ?_) rfl (by kernel_rfl) (by kernel_rfl) (by kernel_rfl) (hQ _ _) (Or.inl ⟨by rfl, ?_⟩) (by assumption) ?_
   rotate_left
   ·intro w0 hSw; (try dsimp only at hSw); go_simp; try with_reducible rfl
   (simp only [Act.put, List.setIfInBounds_toArray, List.set_cons_zero, List.set_cons_succ])
   refine wpAnyH_take (i := 6) (oi := ⟨some 32, .extract (.tmp 26) 0, 101, "ref.go:433", #[⟨5, .data⟩], none⟩) (v := ?_) rfl (by kernel_rfl) (by kernel_rfl) (by kernel_rfl) (hQ _ _) (Or.inl ⟨by rfl, ?_⟩) (by assumption) ?_
   rotate_left
   ·intro w0 hSw; (try dsimp only at hSw); go_simp; try with_reducible rfl
   (simp only [Act.put, List.setIfInBounds_toArray, List.set_cons_zero, List.set_cons_succ])
   refine wpAnyH_take (i := 7) (oi := ⟨some 33, .extract (.tmp 26) 1, 101, "ref.go:433", #[⟨5, .data⟩, ⟨10, .gcOnly .lateStores⟩], none⟩) (v := ?_) rfl (by kernel_rfl) (by kernel_rfl) (by kernel_rfl) (hQ _ _) (Or.inl ⟨by rfl, ?_⟩) (by assumption) ?_
   rotate_left
   ·intro w0 hSw; (try dsimp only at hSw); go_simp; try with_reducible rfl
   (simp only [Act.put, List.setIfInBounds_toArray, List.set_cons_zero, List.set_cons_succ])
   exact out _ _ _ _ (st300 _ _ _ _ _ hHeld hq hr)
  refine AllReadyH.cons (o := ⟨some 6, .alloc 101, 0, "ref.go:433", #[], none⟩) rfl (fun K hK => ?_) ?_
  ·go_simp
   have g : Gr w (w.alloc (.cells #[.bool false, .slice none 0 0] 101)) := Gr.new w _
   refine hK.out _ _ (keepS hS g) (fun hHeld => ?_)
   (simp only [Act.put, List.setIfInBounds_toArray, List.set_cons_zero, List.set_cons_succ])
   exact out _ _ _ _ (st210 _ _ _ _ hHeld (hu.later g) (hv.later g) (Fresh.new hS.2.2.2.2 _))
  refine AllReadyH.cons (o := ⟨some 7, .alloc 101, 0, "ref.go:433", #[], none⟩) rfl (fun K hK => ?_) ?_
  ·go_simp
   have g : Gr w (w.alloc (.cells #[.bool false, .slice none 0 0] 101)) := Gr.new w _
   refine hK.out _ _ (keepS hS g) (fun hHeld => ?_)
   (simp only [Act.put, List.setIfInBounds_toArray, List.set_cons_zero, List.set_cons_succ])
   exact out _ _ _ _ (st201 _ _ _ _ hHeld (hu.later g) (hv.later g) (Fresh.new hS.2.2.2.2 _))
  exact AllReadyH.nil
 have st111 : ∀ (u : Value) (B7 B8 : Nat) (w : World), (fun w' => w'.cell? ⟨A, 0, none⟩ = some (.bool neg) ∧ w'.cell? ⟨A, 1, none⟩ = some (.string s) ∧ w'.cell? ⟨B, 0, none⟩ = some (.bool neg') ∧ w'.cell? ⟨B, 1, none⟩ = some (.string s') ∧ Gr W w') w → HasJ 129 w u (zOf neg s) → Fresh W w B7 → Fresh W w B8 → ¬ (B7 = B8) → G 7 #[true, true, true, false, false, false, false, false, true, true, false, false] { tmps := List.toArray (v0 :: v1 :: .pointer (some ⟨A, 0, none⟩) :: .pointer (some ⟨B, 0, none⟩) :: v4 :: v5 :: .pointer (some ⟨B7, 0, none⟩) :: .pointer (some ⟨B8, 0, none⟩) :: v8 :: v9 :: v10 :: v11 :: v12 :: v13 :: v14 :: v15 :: v16 :: v17 :: v18 :: v19 :: v20 :: v21 :: v22 :: v23 :: v24 :: v25 :: undef :: .agg #[.bool neg, .string s] :: u :: .agg #[.bool neg', .string s'] :: undef :: undef :: undef :: undef :: v34 :: v35 :: v36 :: v37 :: v38 :: v39 :: v40 :: v41 :: v42 :: v43 :: v44 :: v45 :: v46 :: v47 :: v48 :: v49 :: ([] : List Value)), defers := [] } w := by
  intro u B7 B8 w hS hu f7 f8 hne
  refine inn _ _ _ _ ?_
  refine wpAnyH_ready (rs := [3]) (by kernel_rfl) (by simp) ?_
  refine AllReadyH.cons (o := ⟨some 30, .call ⟨.value (.func 89), #[.tmp 29], #[50]⟩, 101, "ref.go:433", #[⟨2, .data⟩, ⟨1, .chain⟩], none⟩) rfl (fun K hK => ?_) ?_
  ·go_simp
   go_at_call 89
   refine (rin_129 neg' s' _ HF').mono ?_
   rintro e w' ⟨v, rfl, hv, g⟩
   go_wp2_with fail
   refine hK.out _ _ (keepS hS g) (fun hHeld => ?_)
   (simp only [Act.put, List.setIfInBounds_toArray, List.set_cons_zero, List.set_cons_succ])
   exact out _ _ _ _ (st211 _ _ _ _ _ hHeld (hu.later g) hv (f7.later g) (f8.later g) hne)
  exact AllReadyH.nil
 have st110 : ∀ (u : Value) (B7 : Nat) (w : World), (fun w' => w'.cell? ⟨A, 0, none⟩ = some (.bool neg) ∧ w'.cell? ⟨A, 1, none⟩ = some (.string s) ∧ w'.cell? ⟨B, 0, none⟩ = some (.bool neg') ∧ w'.cell? ⟨B, 1, none⟩ = some (.string s') ∧ Gr W w') w → HasJ 129 w u (zOf neg s) → Fresh W w B7 → G 8 #[true, true, true, false, false, false, false, false, true, false, false, false] { tmps := List.toArray (v0 :: v1 :: .pointer (some ⟨A, 0, none⟩) :: .pointer (some ⟨B, 0, none⟩) :: v4 :: v5 :: .pointer (some ⟨B7, 0, none⟩) :: undef :: v8 :: v9 :: v10 :: v11 :: v12 :: v13 :: v14 :: v15 :: v16 :: v17 :: v18 :: v19 :: v20 :: v21 :: v22 :: v23 :: v24 :: v25 :: undef :: .agg #[.bool neg, .string s] :: u :: .agg #[.bool neg', .string s'] :: undef :: undef :: undef :: undef :: v34 :: v35 :: v36 :: v37 :: v38 :: v39 :: v40 :: v41 :: v42 :: v43 :: v44 :: v45 :: v46 :: v47 :: v48 :: v49 :: ([] : List Value)), defers := [] } w := by
  intro u B7 w hS hu f7
  refine inn _ _ _ _ ?_
  refine wpAnyH_ready (rs := [3, 9]) (by kernel_rfl) (by simp) ?_
  refine AllReadyH.cons (o := ⟨some 30, .call ⟨.value (.func 89), #[.tmp 29], #[50]⟩, 101, "ref.go:433", #[⟨2, .data⟩, ⟨1, .chain⟩], none⟩) rfl (fun K hK => ?_) ?_
  ·go_simp
   go_at_call 89
   refine (rin_129 neg' s' _ HF').mono ?_
   rintro e w' ⟨v, rfl, hv, g⟩
   go_wp2_with fail
   refine hK.out _ _ (keepS hS g) (fun hHeld => ?_)
   (simp only [Act.put, List.setIfInBounds_toArray, List.set_cons_zero, List.set_cons_succ])
   exact out _ _ _ _ (st210 _ _ _ _ hHeld (hu.later g) hv (f7.later g))
  refine AllReadyH.cons (o := ⟨some 7, .alloc 101, 0, "ref.go:433", #[], none⟩) rfl (fun K hK => ?_) ?_
  ·go_simp
   have g : Gr w (w.alloc (.cells #[.bool false, .slice none 0 0] 101)) := Gr.new w _
   refine hK.out _ _ (keepS hS g) (fun hHeld => ?_)
   (simp only [Act.put, List.setIfInBounds_toArray, List.set_cons_zero, List.set_cons_succ])
   exact out _ _ _ _ (st111 _ _ _ _ hHeld (hu.later g) (f7.later g) (Fresh.new hS.2.2.2.2 _) (fun e => f7.ne e.symm))
  exact AllReadyH.nil
 have st101 : ∀ (u : Value) (B8 : Nat) (w : World), (fun w' => w'.cell? ⟨A, 0, none⟩ = some (.bool neg) ∧ w'.cell? ⟨A, 1, none⟩ = some (.string s) ∧ w'.cell? ⟨B, 0, none⟩ = some (.bool neg') ∧ w'.cell? ⟨B, 1, none⟩ = some (.string s') ∧ Gr W w') w → HasJ 129 w u (zOf neg s) → Fresh W w B8 → G 8 #[true, true, true, false, false, false, false, false, false, true, false, false] { tmps := List.toArray (v0 :: v1 :: .pointer (some ⟨A, 0, none⟩) :: .pointer (some ⟨B, 0, none⟩) :: v4 :: v5 :: undef :: .pointer (some ⟨B8, 0, none⟩) :: v8 :: v9 :: v10 :: v11 :: v12 :: v13 :: v14 :: v15 :: v16 :: v17 :: v18 :: v19 :: v20 :: v21 :: v22 :: v23 :: v24 :: v25 :: undef :: .agg #[.bool neg, .string s] :: u :: .agg #[.bool neg', .string s'] :: undef :: undef :: undef :: undef :: v34 :: v35 :: v36 :: v37 :: v38 :: v39 :: v40 :: v41 :: v42 :: v43 :: v44 :: v45 :: v46 :: v47 :: v48 :: v49 :: ([] : List Value)), defers := [] } w := by
  intro u B8 w hS hu f8
  refine inn _ _ _ _ ?_
  refine wpAnyH_ready (rs := [3, 8]) (by kernel_rfl) (by simp) ?_
  refine AllReadyH.cons (o := ⟨some 30, .call ⟨.value (.func 89), #[.tmp 29], #[50]⟩, 101, "ref.go:433", #[⟨2, .data⟩, ⟨1, .chain⟩], none⟩) rfl (fun K hK => ?_) ?_
  ·go_simp
   go_at_call 89
   refine (rin_129 neg' s' _ HF').mono ?_
   rintro e w' ⟨v, rfl, hv, g⟩
   go_wp2_with fail
   refine hK.out _ _ (keepS hS g) (fun hHeld => ?_)
   (simp only [Act.put, List.setIfInBounds_toArray, List.set_cons_zero, List.set_cons_succ])
   exact out _ _ _ _ (st201 _ _ _ _ hHeld (hu.later g) hv (f8.later g))
  refine AllReadyH.cons (o := ⟨some 6, .alloc 101, 0, "ref.go:433", #[], none⟩) rfl (fun K hK => ?_) ?_
  ·go_simp
   have g : Gr w (w.alloc (.cells #[.bool false, .slice none 0 0] 101)) := Gr.new w _
   refine hK.out _ _ (keepS hS g) (fun hHeld => ?_)
   (simp only [Act.put, List.setIfInBounds_toArray, List.set_cons_zero, List.set_cons_succ])
   exact out _ _ _ _ (st111 _ _ _ _ hHeld (hu.later g) (Fresh.new hS.2.2.2.2 _) (f8.later g) (f8.ne))
  exact AllReadyH.nil
 have st100 : ∀ (u : Value) (w : World), (fun w' => w'.cell? ⟨A, 0, none⟩ = some (.bool neg) ∧ w'.cell? ⟨A, 1, none⟩ = some (.string s) ∧ w'.cell? ⟨B, 0, none⟩ = some (.bool neg') ∧ w'.cell? ⟨B, 1, none⟩ = some (.string s') ∧ Gr W w') w → HasJ 129 w u (zOf neg s) → G 9 #[true, true, true, false, false, false, false, false, false, false, false, false] { tmps := List.toArray (v0 :: v1 :: .pointer (some ⟨A, 0, none⟩) :: .pointer (some ⟨B, 0, none⟩) :: v4 :: v5 :: undef :: undef :: v8 :: v9 :: v10 :: v11 :: v12 :: v13 :: v14 :: v15 :: v16 :: v17 :: v18 :: v19 :: v20 :: v21 :: v22 :: v23 :: v24 :: v25 :: undef :: .agg #[.bool neg, .string s] :: u :: .agg #[.bool neg', .string s'] :: undef :: undef :: undef :: undef :: v34 :: v35 :: v36 :: v37 :: v38 :: v39 :: v40 :: v41 :: v42 :: v43 :: v44 :: v45 :: v46 :: v47 :: v48 :: v49 :: ([] : List Value)), defers := [] } w := by
  intro u w hS hu
  refine inn _ _ _ _ ?_
  refine wpAnyH_ready (rs := [3, 8, 9]) (by kernel_rfl) (by simp) ?_
  refine AllReadyH.cons (o := ⟨some 30, .call ⟨.value (.func 89), #[.tmp 29], #[50]⟩, 101, "ref.go:433", #[⟨2, .data⟩, ⟨1, .chain⟩], none⟩) rfl (fun K hK => ?_) ?_
  ·go_simp
   go_at_call 89
   refine (rin_129 neg' s' _ HF').mono ?_
   rintro e w' ⟨v, rfl, hv, g⟩
   go_wp2_with fail
   refine hK.out _ _ (keepS hS g) (fun hHeld => ?_)
   (simp only [Act.put, List.setIfInBounds_toArray, List.set_cons_zero, List.set_cons_succ])
   exact out _ _ _ _ (st200 _ _ _ hHeld (hu.later g) hv)
  refine AllReadyH.cons (o := ⟨some 6, .alloc 101, 0, "ref.go:433", #[], none⟩) rfl (fun K hK => ?_) ?_
  ·go_simp
   have g : Gr w (w.alloc (.cells #[.bool false, .slice none 0 0] 101)) := Gr.new w _
   refine hK.out _ _ (keepS hS g) (fun hHeld => ?_)
   (simp only [Act.put, List.setIfInBounds_toArray, List.set_cons_zero, List.set_cons_succ])
   exact out _ _ _ _ (st110 _ _ _ hHeld (hu.later g) (Fresh.new hS.2.2.2.2 _))
  refine AllReadyH.cons (o := ⟨some 7, .alloc 101, 0, "ref.go:433", #[], none⟩) rfl (fun K hK => ?_) ?_
  ·go_simp
   have g : Gr w (w.alloc (.cells #[.bool false, .slice none 0 0] 101)) := Gr.new w _
   refine hK.out _ _ (keepS hS g) (fun hHeld => ?_)
   (simp only [Act.put, List.setIfInBounds_toArray, List.set_cons_zero, List.set_cons_succ])
   exact out _ _ _ _ (st101 _ _ _ hHeld (hu.later g) (Fresh.new hS.2.2.2.2 _))
  exact AllReadyH.nil
 have st011 : ∀ (B7 B8 : Nat) (w : World), (fun w' => w'.cell? ⟨A, 0, none⟩ = some (.bool neg) ∧ w'.cell? ⟨A, 1, none⟩ = some (.string s) ∧ w'.cell? ⟨B, 0, none⟩ = some (.bool neg') ∧ w'.cell? ⟨B, 1, none⟩ = some (.string s') ∧ Gr W w') w → Fresh W w B7 → Fresh W w B8 → ¬ (B7 = B8) → G 8 #[true, false, true, false, false, false, false, false, true, true, false, false] { tmps := List.toArray (v0 :: v1 :: .pointer (some ⟨A, 0, none⟩) :: .pointer (some ⟨B, 0, none⟩) :: v4 :: v5 :: .pointer (some ⟨B7, 0, none⟩) :: .pointer (some ⟨B8, 0, none⟩) :: v8 :: v9 :: v10 :: v11 :: v12 :: v13 :: v14 :: v15 :: v16 :: v17 :: v18 :: v19 :: v20 :: v21 :: v22 :: v23 :: v24 :: v25 :: undef :: .agg #[.bool neg, .string s] :: undef :: .agg #[.bool neg', .string s'] :: undef :: undef :: undef :: undef :: v34 :: v35 :: v36 :: v37 :: v38 :: v39 :: v40 :: v41 :: v42 :: v43 :: v44 :: v45 :: v46 :: v47 :: v48 :: v49 :: ([] : List Value)), defers := [] } w := by
  intro B7 B8 w hS f7 f8 hne
  refine inn _ _ _ _ ?_
  refine wpAnyH_ready (rs := [1]) (by kernel_rfl) (by simp) ?_
  refine AllReadyH.cons (o := ⟨some 28, .call ⟨.value (.func 89), #[.tmp 27], #[50]⟩, 101, "ref.go:433", #[⟨0, .data⟩], none⟩) rfl (fun K hK => ?_) ?_
  ·go_simp
   go_at_call 89
   refine (rin_129 neg s _ HF).mono ?_
   rintro e w' ⟨u, rfl, hu, g⟩
   go_wp2_with fail
   refine hK.out _ _ (keepS hS g) (fun hHeld => ?_)
   (simp only [Act.put, List.setIfInBounds_toArray, List.set_cons_zero, List.set_cons_succ])
   exact out _ _ _ _ (st111 _ _ _ _ hHeld hu (f7.later g) (f8.later g) hne)
  exact AllReadyH.nil
 have st010 : ∀ (B7 : Nat) (w : World), (fun w' => w'.cell? ⟨A, 0, none⟩ = some (.bool neg) ∧ w'.cell? ⟨A, 1, none⟩ = some (.string s) ∧ w'.cell? ⟨B, 0, none⟩ = some (.bool neg') ∧ w'.cell? ⟨B, 1, none⟩ = some (.string s') ∧ Gr W w') w → Fresh W w B7 → G 9 #[true, false, true, false, false, false, false, false, true, false, false, false] { tmps := List.toArray (v0 :: v1 :: .pointer (some ⟨A, 0, none⟩) :: .pointer (some ⟨B, 0, none⟩) :: v4 :: v5 :: .pointer (some ⟨B7, 0, none⟩) :: undef :: v8 :: v9 :: v10 :: v11 :: v12 :: v13 :: v14 :: v15 :: v16 :: v17 :: v18 :: v19 :: v20 :: v21 :: v22 :: v23 :: v24 :: v25 :: undef :: .agg #[.bool neg, .string s] :: undef :: .agg #[.bool neg', .string s'] :: undef :: undef :: undef :: undef :: v34 :: v35 :: v36 :: v37 :: v38 :: v39 :: v40 :: v41 :: v42 :: v43 :: v44 :: v45 :: v46 :: v47 :: v48 :: v49 :: ([] : List Value)), defers := [] } w := by
  intro B7 w hS f7
  refine inn _ _ _ _ ?_
  refine wpAnyH_ready (rs := [1, 9]) (by kernel_rfl) (by simp) ?_
  refine AllReadyH.cons (o := ⟨some 28, .call ⟨.value (.func 89), #[.tmp 27], #[50]⟩, 101, "ref.go:433", #[⟨0, .data⟩], none⟩) rfl (fun K hK => ?_) ?_
  ·go_simp
   go_at_call 89
   refine (rin_129 neg s _ HF).mono ?_
   rintro e w' ⟨u, rfl, hu, g⟩
   go_wp2_with fail
   refine hK.out _ _ (keepS hS g) (fun hHeld => ?_)
   (simp only [Act.put, List.setIfInBounds_toArray, List.set_cons_zero, List.set_cons_succ])
   exact out _ _ _ _ (st110 _ _ _ hHeld hu (f7.later g))
  refine AllReadyH.cons (o := ⟨some 7, .alloc 101, 0, "ref.go:433", #[], none⟩) rfl (fun K hK => ?_) ?_
  ·go_simp
   have g : Gr w (w.alloc (.cells #[.bool false, .slice none 0 0] 101)) := Gr.new w _
   refine hK.out _ _ (keepS hS g) (fun hHeld => ?_)
   (simp only [Act.put, List.setIfInBounds_toArray, List.set_cons_zero, List.set_cons_succ])
   exact out _ _ _ _ (st011 _ _ _ hHeld (f7.later g) (Fresh.new hS.2.2.2.2 _) (fun e => f7.ne e.symm))
  exact AllReadyH.nil
 have st001 : ∀ (B8 : Nat) (w : World), (fun w' => w'.cell? ⟨A, 0, none⟩ = some (.bool neg) ∧ w'.cell? ⟨A, 1, none⟩ = some (.string s) ∧ w'.cell? ⟨B, 0, none⟩ = some (.bool neg') ∧ w'.cell? ⟨B, 1, none⟩ = some (.string s') ∧ Gr W w') w → Fresh W w B8 → G 9 #[true, false, true, false, false, false, false, false, false, true, false, false] { tmps := List.toArray (v0 :: v1 :: .pointer (some ⟨A, 0, none⟩) :: .pointer (some ⟨B, 0, none⟩) :: v4 :: v5 :: undef :: .pointer (some ⟨B8, 0, none⟩) :: v8 :: v9 :: v10 :: v11 :: v12 :: v13 :: v14 :: v15 :: v16 :: v17 :: v18 :: v19 :: v20 :: v21 :: v22 :: v23 :: v24 :: v25 :: undef :: .agg #[.bool neg, .string s] :: undef :: .agg #[.bool neg', .string s'] :: undef :: undef :: undef :: undef :: v34 :: v35 :: v36 :: v37 :: v38 :: v39 :: v40 :: v41 :: v42 :: v43 :: v44 :: v45 :: v46 :: v47 :: v48 :: v49 :: ([] : List Value)), defers := [] } w := by
  intro B8 w hS f8
  refine inn _ _ _ _ ?_
  refine wpAnyH_ready (rs := [1, 8]) (by kernel_rfl) (by simp) ?_
  refine AllReadyH.cons (o := ⟨some 28, .call ⟨.value (.func 89), #[.tmp 27], #[50]⟩, 101, "ref.go:433", #[⟨0, .data⟩], none⟩) rfl (fun K hK => ?_) ?_
  ·go_simp
   go_at_call 89
   refine (rin_129 neg s _ HF).mono ?_
   rintro e w' ⟨u, rfl, hu, g⟩
   go_wp2_with fail
   refine hK.out _ _ (keepS hS g) (fun hHeld => ?_)
   (simp only [Act.put, List.setIfInBounds_toArray, List.set_cons_zero, List.set_cons_succ])
   exact out _ _ _ _ (st101 _ _ _ hHeld hu (f8.later g))
  refine AllReadyH.cons (o := ⟨some 6, .alloc 101, 0, "ref.go:433", #[], none⟩) rfl (fun K hK => ?_) ?_
  ·go_simp
   have g : Gr w (w.alloc (.cells #[.bool false, .slice none 0 0] 101)) := Gr.new w _
   refine hK.out _ _ (keepS hS g) (fun hHeld => ?_)
   (simp only [Act.put, List.setIfInBounds_toArray, List.set_cons_zero, List.set_cons_succ])
   exact out _ _ _ _ (st011 _ _ _ hHeld (Fresh.new hS.2.2.2.2 _) (f8.later g) (f8.ne))
  exact AllReadyH.nil
 have st000 : ∀ (w : World), (fun w' => w'.cell? ⟨A, 0, none⟩ = some (.bool neg) ∧ w'.cell? ⟨A, 1, none⟩ = some (.string s) ∧ w'.cell? ⟨B, 0, none⟩ = some (.bool neg') ∧ w'.cell? ⟨B, 1, none⟩ = some (.string s') ∧ Gr W w') w → G 10 #[true, false, true, false, false, false, false, false, false, false, false, false] { tmps := List.toArray (v0 :: v1 :: .pointer (some ⟨A, 0, none⟩) :: .pointer (some ⟨B, 0, none⟩) :: v4 :: v5 :: undef :: undef :: v8 :: v9 :: v10 :: v11 :: v12 :: v13 :: v14 :: v15 :: v16 :: v17 :: v18 :: v19 :: v20 :: v21 :: v22 :: v23 :: v24 :: v25 :: undef :: .agg #[.bool neg, .string s] :: undef :: .agg #[.bool neg', .string s'] :: undef :: undef :: undef :: undef :: v34 :: v35 :: v36 :: v37 :: v38 :: v39 :: v40 :: v41 :: v42 :: v43 :: v44 :: v45 :: v46 :: v47 :: v48 :: v49 :: ([] : List Value)), defers := [] } w := by
  intro w hS
  refine inn _ _ _ _ ?_
  refine wpAnyH_ready (rs := [1, 8, 9]) (by kernel_rfl) (by simp) ?_
  refine AllReadyH.cons (o := ⟨some 28, .call ⟨.value (.func 89), #[.tmp 27], #[50]⟩, 101, "ref.go:433", #[⟨0, .data⟩], none⟩) rfl (fun K hK => ?_) ?_
  ·go_simp
   go_at_call 89
   refine (rin_129 neg s _ HF).mono ?_
   rintro e w' ⟨u, rfl, hu, g⟩
   go_wp2_with fail
   refine hK.out _ _ (keepS hS g) (fun hHeld => ?_)
   (simp only [Act.put, List.setIfInBounds_toArray, List.set_cons_zero, List.set_cons_succ])
   exact out _ _ _ _ (st100 _ _ hHeld hu)
  refine AllReadyH.cons (o := ⟨some 6, .alloc 101, 0, "ref.go:433", #[], none⟩) rfl (fun K hK => ?_) ?_
  ·go_simp
   have g : Gr w (w.alloc (.cells #[.bool false, .slice none 0 0] 101)) := Gr.new w _
   refine hK.out _ _ (keepS hS g) (fun hHeld => ?_)
   (simp only [Act.put, List.setIfInBounds_toArray, List.set_cons_zero, List.set_cons_succ])
   exact out _ _ _ _ (st010 _ _ hHeld (Fresh.new hS.2.2.2.2 _))
  refine AllReadyH.cons (o := ⟨some 7, .alloc 101, 0, "ref.go:433", #[], none⟩) rfl (fun K hK => ?_) ?_
  ·go_simp
   have g : Gr w (w.alloc (.cells #[.bool false, .slice none 0 0] 101)) := Gr.new w _
   refine hK.out _ _ (keepS hS g) (fun hHeld => ?_)
   (simp only [Act.put, List.setIfInBounds_toArray, List.set_cons_zero, List.set_cons_succ])
   exact out _ _ _ _ (st001 _ _ hHeld (Fresh.new hS.2.2.2.2 _))
  exact AllReadyH.nil
 show wpAnyH _ _ _ _ _ 12 #[false, false, false, false, false, false, false, false, false, false, false, false] _ _
 refine wpAnyH_take (i := 0) (oi := ⟨some 27, .load 50 (.tmp 2), 50, "ref.go:433", #[], none⟩) (v := ?_) rfl (by kernel_rfl) (by kernel_rfl) (by kernel_rfl) (hQ _ _) (Or.inl ⟨by rfl, ?_⟩) (by assumption) ?_
 rotate_left
 ·intro w0 hSw; (try dsimp only at hSw); go_simp; try with_reducible rfl
 (simp only [Act.put, List.setIfInBounds_toArray, List.set_cons_zero, List.set_cons_succ])
 refine wpAnyH_take (i := 2) (oi := ⟨some 29, .load 50 (.tmp 3), 50, "ref.go:433", #[], none⟩) (v := ?_) rfl (by kernel_rfl) (by kernel_rfl) (by kernel_rfl) (hQ _ _) (Or.inl ⟨by rfl, ?_⟩) (by assumption) ?_
 rotate_left
 ·intro w0 hSw; (try dsimp only at hSw); go_simp; try with_reducible rfl
 (simp only [Act.put, List.setIfInBounds_toArray, List.set_cons_zero, List.set_cons_succ])
 exact out _ _ _ _ (st000 _ hHeld)
end Go.Proofs.YtlfiakpmnkhcdaaGreat
