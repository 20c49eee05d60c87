import Derived.Test.YtlfiakpmnkhcdaaLWL
import Derived.Test.YtlfiakpmnkhcdaaLWF
import Derived.Test.YtlfiakpmnkhcdaaLWH
import Derived.Deep.DeepCutAuto
import Derived.Deep.RegionHeld3
import Derived.Deep.RegionLaw
namespace Go.Proofs.Ytlfiakpmnkhcdaa
open Go.RowKit
set_option linter.unusedVariables false
def HasJ (N : Nat) (W : World) (v : Value) (z : Int) : Prop := ∃ s l, v = .agg #[.bool (decide (z < 0)), s] ∧ HasD W s l ∧ Oh.Nm l ∧ Oh.val l = z.natAbs ∧ l.length ≤ N
def NumZ (N : Nat) (z : Int) (w : World) (e : Ending) (w' : World) : Prop := ∃ v, e = .returned v ∧ HasJ N w' v z ∧ Gr w w'
theorem run_app (w : World) (base : Nat) (v : Value) (l0 : List Nat) (hown : Own1 w base v l0) (u : Value) (m : List Nat) (hu : HasD w u m) (hlen : l0.length + m.length ≤ 1000000) (hbase : base ≤ w.heap.size) :
    ∃ v' w', (Builtin.append_ #[23, 23] 23 #[v, u]).run Try.prog w = .ok v' w' ∧ Own1 w' base v' (l0 ++ m) ∧ w.grownBy w' v.ownBlock := by
  obtain ⟨i0, hi, hz0, hz1, hz2⟩ := info_parts infoU32
  obtain ⟨hd0, hown⟩ := hown
  obtain ⟨hdm, a, cap, rfl, h1, h2, hc⟩ := hu
  have hdg : Ow.Dg (l0 ++ m) := fun x hx => by
    rcases List.mem_append.1 hx with h | h
    · exact hd0 x h
    · exact hdm x h
  have hcells : wcells (l0 ++ m) = wcells l0 ++ wcells m := by simp [wcells]
  rcases a with _ | ad
  · have hm : m = [] := by
      rcases m with _ | ⟨x, m⟩
      · rfl
      · obtain ⟨g, o, e, _⟩ := hc 0 (by simp)
        cases e
    subst hm
    refine ⟨v, w, ?_, by rw [List.append_nil]; exact ⟨hd0, hown⟩, World.grownBy.refl w _⟩
    rcases hown.2 with ⟨rfl, _⟩ | ⟨g, cap', cur, rfl, _, _, hnc, _⟩
    · simp [Builtin.append_, run_underlying Try.underlying23, sizeOf, typeInfo, hi, Builtin.lenOf, Builtin.firstCells]
    · simp [Builtin.append_, run_underlying Try.underlying23, sizeOf, typeInfo, hi, Builtin.lenOf, Builtin.firstCells, hnc, storeCells]
  · have hnews : ∀ j x, (wcells m)[j]? = some x → w.cell? (ad.add j) = some x := by
      intro j x hx
      have hj : j < m.length := by
        have := (List.getElem?_eq_some_iff.1 hx).1
        rwa [wcells_len] at this
      obtain ⟨g, o, e, hcell⟩ := hc j hj
      obtain rfl := Option.some.inj e
      rw [wcells_at m j hj] at hx
      have e2 : (⟨g, o, none⟩ : Addr).add j = ⟨g, o + j, none⟩ := by
        unfold Addr.add; split <;> simp_all
      rw [e2, hcell]; exact hx
    obtain ⟨v', w', hr, h5, h6, _⟩ := run_append_own (P := Try.prog) w base 23 23 22 i0 (.int .u32 0) 1 4 Try.underlying23 hi hz0 hz1 hz2 rfl (by decide) v l0.length (wcells l0) hown ad m.length cap (wcells m) (by rw [wcells_len]; omega) hnews (by simp [wcells, Value.oneCell']) (by unfold maxLen; omega) (by omega) hbase
    exact ⟨v', w', hr, ⟨hdg, by rw [hcells, List.length_append]; exact h5⟩, h6⟩
theorem step_app {ops : Array Oper} {o : Oper} {a : Act} {w : World} {K : Act → World → Prop} {Q : Exit → Act → World → Prop} {E : Prop} (hgd : o.guard = none) (s x : Operand)
    (ho : o.op = .call { callee := .builtin .append, args := #[s, x], argTypes := #[23, 23] }) (hty : o.type = 23)
    (base : Nat) (v : Value) (l0 : List Nat) (hs : a.eval s = v) (hown : Own1 w base v l0) (u : Value) (m : List Nat) (hx : a.eval x = u) (hu : HasD w u m) (hlen : l0.length + m.length ≤ 1000000) (hbase : base ≤ w.heap.size)
    (h : ∀ v' w', Own1 w' base v' (l0 ++ m) → w.grownBy w' v.ownBlock → K (a.put o.dst v') w') :
    if Region.wanted o (yielded ops a.tmps) = true then Oper.wp Try.prog o a w K Q else E := by
  have hw : Region.wanted o (yielded ops a.tmps) = true := by simp [Region.wanted, hgd]
  rw [if_pos hw]
  obtain ⟨v', w', hr, h2, h3⟩ := run_app w base v l0 hown u m hu hlen hbase
  unfold Oper.wp execOp
  simp only [ho, hty, resolve, invoke, builtin, Sem.run_bind, Sem.run_pure, Result.andThen_ok, List.map_toArray, List.map_cons, List.map_nil, hs, hx, hr]
  exact h v' w' h2 h3
theorem Own1.start (w : World) (base : Nat) (hb : base ≤ w.heap.size) : Own1 (w.alloc (.cells #[] 22)) base (.slice (some ⟨w.heap.size, 0, none⟩) 0 0) [] :=
  ⟨Ow.dg_nil, rfl, .inr ⟨w.heap.size, 0, #[], rfl, hb, heap_alloc_new w _, Nat.le_refl _, by unfold maxLen; omega, rfl, rfl⟩⟩
theorem gr_grown {w a b : World} {o : Obj} {v : Value} (h : Gr w a) (hv : ∀ g, v.ownBlock = some g → w.heap.size ≤ g) (hg : (a.alloc o).grownBy b v.ownBlock) : Gr w b :=
  Below.grown (h.alloc o) hg (h.alloc o).size (fun j ej => hv j ej)
theorem take_nm {l : List Nat} {k : Nat} (h : Oh.tr (l.take k) = Oh.tr l) (hk : l.take k = Oh.tr (l.take k)) (hd : Oh.Dg l) : Oh.Nm (l.take k) ∧ Oh.val (l.take k) = Oh.val l :=
  ⟨⟨Oh.dg_take hd k, hk.symm⟩, by rw [hk, h, Oh.val_tr]⟩
def TrimCut (b : Bool) (l : List Nat) (B : Nat) (w wx : World) : Prop := ∃ a' n' cap', wx.cell? ⟨B, 0, none⟩ = some (.bool b) ∧ wx.cell? ⟨B, 1, none⟩ = some (.slice a' n' cap') ∧ HasD wx (.slice a' n' cap') l ∧ Gr w wx
set_option maxRecDepth 100000 in
set_option maxHeartbeats 8000000 in
theorem trim_region_true (l : List Nat) (k : Nat) (a : Option Addr) (len cap A B : Nat) (w : World) (W : World)
    (x0 : W.cell? ⟨A, 0, none⟩ = some (.bool true)) (x1 : W.cell? ⟨A, 1, none⟩ = some (.slice a len cap)) (HR0 : Hid (W.cell? ⟨B, 0, none⟩ = some (.bool false))) (HR1 : Hid (W.cell? ⟨B, 1, none⟩ = some (.slice none 0 0)))
    (HE0 : Hid (W.frozen? ⟨B, 0, none⟩ = false)) (HE1 : Hid (W.frozen? ⟨B, 1, none⟩ = false)) (hB : w.heap.size ≤ B) (hBW : B < W.heap.size) (n1 : ¬ (A = B)) (HG : Hid (Gr w W)) (HS : Hid (HasD W (.slice a k cap) (l.take k))) (hk : k ≤ len) (hkc : len ≤ cap) (hlen : len ≤ 100000)
    (v0 v4 v5 v6 v7 v8 v9 v10 v11 v12 v13 v14 v15 v16 v17 v18 v19 v20 v21 v22 v23 v24 v25 v26 v27 v28 v29 v30 v31 v32 : Value) (Q : Exit → Act → World → Prop) (hQ : ∀ (d : Option Tmp) (v : Value) c a w, Q (.panic c) (a.put d v) w → Q (.panic c) a w)
    (hpost : ∀  (u20 u21 u22 u23 u24 u25 u26 u27 u28 u29 u30 u31 u32 : Value) (wx : World), TrimCut (decide (0 < k)) (l.take k) B w wx → Q .normal { tmps := List.toArray (v0 :: .pointer (some ⟨A, 0, none⟩) :: .pointer (some ⟨B, 0, none⟩) :: .int .i64 k :: v4 :: v5 :: v6 :: v7 :: v8 :: v9 :: v10 :: v11 :: v12 :: v13 :: v14 :: v15 :: v16 :: v17 :: v18 :: v19 :: u20 :: u21 :: u22 :: u23 :: u24 :: u25 :: u26 :: u27 :: u28 :: u29 :: u30 :: u31 :: u32 :: ([] : List Value)), defers := [] } wx) :
    (Code.region 4 #[⟨some 20, .fieldAddr 64 (.tmp 1) 0, 0, "ref.go:20", #[], none⟩,
      ⟨some 21, .load 4 (.tmp 20), 4, "ref.go:20", #[⟨0, .data⟩], none⟩,
      ⟨some 22, .move (.tmp 21), 4, "ref.go:20", #[⟨1, .data⟩], none⟩,
      ⟨some 23, .move (.tmp 3), 3, "ref.go:20", #[⟨2, .guard⟩], some (2, true)⟩,
      ⟨some 24, .binOp .gtr 3 (.tmp 23) (.const (.int .i64 0)) 3, 4, "ref.go:20", #[⟨3, .data⟩, ⟨2, .guard⟩], some (2, true)⟩,
      ⟨some 25, .pick (.tmp 22) (.tmp 24) (.const (.bool false)), 4, "ref.go:20", #[⟨2, .data⟩, ⟨4, .data⟩], none⟩,
      ⟨some 26, .buildSlice 23 0 #[], 23, "ref.go:20", #[], none⟩,
      ⟨some 27, .fieldAddr 64 (.tmp 1) 1, 0, "ref.go:20", #[], none⟩,
      ⟨some 28, .load 23 (.tmp 27), 23, "ref.go:20", #[⟨7, .data⟩], none⟩,
      ⟨some 29, .move (.tmp 3), 3, "ref.go:20", #[], none⟩,
      ⟨some 30, .slice 23 (.tmp 28) none (some (.tmp 29)) none, 23, "ref.go:20", #[⟨8, .data⟩, ⟨9, .data⟩], none⟩,
      ⟨some 31, .call ⟨.builtin .append, #[.tmp 26, .tmp 30], #[23, 23]⟩, 23, "ref.go:20", #[⟨6, .data⟩, ⟨10, .data⟩, ⟨2, .chain⟩], none⟩,
      ⟨some 32, .build 64 #[(0, .tmp 25), (1, .tmp 31)], 64, "ref.go:20", #[⟨5, .data⟩, ⟨11, .data⟩], none⟩,
      ⟨none, .store 64 (.tmp 2) (.tmp 32), 0, "ref.go:20", #[⟨12, .data⟩, ⟨11, .chain⟩, ⟨0, .phase⟩, ⟨1, .phase⟩, ⟨2, .phase⟩, ⟨3, .phase⟩, ⟨4, .phase⟩, ⟨5, .phase⟩, ⟨6, .phase⟩, ⟨7, .phase⟩, ⟨8, .phase⟩, ⟨9, .phase⟩, ⟨10, .phase⟩, ⟨11, .phase⟩, ⟨12, .phase⟩], none⟩] true).wp Try.prog Q { tmps := List.toArray (v0 :: .pointer (some ⟨A, 0, none⟩) :: .pointer (some ⟨B, 0, none⟩) :: .int .i64 k :: v4 :: v5 :: v6 :: v7 :: v8 :: v9 :: v10 :: v11 :: v12 :: v13 :: v14 :: v15 :: v16 :: v17 :: v18 :: v19 :: v20 :: v21 :: v22 :: v23 :: v24 :: v25 :: v26 :: v27 :: v28 :: v29 :: v30 :: v31 :: v32 :: ([] : List Value)), defers := [] } W := by
  refine wp_region_held_drew (S := fun wz => wz.cell? ⟨A, 0, none⟩ = some (.bool true) ∧ wz.cell? ⟨A, 1, none⟩ = some (.slice a len cap) ∧ Gr w wz) (by kernel_rfl) ⟨x0, x1, Below.drew HG.out⟩ (fun hHeld => ?_)
  have hkcap : k ≤ cap := by omega
  refine wpAnyH_take (i := 0) (oi := ⟨some 20, .fieldAddr 64 (.tmp 1) 0, 0, "ref.go:20", #[], none⟩) (v := ?_) rfl (by kernel_rfl) (by kernel_rfl) (by kernel_rfl) (hQ _ _) (Or.inl ⟨by rfl, ?_⟩) (by assumption) ?_
  rotate_left
  · intro w hSw; (try dsimp only at hSw); go_simp; try with_reducible rfl
  try simp only [Act.put, List.setIfInBounds_toArray, List.set_cons_zero, List.set_cons_succ]
  refine wpAnyH_take (i := 1) (oi := ⟨some 21, .load 4 (.tmp 20), 4, "ref.go:20", #[⟨0, .data⟩], none⟩) (v := ?_) rfl (by kernel_rfl) (by kernel_rfl) (by kernel_rfl) (hQ _ _) (Or.inl ⟨by rfl, ?_⟩) (by assumption) ?_
  rotate_left
  · intro w hSw; (try dsimp only at hSw); go_simp; try with_reducible rfl
  try simp only [Act.put, List.setIfInBounds_toArray, List.set_cons_zero, List.set_cons_succ]
  refine wpAnyH_take (i := 2) (oi := ⟨some 22, .move (.tmp 21), 4, "ref.go:20", #[⟨1, .data⟩], none⟩) (v := ?_) rfl (by kernel_rfl) (by kernel_rfl) (by kernel_rfl) (hQ _ _) (Or.inl ⟨by rfl, ?_⟩) (by assumption) ?_
  rotate_left
  · intro w hSw; (try dsimp only at hSw); go_simp; try with_reducible rfl
  try simp only [Act.put, List.setIfInBounds_toArray, List.set_cons_zero, List.set_cons_succ]
  refine wpAnyH_take (i := 3) (oi := ⟨some 23, .move (.tmp 3), 3, "ref.go:20", #[⟨2, .guard⟩], some (2, true)⟩) (v := ?_) rfl (by kernel_rfl) (by kernel_rfl) (by kernel_rfl) (hQ _ _) (Or.inl ⟨by rfl, ?_⟩) (by assumption) ?_
  rotate_left
  · intro w hSw; (try dsimp only at hSw); go_simp; try with_reducible rfl
  try simp only [Act.put, List.setIfInBounds_toArray, List.set_cons_zero, List.set_cons_succ]
  refine wpAnyH_take (i := 4) (oi := ⟨some 24, .binOp .gtr 3 (.tmp 23) (.const (.int .i64 0)) 3, 4, "ref.go:20", #[⟨3, .data⟩, ⟨2, .guard⟩], some (2, true)⟩) (v := ?_) rfl (by kernel_rfl) (by kernel_rfl) (by kernel_rfl) (hQ _ _) (Or.inl ⟨by rfl, ?_⟩) (by assumption) ?_
  rotate_left
  · intro w hSw; (try dsimp only at hSw); go_simp; try with_reducible rfl
  try simp only [Act.put, List.setIfInBounds_toArray, List.set_cons_zero, List.set_cons_succ]
  refine wpAnyH_take (i := 5) (oi := ⟨some 25, .pick (.tmp 22) (.tmp 24) (.const (.bool false)), 4, "ref.go:20", #[⟨2, .data⟩, ⟨4, .data⟩], none⟩) (v := ?_) rfl (by kernel_rfl) (by kernel_rfl) (by kernel_rfl) (hQ _ _) (Or.inl ⟨by rfl, ?_⟩) (by assumption) ?_
  rotate_left
  · intro w hSw; (try dsimp only at hSw); go_simp; try with_reducible rfl
  try simp only [Act.put, List.setIfInBounds_toArray, List.set_cons_zero, List.set_cons_succ]
  refine wpAnyH_take (i := 7) (oi := ⟨some 27, .fieldAddr 64 (.tmp 1) 1, 0, "ref.go:20", #[], none⟩) (v := ?_) rfl (by kernel_rfl) (by kernel_rfl) (by kernel_rfl) (hQ _ _) (Or.inl ⟨by rfl, ?_⟩) (by assumption) ?_
  rotate_left
  · intro w hSw; (try dsimp only at hSw); go_simp; try with_reducible rfl
  try simp only [Act.put, List.setIfInBounds_toArray, List.set_cons_zero, List.set_cons_succ]
  refine wpAnyH_take (i := 8) (oi := ⟨some 28, .load 23 (.tmp 27), 23, "ref.go:20", #[⟨7, .data⟩], none⟩) (v := ?_) rfl (by kernel_rfl) (by kernel_rfl) (by kernel_rfl) (hQ _ _) (Or.inl ⟨by rfl, ?_⟩) (by assumption) ?_
  rotate_left
  · intro w hSw; (try dsimp only at hSw); go_simp; try with_reducible rfl
  try simp only [Act.put, List.setIfInBounds_toArray, List.set_cons_zero, List.set_cons_succ]
  refine wpAnyH_take (i := 9) (oi := ⟨some 29, .move (.tmp 3), 3, "ref.go:20", #[], none⟩) (v := ?_) rfl (by kernel_rfl) (by kernel_rfl) (by kernel_rfl) (hQ _ _) (Or.inl ⟨by rfl, ?_⟩) (by assumption) ?_
  rotate_left
  · intro w hSw; (try dsimp only at hSw); go_simp; try with_reducible rfl
  try simp only [Act.put, List.setIfInBounds_toArray, List.set_cons_zero, List.set_cons_succ]
  refine wpAnyH_take (i := 10) (oi := ⟨some 30, .slice 23 (.tmp 28) none (some (.tmp 29)) none, 23, "ref.go:20", #[⟨8, .data⟩, ⟨9, .data⟩], none⟩) (v := ?_) rfl (by kernel_rfl) (by kernel_rfl) (by kernel_rfl) (hQ _ _) (Or.inl ⟨by rfl, ?_⟩) (by assumption) ?_
  rotate_left
  · intro w hSw; (try dsimp only at hSw); go_simp; try with_reducible rfl
  try simp only [Act.put, List.setIfInBounds_toArray, List.set_cons_zero, List.set_cons_succ]
  refine wpAnyH_ready (rs := [6]) (by kernel_rfl) (by simp) ?_
  refine AllReadyH.cons (o := ⟨some 26, .buildSlice 23 0 #[], 23, "ref.go:20", #[], none⟩) rfl (fun K hK => ?_) AllReadyH.nil
  go_simp
  refine hK.out _ _ ⟨(Gr.new _ _).keeps hHeld.1, (Gr.new _ _).keeps hHeld.2.1, hHeld.2.2.alloc _⟩ (fun hHeld => ?_)
  clear hK K
  try simp only [Act.put, List.setIfInBounds_toArray, List.set_cons_zero, List.set_cons_succ]
  refine wpAnyH_ready (rs := [11]) (by kernel_rfl) (by simp) ?_
  refine AllReadyH.cons (o := ⟨some 31, .call ⟨.builtin .append, #[.tmp 26, .tmp 30], #[23, 23]⟩, 23, "ref.go:20", #[⟨6, .data⟩, ⟨10, .data⟩, ⟨2, .chain⟩], none⟩) rfl (fun K hK => ?_) AllReadyH.nil
  refine step_app (by rfl) (.tmp 26) (.tmp 30) (by rfl) (by rfl) B _ [] (by rfl) (Own1.start _ _ (show B ≤ W.drew.heap.size by rw [World.size_drew]; omega)) _ (l.take k) (by rfl) (HS.out.later ((show Gr W W.drew from Below.drew (Gr.refl W)).alloc _)) (by rw [List.length_take, List.length_nil]; omega) (show B ≤ (W.drew.alloc _).heap.size by rw [World.size_alloc, World.size_drew]; omega) ?_
  intro v' w1 hown hgrow
  have hgg : Gr W w1 := gr_grown (a := W.drew) (Below.drew (Gr.refl W)) (fun g eg => by simp only [Value.ownBlock, Option.some.injEq] at eg; rw [← eg]; exact Nat.le_refl _) hgrow
  have hdd := hown.hasD
  rw [List.nil_append] at hdd
  obtain ⟨-, a', cap', rfl, -, -, -⟩ := id hdd
  obtain ⟨n', hnn⟩ : ∃ n', n' = (l.take k).length := ⟨_, rfl⟩
  rw [← hnn] at hdd ⊢
  clear hnn
  have HDD := Lib.hid hdd
  have r0 := hgg.keeps HR0.out
  have r1 := hgg.keeps HR1.out
  have e0 := hgg.frozen HR0.out HE0.out
  have e1 := hgg.frozen HR1.out HE1.out
  have HGG := Lib.hid hgg
  clear hown hgrow hgg hdd
  refine hK.out _ _ ⟨HGG.out.keeps x0, HGG.out.keeps x1, HG.out.trans HGG.out⟩ (fun hHeld => ?_)
  clear hK K
  try simp only [Act.put, List.setIfInBounds_toArray, List.set_cons_zero, List.set_cons_succ]
  refine wpAnyH_take (i := 12) (oi := ⟨some 32, .build 64 #[(0, .tmp 25), (1, .tmp 31)], 64, "ref.go:20", #[⟨5, .data⟩, ⟨11, .data⟩], none⟩) (v := ?_) rfl (by kernel_rfl) (by kernel_rfl) (by kernel_rfl) (hQ _ _) (Or.inl ⟨by rfl, ?_⟩) (by assumption) ?_
  rotate_left
  · intro w hSw; (try dsimp only at hSw); go_simp; try with_reducible rfl
  try simp only [Act.put, List.setIfInBounds_toArray, List.set_cons_zero, List.set_cons_succ]
  refine wpAnyH_ready (rs := [13]) (by kernel_rfl) (by simp) ?_
  refine AllReadyH.cons (o := ⟨none, .store 64 (.tmp 2) (.tmp 32), 0, "ref.go:20", #[⟨12, .data⟩, ⟨11, .chain⟩, ⟨0, .phase⟩, ⟨1, .phase⟩, ⟨2, .phase⟩, ⟨3, .phase⟩, ⟨4, .phase⟩, ⟨5, .phase⟩, ⟨6, .phase⟩, ⟨7, .phase⟩, ⟨8, .phase⟩, ⟨9, .phase⟩, ⟨10, .phase⟩, ⟨11, .phase⟩, ⟨12, .phase⟩], none⟩) rfl (fun K hK => ?_) AllReadyH.nil
  go_simp
  refine hK.out _ _ ⟨keep2 hHeld.1 n1, keep2 hHeld.2.1 n1, (hHeld.2.2.setCell (p := ⟨B, 0, none⟩) hB _).setCell (p := ⟨B, 1, none⟩) hB _⟩ (fun hHeld2 => ?_)
  clear hK K
  try simp only [Act.put, List.setIfInBounds_toArray, List.set_cons_zero, List.set_cons_succ]
  refine wpAnyH_done (by kernel_rfl) ?_ _
  refine hpost _ _ _ _ _ _ _ _ _ _ _ _ _ _ ?_
  refine ⟨_, _, _, (put2 r0 r1 _ _).1, (put2 r0 r1 _ _).2, (HDD.out.setAt r0 (by simp) _).setAt ((cell_other (by simp) _).trans r1) (by simp) _, hHeld2.2.2⟩
set_option maxRecDepth 100000 in
set_option maxHeartbeats 8000000 in
theorem trim_region_false (l : List Nat) (k : Nat) (a : Option Addr) (len cap A B : Nat) (w : World) (W : World)
    (x0 : W.cell? ⟨A, 0, none⟩ = some (.bool false)) (x1 : W.cell? ⟨A, 1, none⟩ = some (.slice a len cap)) (HR0 : Hid (W.cell? ⟨B, 0, none⟩ = some (.bool false))) (HR1 : Hid (W.cell? ⟨B, 1, none⟩ = some (.slice none 0 0)))
    (HE0 : Hid (W.frozen? ⟨B, 0, none⟩ = false)) (HE1 : Hid (W.frozen? ⟨B, 1, none⟩ = false)) (hB : w.heap.size ≤ B) (hBW : B < W.heap.size) (n1 : ¬ (A = B)) (HG : Hid (Gr w W)) (HS : Hid (HasD W (.slice a k cap) (l.take k))) (hk : k ≤ len) (hkc : len ≤ cap) (hlen : len ≤ 100000)
    (v0 v4 v5 v6 v7 v8 v9 v10 v11 v12 v13 v14 v15 v16 v17 v18 v19 v20 v21 v22 v23 v24 v25 v26 v27 v28 v29 v30 v31 v32 : Value) (Q : Exit → Act → World → Prop) (hQ : ∀ (d : Option Tmp) (v : Value) c a w, Q (.panic c) (a.put d v) w → Q (.panic c) a w)
    (hpost : ∀  (u20 u21 u22 u23 u24 u25 u26 u27 u28 u29 u30 u31 u32 : Value) (wx : World), TrimCut (false) (l.take k) B w wx → Q .normal { tmps := List.toArray (v0 :: .pointer (some ⟨A, 0, none⟩) :: .pointer (some ⟨B, 0, none⟩) :: .int .i64 k :: v4 :: v5 :: v6 :: v7 :: v8 :: v9 :: v10 :: v11 :: v12 :: v13 :: v14 :: v15 :: v16 :: v17 :: v18 :: v19 :: u20 :: u21 :: u22 :: u23 :: u24 :: u25 :: u26 :: u27 :: u28 :: u29 :: u30 :: u31 :: u32 :: ([] : List Value)), defers := [] } wx) :
    (Code.region 4 #[⟨some 20, .fieldAddr 64 (.tmp 1) 0, 0, "ref.go:20", #[], none⟩,
      ⟨some 21, .load 4 (.tmp 20), 4, "ref.go:20", #[⟨0, .data⟩], none⟩,
      ⟨some 22, .move (.tmp 21), 4, "ref.go:20", #[⟨1, .data⟩], none⟩,
      ⟨some 23, .move (.tmp 3), 3, "ref.go:20", #[⟨2, .guard⟩], some (2, true)⟩,
      ⟨some 24, .binOp .gtr 3 (.tmp 23) (.const (.int .i64 0)) 3, 4, "ref.go:20", #[⟨3, .data⟩, ⟨2, .guard⟩], some (2, true)⟩,
      ⟨some 25, .pick (.tmp 22) (.tmp 24) (.const (.bool false)), 4, "ref.go:20", #[⟨2, .data⟩, ⟨4, .data⟩], none⟩,
      ⟨some 26, .buildSlice 23 0 #[], 23, "ref.go:20", #[], none⟩,
      ⟨some 27, .fieldAddr 64 (.tmp 1) 1, 0, "ref.go:20", #[], none⟩,
      ⟨some 28, .load 23 (.tmp 27), 23, "ref.go:20", #[⟨7, .data⟩], none⟩,
      ⟨some 29, .move (.tmp 3), 3, "ref.go:20", #[], none⟩,
      ⟨some 30, .slice 23 (.tmp 28) none (some (.tmp 29)) none, 23, "ref.go:20", #[⟨8, .data⟩, ⟨9, .data⟩], none⟩,
      ⟨some 31, .call ⟨.builtin .append, #[.tmp 26, .tmp 30], #[23, 23]⟩, 23, "ref.go:20", #[⟨6, .data⟩, ⟨10, .data⟩, ⟨2, .chain⟩], none⟩,
      ⟨some 32, .build 64 #[(0, .tmp 25), (1, .tmp 31)], 64, "ref.go:20", #[⟨5, .data⟩, ⟨11, .data⟩], none⟩,
      ⟨none, .store 64 (.tmp 2) (.tmp 32), 0, "ref.go:20", #[⟨12, .data⟩, ⟨11, .chain⟩, ⟨0, .phase⟩, ⟨1, .phase⟩, ⟨2, .phase⟩, ⟨3, .phase⟩, ⟨4, .phase⟩, ⟨5, .phase⟩, ⟨6, .phase⟩, ⟨7, .phase⟩, ⟨8, .phase⟩, ⟨9, .phase⟩, ⟨10, .phase⟩, ⟨11, .phase⟩, ⟨12, .phase⟩], none⟩] true).wp Try.prog Q { tmps := List.toArray (v0 :: .pointer (some ⟨A, 0, none⟩) :: .pointer (some ⟨B, 0, none⟩) :: .int .i64 k :: v4 :: v5 :: v6 :: v7 :: v8 :: v9 :: v10 :: v11 :: v12 :: v13 :: v14 :: v15 :: v16 :: v17 :: v18 :: v19 :: v20 :: v21 :: v22 :: v23 :: v24 :: v25 :: v26 :: v27 :: v28 :: v29 :: v30 :: v31 :: v32 :: ([] : List Value)), defers := [] } W := by
  refine wp_region_held_drew (S := fun wz => wz.cell? ⟨A, 0, none⟩ = some (.bool false) ∧ wz.cell? ⟨A, 1, none⟩ = some (.slice a len cap) ∧ Gr w wz) (by kernel_rfl) ⟨x0, x1, Below.drew HG.out⟩ (fun hHeld => ?_)
  have hkcap : k ≤ cap := by omega
  refine wpAnyH_take (i := 0) (oi := ⟨some 20, .fieldAddr 64 (.tmp 1) 0, 0, "ref.go:20", #[], none⟩) (v := ?_) rfl (by kernel_rfl) (by kernel_rfl) (by kernel_rfl) (hQ _ _) (Or.inl ⟨by rfl, ?_⟩) (by assumption) ?_
  rotate_left
  · intro w hSw; (try dsimp only at hSw); go_simp; try with_reducible rfl
  try simp only [Act.put, List.setIfInBounds_toArray, List.set_cons_zero, List.set_cons_succ]
  refine wpAnyH_take (i := 1) (oi := ⟨some 21, .load 4 (.tmp 20), 4, "ref.go:20", #[⟨0, .data⟩], none⟩) (v := ?_) rfl (by kernel_rfl) (by kernel_rfl) (by kernel_rfl) (hQ _ _) (Or.inl ⟨by rfl, ?_⟩) (by assumption) ?_
  rotate_left
  · intro w hSw; (try dsimp only at hSw); go_simp; try with_reducible rfl
  try simp only [Act.put, List.setIfInBounds_toArray, List.set_cons_zero, List.set_cons_succ]
  refine wpAnyH_take (i := 2) (oi := ⟨some 22, .move (.tmp 21), 4, "ref.go:20", #[⟨1, .data⟩], none⟩) (v := ?_) rfl (by kernel_rfl) (by kernel_rfl) (by kernel_rfl) (hQ _ _) (Or.inl ⟨by rfl, ?_⟩) (by assumption) ?_
  rotate_left
  · intro w hSw; (try dsimp only at hSw); go_simp; try with_reducible rfl
  try simp only [Act.put, List.setIfInBounds_toArray, List.set_cons_zero, List.set_cons_succ]
  refine wpAnyH_take (i := 3) (oi := ⟨some 23, .move (.tmp 3), 3, "ref.go:20", #[⟨2, .guard⟩], some (2, true)⟩) (v := undef) rfl (by kernel_rfl) (by kernel_rfl) (by kernel_rfl) (hQ _ _) (Or.inr ⟨by rfl, rfl⟩) (by assumption) ?_
  try simp only [Act.put, List.setIfInBounds_toArray, List.set_cons_zero, List.set_cons_succ]
  refine wpAnyH_take (i := 4) (oi := ⟨some 24, .binOp .gtr 3 (.tmp 23) (.const (.int .i64 0)) 3, 4, "ref.go:20", #[⟨3, .data⟩, ⟨2, .guard⟩], some (2, true)⟩) (v := undef) rfl (by kernel_rfl) (by kernel_rfl) (by kernel_rfl) (hQ _ _) (Or.inr ⟨by rfl, rfl⟩) (by assumption) ?_
  try simp only [Act.put, List.setIfInBounds_toArray, List.set_cons_zero, List.set_cons_succ]
  refine wpAnyH_take (i := 5) (oi := ⟨some 25, .pick (.tmp 22) (.tmp 24) (.const (.bool false)), 4, "ref.go:20", #[⟨2, .data⟩, ⟨4, .data⟩], none⟩) (v := ?_) rfl (by kernel_rfl) (by kernel_rfl) (by kernel_rfl) (hQ _ _) (Or.inl ⟨by rfl, ?_⟩) (by assumption) ?_
  rotate_left
  · intro w hSw; (try dsimp only at hSw); go_simp; try with_reducible rfl
  try simp only [Act.put, List.setIfInBounds_toArray, List.set_cons_zero, List.set_cons_succ]
  refine wpAnyH_take (i := 7) (oi := ⟨some 27, .fieldAddr 64 (.tmp 1) 1, 0, "ref.go:20", #[], none⟩) (v := ?_) rfl (by kernel_rfl) (by kernel_rfl) (by kernel_rfl) (hQ _ _) (Or.inl ⟨by rfl, ?_⟩) (by assumption) ?_
  rotate_left
  · intro w hSw; (try dsimp only at hSw); go_simp; try with_reducible rfl
  try simp only [Act.put, List.setIfInBounds_toArray, List.set_cons_zero, List.set_cons_succ]
  refine wpAnyH_take (i := 8) (oi := ⟨some 28, .load 23 (.tmp 27), 23, "ref.go:20", #[⟨7, .data⟩], none⟩) (v := ?_) rfl (by kernel_rfl) (by kernel_rfl) (by kernel_rfl) (hQ _ _) (Or.inl ⟨by rfl, ?_⟩) (by assumption) ?_
  rotate_left
  · intro w hSw; (try dsimp only at hSw); go_simp; try with_reducible rfl
  try simp only [Act.put, List.setIfInBounds_toArray, List.set_cons_zero, List.set_cons_succ]
  refine wpAnyH_take (i := 9) (oi := ⟨some 29, .move (.tmp 3), 3, "ref.go:20", #[], none⟩) (v := ?_) rfl (by kernel_rfl) (by kernel_rfl) (by kernel_rfl) (hQ _ _) (Or.inl ⟨by rfl, ?_⟩) (by assumption) ?_
  rotate_left
  · intro w hSw; (try dsimp only at hSw); go_simp; try with_reducible rfl
  try simp only [Act.put, List.setIfInBounds_toArray, List.set_cons_zero, List.set_cons_succ]
  refine wpAnyH_take (i := 10) (oi := ⟨some 30, .slice 23 (.tmp 28) none (some (.tmp 29)) none, 23, "ref.go:20", #[⟨8, .data⟩, ⟨9, .data⟩], none⟩) (v := ?_) rfl (by kernel_rfl) (by kernel_rfl) (by kernel_rfl) (hQ _ _) (Or.inl ⟨by rfl, ?_⟩) (by assumption) ?_
  rotate_left
  · intro w hSw; (try dsimp only at hSw); go_simp; try with_reducible rfl
  try simp only [Act.put, List.setIfInBounds_toArray, List.set_cons_zero, List.set_cons_succ]
  refine wpAnyH_ready (rs := [6]) (by kernel_rfl) (by simp) ?_
  refine AllReadyH.cons (o := ⟨some 26, .buildSlice 23 0 #[], 23, "ref.go:20", #[], none⟩) rfl (fun K hK => ?_) AllReadyH.nil
  go_simp
  refine hK.out _ _ ⟨(Gr.new _ _).keeps hHeld.1, (Gr.new _ _).keeps hHeld.2.1, hHeld.2.2.alloc _⟩ (fun hHeld => ?_)
  clear hK K
  try simp only [Act.put, List.setIfInBounds_toArray, List.set_cons_zero, List.set_cons_succ]
  refine wpAnyH_ready (rs := [11]) (by kernel_rfl) (by simp) ?_
  refine AllReadyH.cons (o := ⟨some 31, .call ⟨.builtin .append, #[.tmp 26, .tmp 30], #[23, 23]⟩, 23, "ref.go:20", #[⟨6, .data⟩, ⟨10, .data⟩, ⟨2, .chain⟩], none⟩) rfl (fun K hK => ?_) AllReadyH.nil
  refine step_app (by rfl) (.tmp 26) (.tmp 30) (by rfl) (by rfl) B _ [] (by rfl) (Own1.start _ _ (show B ≤ W.drew.heap.size by rw [World.size_drew]; omega)) _ (l.take k) (by rfl) (HS.out.later ((show Gr W W.drew from Below.drew (Gr.refl W)).alloc _)) (by rw [List.length_take, List.length_nil]; omega) (show B ≤ (W.drew.alloc _).heap.size by rw [World.size_alloc, World.size_drew]; omega) ?_
  intro v' w1 hown hgrow
  have hgg : Gr W w1 := gr_grown (a := W.drew) (Below.drew (Gr.refl W)) (fun g eg => by simp only [Value.ownBlock, Option.some.injEq] at eg; rw [← eg]; exact Nat.le_refl _) hgrow
  have hdd := hown.hasD
  rw [List.nil_append] at hdd
  obtain ⟨-, a', cap', rfl, -, -, -⟩ := id hdd
  obtain ⟨n', hnn⟩ : ∃ n', n' = (l.take k).length := ⟨_, rfl⟩
  rw [← hnn] at hdd ⊢
  clear hnn
  have HDD := Lib.hid hdd
  have r0 := hgg.keeps HR0.out
  have r1 := hgg.keeps HR1.out
  have e0 := hgg.frozen HR0.out HE0.out
  have e1 := hgg.frozen HR1.out HE1.out
  have HGG := Lib.hid hgg
  clear hown hgrow hgg hdd
  refine hK.out _ _ ⟨HGG.out.keeps x0, HGG.out.keeps x1, HG.out.trans HGG.out⟩ (fun hHeld => ?_)
  clear hK K
  try simp only [Act.put, List.setIfInBounds_toArray, List.set_cons_zero, List.set_cons_succ]
  refine wpAnyH_take (i := 12) (oi := ⟨some 32, .build 64 #[(0, .tmp 25), (1, .tmp 31)], 64, "ref.go:20", #[⟨5, .data⟩, ⟨11, .data⟩], none⟩) (v := ?_) rfl (by kernel_rfl) (by kernel_rfl) (by kernel_rfl) (hQ _ _) (Or.inl ⟨by rfl, ?_⟩) (by assumption) ?_
  rotate_left
  · intro w hSw; (try dsimp only at hSw); go_simp; try with_reducible rfl
  try simp only [Act.put, List.setIfInBounds_toArray, List.set_cons_zero, List.set_cons_succ]
  refine wpAnyH_ready (rs := [13]) (by kernel_rfl) (by simp) ?_
  refine AllReadyH.cons (o := ⟨none, .store 64 (.tmp 2) (.tmp 32), 0, "ref.go:20", #[⟨12, .data⟩, ⟨11, .chain⟩, ⟨0, .phase⟩, ⟨1, .phase⟩, ⟨2, .phase⟩, ⟨3, .phase⟩, ⟨4, .phase⟩, ⟨5, .phase⟩, ⟨6, .phase⟩, ⟨7, .phase⟩, ⟨8, .phase⟩, ⟨9, .phase⟩, ⟨10, .phase⟩, ⟨11, .phase⟩, ⟨12, .phase⟩], none⟩) rfl (fun K hK => ?_) AllReadyH.nil
  go_simp
  refine hK.out _ _ ⟨keep2 hHeld.1 n1, keep2 hHeld.2.1 n1, (hHeld.2.2.setCell (p := ⟨B, 0, none⟩) hB _).setCell (p := ⟨B, 1, none⟩) hB _⟩ (fun hHeld2 => ?_)
  clear hK K
  try simp only [Act.put, List.setIfInBounds_toArray, List.set_cons_zero, List.set_cons_succ]
  refine wpAnyH_done (by kernel_rfl) ?_ _
  refine hpost _ _ _ _ _ _ _ _ _ _ _ _ _ _ ?_
  refine ⟨_, _, _, (put2 r0 r1 _ _).1, (put2 r0 r1 _ _).2, (HDD.out.setAt r0 (by simp) _).setAt ((cell_other (by simp) _).trans r1) (by simp) _, hHeld2.2.2⟩
set_option maxRecDepth 100000 in
set_option maxHeartbeats 4000000 in
theorem rtrim_any (neg : Bool) (l : List Nat) (v : Value) (w : World) (h : HasD w v l) (hd : Oh.Dg l) (hl : l.length ≤ 100000) :
    Calls Try.prog 44 #[.agg #[.bool neg, v]] w (NumZ l.length (sg neg (Oh.val l)) w) := by
  obtain ⟨hdw, a, cap, rfl, h1, h2, hc⟩ := h
  obtain ⟨len, hlen⟩ : ∃ len, len = l.length := ⟨_, rfl⟩
  have HC := Lib.hid hc
  have HD := Lib.hid hd
  have HWORDS0 : HasD w (.slice a l.length cap) l := ⟨hdw, a, cap, rfl, h1, h2, hc⟩
  rw [← hlen] at h1 hl HWORDS0 ⊢
  have HWW := Lib.hid HWORDS0
  have HLEN := Lib.hid hlen
  clear hc hd hdw hlen HWORDS0
  go_enter Try.func44, Try.ntmps44
  go_wp2_with fail
  obtain ⟨W, hW⟩ : ∃ W : World, W = (w.alloc (.cells #[.bool neg, .slice a len cap] 64)).alloc (.cells #[.bool false, .slice none 0 0] 64) := ⟨_, rfl⟩
  rw [← hW]
  have g1 : Gr w W := by rw [hW]; exact (Gr.new w _).alloc _
  have x0 : W.cell? ⟨w.heap.size, 0, none⟩ = some (.bool neg) := by rw [hW]; simp [go_sem]
  have x1 : W.cell? ⟨w.heap.size, 1, none⟩ = some (.slice a len cap) := by rw [hW]; simp [go_sem]
  have r0 : W.cell? ⟨w.heap.size + 1, 0, none⟩ = some (.bool false) := by rw [hW]; simp [go_sem]
  have r1 : W.cell? ⟨w.heap.size + 1, 1, none⟩ = some (.slice none 0 0) := by rw [hW]; simp [go_sem]
  have e0 : W.frozen? ⟨w.heap.size + 1, 0, none⟩ = false := by rw [hW]; simp [go_sem]
  have e1 : W.frozen? ⟨w.heap.size + 1, 1, none⟩ = false := by rw [hW]; simp [go_sem]
  have HG := Lib.hid g1
  have HWORDS := Lib.hid (HWW.out.later g1)
  have HE0 := Lib.hid e0
  have HE1 := Lib.hid e1
  have HR0 := Lib.hid r0
  have HR1 := Lib.hid r1
  have n1 : ¬ (w.heap.size = w.heap.size + 1) := by omega
  clear hW g1 e0 e1 r0 r1
  go_loop [3] (fun t => ∃ k : Nat, t = .int .i64 k ∧ k ≤ len ∧ Oh.tr (l.take k) = Oh.tr l) (fun t => (intOf t).toNat)
  case atStart => exact ⟨len, rfl, by omega, by rw [HLEN.out, List.take_length]⟩
  case round =>
    obtain ⟨k, rfl, hk, ht⟩ := hrel
    have HT := Lib.hid ht
    clear ht
    rcases k with _ | j
    · go_wp2_with fail
      have HS := Lib.hid ((HWORDS.out).cut (k := 0) (by rw [← HLEN.out]; omega))
      have HTK := Lib.hid (show l.take 0 = Oh.tr (l.take 0) from rfl)
      cases neg with
      | true =>
        refine wp_region_noPanic ?_
        refine trim_region_true l 0 _ len cap _ _ w W x0 x1 HR0 HR1 HE0 HE1 (by simp) (by have := World.block_lt_of_cell? W _ HR0.out; simpa using this) n1 HG HS (by omega) h1 hl _ _ _ _ _ _ _ _ _ _ _ _ _ _ _ _ _ _ _ _ _ _ _ _ _ _ _ _ _ _ _ (fun _ _ _ _ _ h => h) ?_
        intro u20 u21 u22 u23 u24 u25 u26 u27 u28 u29 u30 u31 u32 wx ⟨a', n', cap', r0, r1, hdd, hgg⟩
        refine NoPanic.normal ?_
        have HDD := Lib.hid hdd
        have HGG := Lib.hid hgg
        clear hdd hgg
        go_wp2_with fail
        refine bodyPost_ret (v := .agg #[.bool (decide (0 < 0)), .slice a' n' cap']) (by simp [results, Try.results44, go_sem, r0, r1]) rfl ?_
        have hw := take_nm HT.out HTK.out HD.out
        refine ⟨_, rfl, ⟨_, _, ?_, HDD.out, hw.1, by rw [hw.2, sg_abs], by rw [List.length_take, ← HLEN.out]; omega⟩, HGG.out⟩
        rw [sg_neg, ← hw.2, show decide (0 < Oh.val (l.take 0)) = decide (0 < 0) from ?_]
        · simp
        · have hq := Oh.tr_pos hw.1.1
          rw [hw.1.2, List.length_take, ← HLEN.out] at hq
          exact decide_eq_decide.2 (by omega)
      | false =>
        refine wp_region_noPanic ?_
        refine trim_region_false l 0 _ len cap _ _ w W x0 x1 HR0 HR1 HE0 HE1 (by simp) (by have := World.block_lt_of_cell? W _ HR0.out; simpa using this) n1 HG HS (by omega) h1 hl _ _ _ _ _ _ _ _ _ _ _ _ _ _ _ _ _ _ _ _ _ _ _ _ _ _ _ _ _ _ _ (fun _ _ _ _ _ h => h) ?_
        intro u20 u21 u22 u23 u24 u25 u26 u27 u28 u29 u30 u31 u32 wx ⟨a', n', cap', r0, r1, hdd, hgg⟩
        refine NoPanic.normal ?_
        have HDD := Lib.hid hdd
        have HGG := Lib.hid hgg
        clear hdd hgg
        go_wp2_with fail
        refine bodyPost_ret (v := .agg #[.bool false, .slice a' n' cap']) (by simp [results, Try.results44, go_sem, r0, r1]) rfl ?_
        have hw := take_nm HT.out HTK.out HD.out
        refine ⟨_, rfl, ⟨_, _, ?_, HDD.out, hw.1, by rw [hw.2, sg_abs], by rw [List.length_take, ← HLEN.out]; omega⟩, HGG.out⟩
        rw [sg_neg, ← hw.2, show decide (0 < Oh.val (l.take 0)) = decide (0 < 0) from ?_]
        · simp
        · have hq := Oh.tr_pos hw.1.1
          rw [hw.1.2, List.length_take, ← HLEN.out] at hq
          exact decide_eq_decide.2 (by omega)
    · have hjl : j < l.length := by rw [← HLEN.out]; omega
      obtain ⟨g, o, rfl, hcell⟩ := HC.out j hjl
      have hx := HD.out (l[j]?.getD 0) (by rw [List.getElem?_eq_getElem hjl]; exact List.getElem_mem hjl)
      have hcell := HG.out.keeps hcell
      obtain ⟨x, hxe⟩ : ∃ x, x = l[j]?.getD 0 := ⟨_, rfl⟩
      rw [← hxe] at hcell hx
      have HX := Lib.hid hxe
      have HJ := Lib.hid hjl
      clear hxe hjl
      by_cases hz : x = 0
      · have hb : ((x : Int) == 0) = true := by simp; omega
        have HZ := Lib.hid hz
        clear hz
        have i1 : (j : Int) < ((j + 1 : Nat) : Int) := by omega
        go_wp2_with fail
        go_round
        case rel => exact ⟨j, by go_num, by omega, by rw [← Oh.tr_take_zero HJ.out (HX.out.symm.trans HZ.out)]; exact HT.out⟩
        case measure => simp [intOf]
      · have hb : ((x : Int) == 0) = false := by simp; omega
        have HZ := Lib.hid hz
        clear hz
        go_wp2_with fail
        have HS := Lib.hid ((HWORDS.out).cut (k := j + 1) (by rw [← HLEN.out]; omega))
        have HTK := Lib.hid (show l.take (j + 1) = Oh.tr (l.take (j + 1)) from (Oh.tr_take_last HJ.out (by rw [← HX.out]; exact HZ.out)).symm)
        cases neg with
        | true =>
          refine wp_region_noPanic ?_
          refine trim_region_true l (j + 1) _ len cap _ _ w W x0 x1 HR0 HR1 HE0 HE1 (by simp) (by have := World.block_lt_of_cell? W _ HR0.out; simpa using this) n1 HG HS (by omega) h1 hl _ _ _ _ _ _ _ _ _ _ _ _ _ _ _ _ _ _ _ _ _ _ _ _ _ _ _ _ _ _ _ (fun _ _ _ _ _ h => h) ?_
          intro u20 u21 u22 u23 u24 u25 u26 u27 u28 u29 u30 u31 u32 wx ⟨a', n', cap', r0, r1, hdd, hgg⟩
          refine NoPanic.normal ?_
          have HDD := Lib.hid hdd
          have HGG := Lib.hid hgg
          clear hdd hgg
          go_wp2_with fail
          refine bodyPost_ret (v := .agg #[.bool (decide (0 < (j + 1))), .slice a' n' cap']) (by simp [results, Try.results44, go_sem, r0, r1]) rfl ?_
          have hw := take_nm HT.out HTK.out HD.out
          refine ⟨_, rfl, ⟨_, _, ?_, HDD.out, hw.1, by rw [hw.2, sg_abs], by rw [List.length_take, ← HLEN.out]; omega⟩, HGG.out⟩
          rw [sg_neg, ← hw.2, show decide (0 < Oh.val (l.take (j + 1))) = decide (0 < (j + 1)) from ?_]
          · simp
          · have hq := Oh.tr_pos hw.1.1
            rw [hw.1.2, List.length_take, ← HLEN.out] at hq
            exact decide_eq_decide.2 (by omega)
        | false =>
          refine wp_region_noPanic ?_
          refine trim_region_false l (j + 1) _ len cap _ _ w W x0 x1 HR0 HR1 HE0 HE1 (by simp) (by have := World.block_lt_of_cell? W _ HR0.out; simpa using this) n1 HG HS (by omega) h1 hl _ _ _ _ _ _ _ _ _ _ _ _ _ _ _ _ _ _ _ _ _ _ _ _ _ _ _ _ _ _ _ (fun _ _ _ _ _ h => h) ?_
          intro u20 u21 u22 u23 u24 u25 u26 u27 u28 u29 u30 u31 u32 wx ⟨a', n', cap', r0, r1, hdd, hgg⟩
          refine NoPanic.normal ?_
          have HDD := Lib.hid hdd
          have HGG := Lib.hid hgg
          clear hdd hgg
          go_wp2_with fail
          refine bodyPost_ret (v := .agg #[.bool false, .slice a' n' cap']) (by simp [results, Try.results44, go_sem, r0, r1]) rfl ?_
          have hw := take_nm HT.out HTK.out HD.out
          refine ⟨_, rfl, ⟨_, _, ?_, HDD.out, hw.1, by rw [hw.2, sg_abs], by rw [List.length_take, ← HLEN.out]; omega⟩, HGG.out⟩
          rw [sg_neg, ← hw.2, show decide (0 < Oh.val (l.take (j + 1))) = decide (0 < (j + 1)) from ?_]
          · simp
          · have hq := Oh.tr_pos hw.1.1
            rw [hw.1.2, List.length_take, ← HLEN.out] at hq
            exact decide_eq_decide.2 (by omega)
end Go.Proofs.Ytlfiakpmnkhcdaa
