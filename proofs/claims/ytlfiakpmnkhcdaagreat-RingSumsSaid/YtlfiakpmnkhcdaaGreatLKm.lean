import Derived.Test.YtlfiakpmnkhcdaaGreatLKq
/- The law RingSums. (made by mksums.py) -/
namespace Go.Proofs.YtlfiakpmnkhcdaaGreat.Mo
open Go.RowKit Go.Shelf
set_option linter.unusedVariables false
set_option linter.unusedSimpArgs false

set_option maxRecDepth 100000 in
set_option maxHeartbeats 8000000 in
theorem sums9_all (N p1 p2 : Int) (uC : Value) (ch : List Int) (S p5 p6 lvA : Int) (spA : Bool) (uA : Value) (rA : List (List Int)) (lvB : Int) (spB : Bool) (uB : Value) (rB : List (List Int)) (n k lv : Int) (sp : Bool) (xL : Option Addr) (nL cL : Nat) (w : World) (hn : isW n) (hk : isW k) (hC : HasP w uC ch) (hS : 0 ≤ S ∧ S < 4294967296) (hA : HasR w uA rA) (hB : HasR w uB rB) :
    Calls Tryz.prog 4 #[.agg (csC N p1 p2 uC S p5 p6 lvA spA uA lvB spB uB n k lv sp (.slice xL nL cL))] w (Truth w) := by
  obtain ⟨xC, cC, rfl⟩ := hC.form
  obtain ⟨xA, cA, rfl⟩ := hA.form
  obtain ⟨xB, cB, rfl⟩ := hB.form
  generalize hnA : rA.length = nA at *
  generalize hnB : rB.length = nB at *
  generalize hnC : ch.length = nC at *
  obtain ⟨W0, hW0⟩ : ∃ W0, W0 = w.alloc (.cells (csC N p1 p2 (.slice xC nC cC) S p5 p6 lvA spA (.slice xA nA cA) lvB spB (.slice xB nB cB) n k lv sp (.slice xL nL cL)) 31) := ⟨_, rfl⟩
  have HG := Lib.hid (show Gr w W0 by rw [hW0]; exact Gr.new w _)
  have HX := Lib.hid (show Blk W0 w.heap.size 31 (csC N p1 p2 (.slice xC nC cC) S p5 p6 lvA spA (.slice xA nA cA) lvB spB (.slice xB nB cB) n k lv sp (.slice xL nL cL)) by rw [hW0]; exact Blk.new w _ _)
  have HA := Lib.hid (hA.later HG.out)
  have HB := Lib.hid (hB.later HG.out)
  have HC := Lib.hid (hC.later HG.out)
  have HS := Lib.hid hS
  have HK := Lib.hid hk
  have HN := Lib.hid hn
  have HNC := Lib.hid hnC
  have HNA := Lib.hid hnA
  have HNB := Lib.hid hnB
  have HLG := Lib.hid (large_any N p1 p2 xC nC cC S p5 p6 lvA spA (.slice xA nA cA) rA lvB spB (.slice xB nB cB) rB n k lv sp xL nL cL W0 HA.out HB.out)
  clear hn hk hA hB hC hS hnA hnB hnC
  unfold csC at *
  go_enter Tryz.func4, Tryz.ntmps4
  go_upto_region 1 with (fail)
  rw [← hW0]
  clear hW0
  refine wp_region_lit ?_
  refine wpList_loadCase rfl (.tmp 1) rfl w.heap.size rfl _ HX.out rfl ?_
  go_wp2_with fail
  refine HLG.out.mono ?_
  rintro e w1 ⟨b, rfl, hb, hg⟩
  have HL := Lib.hid hb
  replace HG := Lib.hid (HG.out.trans hg)
  replace HX := Lib.hid (HX.out.gr hg)
  replace HA := Lib.hid (HA.out.later hg)
  replace HB := Lib.hid (HB.out.later hg)
  replace HC := Lib.hid (HC.out.later hg)
  clear hb hg HLG
  cases b with
  | true =>
    go_wp2_with fail
    refine (awake9_any _).mono ?_
    rintro e wz ⟨rfl, hg2⟩
    replace HG := Lib.hid (HG.out.trans hg2)
    clear hg2
    go_wp2_with fail
    go_ret
    exact ⟨rfl, HG.out⟩
  | false =>
    have h3 : ch.length ≤ 1000 := by have := (HL.out (by first | rfl | trivial)).2.2.1; have := HNC.out; omega
    have SA := Lib.hid (HL.out (by first | rfl | trivial)).1
    have SB := Lib.hid (HL.out (by first | rfl | trivial)).2.1
    have SL := Lib.hid (HL.out (by first | rfl | trivial)).2.2.2
    have CL := Lib.hid (show ch.length ≤ 100 by have := (HL.out (by first | rfl | trivial)).2.2.1; have := HNC.out; omega)
    have H3 := Lib.hid h3
    clear h3 HL
    obtain ⟨⟨q0, q1, q2, q3, q4, q5, q6⟩, ⟨k0, k1, k2, k3, k4, k5⟩, j0, j1, j2, j3, j4⟩ := HX.out.p18
    have HA := Lib.hid (show HasB w1 0 w1.heap.size (.slice xA nA cA) rA from HA.out)
    have HB := Lib.hid (show HasB w1 0 w1.heap.size (.slice xB nB cB) rB from HB.out)
    have HCL := Lib.hid (show 0 < ch.length → ∀ q, (Value.slice xC nC cC).ownBlock = some q → q < w1.heap.size from fun h0 => HC.out.lt h0)
    have HW10 := Lib.hid (show ∀ n, w1.heap.size ≤ n → w.heap.size < n from fun n hn => Nat.lt_of_lt_of_le HX.out.lt hn)
    have HWL := Lib.hid HG.out.size
    have HLU := Lib.hid (show ∀ V, Gr w1 V → Calls Tryz.prog 13 #[.agg #[.int .i64 lvA, .bool spA, .slice xA nA cA]] V (LentN lvA spA nA rA V) from fun V g => lentN (HA.out.later g).hasR SA.out.2 HNA.out)
    have HLV := Lib.hid (show ∀ V, Gr w1 V → Calls Tryz.prog 13 #[.agg #[.int .i64 lvB, .bool spB, .slice xB nB cB]] V (LentN lvB spB nB rB V) from fun V g => lentN (HB.out.later g).hasR SB.out.2 HNB.out)
    go_upto_region 3 with (fail)
    go_cut [3, 4] (fun p c wx => SBox w lvA spA nA rA lvB spB nB rB w1 p c wx)
    case first =>
      as_aux_lemma =>
        have HKEEP := Lib.hid (show ∀ wz, Gr w1 wz → (wz.cell? ⟨w.heap.size, 7, none⟩ = some (.int .i64 lvA) ∧ wz.cell? ⟨w.heap.size, 8, none⟩ = some (.bool spA) ∧ wz.cell? ⟨w.heap.size, 9, none⟩ = some (.slice xA nA cA) ∧ wz.cell? ⟨w.heap.size, 10, none⟩ = some (.int .i64 lvB) ∧ wz.cell? ⟨w.heap.size, 11, none⟩ = some (.bool spB) ∧ wz.cell? ⟨w.heap.size, 12, none⟩ = some (.slice xB nB cB)) from fun wz g => ⟨g.keeps k0, g.keeps k1, g.keeps k2, g.keeps k3, g.keeps k4, g.keeps k5⟩)
        refine wp_region_held_drew (S := fun wz => wz.cell? ⟨w.heap.size, 7, none⟩ = some (.int .i64 lvA) ∧ wz.cell? ⟨w.heap.size, 8, none⟩ = some (.bool spA) ∧ wz.cell? ⟨w.heap.size, 9, none⟩ = some (.slice xA nA cA) ∧ wz.cell? ⟨w.heap.size, 10, none⟩ = some (.int .i64 lvB) ∧ wz.cell? ⟨w.heap.size, 11, none⟩ = some (.bool spB) ∧ wz.cell? ⟨w.heap.size, 12, none⟩ = some (.slice xB nB cB)) (by kernel_rfl) (HKEEP.out _ (Below.drew (Gr.refl w1))) (fun hHeld => ?_)
        show wpAnyH _ _ _ _ _ 10 #[false, false, false, false, false, false, false, false, false, false] _ _
        obtain ⟨V0, hV0⟩ : ∃ V : World, V = w1.drew := ⟨_, rfl⟩
        rw [← hV0] at hHeld ⊢
        have HG9 := Lib.hid (show Gr w1 V0 by rw [hV0]; exact Below.drew (Gr.refl w1))
        have HN0 := Lib.hid HG9.out.size
        clear hV0
        refine wpAnyH_take (i := 0) (oi := { dst := some 20, op := Op.fieldAddr 31 (Operand.tmp 1) 1, type := 0, pos := "law.go:99", after := #[], guard := none }) (v := ?_) rfl (by kernel_rfl) (by kernel_rfl) (by kernel_rfl) (fun _ _ _ h => h) (_root_.Or.inl ⟨by rfl, ?_⟩) (by assumption) ?_
        rotate_left
        · intro w0 hSw; (try dsimp only at hSw); go_simp; try with_reducible rfl
        (try simp only [Act.put, List.setIfInBounds_toArray, List.set_cons_zero, List.set_cons_succ])
        refine wpAnyH_take (i := 1) (oi := { dst := some 21, op := Op.load 28 (Operand.tmp 20), type := 28, pos := "law.go:99", after := #[{ on := 0, ground := Ground.data }], guard := none }) (v := ?_) rfl (by kernel_rfl) (by kernel_rfl) (by kernel_rfl) (fun _ _ _ h => h) (_root_.Or.inl ⟨by rfl, ?_⟩) (by assumption) ?_
        rotate_left
        · intro w0 hSw; (try dsimp only at hSw); go_simp; try with_reducible rfl
        (try simp only [Act.put, List.setIfInBounds_toArray, List.set_cons_zero, List.set_cons_succ])
        refine wpAnyH_take (i := 3) (oi := { dst := some 23, op := Op.fieldAddr 31 (Operand.tmp 1) 2, type := 0, pos := "law.go:99", after := #[], guard := none }) (v := ?_) rfl (by kernel_rfl) (by kernel_rfl) (by kernel_rfl) (fun _ _ _ h => h) (_root_.Or.inl ⟨by rfl, ?_⟩) (by assumption) ?_
        rotate_left
        · intro w0 hSw; (try dsimp only at hSw); go_simp; try with_reducible rfl
        (try simp only [Act.put, List.setIfInBounds_toArray, List.set_cons_zero, List.set_cons_succ])
        refine wpAnyH_take (i := 4) (oi := { dst := some 24, op := Op.load 28 (Operand.tmp 23), type := 28, pos := "law.go:99", after := #[{ on := 3, ground := Ground.data }], guard := none }) (v := ?_) rfl (by kernel_rfl) (by kernel_rfl) (by kernel_rfl) (fun _ _ _ h => h) (_root_.Or.inl ⟨by rfl, ?_⟩) (by assumption) ?_
        rotate_left
        · intro w0 hSw; (try dsimp only at hSw); go_simp; try with_reducible rfl
        (try simp only [Act.put, List.setIfInBounds_toArray, List.set_cons_zero, List.set_cons_succ])
        refine wpAnyH_ready (rs := [2, 6, 7]) (by kernel_rfl) (by simp) ?_
        refine AllReadyH.cons (o := { dst := some 22, op := Op.call { callee := Callee.value (Operand.func 13), args := #[Operand.tmp 21], argTypes := #[28] }, type := 28, pos := "law.go:99", after := #[{ on := 1, ground := Ground.data }], guard := none }) rfl (fun K hK => ?_) ?_
        · go_simp
          go_at_call 13
          refine (HLU.out V0 HG9.out).mono ?_
          rintro e V1 ⟨xu, cu, rfl, hr8, hs8, hg8⟩
          go_wp2_with fail
          refine hK.out _ _ (HKEEP.out _ (HG9.out.trans hg8)) (fun hHeld => ?_)
          clear hK K
          (try simp only [Act.put, List.setIfInBounds_toArray, List.set_cons_zero, List.set_cons_succ])
          have HRu := Lib.hid hr8
          have HSu := Lib.hid hs8
          have HN1 := Lib.hid hg8.size
          replace HG9 := Lib.hid (HG9.out.trans hg8)
          clear hr8 hs8 hg8 hHeld
          as_aux_lemma =>
            refine wpAnyH_ready (rs := [5, 6, 7]) (by kernel_rfl) (by simp) ?_
            refine AllReadyH.cons (o := { dst := some 25, op := Op.call { callee := Callee.value (Operand.func 13), args := #[Operand.tmp 24], argTypes := #[28] }, type := 28, pos := "law.go:99", after := #[{ on := 4, ground := Ground.data }, { on := 2, ground := Ground.chain }], guard := none }) rfl (fun K hK => ?_) ?_
            · go_simp
              go_at_call 13
              refine (HLV.out V1 HG9.out).mono ?_
              rintro e V2 ⟨xv, cv, rfl, hr8, hs8, hg8⟩
              go_wp2_with fail
              refine hK.out _ _ (HKEEP.out _ (HG9.out.trans hg8)) (fun hHeld => ?_)
              clear hK K
              (try simp only [Act.put, List.setIfInBounds_toArray, List.set_cons_zero, List.set_cons_succ])
              have HRv := Lib.hid hr8
              have HSv := Lib.hid hs8
              have HN2 := Lib.hid hg8.size
              replace HG9 := Lib.hid (HG9.out.trans hg8)
              replace HRu := Lib.hid (HRu.out.later hg8)
              replace HSu := Lib.hid (HSu.out.gr hg8)
              clear hr8 hs8 hg8 hHeld
              as_aux_lemma =>
                refine wpAnyH_ready (rs := [6, 7]) (by kernel_rfl) (by simp) ?_
                refine AllReadyH.cons (o := { dst := some 3, op := Op.alloc 28, type := 0, pos := "law.go:99", after := #[], guard := none }) rfl (fun K hK => ?_) ?_
                · go_simp
                  refine hK.out _ _ (HKEEP.out _ (HG9.out.trans (Gr.new V2 (.cells #[.int .i64 0, .bool false, .slice none 0 0] 28)))) (fun hHeld => ?_)
                  clear hK K
                  (try simp only [Act.put, List.setIfInBounds_toArray, List.set_cons_zero, List.set_cons_succ])
                  obtain ⟨V3, hV⟩ : ∃ V : World, V = V2.alloc (.cells #[.int .i64 0, .bool false, .slice none 0 0] 28) := ⟨_, rfl⟩
                  rw [← hV]
                  have hgn : Gr V2 V3 := by rw [hV]; exact Gr.new V2 (.cells #[.int .i64 0, .bool false, .slice none 0 0] 28)
                  have HZ3 := Lib.hid (show Blk V3 V2.heap.size 28 #[.int .i64 0, .bool false, .slice none 0 0] by rw [hV]; exact Blk.new V2 28 #[.int .i64 0, .bool false, .slice none 0 0])
                  have HN3 := Lib.hid (show V3.heap.size = V2.heap.size + 1 by rw [hV]; simp)
                  have HLE3 := Lib.hid HG9.out.size
                  replace HG9 := Lib.hid (HG9.out.trans hgn)
                  replace HRu := Lib.hid (HRu.out.later hgn)
                  replace HSu := Lib.hid (HSu.out.gr hgn)
                  replace HRv := Lib.hid (HRv.out.later hgn)
                  replace HSv := Lib.hid (HSv.out.gr hgn)
                  clear hV hgn hHeld
                  as_aux_lemma =>
                    refine wpAnyH_ready (rs := [7]) (by kernel_rfl) (by simp) ?_
                    refine AllReadyH.cons (o := { dst := some 4, op := Op.alloc 28, type := 0, pos := "law.go:99", after := #[], guard := none }) rfl (fun K hK => ?_) ?_
                    · go_simp
                      refine hK.out _ _ (HKEEP.out _ (HG9.out.trans (Gr.new V3 (.cells #[.int .i64 0, .bool false, .slice none 0 0] 28)))) (fun hHeld => ?_)
                      clear hK K
                      (try simp only [Act.put, List.setIfInBounds_toArray, List.set_cons_zero, List.set_cons_succ])
                      obtain ⟨V4, hV⟩ : ∃ V : World, V = V3.alloc (.cells #[.int .i64 0, .bool false, .slice none 0 0] 28) := ⟨_, rfl⟩
                      rw [← hV]
                      have hgn : Gr V3 V4 := by rw [hV]; exact Gr.new V3 (.cells #[.int .i64 0, .bool false, .slice none 0 0] 28)
                      have HZ4 := Lib.hid (show Blk V4 V3.heap.size 28 #[.int .i64 0, .bool false, .slice none 0 0] by rw [hV]; exact Blk.new V3 28 #[.int .i64 0, .bool false, .slice none 0 0])
                      have HN4 := Lib.hid (show V4.heap.size = V3.heap.size + 1 by rw [hV]; simp)
                      have HLE4 := Lib.hid HG9.out.size
                      replace HG9 := Lib.hid (HG9.out.trans hgn)
                      replace HZ3 := Lib.hid (HZ3.out.gr hgn)
                      replace HRu := Lib.hid (HRu.out.later hgn)
                      replace HSu := Lib.hid (HSu.out.gr hgn)
                      replace HRv := Lib.hid (HRv.out.later hgn)
                      replace HSv := Lib.hid (HSv.out.gr hgn)
                      clear hV hgn hHeld
                      as_aux_lemma =>
                        refine wpAnyH_ready (rs := [8]) (by kernel_rfl) (by simp) ?_
                        refine AllReadyH.cons (o := { dst := none, op := Op.store 28 (Operand.tmp 3) (Operand.tmp 22), type := 0, pos := "law.go:99", after := #[{ on := 6, ground := Ground.data }, { on := 2, ground := Ground.data }, { on := 5, ground := Ground.chain }, { on := 0, ground := Ground.phase }, { on := 1, ground := Ground.phase }, { on := 2, ground := Ground.phase }, { on := 3, ground := Ground.textOnly Departure.lateStores }, { on := 4, ground := Ground.textOnly Departure.lateStores }, { on := 5, ground := Ground.textOnly Departure.lateStoresUnsure }, { on := 6, ground := Ground.phase }, { on := 7, ground := Ground.phase }], guard := none }) rfl (fun K hK => ?_) ?_
                        · obtain ⟨e0, e1, e2⟩ := HZ3.out.p3
                          obtain ⟨f0, f1, f2⟩ := HZ3.out.f3
                          go_simp
                          clear e0 e1 e2 f0 f1 f2
                          refine hK.out _ _ (HKEEP.out _ (((HG9.out.setCell (p := ⟨V2.heap.size, 0, none⟩) HLE3.out _).setCell (p := ⟨V2.heap.size, 1, none⟩) HLE3.out _).setCell (p := ⟨V2.heap.size, 2, none⟩) HLE3.out _)) (fun hHeld => ?_)
                          clear hK K
                          (try simp only [Act.put, List.setIfInBounds_toArray, List.set_cons_zero, List.set_cons_succ])
                          obtain ⟨V5, hV⟩ : ∃ V : World, V = (((V4.setCell ⟨V2.heap.size, 0, none⟩ (.int .i64 lvA)).setCell ⟨V2.heap.size, 1, none⟩ (.bool spA)).setCell ⟨V2.heap.size, 2, none⟩ (.slice xu nA cu)) := ⟨_, rfl⟩
                          rw [← hV]
                          have hov : Ov V2.heap.size (V2.heap.size + 1) V4 V5 := by rw [hV]; exact (((Ov.refl _).set (Nat.le_refl _) (Nat.lt_succ_self _) _).set (Nat.le_refl _) (Nat.lt_succ_self _) _).set (Nat.le_refl _) (Nat.lt_succ_self _) _
                          have hz : Blk V5 (V2.heap.size) 28 #[.int .i64 lvA, .bool spA, .slice xu nA cu] := by rw [hV]; exact ((HZ3.out.set 0 (.int .i64 lvA)).set 1 (.bool spA)).set 2 (.slice xu nA cu)
                          replace HZ3 := Lib.hid hz
                          have hgn : Gr w1 V5 := hov.of_gr HG9.out HLE3.out
                          replace HG9 := Lib.hid hgn
                          have HN5 := Lib.hid hov.size
                          replace HZ4 := Lib.hid (hov.blk HZ4.out (by have s0 := HN0.out; have s1 := HN1.out; have s2 := HN2.out; have s3 := HN3.out; have s4 := HN4.out; omega))
                          replace HRu := Lib.hid (hov.hasB HRu.out (by have s0 := HN0.out; have s1 := HN1.out; have s2 := HN2.out; have s3 := HN3.out; have s4 := HN4.out; omega))
                          replace HSu := Lib.hid (hov.spR HSu.out (by have s0 := HN0.out; have s1 := HN1.out; have s2 := HN2.out; have s3 := HN3.out; have s4 := HN4.out; omega))
                          replace HRv := Lib.hid (hov.hasB HRv.out (by have s0 := HN0.out; have s1 := HN1.out; have s2 := HN2.out; have s3 := HN3.out; have s4 := HN4.out; omega))
                          replace HSv := Lib.hid (hov.spR HSv.out (by have s0 := HN0.out; have s1 := HN1.out; have s2 := HN2.out; have s3 := HN3.out; have s4 := HN4.out; omega))
                          clear hV hov hz hgn hHeld
                          as_aux_lemma =>
                            refine wpAnyH_ready (rs := [9]) (by kernel_rfl) (by simp) ?_
                            refine AllReadyH.cons (o := { dst := none, op := Op.store 28 (Operand.tmp 4) (Operand.tmp 25), type := 0, pos := "law.go:99", after := #[{ on := 7, ground := Ground.data }, { on := 5, ground := Ground.data }, { on := 8, ground := Ground.chain }, { on := 0, ground := Ground.phase }, { on := 1, ground := Ground.phase }, { on := 2, ground := Ground.phase }, { on := 3, ground := Ground.phase }, { on := 4, ground := Ground.phase }, { on := 5, ground := Ground.phase }, { on := 6, ground := Ground.phase }, { on := 7, ground := Ground.phase }, { on := 8, ground := Ground.phase }], guard := none }) rfl (fun K hK => ?_) ?_
                            · obtain ⟨e0, e1, e2⟩ := HZ4.out.p3
                              obtain ⟨f0, f1, f2⟩ := HZ4.out.f3
                              go_simp
                              clear e0 e1 e2 f0 f1 f2
                              refine hK.out _ _ (HKEEP.out _ (((HG9.out.setCell (p := ⟨V3.heap.size, 0, none⟩) HLE4.out _).setCell (p := ⟨V3.heap.size, 1, none⟩) HLE4.out _).setCell (p := ⟨V3.heap.size, 2, none⟩) HLE4.out _)) (fun hHeld => ?_)
                              clear hK K
                              (try simp only [Act.put, List.setIfInBounds_toArray, List.set_cons_zero, List.set_cons_succ])
                              obtain ⟨V6, hV⟩ : ∃ V : World, V = (((V5.setCell ⟨V3.heap.size, 0, none⟩ (.int .i64 lvB)).setCell ⟨V3.heap.size, 1, none⟩ (.bool spB)).setCell ⟨V3.heap.size, 2, none⟩ (.slice xv nB cv)) := ⟨_, rfl⟩
                              rw [← hV]
                              have hov : Ov V3.heap.size (V3.heap.size + 1) V5 V6 := by rw [hV]; exact (((Ov.refl _).set (Nat.le_refl _) (Nat.lt_succ_self _) _).set (Nat.le_refl _) (Nat.lt_succ_self _) _).set (Nat.le_refl _) (Nat.lt_succ_self _) _
                              have hz : Blk V6 (V3.heap.size) 28 #[.int .i64 lvB, .bool spB, .slice xv nB cv] := by rw [hV]; exact ((HZ4.out.set 0 (.int .i64 lvB)).set 1 (.bool spB)).set 2 (.slice xv nB cv)
                              replace HZ4 := Lib.hid hz
                              have hgn : Gr w1 V6 := hov.of_gr HG9.out HLE4.out
                              replace HG9 := Lib.hid hgn
                              have HN6 := Lib.hid hov.size
                              replace HZ3 := Lib.hid (hov.blk HZ3.out (by have s0 := HN0.out; have s1 := HN1.out; have s2 := HN2.out; have s3 := HN3.out; have s4 := HN4.out; have s5 := HN5.out; omega))
                              replace HRu := Lib.hid (hov.hasB HRu.out (by have s0 := HN0.out; have s1 := HN1.out; have s2 := HN2.out; have s3 := HN3.out; have s4 := HN4.out; have s5 := HN5.out; omega))
                              replace HSu := Lib.hid (hov.spR HSu.out (by have s0 := HN0.out; have s1 := HN1.out; have s2 := HN2.out; have s3 := HN3.out; have s4 := HN4.out; have s5 := HN5.out; omega))
                              replace HRv := Lib.hid (hov.hasB HRv.out (by have s0 := HN0.out; have s1 := HN1.out; have s2 := HN2.out; have s3 := HN3.out; have s4 := HN4.out; have s5 := HN5.out; omega))
                              replace HSv := Lib.hid (hov.spR HSv.out (by have s0 := HN0.out; have s1 := HN1.out; have s2 := HN2.out; have s3 := HN3.out; have s4 := HN4.out; have s5 := HN5.out; omega))
                              clear hV hov hz hgn hHeld
                              as_aux_lemma =>
                                refine wpAnyH_done (by kernel_rfl) ?_ _
                                have s0 := HN0.out
                                have s1 := HN1.out
                                have s2 := HN2.out
                                have s3 := HN3.out
                                have s4 := HN4.out
                                have s5 := HN5.out
                                have s6 := HN6.out
                                have s90 := HLE3.out
                                have s91 := HLE4.out
                                have s92 := HG9.out.size
                                clear HKEEP
                                go_wp2_with fail
                                go_meet
                                exact ⟨V2.heap.size, V3.heap.size, xu, cu, xv, cv, V0.heap.size, V1.heap.size, V1.heap.size, V2.heap.size, rfl, rfl, HZ3.out, HZ4.out, HRu.out, HSu.out, HRv.out, HSv.out, HG9.out, HW10.out _ (by omega), by omega, by omega, by omega, by omega, by omega, by omega⟩
                            exact AllReadyH.nil
                        exact AllReadyH.nil
                    exact AllReadyH.nil
                refine AllReadyH.cons (o := { dst := some 4, op := Op.alloc 28, type := 0, pos := "law.go:99", after := #[], guard := none }) rfl (fun K hK => ?_) ?_
                · go_simp
                  refine hK.out _ _ (HKEEP.out _ (HG9.out.trans (Gr.new V2 (.cells #[.int .i64 0, .bool false, .slice none 0 0] 28)))) (fun hHeld => ?_)
                  clear hK K
                  (try simp only [Act.put, List.setIfInBounds_toArray, List.set_cons_zero, List.set_cons_succ])
                  obtain ⟨V3, hV⟩ : ∃ V : World, V = V2.alloc (.cells #[.int .i64 0, .bool false, .slice none 0 0] 28) := ⟨_, rfl⟩
                  rw [← hV]
                  have hgn : Gr V2 V3 := by rw [hV]; exact Gr.new V2 (.cells #[.int .i64 0, .bool false, .slice none 0 0] 28)
                  have HZ4 := Lib.hid (show Blk V3 V2.heap.size 28 #[.int .i64 0, .bool false, .slice none 0 0] by rw [hV]; exact Blk.new V2 28 #[.int .i64 0, .bool false, .slice none 0 0])
                  have HN3 := Lib.hid (show V3.heap.size = V2.heap.size + 1 by rw [hV]; simp)
                  have HLE4 := Lib.hid HG9.out.size
                  replace HG9 := Lib.hid (HG9.out.trans hgn)
                  replace HRu := Lib.hid (HRu.out.later hgn)
                  replace HSu := Lib.hid (HSu.out.gr hgn)
                  replace HRv := Lib.hid (HRv.out.later hgn)
                  replace HSv := Lib.hid (HSv.out.gr hgn)
                  clear hV hgn hHeld
                  as_aux_lemma =>
                    refine wpAnyH_ready (rs := [6]) (by kernel_rfl) (by simp) ?_
                    refine AllReadyH.cons (o := { dst := some 3, op := Op.alloc 28, type := 0, pos := "law.go:99", after := #[], guard := none }) rfl (fun K hK => ?_) ?_
                    · go_simp
                      refine hK.out _ _ (HKEEP.out _ (HG9.out.trans (Gr.new V3 (.cells #[.int .i64 0, .bool false, .slice none 0 0] 28)))) (fun hHeld => ?_)
                      clear hK K
                      (try simp only [Act.put, List.setIfInBounds_toArray, List.set_cons_zero, List.set_cons_succ])
                      obtain ⟨V4, hV⟩ : ∃ V : World, V = V3.alloc (.cells #[.int .i64 0, .bool false, .slice none 0 0] 28) := ⟨_, rfl⟩
                      rw [← hV]
                      have hgn : Gr V3 V4 := by rw [hV]; exact Gr.new V3 (.cells #[.int .i64 0, .bool false, .slice none 0 0] 28)
                      have HZ3 := Lib.hid (show Blk V4 V3.heap.size 28 #[.int .i64 0, .bool false, .slice none 0 0] by rw [hV]; exact Blk.new V3 28 #[.int .i64 0, .bool false, .slice none 0 0])
                      have HN4 := Lib.hid (show V4.heap.size = V3.heap.size + 1 by rw [hV]; simp)
                      have HLE3 := Lib.hid HG9.out.size
                      replace HG9 := Lib.hid (HG9.out.trans hgn)
                      replace HZ4 := Lib.hid (HZ4.out.gr hgn)
                      replace HRu := Lib.hid (HRu.out.later hgn)
                      replace HSu := Lib.hid (HSu.out.gr hgn)
                      replace HRv := Lib.hid (HRv.out.later hgn)
                      replace HSv := Lib.hid (HSv.out.gr hgn)
                      clear hV hgn hHeld
                      as_aux_lemma =>
                        refine wpAnyH_ready (rs := [8]) (by kernel_rfl) (by simp) ?_
                        refine AllReadyH.cons (o := { dst := none, op := Op.store 28 (Operand.tmp 3) (Operand.tmp 22), type := 0, pos := "law.go:99", after := #[{ on := 6, ground := Ground.data }, { on := 2, ground := Ground.data }, { on := 5, ground := Ground.chain }, { on := 0, ground := Ground.phase }, { on := 1, ground := Ground.phase }, { on := 2, ground := Ground.phase }, { on := 3, ground := Ground.textOnly Departure.lateStores }, { on := 4, ground := Ground.textOnly Departure.lateStores }, { on := 5, ground := Ground.textOnly Departure.lateStoresUnsure }, { on := 6, ground := Ground.phase }, { on := 7, ground := Ground.phase }], guard := none }) rfl (fun K hK => ?_) ?_
                        · obtain ⟨e0, e1, e2⟩ := HZ3.out.p3
                          obtain ⟨f0, f1, f2⟩ := HZ3.out.f3
                          go_simp
                          clear e0 e1 e2 f0 f1 f2
                          refine hK.out _ _ (HKEEP.out _ (((HG9.out.setCell (p := ⟨V3.heap.size, 0, none⟩) HLE3.out _).setCell (p := ⟨V3.heap.size, 1, none⟩) HLE3.out _).setCell (p := ⟨V3.heap.size, 2, none⟩) HLE3.out _)) (fun hHeld => ?_)
                          clear hK K
                          (try simp only [Act.put, List.setIfInBounds_toArray, List.set_cons_zero, List.set_cons_succ])
                          obtain ⟨V5, hV⟩ : ∃ V : World, V = (((V4.setCell ⟨V3.heap.size, 0, none⟩ (.int .i64 lvA)).setCell ⟨V3.heap.size, 1, none⟩ (.bool spA)).setCell ⟨V3.heap.size, 2, none⟩ (.slice xu nA cu)) := ⟨_, rfl⟩
                          rw [← hV]
                          have hov : Ov V3.heap.size (V3.heap.size + 1) V4 V5 := by rw [hV]; exact (((Ov.refl _).set (Nat.le_refl _) (Nat.lt_succ_self _) _).set (Nat.le_refl _) (Nat.lt_succ_self _) _).set (Nat.le_refl _) (Nat.lt_succ_self _) _
                          have hz : Blk V5 (V3.heap.size) 28 #[.int .i64 lvA, .bool spA, .slice xu nA cu] := by rw [hV]; exact ((HZ3.out.set 0 (.int .i64 lvA)).set 1 (.bool spA)).set 2 (.slice xu nA cu)
                          replace HZ3 := Lib.hid hz
                          have hgn : Gr w1 V5 := hov.of_gr HG9.out HLE3.out
                          replace HG9 := Lib.hid hgn
                          have HN5 := Lib.hid hov.size
                          replace HZ4 := Lib.hid (hov.blk HZ4.out (by have s0 := HN0.out; have s1 := HN1.out; have s2 := HN2.out; have s3 := HN3.out; have s4 := HN4.out; omega))
                          replace HRu := Lib.hid (hov.hasB HRu.out (by have s0 := HN0.out; have s1 := HN1.out; have s2 := HN2.out; have s3 := HN3.out; have s4 := HN4.out; omega))
                          replace HSu := Lib.hid (hov.spR HSu.out (by have s0 := HN0.out; have s1 := HN1.out; have s2 := HN2.out; have s3 := HN3.out; have s4 := HN4.out; omega))
                          replace HRv := Lib.hid (hov.hasB HRv.out (by have s0 := HN0.out; have s1 := HN1.out; have s2 := HN2.out; have s3 := HN3.out; have s4 := HN4.out; omega))
                          replace HSv := Lib.hid (hov.spR HSv.out (by have s0 := HN0.out; have s1 := HN1.out; have s2 := HN2.out; have s3 := HN3.out; have s4 := HN4.out; omega))
                          clear hV hov hz hgn hHeld
                          as_aux_lemma =>
                            refine wpAnyH_ready (rs := [9]) (by kernel_rfl) (by simp) ?_
                            refine AllReadyH.cons (o := { dst := none, op := Op.store 28 (Operand.tmp 4) (Operand.tmp 25), type := 0, pos := "law.go:99", after := #[{ on := 7, ground := Ground.data }, { on := 5, ground := Ground.data }, { on := 8, ground := Ground.chain }, { on := 0, ground := Ground.phase }, { on := 1, ground := Ground.phase }, { on := 2, ground := Ground.phase }, { on := 3, ground := Ground.phase }, { on := 4, ground := Ground.phase }, { on := 5, ground := Ground.phase }, { on := 6, ground := Ground.phase }, { on := 7, ground := Ground.phase }, { on := 8, ground := Ground.phase }], guard := none }) rfl (fun K hK => ?_) ?_
                            · obtain ⟨e0, e1, e2⟩ := HZ4.out.p3
                              obtain ⟨f0, f1, f2⟩ := HZ4.out.f3
                              go_simp
                              clear e0 e1 e2 f0 f1 f2
                              refine hK.out _ _ (HKEEP.out _ (((HG9.out.setCell (p := ⟨V2.heap.size, 0, none⟩) HLE4.out _).setCell (p := ⟨V2.heap.size, 1, none⟩) HLE4.out _).setCell (p := ⟨V2.heap.size, 2, none⟩) HLE4.out _)) (fun hHeld => ?_)
                              clear hK K
                              (try simp only [Act.put, List.setIfInBounds_toArray, List.set_cons_zero, List.set_cons_succ])
                              obtain ⟨V6, hV⟩ : ∃ V : World, V = (((V5.setCell ⟨V2.heap.size, 0, none⟩ (.int .i64 lvB)).setCell ⟨V2.heap.size, 1, none⟩ (.bool spB)).setCell ⟨V2.heap.size, 2, none⟩ (.slice xv nB cv)) := ⟨_, rfl⟩
                              rw [← hV]
                              have hov : Ov V2.heap.size (V2.heap.size + 1) V5 V6 := by rw [hV]; exact (((Ov.refl _).set (Nat.le_refl _) (Nat.lt_succ_self _) _).set (Nat.le_refl _) (Nat.lt_succ_self _) _).set (Nat.le_refl _) (Nat.lt_succ_self _) _
                              have hz : Blk V6 (V2.heap.size) 28 #[.int .i64 lvB, .bool spB, .slice xv nB cv] := by rw [hV]; exact ((HZ4.out.set 0 (.int .i64 lvB)).set 1 (.bool spB)).set 2 (.slice xv nB cv)
                              replace HZ4 := Lib.hid hz
                              have hgn : Gr w1 V6 := hov.of_gr HG9.out HLE4.out
                              replace HG9 := Lib.hid hgn
                              have HN6 := Lib.hid hov.size
                              replace HZ3 := Lib.hid (hov.blk HZ3.out (by have s0 := HN0.out; have s1 := HN1.out; have s2 := HN2.out; have s3 := HN3.out; have s4 := HN4.out; have s5 := HN5.out; omega))
                              replace HRu := Lib.hid (hov.hasB HRu.out (by have s0 := HN0.out; have s1 := HN1.out; have s2 := HN2.out; have s3 := HN3.out; have s4 := HN4.out; have s5 := HN5.out; omega))
                              replace HSu := Lib.hid (hov.spR HSu.out (by have s0 := HN0.out; have s1 := HN1.out; have s2 := HN2.out; have s3 := HN3.out; have s4 := HN4.out; have s5 := HN5.out; omega))
                              replace HRv := Lib.hid (hov.hasB HRv.out (by have s0 := HN0.out; have s1 := HN1.out; have s2 := HN2.out; have s3 := HN3.out; have s4 := HN4.out; have s5 := HN5.out; omega))
                              replace HSv := Lib.hid (hov.spR HSv.out (by have s0 := HN0.out; have s1 := HN1.out; have s2 := HN2.out; have s3 := HN3.out; have s4 := HN4.out; have s5 := HN5.out; omega))
                              clear hV hov hz hgn hHeld
                              as_aux_lemma =>
                                refine wpAnyH_done (by kernel_rfl) ?_ _
                                have s0 := HN0.out
                                have s1 := HN1.out
                                have s2 := HN2.out
                                have s3 := HN3.out
                                have s4 := HN4.out
                                have s5 := HN5.out
                                have s6 := HN6.out
                                have s90 := HLE3.out
                                have s91 := HLE4.out
                                have s92 := HG9.out.size
                                clear HKEEP
                                go_wp2_with fail
                                go_meet
                                exact ⟨V3.heap.size, V2.heap.size, xu, cu, xv, cv, V0.heap.size, V1.heap.size, V1.heap.size, V2.heap.size, rfl, rfl, HZ3.out, HZ4.out, HRu.out, HSu.out, HRv.out, HSv.out, HG9.out, HW10.out _ (by omega), by omega, by omega, by omega, by omega, by omega, by omega⟩
                            exact AllReadyH.nil
                        exact AllReadyH.nil
                    exact AllReadyH.nil
                exact AllReadyH.nil
            refine AllReadyH.cons (o := { dst := some 3, op := Op.alloc 28, type := 0, pos := "law.go:99", after := #[], guard := none }) rfl (fun K hK => ?_) ?_
            · go_simp
              refine hK.out _ _ (HKEEP.out _ (HG9.out.trans (Gr.new V1 (.cells #[.int .i64 0, .bool false, .slice none 0 0] 28)))) (fun hHeld => ?_)
              clear hK K
              (try simp only [Act.put, List.setIfInBounds_toArray, List.set_cons_zero, List.set_cons_succ])
              obtain ⟨V2, hV⟩ : ∃ V : World, V = V1.alloc (.cells #[.int .i64 0, .bool false, .slice none 0 0] 28) := ⟨_, rfl⟩
              rw [← hV]
              have hgn : Gr V1 V2 := by rw [hV]; exact Gr.new V1 (.cells #[.int .i64 0, .bool false, .slice none 0 0] 28)
              have HZ3 := Lib.hid (show Blk V2 V1.heap.size 28 #[.int .i64 0, .bool false, .slice none 0 0] by rw [hV]; exact Blk.new V1 28 #[.int .i64 0, .bool false, .slice none 0 0])
              have HN2 := Lib.hid (show V2.heap.size = V1.heap.size + 1 by rw [hV]; simp)
              have HLE3 := Lib.hid HG9.out.size
              replace HG9 := Lib.hid (HG9.out.trans hgn)
              replace HRu := Lib.hid (HRu.out.later hgn)
              replace HSu := Lib.hid (HSu.out.gr hgn)
              clear hV hgn hHeld
              as_aux_lemma =>
                refine wpAnyH_ready (rs := [5, 7]) (by kernel_rfl) (by simp) ?_
                refine AllReadyH.cons (o := { dst := some 25, op := Op.call { callee := Callee.value (Operand.func 13), args := #[Operand.tmp 24], argTypes := #[28] }, type := 28, pos := "law.go:99", after := #[{ on := 4, ground := Ground.data }, { on := 2, ground := Ground.chain }], guard := none }) rfl (fun K hK => ?_) ?_
                · go_simp
                  go_at_call 13
                  refine (HLV.out V2 HG9.out).mono ?_
                  rintro e V3 ⟨xv, cv, rfl, hr8, hs8, hg8⟩
                  go_wp2_with fail
                  refine hK.out _ _ (HKEEP.out _ (HG9.out.trans hg8)) (fun hHeld => ?_)
                  clear hK K
                  (try simp only [Act.put, List.setIfInBounds_toArray, List.set_cons_zero, List.set_cons_succ])
                  have HRv := Lib.hid hr8
                  have HSv := Lib.hid hs8
                  have HN3 := Lib.hid hg8.size
                  replace HG9 := Lib.hid (HG9.out.trans hg8)
                  replace HZ3 := Lib.hid (HZ3.out.gr hg8)
                  replace HRu := Lib.hid (HRu.out.later hg8)
                  replace HSu := Lib.hid (HSu.out.gr hg8)
                  clear hr8 hs8 hg8 hHeld
                  as_aux_lemma =>
                    refine wpAnyH_ready (rs := [7]) (by kernel_rfl) (by simp) ?_
                    refine AllReadyH.cons (o := { dst := some 4, op := Op.alloc 28, type := 0, pos := "law.go:99", after := #[], guard := none }) rfl (fun K hK => ?_) ?_
                    · go_simp
                      refine hK.out _ _ (HKEEP.out _ (HG9.out.trans (Gr.new V3 (.cells #[.int .i64 0, .bool false, .slice none 0 0] 28)))) (fun hHeld => ?_)
                      clear hK K
                      (try simp only [Act.put, List.setIfInBounds_toArray, List.set_cons_zero, List.set_cons_succ])
                      obtain ⟨V4, hV⟩ : ∃ V : World, V = V3.alloc (.cells #[.int .i64 0, .bool false, .slice none 0 0] 28) := ⟨_, rfl⟩
                      rw [← hV]
                      have hgn : Gr V3 V4 := by rw [hV]; exact Gr.new V3 (.cells #[.int .i64 0, .bool false, .slice none 0 0] 28)
                      have HZ4 := Lib.hid (show Blk V4 V3.heap.size 28 #[.int .i64 0, .bool false, .slice none 0 0] by rw [hV]; exact Blk.new V3 28 #[.int .i64 0, .bool false, .slice none 0 0])
                      have HN4 := Lib.hid (show V4.heap.size = V3.heap.size + 1 by rw [hV]; simp)
                      have HLE4 := Lib.hid HG9.out.size
                      replace HG9 := Lib.hid (HG9.out.trans hgn)
                      replace HZ3 := Lib.hid (HZ3.out.gr hgn)
                      replace HRu := Lib.hid (HRu.out.later hgn)
                      replace HSu := Lib.hid (HSu.out.gr hgn)
                      replace HRv := Lib.hid (HRv.out.later hgn)
                      replace HSv := Lib.hid (HSv.out.gr hgn)
                      clear hV hgn hHeld
                      as_aux_lemma =>
                        refine wpAnyH_ready (rs := [8]) (by kernel_rfl) (by simp) ?_
                        refine AllReadyH.cons (o := { dst := none, op := Op.store 28 (Operand.tmp 3) (Operand.tmp 22), type := 0, pos := "law.go:99", after := #[{ on := 6, ground := Ground.data }, { on := 2, ground := Ground.data }, { on := 5, ground := Ground.chain }, { on := 0, ground := Ground.phase }, { on := 1, ground := Ground.phase }, { on := 2, ground := Ground.phase }, { on := 3, ground := Ground.textOnly Departure.lateStores }, { on := 4, ground := Ground.textOnly Departure.lateStores }, { on := 5, ground := Ground.textOnly Departure.lateStoresUnsure }, { on := 6, ground := Ground.phase }, { on := 7, ground := Ground.phase }], guard := none }) rfl (fun K hK => ?_) ?_
                        · obtain ⟨e0, e1, e2⟩ := HZ3.out.p3
                          obtain ⟨f0, f1, f2⟩ := HZ3.out.f3
                          go_simp
                          clear e0 e1 e2 f0 f1 f2
                          refine hK.out _ _ (HKEEP.out _ (((HG9.out.setCell (p := ⟨V1.heap.size, 0, none⟩) HLE3.out _).setCell (p := ⟨V1.heap.size, 1, none⟩) HLE3.out _).setCell (p := ⟨V1.heap.size, 2, none⟩) HLE3.out _)) (fun hHeld => ?_)
                          clear hK K
                          (try simp only [Act.put, List.setIfInBounds_toArray, List.set_cons_zero, List.set_cons_succ])
                          obtain ⟨V5, hV⟩ : ∃ V : World, V = (((V4.setCell ⟨V1.heap.size, 0, none⟩ (.int .i64 lvA)).setCell ⟨V1.heap.size, 1, none⟩ (.bool spA)).setCell ⟨V1.heap.size, 2, none⟩ (.slice xu nA cu)) := ⟨_, rfl⟩
                          rw [← hV]
                          have hov : Ov V1.heap.size (V1.heap.size + 1) V4 V5 := by rw [hV]; exact (((Ov.refl _).set (Nat.le_refl _) (Nat.lt_succ_self _) _).set (Nat.le_refl _) (Nat.lt_succ_self _) _).set (Nat.le_refl _) (Nat.lt_succ_self _) _
                          have hz : Blk V5 (V1.heap.size) 28 #[.int .i64 lvA, .bool spA, .slice xu nA cu] := by rw [hV]; exact ((HZ3.out.set 0 (.int .i64 lvA)).set 1 (.bool spA)).set 2 (.slice xu nA cu)
                          replace HZ3 := Lib.hid hz
                          have hgn : Gr w1 V5 := hov.of_gr HG9.out HLE3.out
                          replace HG9 := Lib.hid hgn
                          have HN5 := Lib.hid hov.size
                          replace HZ4 := Lib.hid (hov.blk HZ4.out (by have s0 := HN0.out; have s1 := HN1.out; have s2 := HN2.out; have s3 := HN3.out; have s4 := HN4.out; omega))
                          replace HRu := Lib.hid (hov.hasB HRu.out (by have s0 := HN0.out; have s1 := HN1.out; have s2 := HN2.out; have s3 := HN3.out; have s4 := HN4.out; omega))
                          replace HSu := Lib.hid (hov.spR HSu.out (by have s0 := HN0.out; have s1 := HN1.out; have s2 := HN2.out; have s3 := HN3.out; have s4 := HN4.out; omega))
                          replace HRv := Lib.hid (hov.hasB HRv.out (by have s0 := HN0.out; have s1 := HN1.out; have s2 := HN2.out; have s3 := HN3.out; have s4 := HN4.out; omega))
                          replace HSv := Lib.hid (hov.spR HSv.out (by have s0 := HN0.out; have s1 := HN1.out; have s2 := HN2.out; have s3 := HN3.out; have s4 := HN4.out; omega))
                          clear hV hov hz hgn hHeld
                          as_aux_lemma =>
                            refine wpAnyH_ready (rs := [9]) (by kernel_rfl) (by simp) ?_
                            refine AllReadyH.cons (o := { dst := none, op := Op.store 28 (Operand.tmp 4) (Operand.tmp 25), type := 0, pos := "law.go:99", after := #[{ on := 7, ground := Ground.data }, { on := 5, ground := Ground.data }, { on := 8, ground := Ground.chain }, { on := 0, ground := Ground.phase }, { on := 1, ground := Ground.phase }, { on := 2, ground := Ground.phase }, { on := 3, ground := Ground.phase }, { on := 4, ground := Ground.phase }, { on := 5, ground := Ground.phase }, { on := 6, ground := Ground.phase }, { on := 7, ground := Ground.phase }, { on := 8, ground := Ground.phase }], guard := none }) rfl (fun K hK => ?_) ?_
                            · obtain ⟨e0, e1, e2⟩ := HZ4.out.p3
                              obtain ⟨f0, f1, f2⟩ := HZ4.out.f3
                              go_simp
                              clear e0 e1 e2 f0 f1 f2
                              refine hK.out _ _ (HKEEP.out _ (((HG9.out.setCell (p := ⟨V3.heap.size, 0, none⟩) HLE4.out _).setCell (p := ⟨V3.heap.size, 1, none⟩) HLE4.out _).setCell (p := ⟨V3.heap.size, 2, none⟩) HLE4.out _)) (fun hHeld => ?_)
                              clear hK K
                              (try simp only [Act.put, List.setIfInBounds_toArray, List.set_cons_zero, List.set_cons_succ])
                              obtain ⟨V6, hV⟩ : ∃ V : World, V = (((V5.setCell ⟨V3.heap.size, 0, none⟩ (.int .i64 lvB)).setCell ⟨V3.heap.size, 1, none⟩ (.bool spB)).setCell ⟨V3.heap.size, 2, none⟩ (.slice xv nB cv)) := ⟨_, rfl⟩
                              rw [← hV]
                              have hov : Ov V3.heap.size (V3.heap.size + 1) V5 V6 := by rw [hV]; exact (((Ov.refl _).set (Nat.le_refl _) (Nat.lt_succ_self _) _).set (Nat.le_refl _) (Nat.lt_succ_self _) _).set (Nat.le_refl _) (Nat.lt_succ_self _) _
                              have hz : Blk V6 (V3.heap.size) 28 #[.int .i64 lvB, .bool spB, .slice xv nB cv] := by rw [hV]; exact ((HZ4.out.set 0 (.int .i64 lvB)).set 1 (.bool spB)).set 2 (.slice xv nB cv)
                              replace HZ4 := Lib.hid hz
                              have hgn : Gr w1 V6 := hov.of_gr HG9.out HLE4.out
                              replace HG9 := Lib.hid hgn
                              have HN6 := Lib.hid hov.size
                              replace HZ3 := Lib.hid (hov.blk HZ3.out (by have s0 := HN0.out; have s1 := HN1.out; have s2 := HN2.out; have s3 := HN3.out; have s4 := HN4.out; have s5 := HN5.out; omega))
                              replace HRu := Lib.hid (hov.hasB HRu.out (by have s0 := HN0.out; have s1 := HN1.out; have s2 := HN2.out; have s3 := HN3.out; have s4 := HN4.out; have s5 := HN5.out; omega))
                              replace HSu := Lib.hid (hov.spR HSu.out (by have s0 := HN0.out; have s1 := HN1.out; have s2 := HN2.out; have s3 := HN3.out; have s4 := HN4.out; have s5 := HN5.out; omega))
                              replace HRv := Lib.hid (hov.hasB HRv.out (by have s0 := HN0.out; have s1 := HN1.out; have s2 := HN2.out; have s3 := HN3.out; have s4 := HN4.out; have s5 := HN5.out; omega))
                              replace HSv := Lib.hid (hov.spR HSv.out (by have s0 := HN0.out; have s1 := HN1.out; have s2 := HN2.out; have s3 := HN3.out; have s4 := HN4.out; have s5 := HN5.out; omega))
                              clear hV hov hz hgn hHeld
                              as_aux_lemma =>
                                refine wpAnyH_done (by kernel_rfl) ?_ _
                                have s0 := HN0.out
                                have s1 := HN1.out
                                have s2 := HN2.out
                                have s3 := HN3.out
                                have s4 := HN4.out
                                have s5 := HN5.out
                                have s6 := HN6.out
                                have s90 := HLE3.out
                                have s91 := HLE4.out
                                have s92 := HG9.out.size
                                clear HKEEP
                                go_wp2_with fail
                                go_meet
                                exact ⟨V1.heap.size, V3.heap.size, xu, cu, xv, cv, V0.heap.size, V1.heap.size, V2.heap.size, V3.heap.size, rfl, rfl, HZ3.out, HZ4.out, HRu.out, HSu.out, HRv.out, HSv.out, HG9.out, HW10.out _ (by omega), by omega, by omega, by omega, by omega, by omega, by omega⟩
                            exact AllReadyH.nil
                        exact AllReadyH.nil
                    exact AllReadyH.nil
                refine AllReadyH.cons (o := { dst := some 4, op := Op.alloc 28, type := 0, pos := "law.go:99", after := #[], guard := none }) rfl (fun K hK => ?_) ?_
                · go_simp
                  refine hK.out _ _ (HKEEP.out _ (HG9.out.trans (Gr.new V2 (.cells #[.int .i64 0, .bool false, .slice none 0 0] 28)))) (fun hHeld => ?_)
                  clear hK K
                  (try simp only [Act.put, List.setIfInBounds_toArray, List.set_cons_zero, List.set_cons_succ])
                  obtain ⟨V3, hV⟩ : ∃ V : World, V = V2.alloc (.cells #[.int .i64 0, .bool false, .slice none 0 0] 28) := ⟨_, rfl⟩
                  rw [← hV]
                  have hgn : Gr V2 V3 := by rw [hV]; exact Gr.new V2 (.cells #[.int .i64 0, .bool false, .slice none 0 0] 28)
                  have HZ4 := Lib.hid (show Blk V3 V2.heap.size 28 #[.int .i64 0, .bool false, .slice none 0 0] by rw [hV]; exact Blk.new V2 28 #[.int .i64 0, .bool false, .slice none 0 0])
                  have HN3 := Lib.hid (show V3.heap.size = V2.heap.size + 1 by rw [hV]; simp)
                  have HLE4 := Lib.hid HG9.out.size
                  replace HG9 := Lib.hid (HG9.out.trans hgn)
                  replace HZ3 := Lib.hid (HZ3.out.gr hgn)
                  replace HRu := Lib.hid (HRu.out.later hgn)
                  replace HSu := Lib.hid (HSu.out.gr hgn)
                  clear hV hgn hHeld
                  as_aux_lemma =>
                    refine wpAnyH_ready (rs := [5]) (by kernel_rfl) (by simp) ?_
                    refine AllReadyH.cons (o := { dst := some 25, op := Op.call { callee := Callee.value (Operand.func 13), args := #[Operand.tmp 24], argTypes := #[28] }, type := 28, pos := "law.go:99", after := #[{ on := 4, ground := Ground.data }, { on := 2, ground := Ground.chain }], guard := none }) rfl (fun K hK => ?_) ?_
                    · go_simp
                      go_at_call 13
                      refine (HLV.out V3 HG9.out).mono ?_
                      rintro e V4 ⟨xv, cv, rfl, hr8, hs8, hg8⟩
                      go_wp2_with fail
                      refine hK.out _ _ (HKEEP.out _ (HG9.out.trans hg8)) (fun hHeld => ?_)
                      clear hK K
                      (try simp only [Act.put, List.setIfInBounds_toArray, List.set_cons_zero, List.set_cons_succ])
                      have HRv := Lib.hid hr8
                      have HSv := Lib.hid hs8
                      have HN4 := Lib.hid hg8.size
                      replace HG9 := Lib.hid (HG9.out.trans hg8)
                      replace HZ3 := Lib.hid (HZ3.out.gr hg8)
                      replace HZ4 := Lib.hid (HZ4.out.gr hg8)
                      replace HRu := Lib.hid (HRu.out.later hg8)
                      replace HSu := Lib.hid (HSu.out.gr hg8)
                      clear hr8 hs8 hg8 hHeld
                      as_aux_lemma =>
                        refine wpAnyH_ready (rs := [8]) (by kernel_rfl) (by simp) ?_
                        refine AllReadyH.cons (o := { dst := none, op := Op.store 28 (Operand.tmp 3) (Operand.tmp 22), type := 0, pos := "law.go:99", after := #[{ on := 6, ground := Ground.data }, { on := 2, ground := Ground.data }, { on := 5, ground := Ground.chain }, { on := 0, ground := Ground.phase }, { on := 1, ground := Ground.phase }, { on := 2, ground := Ground.phase }, { on := 3, ground := Ground.textOnly Departure.lateStores }, { on := 4, ground := Ground.textOnly Departure.lateStores }, { on := 5, ground := Ground.textOnly Departure.lateStoresUnsure }, { on := 6, ground := Ground.phase }, { on := 7, ground := Ground.phase }], guard := none }) rfl (fun K hK => ?_) ?_
                        · obtain ⟨e0, e1, e2⟩ := HZ3.out.p3
                          obtain ⟨f0, f1, f2⟩ := HZ3.out.f3
                          go_simp
                          clear e0 e1 e2 f0 f1 f2
                          refine hK.out _ _ (HKEEP.out _ (((HG9.out.setCell (p := ⟨V1.heap.size, 0, none⟩) HLE3.out _).setCell (p := ⟨V1.heap.size, 1, none⟩) HLE3.out _).setCell (p := ⟨V1.heap.size, 2, none⟩) HLE3.out _)) (fun hHeld => ?_)
                          clear hK K
                          (try simp only [Act.put, List.setIfInBounds_toArray, List.set_cons_zero, List.set_cons_succ])
                          obtain ⟨V5, hV⟩ : ∃ V : World, V = (((V4.setCell ⟨V1.heap.size, 0, none⟩ (.int .i64 lvA)).setCell ⟨V1.heap.size, 1, none⟩ (.bool spA)).setCell ⟨V1.heap.size, 2, none⟩ (.slice xu nA cu)) := ⟨_, rfl⟩
                          rw [← hV]
                          have hov : Ov V1.heap.size (V1.heap.size + 1) V4 V5 := by rw [hV]; exact (((Ov.refl _).set (Nat.le_refl _) (Nat.lt_succ_self _) _).set (Nat.le_refl _) (Nat.lt_succ_self _) _).set (Nat.le_refl _) (Nat.lt_succ_self _) _
                          have hz : Blk V5 (V1.heap.size) 28 #[.int .i64 lvA, .bool spA, .slice xu nA cu] := by rw [hV]; exact ((HZ3.out.set 0 (.int .i64 lvA)).set 1 (.bool spA)).set 2 (.slice xu nA cu)
                          replace HZ3 := Lib.hid hz
                          have hgn : Gr w1 V5 := hov.of_gr HG9.out HLE3.out
                          replace HG9 := Lib.hid hgn
                          have HN5 := Lib.hid hov.size
                          replace HZ4 := Lib.hid (hov.blk HZ4.out (by have s0 := HN0.out; have s1 := HN1.out; have s2 := HN2.out; have s3 := HN3.out; have s4 := HN4.out; omega))
                          replace HRu := Lib.hid (hov.hasB HRu.out (by have s0 := HN0.out; have s1 := HN1.out; have s2 := HN2.out; have s3 := HN3.out; have s4 := HN4.out; omega))
                          replace HSu := Lib.hid (hov.spR HSu.out (by have s0 := HN0.out; have s1 := HN1.out; have s2 := HN2.out; have s3 := HN3.out; have s4 := HN4.out; omega))
                          replace HRv := Lib.hid (hov.hasB HRv.out (by have s0 := HN0.out; have s1 := HN1.out; have s2 := HN2.out; have s3 := HN3.out; have s4 := HN4.out; omega))
                          replace HSv := Lib.hid (hov.spR HSv.out (by have s0 := HN0.out; have s1 := HN1.out; have s2 := HN2.out; have s3 := HN3.out; have s4 := HN4.out; omega))
                          clear hV hov hz hgn hHeld
                          as_aux_lemma =>
                            refine wpAnyH_ready (rs := [9]) (by kernel_rfl) (by simp) ?_
                            refine AllReadyH.cons (o := { dst := none, op := Op.store 28 (Operand.tmp 4) (Operand.tmp 25), type := 0, pos := "law.go:99", after := #[{ on := 7, ground := Ground.data }, { on := 5, ground := Ground.data }, { on := 8, ground := Ground.chain }, { on := 0, ground := Ground.phase }, { on := 1, ground := Ground.phase }, { on := 2, ground := Ground.phase }, { on := 3, ground := Ground.phase }, { on := 4, ground := Ground.phase }, { on := 5, ground := Ground.phase }, { on := 6, ground := Ground.phase }, { on := 7, ground := Ground.phase }, { on := 8, ground := Ground.phase }], guard := none }) rfl (fun K hK => ?_) ?_
                            · obtain ⟨e0, e1, e2⟩ := HZ4.out.p3
                              obtain ⟨f0, f1, f2⟩ := HZ4.out.f3
                              go_simp
                              clear e0 e1 e2 f0 f1 f2
                              refine hK.out _ _ (HKEEP.out _ (((HG9.out.setCell (p := ⟨V2.heap.size, 0, none⟩) HLE4.out _).setCell (p := ⟨V2.heap.size, 1, none⟩) HLE4.out _).setCell (p := ⟨V2.heap.size, 2, none⟩) HLE4.out _)) (fun hHeld => ?_)
                              clear hK K
                              (try simp only [Act.put, List.setIfInBounds_toArray, List.set_cons_zero, List.set_cons_succ])
                              obtain ⟨V6, hV⟩ : ∃ V : World, V = (((V5.setCell ⟨V2.heap.size, 0, none⟩ (.int .i64 lvB)).setCell ⟨V2.heap.size, 1, none⟩ (.bool spB)).setCell ⟨V2.heap.size, 2, none⟩ (.slice xv nB cv)) := ⟨_, rfl⟩
                              rw [← hV]
                              have hov : Ov V2.heap.size (V2.heap.size + 1) V5 V6 := by rw [hV]; exact (((Ov.refl _).set (Nat.le_refl _) (Nat.lt_succ_self _) _).set (Nat.le_refl _) (Nat.lt_succ_self _) _).set (Nat.le_refl _) (Nat.lt_succ_self _) _
                              have hz : Blk V6 (V2.heap.size) 28 #[.int .i64 lvB, .bool spB, .slice xv nB cv] := by rw [hV]; exact ((HZ4.out.set 0 (.int .i64 lvB)).set 1 (.bool spB)).set 2 (.slice xv nB cv)
                              replace HZ4 := Lib.hid hz
                              have hgn : Gr w1 V6 := hov.of_gr HG9.out HLE4.out
                              replace HG9 := Lib.hid hgn
                              have HN6 := Lib.hid hov.size
                              replace HZ3 := Lib.hid (hov.blk HZ3.out (by have s0 := HN0.out; have s1 := HN1.out; have s2 := HN2.out; have s3 := HN3.out; have s4 := HN4.out; have s5 := HN5.out; omega))
                              replace HRu := Lib.hid (hov.hasB HRu.out (by have s0 := HN0.out; have s1 := HN1.out; have s2 := HN2.out; have s3 := HN3.out; have s4 := HN4.out; have s5 := HN5.out; omega))
                              replace HSu := Lib.hid (hov.spR HSu.out (by have s0 := HN0.out; have s1 := HN1.out; have s2 := HN2.out; have s3 := HN3.out; have s4 := HN4.out; have s5 := HN5.out; omega))
                              replace HRv := Lib.hid (hov.hasB HRv.out (by have s0 := HN0.out; have s1 := HN1.out; have s2 := HN2.out; have s3 := HN3.out; have s4 := HN4.out; have s5 := HN5.out; omega))
                              replace HSv := Lib.hid (hov.spR HSv.out (by have s0 := HN0.out; have s1 := HN1.out; have s2 := HN2.out; have s3 := HN3.out; have s4 := HN4.out; have s5 := HN5.out; omega))
                              clear hV hov hz hgn hHeld
                              as_aux_lemma =>
                                refine wpAnyH_done (by kernel_rfl) ?_ _
                                have s0 := HN0.out
                                have s1 := HN1.out
                                have s2 := HN2.out
                                have s3 := HN3.out
                                have s4 := HN4.out
                                have s5 := HN5.out
                                have s6 := HN6.out
                                have s90 := HLE3.out
                                have s91 := HLE4.out
                                have s92 := HG9.out.size
                                clear HKEEP
                                go_wp2_with fail
                                go_meet
                                exact ⟨V1.heap.size, V2.heap.size, xu, cu, xv, cv, V0.heap.size, V1.heap.size, V3.heap.size, V4.heap.size, rfl, rfl, HZ3.out, HZ4.out, HRu.out, HSu.out, HRv.out, HSv.out, HG9.out, HW10.out _ (by omega), by omega, by omega, by omega, by omega, by omega, by omega⟩
                            exact AllReadyH.nil
                        exact AllReadyH.nil
                    exact AllReadyH.nil
                exact AllReadyH.nil
            refine AllReadyH.cons (o := { dst := some 4, op := Op.alloc 28, type := 0, pos := "law.go:99", after := #[], guard := none }) rfl (fun K hK => ?_) ?_
            · go_simp
              refine hK.out _ _ (HKEEP.out _ (HG9.out.trans (Gr.new V1 (.cells #[.int .i64 0, .bool false, .slice none 0 0] 28)))) (fun hHeld => ?_)
              clear hK K
              (try simp only [Act.put, List.setIfInBounds_toArray, List.set_cons_zero, List.set_cons_succ])
              obtain ⟨V2, hV⟩ : ∃ V : World, V = V1.alloc (.cells #[.int .i64 0, .bool false, .slice none 0 0] 28) := ⟨_, rfl⟩
              rw [← hV]
              have hgn : Gr V1 V2 := by rw [hV]; exact Gr.new V1 (.cells #[.int .i64 0, .bool false, .slice none 0 0] 28)
              have HZ4 := Lib.hid (show Blk V2 V1.heap.size 28 #[.int .i64 0, .bool false, .slice none 0 0] by rw [hV]; exact Blk.new V1 28 #[.int .i64 0, .bool false, .slice none 0 0])
              have HN2 := Lib.hid (show V2.heap.size = V1.heap.size + 1 by rw [hV]; simp)
              have HLE4 := Lib.hid HG9.out.size
              replace HG9 := Lib.hid (HG9.out.trans hgn)
              replace HRu := Lib.hid (HRu.out.later hgn)
              replace HSu := Lib.hid (HSu.out.gr hgn)
              clear hV hgn hHeld
              as_aux_lemma =>
                refine wpAnyH_ready (rs := [5, 6]) (by kernel_rfl) (by simp) ?_
                refine AllReadyH.cons (o := { dst := some 25, op := Op.call { callee := Callee.value (Operand.func 13), args := #[Operand.tmp 24], argTypes := #[28] }, type := 28, pos := "law.go:99", after := #[{ on := 4, ground := Ground.data }, { on := 2, ground := Ground.chain }], guard := none }) rfl (fun K hK => ?_) ?_
                · go_simp
                  go_at_call 13
                  refine (HLV.out V2 HG9.out).mono ?_
                  rintro e V3 ⟨xv, cv, rfl, hr8, hs8, hg8⟩
                  go_wp2_with fail
                  refine hK.out _ _ (HKEEP.out _ (HG9.out.trans hg8)) (fun hHeld => ?_)
                  clear hK K
                  (try simp only [Act.put, List.setIfInBounds_toArray, List.set_cons_zero, List.set_cons_succ])
                  have HRv := Lib.hid hr8
                  have HSv := Lib.hid hs8
                  have HN3 := Lib.hid hg8.size
                  replace HG9 := Lib.hid (HG9.out.trans hg8)
                  replace HZ4 := Lib.hid (HZ4.out.gr hg8)
                  replace HRu := Lib.hid (HRu.out.later hg8)
                  replace HSu := Lib.hid (HSu.out.gr hg8)
                  clear hr8 hs8 hg8 hHeld
                  as_aux_lemma =>
                    refine wpAnyH_ready (rs := [6]) (by kernel_rfl) (by simp) ?_
                    refine AllReadyH.cons (o := { dst := some 3, op := Op.alloc 28, type := 0, pos := "law.go:99", after := #[], guard := none }) rfl (fun K hK => ?_) ?_
                    · go_simp
                      refine hK.out _ _ (HKEEP.out _ (HG9.out.trans (Gr.new V3 (.cells #[.int .i64 0, .bool false, .slice none 0 0] 28)))) (fun hHeld => ?_)
                      clear hK K
                      (try simp only [Act.put, List.setIfInBounds_toArray, List.set_cons_zero, List.set_cons_succ])
                      obtain ⟨V4, hV⟩ : ∃ V : World, V = V3.alloc (.cells #[.int .i64 0, .bool false, .slice none 0 0] 28) := ⟨_, rfl⟩
                      rw [← hV]
                      have hgn : Gr V3 V4 := by rw [hV]; exact Gr.new V3 (.cells #[.int .i64 0, .bool false, .slice none 0 0] 28)
                      have HZ3 := Lib.hid (show Blk V4 V3.heap.size 28 #[.int .i64 0, .bool false, .slice none 0 0] by rw [hV]; exact Blk.new V3 28 #[.int .i64 0, .bool false, .slice none 0 0])
                      have HN4 := Lib.hid (show V4.heap.size = V3.heap.size + 1 by rw [hV]; simp)
                      have HLE3 := Lib.hid HG9.out.size
                      replace HG9 := Lib.hid (HG9.out.trans hgn)
                      replace HZ4 := Lib.hid (HZ4.out.gr hgn)
                      replace HRu := Lib.hid (HRu.out.later hgn)
                      replace HSu := Lib.hid (HSu.out.gr hgn)
                      replace HRv := Lib.hid (HRv.out.later hgn)
                      replace HSv := Lib.hid (HSv.out.gr hgn)
                      clear hV hgn hHeld
                      as_aux_lemma =>
                        refine wpAnyH_ready (rs := [8]) (by kernel_rfl) (by simp) ?_
                        refine AllReadyH.cons (o := { dst := none, op := Op.store 28 (Operand.tmp 3) (Operand.tmp 22), type := 0, pos := "law.go:99", after := #[{ on := 6, ground := Ground.data }, { on := 2, ground := Ground.data }, { on := 5, ground := Ground.chain }, { on := 0, ground := Ground.phase }, { on := 1, ground := Ground.phase }, { on := 2, ground := Ground.phase }, { on := 3, ground := Ground.textOnly Departure.lateStores }, { on := 4, ground := Ground.textOnly Departure.lateStores }, { on := 5, ground := Ground.textOnly Departure.lateStoresUnsure }, { on := 6, ground := Ground.phase }, { on := 7, ground := Ground.phase }], guard := none }) rfl (fun K hK => ?_) ?_
                        · obtain ⟨e0, e1, e2⟩ := HZ3.out.p3
                          obtain ⟨f0, f1, f2⟩ := HZ3.out.f3
                          go_simp
                          clear e0 e1 e2 f0 f1 f2
                          refine hK.out _ _ (HKEEP.out _ (((HG9.out.setCell (p := ⟨V3.heap.size, 0, none⟩) HLE3.out _).setCell (p := ⟨V3.heap.size, 1, none⟩) HLE3.out _).setCell (p := ⟨V3.heap.size, 2, none⟩) HLE3.out _)) (fun hHeld => ?_)
                          clear hK K
                          (try simp only [Act.put, List.setIfInBounds_toArray, List.set_cons_zero, List.set_cons_succ])
                          obtain ⟨V5, hV⟩ : ∃ V : World, V = (((V4.setCell ⟨V3.heap.size, 0, none⟩ (.int .i64 lvA)).setCell ⟨V3.heap.size, 1, none⟩ (.bool spA)).setCell ⟨V3.heap.size, 2, none⟩ (.slice xu nA cu)) := ⟨_, rfl⟩
                          rw [← hV]
                          have hov : Ov V3.heap.size (V3.heap.size + 1) V4 V5 := by rw [hV]; exact (((Ov.refl _).set (Nat.le_refl _) (Nat.lt_succ_self _) _).set (Nat.le_refl _) (Nat.lt_succ_self _) _).set (Nat.le_refl _) (Nat.lt_succ_self _) _
                          have hz : Blk V5 (V3.heap.size) 28 #[.int .i64 lvA, .bool spA, .slice xu nA cu] := by rw [hV]; exact ((HZ3.out.set 0 (.int .i64 lvA)).set 1 (.bool spA)).set 2 (.slice xu nA cu)
                          replace HZ3 := Lib.hid hz
                          have hgn : Gr w1 V5 := hov.of_gr HG9.out HLE3.out
                          replace HG9 := Lib.hid hgn
                          have HN5 := Lib.hid hov.size
                          replace HZ4 := Lib.hid (hov.blk HZ4.out (by have s0 := HN0.out; have s1 := HN1.out; have s2 := HN2.out; have s3 := HN3.out; have s4 := HN4.out; omega))
                          replace HRu := Lib.hid (hov.hasB HRu.out (by have s0 := HN0.out; have s1 := HN1.out; have s2 := HN2.out; have s3 := HN3.out; have s4 := HN4.out; omega))
                          replace HSu := Lib.hid (hov.spR HSu.out (by have s0 := HN0.out; have s1 := HN1.out; have s2 := HN2.out; have s3 := HN3.out; have s4 := HN4.out; omega))
                          replace HRv := Lib.hid (hov.hasB HRv.out (by have s0 := HN0.out; have s1 := HN1.out; have s2 := HN2.out; have s3 := HN3.out; have s4 := HN4.out; omega))
                          replace HSv := Lib.hid (hov.spR HSv.out (by have s0 := HN0.out; have s1 := HN1.out; have s2 := HN2.out; have s3 := HN3.out; have s4 := HN4.out; omega))
                          clear hV hov hz hgn hHeld
                          as_aux_lemma =>
                            refine wpAnyH_ready (rs := [9]) (by kernel_rfl) (by simp) ?_
                            refine AllReadyH.cons (o := { dst := none, op := Op.store 28 (Operand.tmp 4) (Operand.tmp 25), type := 0, pos := "law.go:99", after := #[{ on := 7, ground := Ground.data }, { on := 5, ground := Ground.data }, { on := 8, ground := Ground.chain }, { on := 0, ground := Ground.phase }, { on := 1, ground := Ground.phase }, { on := 2, ground := Ground.phase }, { on := 3, ground := Ground.phase }, { on := 4, ground := Ground.phase }, { on := 5, ground := Ground.phase }, { on := 6, ground := Ground.phase }, { on := 7, ground := Ground.phase }, { on := 8, ground := Ground.phase }], guard := none }) rfl (fun K hK => ?_) ?_
                            · obtain ⟨e0, e1, e2⟩ := HZ4.out.p3
                              obtain ⟨f0, f1, f2⟩ := HZ4.out.f3
                              go_simp
                              clear e0 e1 e2 f0 f1 f2
                              refine hK.out _ _ (HKEEP.out _ (((HG9.out.setCell (p := ⟨V1.heap.size, 0, none⟩) HLE4.out _).setCell (p := ⟨V1.heap.size, 1, none⟩) HLE4.out _).setCell (p := ⟨V1.heap.size, 2, none⟩) HLE4.out _)) (fun hHeld => ?_)
                              clear hK K
                              (try simp only [Act.put, List.setIfInBounds_toArray, List.set_cons_zero, List.set_cons_succ])
                              obtain ⟨V6, hV⟩ : ∃ V : World, V = (((V5.setCell ⟨V1.heap.size, 0, none⟩ (.int .i64 lvB)).setCell ⟨V1.heap.size, 1, none⟩ (.bool spB)).setCell ⟨V1.heap.size, 2, none⟩ (.slice xv nB cv)) := ⟨_, rfl⟩
                              rw [← hV]
                              have hov : Ov V1.heap.size (V1.heap.size + 1) V5 V6 := by rw [hV]; exact (((Ov.refl _).set (Nat.le_refl _) (Nat.lt_succ_self _) _).set (Nat.le_refl _) (Nat.lt_succ_self _) _).set (Nat.le_refl _) (Nat.lt_succ_self _) _
                              have hz : Blk V6 (V1.heap.size) 28 #[.int .i64 lvB, .bool spB, .slice xv nB cv] := by rw [hV]; exact ((HZ4.out.set 0 (.int .i64 lvB)).set 1 (.bool spB)).set 2 (.slice xv nB cv)
                              replace HZ4 := Lib.hid hz
                              have hgn : Gr w1 V6 := hov.of_gr HG9.out HLE4.out
                              replace HG9 := Lib.hid hgn
                              have HN6 := Lib.hid hov.size
                              replace HZ3 := Lib.hid (hov.blk HZ3.out (by have s0 := HN0.out; have s1 := HN1.out; have s2 := HN2.out; have s3 := HN3.out; have s4 := HN4.out; have s5 := HN5.out; omega))
                              replace HRu := Lib.hid (hov.hasB HRu.out (by have s0 := HN0.out; have s1 := HN1.out; have s2 := HN2.out; have s3 := HN3.out; have s4 := HN4.out; have s5 := HN5.out; omega))
                              replace HSu := Lib.hid (hov.spR HSu.out (by have s0 := HN0.out; have s1 := HN1.out; have s2 := HN2.out; have s3 := HN3.out; have s4 := HN4.out; have s5 := HN5.out; omega))
                              replace HRv := Lib.hid (hov.hasB HRv.out (by have s0 := HN0.out; have s1 := HN1.out; have s2 := HN2.out; have s3 := HN3.out; have s4 := HN4.out; have s5 := HN5.out; omega))
                              replace HSv := Lib.hid (hov.spR HSv.out (by have s0 := HN0.out; have s1 := HN1.out; have s2 := HN2.out; have s3 := HN3.out; have s4 := HN4.out; have s5 := HN5.out; omega))
                              clear hV hov hz hgn hHeld
                              as_aux_lemma =>
                                refine wpAnyH_done (by kernel_rfl) ?_ _
                                have s0 := HN0.out
                                have s1 := HN1.out
                                have s2 := HN2.out
                                have s3 := HN3.out
                                have s4 := HN4.out
                                have s5 := HN5.out
                                have s6 := HN6.out
                                have s90 := HLE3.out
                                have s91 := HLE4.out
                                have s92 := HG9.out.size
                                clear HKEEP
                                go_wp2_with fail
                                go_meet
                                exact ⟨V3.heap.size, V1.heap.size, xu, cu, xv, cv, V0.heap.size, V1.heap.size, V2.heap.size, V3.heap.size, rfl, rfl, HZ3.out, HZ4.out, HRu.out, HSu.out, HRv.out, HSv.out, HG9.out, HW10.out _ (by omega), by omega, by omega, by omega, by omega, by omega, by omega⟩
                            exact AllReadyH.nil
                        exact AllReadyH.nil
                    exact AllReadyH.nil
                refine AllReadyH.cons (o := { dst := some 3, op := Op.alloc 28, type := 0, pos := "law.go:99", after := #[], guard := none }) rfl (fun K hK => ?_) ?_
                · go_simp
                  refine hK.out _ _ (HKEEP.out _ (HG9.out.trans (Gr.new V2 (.cells #[.int .i64 0, .bool false, .slice none 0 0] 28)))) (fun hHeld => ?_)
                  clear hK K
                  (try simp only [Act.put, List.setIfInBounds_toArray, List.set_cons_zero, List.set_cons_succ])
                  obtain ⟨V3, hV⟩ : ∃ V : World, V = V2.alloc (.cells #[.int .i64 0, .bool false, .slice none 0 0] 28) := ⟨_, rfl⟩
                  rw [← hV]
                  have hgn : Gr V2 V3 := by rw [hV]; exact Gr.new V2 (.cells #[.int .i64 0, .bool false, .slice none 0 0] 28)
                  have HZ3 := Lib.hid (show Blk V3 V2.heap.size 28 #[.int .i64 0, .bool false, .slice none 0 0] by rw [hV]; exact Blk.new V2 28 #[.int .i64 0, .bool false, .slice none 0 0])
                  have HN3 := Lib.hid (show V3.heap.size = V2.heap.size + 1 by rw [hV]; simp)
                  have HLE3 := Lib.hid HG9.out.size
                  replace HG9 := Lib.hid (HG9.out.trans hgn)
                  replace HZ4 := Lib.hid (HZ4.out.gr hgn)
                  replace HRu := Lib.hid (HRu.out.later hgn)
                  replace HSu := Lib.hid (HSu.out.gr hgn)
                  clear hV hgn hHeld
                  as_aux_lemma =>
                    refine wpAnyH_ready (rs := [5]) (by kernel_rfl) (by simp) ?_
                    refine AllReadyH.cons (o := { dst := some 25, op := Op.call { callee := Callee.value (Operand.func 13), args := #[Operand.tmp 24], argTypes := #[28] }, type := 28, pos := "law.go:99", after := #[{ on := 4, ground := Ground.data }, { on := 2, ground := Ground.chain }], guard := none }) rfl (fun K hK => ?_) ?_
                    · go_simp
                      go_at_call 13
                      refine (HLV.out V3 HG9.out).mono ?_
                      rintro e V4 ⟨xv, cv, rfl, hr8, hs8, hg8⟩
                      go_wp2_with fail
                      refine hK.out _ _ (HKEEP.out _ (HG9.out.trans hg8)) (fun hHeld => ?_)
                      clear hK K
                      (try simp only [Act.put, List.setIfInBounds_toArray, List.set_cons_zero, List.set_cons_succ])
                      have HRv := Lib.hid hr8
                      have HSv := Lib.hid hs8
                      have HN4 := Lib.hid hg8.size
                      replace HG9 := Lib.hid (HG9.out.trans hg8)
                      replace HZ4 := Lib.hid (HZ4.out.gr hg8)
                      replace HZ3 := Lib.hid (HZ3.out.gr hg8)
                      replace HRu := Lib.hid (HRu.out.later hg8)
                      replace HSu := Lib.hid (HSu.out.gr hg8)
                      clear hr8 hs8 hg8 hHeld
                      as_aux_lemma =>
                        refine wpAnyH_ready (rs := [8]) (by kernel_rfl) (by simp) ?_
                        refine AllReadyH.cons (o := { dst := none, op := Op.store 28 (Operand.tmp 3) (Operand.tmp 22), type := 0, pos := "law.go:99", after := #[{ on := 6, ground := Ground.data }, { on := 2, ground := Ground.data }, { on := 5, ground := Ground.chain }, { on := 0, ground := Ground.phase }, { on := 1, ground := Ground.phase }, { on := 2, ground := Ground.phase }, { on := 3, ground := Ground.textOnly Departure.lateStores }, { on := 4, ground := Ground.textOnly Departure.lateStores }, { on := 5, ground := Ground.textOnly Departure.lateStoresUnsure }, { on := 6, ground := Ground.phase }, { on := 7, ground := Ground.phase }], guard := none }) rfl (fun K hK => ?_) ?_
                        · obtain ⟨e0, e1, e2⟩ := HZ3.out.p3
                          obtain ⟨f0, f1, f2⟩ := HZ3.out.f3
                          go_simp
                          clear e0 e1 e2 f0 f1 f2
                          refine hK.out _ _ (HKEEP.out _ (((HG9.out.setCell (p := ⟨V2.heap.size, 0, none⟩) HLE3.out _).setCell (p := ⟨V2.heap.size, 1, none⟩) HLE3.out _).setCell (p := ⟨V2.heap.size, 2, none⟩) HLE3.out _)) (fun hHeld => ?_)
                          clear hK K
                          (try simp only [Act.put, List.setIfInBounds_toArray, List.set_cons_zero, List.set_cons_succ])
                          obtain ⟨V5, hV⟩ : ∃ V : World, V = (((V4.setCell ⟨V2.heap.size, 0, none⟩ (.int .i64 lvA)).setCell ⟨V2.heap.size, 1, none⟩ (.bool spA)).setCell ⟨V2.heap.size, 2, none⟩ (.slice xu nA cu)) := ⟨_, rfl⟩
                          rw [← hV]
                          have hov : Ov V2.heap.size (V2.heap.size + 1) V4 V5 := by rw [hV]; exact (((Ov.refl _).set (Nat.le_refl _) (Nat.lt_succ_self _) _).set (Nat.le_refl _) (Nat.lt_succ_self _) _).set (Nat.le_refl _) (Nat.lt_succ_self _) _
                          have hz : Blk V5 (V2.heap.size) 28 #[.int .i64 lvA, .bool spA, .slice xu nA cu] := by rw [hV]; exact ((HZ3.out.set 0 (.int .i64 lvA)).set 1 (.bool spA)).set 2 (.slice xu nA cu)
                          replace HZ3 := Lib.hid hz
                          have hgn : Gr w1 V5 := hov.of_gr HG9.out HLE3.out
                          replace HG9 := Lib.hid hgn
                          have HN5 := Lib.hid hov.size
                          replace HZ4 := Lib.hid (hov.blk HZ4.out (by have s0 := HN0.out; have s1 := HN1.out; have s2 := HN2.out; have s3 := HN3.out; have s4 := HN4.out; omega))
                          replace HRu := Lib.hid (hov.hasB HRu.out (by have s0 := HN0.out; have s1 := HN1.out; have s2 := HN2.out; have s3 := HN3.out; have s4 := HN4.out; omega))
                          replace HSu := Lib.hid (hov.spR HSu.out (by have s0 := HN0.out; have s1 := HN1.out; have s2 := HN2.out; have s3 := HN3.out; have s4 := HN4.out; omega))
                          replace HRv := Lib.hid (hov.hasB HRv.out (by have s0 := HN0.out; have s1 := HN1.out; have s2 := HN2.out; have s3 := HN3.out; have s4 := HN4.out; omega))
                          replace HSv := Lib.hid (hov.spR HSv.out (by have s0 := HN0.out; have s1 := HN1.out; have s2 := HN2.out; have s3 := HN3.out; have s4 := HN4.out; omega))
                          clear hV hov hz hgn hHeld
                          as_aux_lemma =>
                            refine wpAnyH_ready (rs := [9]) (by kernel_rfl) (by simp) ?_
                            refine AllReadyH.cons (o := { dst := none, op := Op.store 28 (Operand.tmp 4) (Operand.tmp 25), type := 0, pos := "law.go:99", after := #[{ on := 7, ground := Ground.data }, { on := 5, ground := Ground.data }, { on := 8, ground := Ground.chain }, { on := 0, ground := Ground.phase }, { on := 1, ground := Ground.phase }, { on := 2, ground := Ground.phase }, { on := 3, ground := Ground.phase }, { on := 4, ground := Ground.phase }, { on := 5, ground := Ground.phase }, { on := 6, ground := Ground.phase }, { on := 7, ground := Ground.phase }, { on := 8, ground := Ground.phase }], guard := none }) rfl (fun K hK => ?_) ?_
                            · obtain ⟨e0, e1, e2⟩ := HZ4.out.p3
                              obtain ⟨f0, f1, f2⟩ := HZ4.out.f3
                              go_simp
                              clear e0 e1 e2 f0 f1 f2
                              refine hK.out _ _ (HKEEP.out _ (((HG9.out.setCell (p := ⟨V1.heap.size, 0, none⟩) HLE4.out _).setCell (p := ⟨V1.heap.size, 1, none⟩) HLE4.out _).setCell (p := ⟨V1.heap.size, 2, none⟩) HLE4.out _)) (fun hHeld => ?_)
                              clear hK K
                              (try simp only [Act.put, List.setIfInBounds_toArray, List.set_cons_zero, List.set_cons_succ])
                              obtain ⟨V6, hV⟩ : ∃ V : World, V = (((V5.setCell ⟨V1.heap.size, 0, none⟩ (.int .i64 lvB)).setCell ⟨V1.heap.size, 1, none⟩ (.bool spB)).setCell ⟨V1.heap.size, 2, none⟩ (.slice xv nB cv)) := ⟨_, rfl⟩
                              rw [← hV]
                              have hov : Ov V1.heap.size (V1.heap.size + 1) V5 V6 := by rw [hV]; exact (((Ov.refl _).set (Nat.le_refl _) (Nat.lt_succ_self _) _).set (Nat.le_refl _) (Nat.lt_succ_self _) _).set (Nat.le_refl _) (Nat.lt_succ_self _) _
                              have hz : Blk V6 (V1.heap.size) 28 #[.int .i64 lvB, .bool spB, .slice xv nB cv] := by rw [hV]; exact ((HZ4.out.set 0 (.int .i64 lvB)).set 1 (.bool spB)).set 2 (.slice xv nB cv)
                              replace HZ4 := Lib.hid hz
                              have hgn : Gr w1 V6 := hov.of_gr HG9.out HLE4.out
                              replace HG9 := Lib.hid hgn
                              have HN6 := Lib.hid hov.size
                              replace HZ3 := Lib.hid (hov.blk HZ3.out (by have s0 := HN0.out; have s1 := HN1.out; have s2 := HN2.out; have s3 := HN3.out; have s4 := HN4.out; have s5 := HN5.out; omega))
                              replace HRu := Lib.hid (hov.hasB HRu.out (by have s0 := HN0.out; have s1 := HN1.out; have s2 := HN2.out; have s3 := HN3.out; have s4 := HN4.out; have s5 := HN5.out; omega))
                              replace HSu := Lib.hid (hov.spR HSu.out (by have s0 := HN0.out; have s1 := HN1.out; have s2 := HN2.out; have s3 := HN3.out; have s4 := HN4.out; have s5 := HN5.out; omega))
                              replace HRv := Lib.hid (hov.hasB HRv.out (by have s0 := HN0.out; have s1 := HN1.out; have s2 := HN2.out; have s3 := HN3.out; have s4 := HN4.out; have s5 := HN5.out; omega))
                              replace HSv := Lib.hid (hov.spR HSv.out (by have s0 := HN0.out; have s1 := HN1.out; have s2 := HN2.out; have s3 := HN3.out; have s4 := HN4.out; have s5 := HN5.out; omega))
                              clear hV hov hz hgn hHeld
                              as_aux_lemma =>
                                refine wpAnyH_done (by kernel_rfl) ?_ _
                                have s0 := HN0.out
                                have s1 := HN1.out
                                have s2 := HN2.out
                                have s3 := HN3.out
                                have s4 := HN4.out
                                have s5 := HN5.out
                                have s6 := HN6.out
                                have s90 := HLE3.out
                                have s91 := HLE4.out
                                have s92 := HG9.out.size
                                clear HKEEP
                                go_wp2_with fail
                                go_meet
                                exact ⟨V2.heap.size, V1.heap.size, xu, cu, xv, cv, V0.heap.size, V1.heap.size, V3.heap.size, V4.heap.size, rfl, rfl, HZ3.out, HZ4.out, HRu.out, HSu.out, HRv.out, HSv.out, HG9.out, HW10.out _ (by omega), by omega, by omega, by omega, by omega, by omega, by omega⟩
                            exact AllReadyH.nil
                        exact AllReadyH.nil
                    exact AllReadyH.nil
                exact AllReadyH.nil
            exact AllReadyH.nil
        refine AllReadyH.cons (o := { dst := some 3, op := Op.alloc 28, type := 0, pos := "law.go:99", after := #[], guard := none }) rfl (fun K hK => ?_) ?_
        · go_simp
          refine hK.out _ _ (HKEEP.out _ (HG9.out.trans (Gr.new V0 (.cells #[.int .i64 0, .bool false, .slice none 0 0] 28)))) (fun hHeld => ?_)
          clear hK K
          (try simp only [Act.put, List.setIfInBounds_toArray, List.set_cons_zero, List.set_cons_succ])
          obtain ⟨V1, hV⟩ : ∃ V : World, V = V0.alloc (.cells #[.int .i64 0, .bool false, .slice none 0 0] 28) := ⟨_, rfl⟩
          rw [← hV]
          have hgn : Gr V0 V1 := by rw [hV]; exact Gr.new V0 (.cells #[.int .i64 0, .bool false, .slice none 0 0] 28)
          have HZ3 := Lib.hid (show Blk V1 V0.heap.size 28 #[.int .i64 0, .bool false, .slice none 0 0] by rw [hV]; exact Blk.new V0 28 #[.int .i64 0, .bool false, .slice none 0 0])
          have HN1 := Lib.hid (show V1.heap.size = V0.heap.size + 1 by rw [hV]; simp)
          have HLE3 := Lib.hid HG9.out.size
          replace HG9 := Lib.hid (HG9.out.trans hgn)
          clear hV hgn hHeld
          as_aux_lemma =>
            refine wpAnyH_ready (rs := [2, 7]) (by kernel_rfl) (by simp) ?_
            refine AllReadyH.cons (o := { dst := some 22, op := Op.call { callee := Callee.value (Operand.func 13), args := #[Operand.tmp 21], argTypes := #[28] }, type := 28, pos := "law.go:99", after := #[{ on := 1, ground := Ground.data }], guard := none }) rfl (fun K hK => ?_) ?_
            · go_simp
              go_at_call 13
              refine (HLU.out V1 HG9.out).mono ?_
              rintro e V2 ⟨xu, cu, rfl, hr8, hs8, hg8⟩
              go_wp2_with fail
              refine hK.out _ _ (HKEEP.out _ (HG9.out.trans hg8)) (fun hHeld => ?_)
              clear hK K
              (try simp only [Act.put, List.setIfInBounds_toArray, List.set_cons_zero, List.set_cons_succ])
              have HRu := Lib.hid hr8
              have HSu := Lib.hid hs8
              have HN2 := Lib.hid hg8.size
              replace HG9 := Lib.hid (HG9.out.trans hg8)
              replace HZ3 := Lib.hid (HZ3.out.gr hg8)
              clear hr8 hs8 hg8 hHeld
              as_aux_lemma =>
                refine wpAnyH_ready (rs := [5, 7]) (by kernel_rfl) (by simp) ?_
                refine AllReadyH.cons (o := { dst := some 25, op := Op.call { callee := Callee.value (Operand.func 13), args := #[Operand.tmp 24], argTypes := #[28] }, type := 28, pos := "law.go:99", after := #[{ on := 4, ground := Ground.data }, { on := 2, ground := Ground.chain }], guard := none }) rfl (fun K hK => ?_) ?_
                · go_simp
                  go_at_call 13
                  refine (HLV.out V2 HG9.out).mono ?_
                  rintro e V3 ⟨xv, cv, rfl, hr8, hs8, hg8⟩
                  go_wp2_with fail
                  refine hK.out _ _ (HKEEP.out _ (HG9.out.trans hg8)) (fun hHeld => ?_)
                  clear hK K
                  (try simp only [Act.put, List.setIfInBounds_toArray, List.set_cons_zero, List.set_cons_succ])
                  have HRv := Lib.hid hr8
                  have HSv := Lib.hid hs8
                  have HN3 := Lib.hid hg8.size
                  replace HG9 := Lib.hid (HG9.out.trans hg8)
                  replace HZ3 := Lib.hid (HZ3.out.gr hg8)
                  replace HRu := Lib.hid (HRu.out.later hg8)
                  replace HSu := Lib.hid (HSu.out.gr hg8)
                  clear hr8 hs8 hg8 hHeld
                  as_aux_lemma =>
                    refine wpAnyH_ready (rs := [7]) (by kernel_rfl) (by simp) ?_
                    refine AllReadyH.cons (o := { dst := some 4, op := Op.alloc 28, type := 0, pos := "law.go:99", after := #[], guard := none }) rfl (fun K hK => ?_) ?_
                    · go_simp
                      refine hK.out _ _ (HKEEP.out _ (HG9.out.trans (Gr.new V3 (.cells #[.int .i64 0, .bool false, .slice none 0 0] 28)))) (fun hHeld => ?_)
                      clear hK K
                      (try simp only [Act.put, List.setIfInBounds_toArray, List.set_cons_zero, List.set_cons_succ])
                      obtain ⟨V4, hV⟩ : ∃ V : World, V = V3.alloc (.cells #[.int .i64 0, .bool false, .slice none 0 0] 28) := ⟨_, rfl⟩
                      rw [← hV]
                      have hgn : Gr V3 V4 := by rw [hV]; exact Gr.new V3 (.cells #[.int .i64 0, .bool false, .slice none 0 0] 28)
                      have HZ4 := Lib.hid (show Blk V4 V3.heap.size 28 #[.int .i64 0, .bool false, .slice none 0 0] by rw [hV]; exact Blk.new V3 28 #[.int .i64 0, .bool false, .slice none 0 0])
                      have HN4 := Lib.hid (show V4.heap.size = V3.heap.size + 1 by rw [hV]; simp)
                      have HLE4 := Lib.hid HG9.out.size
                      replace HG9 := Lib.hid (HG9.out.trans hgn)
                      replace HZ3 := Lib.hid (HZ3.out.gr hgn)
                      replace HRu := Lib.hid (HRu.out.later hgn)
                      replace HSu := Lib.hid (HSu.out.gr hgn)
                      replace HRv := Lib.hid (HRv.out.later hgn)
                      replace HSv := Lib.hid (HSv.out.gr hgn)
                      clear hV hgn hHeld
                      as_aux_lemma =>
                        refine wpAnyH_ready (rs := [8]) (by kernel_rfl) (by simp) ?_
                        refine AllReadyH.cons (o := { dst := none, op := Op.store 28 (Operand.tmp 3) (Operand.tmp 22), type := 0, pos := "law.go:99", after := #[{ on := 6, ground := Ground.data }, { on := 2, ground := Ground.data }, { on := 5, ground := Ground.chain }, { on := 0, ground := Ground.phase }, { on := 1, ground := Ground.phase }, { on := 2, ground := Ground.phase }, { on := 3, ground := Ground.textOnly Departure.lateStores }, { on := 4, ground := Ground.textOnly Departure.lateStores }, { on := 5, ground := Ground.textOnly Departure.lateStoresUnsure }, { on := 6, ground := Ground.phase }, { on := 7, ground := Ground.phase }], guard := none }) rfl (fun K hK => ?_) ?_
                        · obtain ⟨e0, e1, e2⟩ := HZ3.out.p3
                          obtain ⟨f0, f1, f2⟩ := HZ3.out.f3
                          go_simp
                          clear e0 e1 e2 f0 f1 f2
                          refine hK.out _ _ (HKEEP.out _ (((HG9.out.setCell (p := ⟨V0.heap.size, 0, none⟩) HLE3.out _).setCell (p := ⟨V0.heap.size, 1, none⟩) HLE3.out _).setCell (p := ⟨V0.heap.size, 2, none⟩) HLE3.out _)) (fun hHeld => ?_)
                          clear hK K
                          (try simp only [Act.put, List.setIfInBounds_toArray, List.set_cons_zero, List.set_cons_succ])
                          obtain ⟨V5, hV⟩ : ∃ V : World, V = (((V4.setCell ⟨V0.heap.size, 0, none⟩ (.int .i64 lvA)).setCell ⟨V0.heap.size, 1, none⟩ (.bool spA)).setCell ⟨V0.heap.size, 2, none⟩ (.slice xu nA cu)) := ⟨_, rfl⟩
                          rw [← hV]
                          have hov : Ov V0.heap.size (V0.heap.size + 1) V4 V5 := by rw [hV]; exact (((Ov.refl _).set (Nat.le_refl _) (Nat.lt_succ_self _) _).set (Nat.le_refl _) (Nat.lt_succ_self _) _).set (Nat.le_refl _) (Nat.lt_succ_self _) _
                          have hz : Blk V5 (V0.heap.size) 28 #[.int .i64 lvA, .bool spA, .slice xu nA cu] := by rw [hV]; exact ((HZ3.out.set 0 (.int .i64 lvA)).set 1 (.bool spA)).set 2 (.slice xu nA cu)
                          replace HZ3 := Lib.hid hz
                          have hgn : Gr w1 V5 := hov.of_gr HG9.out HLE3.out
                          replace HG9 := Lib.hid hgn
                          have HN5 := Lib.hid hov.size
                          replace HZ4 := Lib.hid (hov.blk HZ4.out (by have s0 := HN0.out; have s1 := HN1.out; have s2 := HN2.out; have s3 := HN3.out; have s4 := HN4.out; omega))
                          replace HRu := Lib.hid (hov.hasB HRu.out (by have s0 := HN0.out; have s1 := HN1.out; have s2 := HN2.out; have s3 := HN3.out; have s4 := HN4.out; omega))
                          replace HSu := Lib.hid (hov.spR HSu.out (by have s0 := HN0.out; have s1 := HN1.out; have s2 := HN2.out; have s3 := HN3.out; have s4 := HN4.out; omega))
                          replace HRv := Lib.hid (hov.hasB HRv.out (by have s0 := HN0.out; have s1 := HN1.out; have s2 := HN2.out; have s3 := HN3.out; have s4 := HN4.out; omega))
                          replace HSv := Lib.hid (hov.spR HSv.out (by have s0 := HN0.out; have s1 := HN1.out; have s2 := HN2.out; have s3 := HN3.out; have s4 := HN4.out; omega))
                          clear hV hov hz hgn hHeld
                          as_aux_lemma =>
                            refine wpAnyH_ready (rs := [9]) (by kernel_rfl) (by simp) ?_
                            refine AllReadyH.cons (o := { dst := none, op := Op.store 28 (Operand.tmp 4) (Operand.tmp 25), type := 0, pos := "law.go:99", after := #[{ on := 7, ground := Ground.data }, { on := 5, ground := Ground.data }, { on := 8, ground := Ground.chain }, { on := 0, ground := Ground.phase }, { on := 1, ground := Ground.phase }, { on := 2, ground := Ground.phase }, { on := 3, ground := Ground.phase }, { on := 4, ground := Ground.phase }, { on := 5, ground := Ground.phase }, { on := 6, ground := Ground.phase }, { on := 7, ground := Ground.phase }, { on := 8, ground := Ground.phase }], guard := none }) rfl (fun K hK => ?_) ?_
                            · obtain ⟨e0, e1, e2⟩ := HZ4.out.p3
                              obtain ⟨f0, f1, f2⟩ := HZ4.out.f3
                              go_simp
                              clear e0 e1 e2 f0 f1 f2
                              refine hK.out _ _ (HKEEP.out _ (((HG9.out.setCell (p := ⟨V3.heap.size, 0, none⟩) HLE4.out _).setCell (p := ⟨V3.heap.size, 1, none⟩) HLE4.out _).setCell (p := ⟨V3.heap.size, 2, none⟩) HLE4.out _)) (fun hHeld => ?_)
                              clear hK K
                              (try simp only [Act.put, List.setIfInBounds_toArray, List.set_cons_zero, List.set_cons_succ])
                              obtain ⟨V6, hV⟩ : ∃ V : World, V = (((V5.setCell ⟨V3.heap.size, 0, none⟩ (.int .i64 lvB)).setCell ⟨V3.heap.size, 1, none⟩ (.bool spB)).setCell ⟨V3.heap.size, 2, none⟩ (.slice xv nB cv)) := ⟨_, rfl⟩
                              rw [← hV]
                              have hov : Ov V3.heap.size (V3.heap.size + 1) V5 V6 := by rw [hV]; exact (((Ov.refl _).set (Nat.le_refl _) (Nat.lt_succ_self _) _).set (Nat.le_refl _) (Nat.lt_succ_self _) _).set (Nat.le_refl _) (Nat.lt_succ_self _) _
                              have hz : Blk V6 (V3.heap.size) 28 #[.int .i64 lvB, .bool spB, .slice xv nB cv] := by rw [hV]; exact ((HZ4.out.set 0 (.int .i64 lvB)).set 1 (.bool spB)).set 2 (.slice xv nB cv)
                              replace HZ4 := Lib.hid hz
                              have hgn : Gr w1 V6 := hov.of_gr HG9.out HLE4.out
                              replace HG9 := Lib.hid hgn
                              have HN6 := Lib.hid hov.size
                              replace HZ3 := Lib.hid (hov.blk HZ3.out (by have s0 := HN0.out; have s1 := HN1.out; have s2 := HN2.out; have s3 := HN3.out; have s4 := HN4.out; have s5 := HN5.out; omega))
                              replace HRu := Lib.hid (hov.hasB HRu.out (by have s0 := HN0.out; have s1 := HN1.out; have s2 := HN2.out; have s3 := HN3.out; have s4 := HN4.out; have s5 := HN5.out; omega))
                              replace HSu := Lib.hid (hov.spR HSu.out (by have s0 := HN0.out; have s1 := HN1.out; have s2 := HN2.out; have s3 := HN3.out; have s4 := HN4.out; have s5 := HN5.out; omega))
                              replace HRv := Lib.hid (hov.hasB HRv.out (by have s0 := HN0.out; have s1 := HN1.out; have s2 := HN2.out; have s3 := HN3.out; have s4 := HN4.out; have s5 := HN5.out; omega))
                              replace HSv := Lib.hid (hov.spR HSv.out (by have s0 := HN0.out; have s1 := HN1.out; have s2 := HN2.out; have s3 := HN3.out; have s4 := HN4.out; have s5 := HN5.out; omega))
                              clear hV hov hz hgn hHeld
                              as_aux_lemma =>
                                refine wpAnyH_done (by kernel_rfl) ?_ _
                                have s0 := HN0.out
                                have s1 := HN1.out
                                have s2 := HN2.out
                                have s3 := HN3.out
                                have s4 := HN4.out
                                have s5 := HN5.out
                                have s6 := HN6.out
                                have s90 := HLE3.out
                                have s91 := HLE4.out
                                have s92 := HG9.out.size
                                clear HKEEP
                                go_wp2_with fail
                                go_meet
                                exact ⟨V0.heap.size, V3.heap.size, xu, cu, xv, cv, V1.heap.size, V2.heap.size, V2.heap.size, V3.heap.size, rfl, rfl, HZ3.out, HZ4.out, HRu.out, HSu.out, HRv.out, HSv.out, HG9.out, HW10.out _ (by omega), by omega, by omega, by omega, by omega, by omega, by omega⟩
                            exact AllReadyH.nil
                        exact AllReadyH.nil
                    exact AllReadyH.nil
                refine AllReadyH.cons (o := { dst := some 4, op := Op.alloc 28, type := 0, pos := "law.go:99", after := #[], guard := none }) rfl (fun K hK => ?_) ?_
                · go_simp
                  refine hK.out _ _ (HKEEP.out _ (HG9.out.trans (Gr.new V2 (.cells #[.int .i64 0, .bool false, .slice none 0 0] 28)))) (fun hHeld => ?_)
                  clear hK K
                  (try simp only [Act.put, List.setIfInBounds_toArray, List.set_cons_zero, List.set_cons_succ])
                  obtain ⟨V3, hV⟩ : ∃ V : World, V = V2.alloc (.cells #[.int .i64 0, .bool false, .slice none 0 0] 28) := ⟨_, rfl⟩
                  rw [← hV]
                  have hgn : Gr V2 V3 := by rw [hV]; exact Gr.new V2 (.cells #[.int .i64 0, .bool false, .slice none 0 0] 28)
                  have HZ4 := Lib.hid (show Blk V3 V2.heap.size 28 #[.int .i64 0, .bool false, .slice none 0 0] by rw [hV]; exact Blk.new V2 28 #[.int .i64 0, .bool false, .slice none 0 0])
                  have HN3 := Lib.hid (show V3.heap.size = V2.heap.size + 1 by rw [hV]; simp)
                  have HLE4 := Lib.hid HG9.out.size
                  replace HG9 := Lib.hid (HG9.out.trans hgn)
                  replace HZ3 := Lib.hid (HZ3.out.gr hgn)
                  replace HRu := Lib.hid (HRu.out.later hgn)
                  replace HSu := Lib.hid (HSu.out.gr hgn)
                  clear hV hgn hHeld
                  as_aux_lemma =>
                    refine wpAnyH_ready (rs := [5]) (by kernel_rfl) (by simp) ?_
                    refine AllReadyH.cons (o := { dst := some 25, op := Op.call { callee := Callee.value (Operand.func 13), args := #[Operand.tmp 24], argTypes := #[28] }, type := 28, pos := "law.go:99", after := #[{ on := 4, ground := Ground.data }, { on := 2, ground := Ground.chain }], guard := none }) rfl (fun K hK => ?_) ?_
                    · go_simp
                      go_at_call 13
                      refine (HLV.out V3 HG9.out).mono ?_
                      rintro e V4 ⟨xv, cv, rfl, hr8, hs8, hg8⟩
                      go_wp2_with fail
                      refine hK.out _ _ (HKEEP.out _ (HG9.out.trans hg8)) (fun hHeld => ?_)
                      clear hK K
                      (try simp only [Act.put, List.setIfInBounds_toArray, List.set_cons_zero, List.set_cons_succ])
                      have HRv := Lib.hid hr8
                      have HSv := Lib.hid hs8
                      have HN4 := Lib.hid hg8.size
                      replace HG9 := Lib.hid (HG9.out.trans hg8)
                      replace HZ3 := Lib.hid (HZ3.out.gr hg8)
                      replace HZ4 := Lib.hid (HZ4.out.gr hg8)
                      replace HRu := Lib.hid (HRu.out.later hg8)
                      replace HSu := Lib.hid (HSu.out.gr hg8)
                      clear hr8 hs8 hg8 hHeld
                      as_aux_lemma =>
                        refine wpAnyH_ready (rs := [8]) (by kernel_rfl) (by simp) ?_
                        refine AllReadyH.cons (o := { dst := none, op := Op.store 28 (Operand.tmp 3) (Operand.tmp 22), type := 0, pos := "law.go:99", after := #[{ on := 6, ground := Ground.data }, { on := 2, ground := Ground.data }, { on := 5, ground := Ground.chain }, { on := 0, ground := Ground.phase }, { on := 1, ground := Ground.phase }, { on := 2, ground := Ground.phase }, { on := 3, ground := Ground.textOnly Departure.lateStores }, { on := 4, ground := Ground.textOnly Departure.lateStores }, { on := 5, ground := Ground.textOnly Departure.lateStoresUnsure }, { on := 6, ground := Ground.phase }, { on := 7, ground := Ground.phase }], guard := none }) rfl (fun K hK => ?_) ?_
                        · obtain ⟨e0, e1, e2⟩ := HZ3.out.p3
                          obtain ⟨f0, f1, f2⟩ := HZ3.out.f3
                          go_simp
                          clear e0 e1 e2 f0 f1 f2
                          refine hK.out _ _ (HKEEP.out _ (((HG9.out.setCell (p := ⟨V0.heap.size, 0, none⟩) HLE3.out _).setCell (p := ⟨V0.heap.size, 1, none⟩) HLE3.out _).setCell (p := ⟨V0.heap.size, 2, none⟩) HLE3.out _)) (fun hHeld => ?_)
                          clear hK K
                          (try simp only [Act.put, List.setIfInBounds_toArray, List.set_cons_zero, List.set_cons_succ])
                          obtain ⟨V5, hV⟩ : ∃ V : World, V = (((V4.setCell ⟨V0.heap.size, 0, none⟩ (.int .i64 lvA)).setCell ⟨V0.heap.size, 1, none⟩ (.bool spA)).setCell ⟨V0.heap.size, 2, none⟩ (.slice xu nA cu)) := ⟨_, rfl⟩
                          rw [← hV]
                          have hov : Ov V0.heap.size (V0.heap.size + 1) V4 V5 := by rw [hV]; exact (((Ov.refl _).set (Nat.le_refl _) (Nat.lt_succ_self _) _).set (Nat.le_refl _) (Nat.lt_succ_self _) _).set (Nat.le_refl _) (Nat.lt_succ_self _) _
                          have hz : Blk V5 (V0.heap.size) 28 #[.int .i64 lvA, .bool spA, .slice xu nA cu] := by rw [hV]; exact ((HZ3.out.set 0 (.int .i64 lvA)).set 1 (.bool spA)).set 2 (.slice xu nA cu)
                          replace HZ3 := Lib.hid hz
                          have hgn : Gr w1 V5 := hov.of_gr HG9.out HLE3.out
                          replace HG9 := Lib.hid hgn
                          have HN5 := Lib.hid hov.size
                          replace HZ4 := Lib.hid (hov.blk HZ4.out (by have s0 := HN0.out; have s1 := HN1.out; have s2 := HN2.out; have s3 := HN3.out; have s4 := HN4.out; omega))
                          replace HRu := Lib.hid (hov.hasB HRu.out (by have s0 := HN0.out; have s1 := HN1.out; have s2 := HN2.out; have s3 := HN3.out; have s4 := HN4.out; omega))
                          replace HSu := Lib.hid (hov.spR HSu.out (by have s0 := HN0.out; have s1 := HN1.out; have s2 := HN2.out; have s3 := HN3.out; have s4 := HN4.out; omega))
                          replace HRv := Lib.hid (hov.hasB HRv.out (by have s0 := HN0.out; have s1 := HN1.out; have s2 := HN2.out; have s3 := HN3.out; have s4 := HN4.out; omega))
                          replace HSv := Lib.hid (hov.spR HSv.out (by have s0 := HN0.out; have s1 := HN1.out; have s2 := HN2.out; have s3 := HN3.out; have s4 := HN4.out; omega))
                          clear hV hov hz hgn hHeld
                          as_aux_lemma =>
                            refine wpAnyH_ready (rs := [9]) (by kernel_rfl) (by simp) ?_
                            refine AllReadyH.cons (o := { dst := none, op := Op.store 28 (Operand.tmp 4) (Operand.tmp 25), type := 0, pos := "law.go:99", after := #[{ on := 7, ground := Ground.data }, { on := 5, ground := Ground.data }, { on := 8, ground := Ground.chain }, { on := 0, ground := Ground.phase }, { on := 1, ground := Ground.phase }, { on := 2, ground := Ground.phase }, { on := 3, ground := Ground.phase }, { on := 4, ground := Ground.phase }, { on := 5, ground := Ground.phase }, { on := 6, ground := Ground.phase }, { on := 7, ground := Ground.phase }, { on := 8, ground := Ground.phase }], guard := none }) rfl (fun K hK => ?_) ?_
                            · obtain ⟨e0, e1, e2⟩ := HZ4.out.p3
                              obtain ⟨f0, f1, f2⟩ := HZ4.out.f3
                              go_simp
                              clear e0 e1 e2 f0 f1 f2
                              refine hK.out _ _ (HKEEP.out _ (((HG9.out.setCell (p := ⟨V2.heap.size, 0, none⟩) HLE4.out _).setCell (p := ⟨V2.heap.size, 1, none⟩) HLE4.out _).setCell (p := ⟨V2.heap.size, 2, none⟩) HLE4.out _)) (fun hHeld => ?_)
                              clear hK K
                              (try simp only [Act.put, List.setIfInBounds_toArray, List.set_cons_zero, List.set_cons_succ])
                              obtain ⟨V6, hV⟩ : ∃ V : World, V = (((V5.setCell ⟨V2.heap.size, 0, none⟩ (.int .i64 lvB)).setCell ⟨V2.heap.size, 1, none⟩ (.bool spB)).setCell ⟨V2.heap.size, 2, none⟩ (.slice xv nB cv)) := ⟨_, rfl⟩
                              rw [← hV]
                              have hov : Ov V2.heap.size (V2.heap.size + 1) V5 V6 := by rw [hV]; exact (((Ov.refl _).set (Nat.le_refl _) (Nat.lt_succ_self _) _).set (Nat.le_refl _) (Nat.lt_succ_self _) _).set (Nat.le_refl _) (Nat.lt_succ_self _) _
                              have hz : Blk V6 (V2.heap.size) 28 #[.int .i64 lvB, .bool spB, .slice xv nB cv] := by rw [hV]; exact ((HZ4.out.set 0 (.int .i64 lvB)).set 1 (.bool spB)).set 2 (.slice xv nB cv)
                              replace HZ4 := Lib.hid hz
                              have hgn : Gr w1 V6 := hov.of_gr HG9.out HLE4.out
                              replace HG9 := Lib.hid hgn
                              have HN6 := Lib.hid hov.size
                              replace HZ3 := Lib.hid (hov.blk HZ3.out (by have s0 := HN0.out; have s1 := HN1.out; have s2 := HN2.out; have s3 := HN3.out; have s4 := HN4.out; have s5 := HN5.out; omega))
                              replace HRu := Lib.hid (hov.hasB HRu.out (by have s0 := HN0.out; have s1 := HN1.out; have s2 := HN2.out; have s3 := HN3.out; have s4 := HN4.out; have s5 := HN5.out; omega))
                              replace HSu := Lib.hid (hov.spR HSu.out (by have s0 := HN0.out; have s1 := HN1.out; have s2 := HN2.out; have s3 := HN3.out; have s4 := HN4.out; have s5 := HN5.out; omega))
                              replace HRv := Lib.hid (hov.hasB HRv.out (by have s0 := HN0.out; have s1 := HN1.out; have s2 := HN2.out; have s3 := HN3.out; have s4 := HN4.out; have s5 := HN5.out; omega))
                              replace HSv := Lib.hid (hov.spR HSv.out (by have s0 := HN0.out; have s1 := HN1.out; have s2 := HN2.out; have s3 := HN3.out; have s4 := HN4.out; have s5 := HN5.out; omega))
                              clear hV hov hz hgn hHeld
                              as_aux_lemma =>
                                refine wpAnyH_done (by kernel_rfl) ?_ _
                                have s0 := HN0.out
                                have s1 := HN1.out
                                have s2 := HN2.out
                                have s3 := HN3.out
                                have s4 := HN4.out
                                have s5 := HN5.out
                                have s6 := HN6.out
                                have s90 := HLE3.out
                                have s91 := HLE4.out
                                have s92 := HG9.out.size
                                clear HKEEP
                                go_wp2_with fail
                                go_meet
                                exact ⟨V0.heap.size, V2.heap.size, xu, cu, xv, cv, V1.heap.size, V2.heap.size, V3.heap.size, V4.heap.size, rfl, rfl, HZ3.out, HZ4.out, HRu.out, HSu.out, HRv.out, HSv.out, HG9.out, HW10.out _ (by omega), by omega, by omega, by omega, by omega, by omega, by omega⟩
                            exact AllReadyH.nil
                        exact AllReadyH.nil
                    exact AllReadyH.nil
                exact AllReadyH.nil
            refine AllReadyH.cons (o := { dst := some 4, op := Op.alloc 28, type := 0, pos := "law.go:99", after := #[], guard := none }) rfl (fun K hK => ?_) ?_
            · go_simp
              refine hK.out _ _ (HKEEP.out _ (HG9.out.trans (Gr.new V1 (.cells #[.int .i64 0, .bool false, .slice none 0 0] 28)))) (fun hHeld => ?_)
              clear hK K
              (try simp only [Act.put, List.setIfInBounds_toArray, List.set_cons_zero, List.set_cons_succ])
              obtain ⟨V2, hV⟩ : ∃ V : World, V = V1.alloc (.cells #[.int .i64 0, .bool false, .slice none 0 0] 28) := ⟨_, rfl⟩
              rw [← hV]
              have hgn : Gr V1 V2 := by rw [hV]; exact Gr.new V1 (.cells #[.int .i64 0, .bool false, .slice none 0 0] 28)
              have HZ4 := Lib.hid (show Blk V2 V1.heap.size 28 #[.int .i64 0, .bool false, .slice none 0 0] by rw [hV]; exact Blk.new V1 28 #[.int .i64 0, .bool false, .slice none 0 0])
              have HN2 := Lib.hid (show V2.heap.size = V1.heap.size + 1 by rw [hV]; simp)
              have HLE4 := Lib.hid HG9.out.size
              replace HG9 := Lib.hid (HG9.out.trans hgn)
              replace HZ3 := Lib.hid (HZ3.out.gr hgn)
              clear hV hgn hHeld
              as_aux_lemma =>
                refine wpAnyH_ready (rs := [2]) (by kernel_rfl) (by simp) ?_
                refine AllReadyH.cons (o := { dst := some 22, op := Op.call { callee := Callee.value (Operand.func 13), args := #[Operand.tmp 21], argTypes := #[28] }, type := 28, pos := "law.go:99", after := #[{ on := 1, ground := Ground.data }], guard := none }) rfl (fun K hK => ?_) ?_
                · go_simp
                  go_at_call 13
                  refine (HLU.out V2 HG9.out).mono ?_
                  rintro e V3 ⟨xu, cu, rfl, hr8, hs8, hg8⟩
                  go_wp2_with fail
                  refine hK.out _ _ (HKEEP.out _ (HG9.out.trans hg8)) (fun hHeld => ?_)
                  clear hK K
                  (try simp only [Act.put, List.setIfInBounds_toArray, List.set_cons_zero, List.set_cons_succ])
                  have HRu := Lib.hid hr8
                  have HSu := Lib.hid hs8
                  have HN3 := Lib.hid hg8.size
                  replace HG9 := Lib.hid (HG9.out.trans hg8)
                  replace HZ3 := Lib.hid (HZ3.out.gr hg8)
                  replace HZ4 := Lib.hid (HZ4.out.gr hg8)
                  clear hr8 hs8 hg8 hHeld
                  as_aux_lemma =>
                    refine wpAnyH_ready (rs := [5]) (by kernel_rfl) (by simp) ?_
                    refine AllReadyH.cons (o := { dst := some 25, op := Op.call { callee := Callee.value (Operand.func 13), args := #[Operand.tmp 24], argTypes := #[28] }, type := 28, pos := "law.go:99", after := #[{ on := 4, ground := Ground.data }, { on := 2, ground := Ground.chain }], guard := none }) rfl (fun K hK => ?_) ?_
                    · go_simp
                      go_at_call 13
                      refine (HLV.out V3 HG9.out).mono ?_
                      rintro e V4 ⟨xv, cv, rfl, hr8, hs8, hg8⟩
                      go_wp2_with fail
                      refine hK.out _ _ (HKEEP.out _ (HG9.out.trans hg8)) (fun hHeld => ?_)
                      clear hK K
                      (try simp only [Act.put, List.setIfInBounds_toArray, List.set_cons_zero, List.set_cons_succ])
                      have HRv := Lib.hid hr8
                      have HSv := Lib.hid hs8
                      have HN4 := Lib.hid hg8.size
                      replace HG9 := Lib.hid (HG9.out.trans hg8)
                      replace HZ3 := Lib.hid (HZ3.out.gr hg8)
                      replace HZ4 := Lib.hid (HZ4.out.gr hg8)
                      replace HRu := Lib.hid (HRu.out.later hg8)
                      replace HSu := Lib.hid (HSu.out.gr hg8)
                      clear hr8 hs8 hg8 hHeld
                      as_aux_lemma =>
                        refine wpAnyH_ready (rs := [8]) (by kernel_rfl) (by simp) ?_
                        refine AllReadyH.cons (o := { dst := none, op := Op.store 28 (Operand.tmp 3) (Operand.tmp 22), type := 0, pos := "law.go:99", after := #[{ on := 6, ground := Ground.data }, { on := 2, ground := Ground.data }, { on := 5, ground := Ground.chain }, { on := 0, ground := Ground.phase }, { on := 1, ground := Ground.phase }, { on := 2, ground := Ground.phase }, { on := 3, ground := Ground.textOnly Departure.lateStores }, { on := 4, ground := Ground.textOnly Departure.lateStores }, { on := 5, ground := Ground.textOnly Departure.lateStoresUnsure }, { on := 6, ground := Ground.phase }, { on := 7, ground := Ground.phase }], guard := none }) rfl (fun K hK => ?_) ?_
                        · obtain ⟨e0, e1, e2⟩ := HZ3.out.p3
                          obtain ⟨f0, f1, f2⟩ := HZ3.out.f3
                          go_simp
                          clear e0 e1 e2 f0 f1 f2
                          refine hK.out _ _ (HKEEP.out _ (((HG9.out.setCell (p := ⟨V0.heap.size, 0, none⟩) HLE3.out _).setCell (p := ⟨V0.heap.size, 1, none⟩) HLE3.out _).setCell (p := ⟨V0.heap.size, 2, none⟩) HLE3.out _)) (fun hHeld => ?_)
                          clear hK K
                          (try simp only [Act.put, List.setIfInBounds_toArray, List.set_cons_zero, List.set_cons_succ])
                          obtain ⟨V5, hV⟩ : ∃ V : World, V = (((V4.setCell ⟨V0.heap.size, 0, none⟩ (.int .i64 lvA)).setCell ⟨V0.heap.size, 1, none⟩ (.bool spA)).setCell ⟨V0.heap.size, 2, none⟩ (.slice xu nA cu)) := ⟨_, rfl⟩
                          rw [← hV]
                          have hov : Ov V0.heap.size (V0.heap.size + 1) V4 V5 := by rw [hV]; exact (((Ov.refl _).set (Nat.le_refl _) (Nat.lt_succ_self _) _).set (Nat.le_refl _) (Nat.lt_succ_self _) _).set (Nat.le_refl _) (Nat.lt_succ_self _) _
                          have hz : Blk V5 (V0.heap.size) 28 #[.int .i64 lvA, .bool spA, .slice xu nA cu] := by rw [hV]; exact ((HZ3.out.set 0 (.int .i64 lvA)).set 1 (.bool spA)).set 2 (.slice xu nA cu)
                          replace HZ3 := Lib.hid hz
                          have hgn : Gr w1 V5 := hov.of_gr HG9.out HLE3.out
                          replace HG9 := Lib.hid hgn
                          have HN5 := Lib.hid hov.size
                          replace HZ4 := Lib.hid (hov.blk HZ4.out (by have s0 := HN0.out; have s1 := HN1.out; have s2 := HN2.out; have s3 := HN3.out; have s4 := HN4.out; omega))
                          replace HRu := Lib.hid (hov.hasB HRu.out (by have s0 := HN0.out; have s1 := HN1.out; have s2 := HN2.out; have s3 := HN3.out; have s4 := HN4.out; omega))
                          replace HSu := Lib.hid (hov.spR HSu.out (by have s0 := HN0.out; have s1 := HN1.out; have s2 := HN2.out; have s3 := HN3.out; have s4 := HN4.out; omega))
                          replace HRv := Lib.hid (hov.hasB HRv.out (by have s0 := HN0.out; have s1 := HN1.out; have s2 := HN2.out; have s3 := HN3.out; have s4 := HN4.out; omega))
                          replace HSv := Lib.hid (hov.spR HSv.out (by have s0 := HN0.out; have s1 := HN1.out; have s2 := HN2.out; have s3 := HN3.out; have s4 := HN4.out; omega))
                          clear hV hov hz hgn hHeld
                          as_aux_lemma =>
                            refine wpAnyH_ready (rs := [9]) (by kernel_rfl) (by simp) ?_
                            refine AllReadyH.cons (o := { dst := none, op := Op.store 28 (Operand.tmp 4) (Operand.tmp 25), type := 0, pos := "law.go:99", after := #[{ on := 7, ground := Ground.data }, { on := 5, ground := Ground.data }, { on := 8, ground := Ground.chain }, { on := 0, ground := Ground.phase }, { on := 1, ground := Ground.phase }, { on := 2, ground := Ground.phase }, { on := 3, ground := Ground.phase }, { on := 4, ground := Ground.phase }, { on := 5, ground := Ground.phase }, { on := 6, ground := Ground.phase }, { on := 7, ground := Ground.phase }, { on := 8, ground := Ground.phase }], guard := none }) rfl (fun K hK => ?_) ?_
                            · obtain ⟨e0, e1, e2⟩ := HZ4.out.p3
                              obtain ⟨f0, f1, f2⟩ := HZ4.out.f3
                              go_simp
                              clear e0 e1 e2 f0 f1 f2
                              refine hK.out _ _ (HKEEP.out _ (((HG9.out.setCell (p := ⟨V1.heap.size, 0, none⟩) HLE4.out _).setCell (p := ⟨V1.heap.size, 1, none⟩) HLE4.out _).setCell (p := ⟨V1.heap.size, 2, none⟩) HLE4.out _)) (fun hHeld => ?_)
                              clear hK K
                              (try simp only [Act.put, List.setIfInBounds_toArray, List.set_cons_zero, List.set_cons_succ])
                              obtain ⟨V6, hV⟩ : ∃ V : World, V = (((V5.setCell ⟨V1.heap.size, 0, none⟩ (.int .i64 lvB)).setCell ⟨V1.heap.size, 1, none⟩ (.bool spB)).setCell ⟨V1.heap.size, 2, none⟩ (.slice xv nB cv)) := ⟨_, rfl⟩
                              rw [← hV]
                              have hov : Ov V1.heap.size (V1.heap.size + 1) V5 V6 := by rw [hV]; exact (((Ov.refl _).set (Nat.le_refl _) (Nat.lt_succ_self _) _).set (Nat.le_refl _) (Nat.lt_succ_self _) _).set (Nat.le_refl _) (Nat.lt_succ_self _) _
                              have hz : Blk V6 (V1.heap.size) 28 #[.int .i64 lvB, .bool spB, .slice xv nB cv] := by rw [hV]; exact ((HZ4.out.set 0 (.int .i64 lvB)).set 1 (.bool spB)).set 2 (.slice xv nB cv)
                              replace HZ4 := Lib.hid hz
                              have hgn : Gr w1 V6 := hov.of_gr HG9.out HLE4.out
                              replace HG9 := Lib.hid hgn
                              have HN6 := Lib.hid hov.size
                              replace HZ3 := Lib.hid (hov.blk HZ3.out (by have s0 := HN0.out; have s1 := HN1.out; have s2 := HN2.out; have s3 := HN3.out; have s4 := HN4.out; have s5 := HN5.out; omega))
                              replace HRu := Lib.hid (hov.hasB HRu.out (by have s0 := HN0.out; have s1 := HN1.out; have s2 := HN2.out; have s3 := HN3.out; have s4 := HN4.out; have s5 := HN5.out; omega))
                              replace HSu := Lib.hid (hov.spR HSu.out (by have s0 := HN0.out; have s1 := HN1.out; have s2 := HN2.out; have s3 := HN3.out; have s4 := HN4.out; have s5 := HN5.out; omega))
                              replace HRv := Lib.hid (hov.hasB HRv.out (by have s0 := HN0.out; have s1 := HN1.out; have s2 := HN2.out; have s3 := HN3.out; have s4 := HN4.out; have s5 := HN5.out; omega))
                              replace HSv := Lib.hid (hov.spR HSv.out (by have s0 := HN0.out; have s1 := HN1.out; have s2 := HN2.out; have s3 := HN3.out; have s4 := HN4.out; have s5 := HN5.out; omega))
                              clear hV hov hz hgn hHeld
                              as_aux_lemma =>
                                refine wpAnyH_done (by kernel_rfl) ?_ _
                                have s0 := HN0.out
                                have s1 := HN1.out
                                have s2 := HN2.out
                                have s3 := HN3.out
                                have s4 := HN4.out
                                have s5 := HN5.out
                                have s6 := HN6.out
                                have s90 := HLE3.out
                                have s91 := HLE4.out
                                have s92 := HG9.out.size
                                clear HKEEP
                                go_wp2_with fail
                                go_meet
                                exact ⟨V0.heap.size, V1.heap.size, xu, cu, xv, cv, V2.heap.size, V3.heap.size, V3.heap.size, V4.heap.size, rfl, rfl, HZ3.out, HZ4.out, HRu.out, HSu.out, HRv.out, HSv.out, HG9.out, HW10.out _ (by omega), by omega, by omega, by omega, by omega, by omega, by omega⟩
                            exact AllReadyH.nil
                        exact AllReadyH.nil
                    exact AllReadyH.nil
                exact AllReadyH.nil
            exact AllReadyH.nil
        refine AllReadyH.cons (o := { dst := some 4, op := Op.alloc 28, type := 0, pos := "law.go:99", after := #[], guard := none }) rfl (fun K hK => ?_) ?_
        · go_simp
          refine hK.out _ _ (HKEEP.out _ (HG9.out.trans (Gr.new V0 (.cells #[.int .i64 0, .bool false, .slice none 0 0] 28)))) (fun hHeld => ?_)
          clear hK K
          (try simp only [Act.put, List.setIfInBounds_toArray, List.set_cons_zero, List.set_cons_succ])
          obtain ⟨V1, hV⟩ : ∃ V : World, V = V0.alloc (.cells #[.int .i64 0, .bool false, .slice none 0 0] 28) := ⟨_, rfl⟩
          rw [← hV]
          have hgn : Gr V0 V1 := by rw [hV]; exact Gr.new V0 (.cells #[.int .i64 0, .bool false, .slice none 0 0] 28)
          have HZ4 := Lib.hid (show Blk V1 V0.heap.size 28 #[.int .i64 0, .bool false, .slice none 0 0] by rw [hV]; exact Blk.new V0 28 #[.int .i64 0, .bool false, .slice none 0 0])
          have HN1 := Lib.hid (show V1.heap.size = V0.heap.size + 1 by rw [hV]; simp)
          have HLE4 := Lib.hid HG9.out.size
          replace HG9 := Lib.hid (HG9.out.trans hgn)
          clear hV hgn hHeld
          as_aux_lemma =>
            refine wpAnyH_ready (rs := [2, 6]) (by kernel_rfl) (by simp) ?_
            refine AllReadyH.cons (o := { dst := some 22, op := Op.call { callee := Callee.value (Operand.func 13), args := #[Operand.tmp 21], argTypes := #[28] }, type := 28, pos := "law.go:99", after := #[{ on := 1, ground := Ground.data }], guard := none }) rfl (fun K hK => ?_) ?_
            · go_simp
              go_at_call 13
              refine (HLU.out V1 HG9.out).mono ?_
              rintro e V2 ⟨xu, cu, rfl, hr8, hs8, hg8⟩
              go_wp2_with fail
              refine hK.out _ _ (HKEEP.out _ (HG9.out.trans hg8)) (fun hHeld => ?_)
              clear hK K
              (try simp only [Act.put, List.setIfInBounds_toArray, List.set_cons_zero, List.set_cons_succ])
              have HRu := Lib.hid hr8
              have HSu := Lib.hid hs8
              have HN2 := Lib.hid hg8.size
              replace HG9 := Lib.hid (HG9.out.trans hg8)
              replace HZ4 := Lib.hid (HZ4.out.gr hg8)
              clear hr8 hs8 hg8 hHeld
              as_aux_lemma =>
                refine wpAnyH_ready (rs := [5, 6]) (by kernel_rfl) (by simp) ?_
                refine AllReadyH.cons (o := { dst := some 25, op := Op.call { callee := Callee.value (Operand.func 13), args := #[Operand.tmp 24], argTypes := #[28] }, type := 28, pos := "law.go:99", after := #[{ on := 4, ground := Ground.data }, { on := 2, ground := Ground.chain }], guard := none }) rfl (fun K hK => ?_) ?_
                · go_simp
                  go_at_call 13
                  refine (HLV.out V2 HG9.out).mono ?_
                  rintro e V3 ⟨xv, cv, rfl, hr8, hs8, hg8⟩
                  go_wp2_with fail
                  refine hK.out _ _ (HKEEP.out _ (HG9.out.trans hg8)) (fun hHeld => ?_)
                  clear hK K
                  (try simp only [Act.put, List.setIfInBounds_toArray, List.set_cons_zero, List.set_cons_succ])
                  have HRv := Lib.hid hr8
                  have HSv := Lib.hid hs8
                  have HN3 := Lib.hid hg8.size
                  replace HG9 := Lib.hid (HG9.out.trans hg8)
                  replace HZ4 := Lib.hid (HZ4.out.gr hg8)
                  replace HRu := Lib.hid (HRu.out.later hg8)
                  replace HSu := Lib.hid (HSu.out.gr hg8)
                  clear hr8 hs8 hg8 hHeld
                  as_aux_lemma =>
                    refine wpAnyH_ready (rs := [6]) (by kernel_rfl) (by simp) ?_
                    refine AllReadyH.cons (o := { dst := some 3, op := Op.alloc 28, type := 0, pos := "law.go:99", after := #[], guard := none }) rfl (fun K hK => ?_) ?_
                    · go_simp
                      refine hK.out _ _ (HKEEP.out _ (HG9.out.trans (Gr.new V3 (.cells #[.int .i64 0, .bool false, .slice none 0 0] 28)))) (fun hHeld => ?_)
                      clear hK K
                      (try simp only [Act.put, List.setIfInBounds_toArray, List.set_cons_zero, List.set_cons_succ])
                      obtain ⟨V4, hV⟩ : ∃ V : World, V = V3.alloc (.cells #[.int .i64 0, .bool false, .slice none 0 0] 28) := ⟨_, rfl⟩
                      rw [← hV]
                      have hgn : Gr V3 V4 := by rw [hV]; exact Gr.new V3 (.cells #[.int .i64 0, .bool false, .slice none 0 0] 28)
                      have HZ3 := Lib.hid (show Blk V4 V3.heap.size 28 #[.int .i64 0, .bool false, .slice none 0 0] by rw [hV]; exact Blk.new V3 28 #[.int .i64 0, .bool false, .slice none 0 0])
                      have HN4 := Lib.hid (show V4.heap.size = V3.heap.size + 1 by rw [hV]; simp)
                      have HLE3 := Lib.hid HG9.out.size
                      replace HG9 := Lib.hid (HG9.out.trans hgn)
                      replace HZ4 := Lib.hid (HZ4.out.gr hgn)
                      replace HRu := Lib.hid (HRu.out.later hgn)
                      replace HSu := Lib.hid (HSu.out.gr hgn)
                      replace HRv := Lib.hid (HRv.out.later hgn)
                      replace HSv := Lib.hid (HSv.out.gr hgn)
                      clear hV hgn hHeld
                      as_aux_lemma =>
                        refine wpAnyH_ready (rs := [8]) (by kernel_rfl) (by simp) ?_
                        refine AllReadyH.cons (o := { dst := none, op := Op.store 28 (Operand.tmp 3) (Operand.tmp 22), type := 0, pos := "law.go:99", after := #[{ on := 6, ground := Ground.data }, { on := 2, ground := Ground.data }, { on := 5, ground := Ground.chain }, { on := 0, ground := Ground.phase }, { on := 1, ground := Ground.phase }, { on := 2, ground := Ground.phase }, { on := 3, ground := Ground.textOnly Departure.lateStores }, { on := 4, ground := Ground.textOnly Departure.lateStores }, { on := 5, ground := Ground.textOnly Departure.lateStoresUnsure }, { on := 6, ground := Ground.phase }, { on := 7, ground := Ground.phase }], guard := none }) rfl (fun K hK => ?_) ?_
                        · obtain ⟨e0, e1, e2⟩ := HZ3.out.p3
                          obtain ⟨f0, f1, f2⟩ := HZ3.out.f3
                          go_simp
                          clear e0 e1 e2 f0 f1 f2
                          refine hK.out _ _ (HKEEP.out _ (((HG9.out.setCell (p := ⟨V3.heap.size, 0, none⟩) HLE3.out _).setCell (p := ⟨V3.heap.size, 1, none⟩) HLE3.out _).setCell (p := ⟨V3.heap.size, 2, none⟩) HLE3.out _)) (fun hHeld => ?_)
                          clear hK K
                          (try simp only [Act.put, List.setIfInBounds_toArray, List.set_cons_zero, List.set_cons_succ])
                          obtain ⟨V5, hV⟩ : ∃ V : World, V = (((V4.setCell ⟨V3.heap.size, 0, none⟩ (.int .i64 lvA)).setCell ⟨V3.heap.size, 1, none⟩ (.bool spA)).setCell ⟨V3.heap.size, 2, none⟩ (.slice xu nA cu)) := ⟨_, rfl⟩
                          rw [← hV]
                          have hov : Ov V3.heap.size (V3.heap.size + 1) V4 V5 := by rw [hV]; exact (((Ov.refl _).set (Nat.le_refl _) (Nat.lt_succ_self _) _).set (Nat.le_refl _) (Nat.lt_succ_self _) _).set (Nat.le_refl _) (Nat.lt_succ_self _) _
                          have hz : Blk V5 (V3.heap.size) 28 #[.int .i64 lvA, .bool spA, .slice xu nA cu] := by rw [hV]; exact ((HZ3.out.set 0 (.int .i64 lvA)).set 1 (.bool spA)).set 2 (.slice xu nA cu)
                          replace HZ3 := Lib.hid hz
                          have hgn : Gr w1 V5 := hov.of_gr HG9.out HLE3.out
                          replace HG9 := Lib.hid hgn
                          have HN5 := Lib.hid hov.size
                          replace HZ4 := Lib.hid (hov.blk HZ4.out (by have s0 := HN0.out; have s1 := HN1.out; have s2 := HN2.out; have s3 := HN3.out; have s4 := HN4.out; omega))
                          replace HRu := Lib.hid (hov.hasB HRu.out (by have s0 := HN0.out; have s1 := HN1.out; have s2 := HN2.out; have s3 := HN3.out; have s4 := HN4.out; omega))
                          replace HSu := Lib.hid (hov.spR HSu.out (by have s0 := HN0.out; have s1 := HN1.out; have s2 := HN2.out; have s3 := HN3.out; have s4 := HN4.out; omega))
                          replace HRv := Lib.hid (hov.hasB HRv.out (by have s0 := HN0.out; have s1 := HN1.out; have s2 := HN2.out; have s3 := HN3.out; have s4 := HN4.out; omega))
                          replace HSv := Lib.hid (hov.spR HSv.out (by have s0 := HN0.out; have s1 := HN1.out; have s2 := HN2.out; have s3 := HN3.out; have s4 := HN4.out; omega))
                          clear hV hov hz hgn hHeld
                          as_aux_lemma =>
                            refine wpAnyH_ready (rs := [9]) (by kernel_rfl) (by simp) ?_
                            refine AllReadyH.cons (o := { dst := none, op := Op.store 28 (Operand.tmp 4) (Operand.tmp 25), type := 0, pos := "law.go:99", after := #[{ on := 7, ground := Ground.data }, { on := 5, ground := Ground.data }, { on := 8, ground := Ground.chain }, { on := 0, ground := Ground.phase }, { on := 1, ground := Ground.phase }, { on := 2, ground := Ground.phase }, { on := 3, ground := Ground.phase }, { on := 4, ground := Ground.phase }, { on := 5, ground := Ground.phase }, { on := 6, ground := Ground.phase }, { on := 7, ground := Ground.phase }, { on := 8, ground := Ground.phase }], guard := none }) rfl (fun K hK => ?_) ?_
                            · obtain ⟨e0, e1, e2⟩ := HZ4.out.p3
                              obtain ⟨f0, f1, f2⟩ := HZ4.out.f3
                              go_simp
                              clear e0 e1 e2 f0 f1 f2
                              refine hK.out _ _ (HKEEP.out _ (((HG9.out.setCell (p := ⟨V0.heap.size, 0, none⟩) HLE4.out _).setCell (p := ⟨V0.heap.size, 1, none⟩) HLE4.out _).setCell (p := ⟨V0.heap.size, 2, none⟩) HLE4.out _)) (fun hHeld => ?_)
                              clear hK K
                              (try simp only [Act.put, List.setIfInBounds_toArray, List.set_cons_zero, List.set_cons_succ])
                              obtain ⟨V6, hV⟩ : ∃ V : World, V = (((V5.setCell ⟨V0.heap.size, 0, none⟩ (.int .i64 lvB)).setCell ⟨V0.heap.size, 1, none⟩ (.bool spB)).setCell ⟨V0.heap.size, 2, none⟩ (.slice xv nB cv)) := ⟨_, rfl⟩
                              rw [← hV]
                              have hov : Ov V0.heap.size (V0.heap.size + 1) V5 V6 := by rw [hV]; exact (((Ov.refl _).set (Nat.le_refl _) (Nat.lt_succ_self _) _).set (Nat.le_refl _) (Nat.lt_succ_self _) _).set (Nat.le_refl _) (Nat.lt_succ_self _) _
                              have hz : Blk V6 (V0.heap.size) 28 #[.int .i64 lvB, .bool spB, .slice xv nB cv] := by rw [hV]; exact ((HZ4.out.set 0 (.int .i64 lvB)).set 1 (.bool spB)).set 2 (.slice xv nB cv)
                              replace HZ4 := Lib.hid hz
                              have hgn : Gr w1 V6 := hov.of_gr HG9.out HLE4.out
                              replace HG9 := Lib.hid hgn
                              have HN6 := Lib.hid hov.size
                              replace HZ3 := Lib.hid (hov.blk HZ3.out (by have s0 := HN0.out; have s1 := HN1.out; have s2 := HN2.out; have s3 := HN3.out; have s4 := HN4.out; have s5 := HN5.out; omega))
                              replace HRu := Lib.hid (hov.hasB HRu.out (by have s0 := HN0.out; have s1 := HN1.out; have s2 := HN2.out; have s3 := HN3.out; have s4 := HN4.out; have s5 := HN5.out; omega))
                              replace HSu := Lib.hid (hov.spR HSu.out (by have s0 := HN0.out; have s1 := HN1.out; have s2 := HN2.out; have s3 := HN3.out; have s4 := HN4.out; have s5 := HN5.out; omega))
                              replace HRv := Lib.hid (hov.hasB HRv.out (by have s0 := HN0.out; have s1 := HN1.out; have s2 := HN2.out; have s3 := HN3.out; have s4 := HN4.out; have s5 := HN5.out; omega))
                              replace HSv := Lib.hid (hov.spR HSv.out (by have s0 := HN0.out; have s1 := HN1.out; have s2 := HN2.out; have s3 := HN3.out; have s4 := HN4.out; have s5 := HN5.out; omega))
                              clear hV hov hz hgn hHeld
                              as_aux_lemma =>
                                refine wpAnyH_done (by kernel_rfl) ?_ _
                                have s0 := HN0.out
                                have s1 := HN1.out
                                have s2 := HN2.out
                                have s3 := HN3.out
                                have s4 := HN4.out
                                have s5 := HN5.out
                                have s6 := HN6.out
                                have s90 := HLE3.out
                                have s91 := HLE4.out
                                have s92 := HG9.out.size
                                clear HKEEP
                                go_wp2_with fail
                                go_meet
                                exact ⟨V3.heap.size, V0.heap.size, xu, cu, xv, cv, V1.heap.size, V2.heap.size, V2.heap.size, V3.heap.size, rfl, rfl, HZ3.out, HZ4.out, HRu.out, HSu.out, HRv.out, HSv.out, HG9.out, HW10.out _ (by omega), by omega, by omega, by omega, by omega, by omega, by omega⟩
                            exact AllReadyH.nil
                        exact AllReadyH.nil
                    exact AllReadyH.nil
                refine AllReadyH.cons (o := { dst := some 3, op := Op.alloc 28, type := 0, pos := "law.go:99", after := #[], guard := none }) rfl (fun K hK => ?_) ?_
                · go_simp
                  refine hK.out _ _ (HKEEP.out _ (HG9.out.trans (Gr.new V2 (.cells #[.int .i64 0, .bool false, .slice none 0 0] 28)))) (fun hHeld => ?_)
                  clear hK K
                  (try simp only [Act.put, List.setIfInBounds_toArray, List.set_cons_zero, List.set_cons_succ])
                  obtain ⟨V3, hV⟩ : ∃ V : World, V = V2.alloc (.cells #[.int .i64 0, .bool false, .slice none 0 0] 28) := ⟨_, rfl⟩
                  rw [← hV]
                  have hgn : Gr V2 V3 := by rw [hV]; exact Gr.new V2 (.cells #[.int .i64 0, .bool false, .slice none 0 0] 28)
                  have HZ3 := Lib.hid (show Blk V3 V2.heap.size 28 #[.int .i64 0, .bool false, .slice none 0 0] by rw [hV]; exact Blk.new V2 28 #[.int .i64 0, .bool false, .slice none 0 0])
                  have HN3 := Lib.hid (show V3.heap.size = V2.heap.size + 1 by rw [hV]; simp)
                  have HLE3 := Lib.hid HG9.out.size
                  replace HG9 := Lib.hid (HG9.out.trans hgn)
                  replace HZ4 := Lib.hid (HZ4.out.gr hgn)
                  replace HRu := Lib.hid (HRu.out.later hgn)
                  replace HSu := Lib.hid (HSu.out.gr hgn)
                  clear hV hgn hHeld
                  as_aux_lemma =>
                    refine wpAnyH_ready (rs := [5]) (by kernel_rfl) (by simp) ?_
                    refine AllReadyH.cons (o := { dst := some 25, op := Op.call { callee := Callee.value (Operand.func 13), args := #[Operand.tmp 24], argTypes := #[28] }, type := 28, pos := "law.go:99", after := #[{ on := 4, ground := Ground.data }, { on := 2, ground := Ground.chain }], guard := none }) rfl (fun K hK => ?_) ?_
                    · go_simp
                      go_at_call 13
                      refine (HLV.out V3 HG9.out).mono ?_
                      rintro e V4 ⟨xv, cv, rfl, hr8, hs8, hg8⟩
                      go_wp2_with fail
                      refine hK.out _ _ (HKEEP.out _ (HG9.out.trans hg8)) (fun hHeld => ?_)
                      clear hK K
                      (try simp only [Act.put, List.setIfInBounds_toArray, List.set_cons_zero, List.set_cons_succ])
                      have HRv := Lib.hid hr8
                      have HSv := Lib.hid hs8
                      have HN4 := Lib.hid hg8.size
                      replace HG9 := Lib.hid (HG9.out.trans hg8)
                      replace HZ4 := Lib.hid (HZ4.out.gr hg8)
                      replace HZ3 := Lib.hid (HZ3.out.gr hg8)
                      replace HRu := Lib.hid (HRu.out.later hg8)
                      replace HSu := Lib.hid (HSu.out.gr hg8)
                      clear hr8 hs8 hg8 hHeld
                      as_aux_lemma =>
                        refine wpAnyH_ready (rs := [8]) (by kernel_rfl) (by simp) ?_
                        refine AllReadyH.cons (o := { dst := none, op := Op.store 28 (Operand.tmp 3) (Operand.tmp 22), type := 0, pos := "law.go:99", after := #[{ on := 6, ground := Ground.data }, { on := 2, ground := Ground.data }, { on := 5, ground := Ground.chain }, { on := 0, ground := Ground.phase }, { on := 1, ground := Ground.phase }, { on := 2, ground := Ground.phase }, { on := 3, ground := Ground.textOnly Departure.lateStores }, { on := 4, ground := Ground.textOnly Departure.lateStores }, { on := 5, ground := Ground.textOnly Departure.lateStoresUnsure }, { on := 6, ground := Ground.phase }, { on := 7, ground := Ground.phase }], guard := none }) rfl (fun K hK => ?_) ?_
                        · obtain ⟨e0, e1, e2⟩ := HZ3.out.p3
                          obtain ⟨f0, f1, f2⟩ := HZ3.out.f3
                          go_simp
                          clear e0 e1 e2 f0 f1 f2
                          refine hK.out _ _ (HKEEP.out _ (((HG9.out.setCell (p := ⟨V2.heap.size, 0, none⟩) HLE3.out _).setCell (p := ⟨V2.heap.size, 1, none⟩) HLE3.out _).setCell (p := ⟨V2.heap.size, 2, none⟩) HLE3.out _)) (fun hHeld => ?_)
                          clear hK K
                          (try simp only [Act.put, List.setIfInBounds_toArray, List.set_cons_zero, List.set_cons_succ])
                          obtain ⟨V5, hV⟩ : ∃ V : World, V = (((V4.setCell ⟨V2.heap.size, 0, none⟩ (.int .i64 lvA)).setCell ⟨V2.heap.size, 1, none⟩ (.bool spA)).setCell ⟨V2.heap.size, 2, none⟩ (.slice xu nA cu)) := ⟨_, rfl⟩
                          rw [← hV]
                          have hov : Ov V2.heap.size (V2.heap.size + 1) V4 V5 := by rw [hV]; exact (((Ov.refl _).set (Nat.le_refl _) (Nat.lt_succ_self _) _).set (Nat.le_refl _) (Nat.lt_succ_self _) _).set (Nat.le_refl _) (Nat.lt_succ_self _) _
                          have hz : Blk V5 (V2.heap.size) 28 #[.int .i64 lvA, .bool spA, .slice xu nA cu] := by rw [hV]; exact ((HZ3.out.set 0 (.int .i64 lvA)).set 1 (.bool spA)).set 2 (.slice xu nA cu)
                          replace HZ3 := Lib.hid hz
                          have hgn : Gr w1 V5 := hov.of_gr HG9.out HLE3.out
                          replace HG9 := Lib.hid hgn
                          have HN5 := Lib.hid hov.size
                          replace HZ4 := Lib.hid (hov.blk HZ4.out (by have s0 := HN0.out; have s1 := HN1.out; have s2 := HN2.out; have s3 := HN3.out; have s4 := HN4.out; omega))
                          replace HRu := Lib.hid (hov.hasB HRu.out (by have s0 := HN0.out; have s1 := HN1.out; have s2 := HN2.out; have s3 := HN3.out; have s4 := HN4.out; omega))
                          replace HSu := Lib.hid (hov.spR HSu.out (by have s0 := HN0.out; have s1 := HN1.out; have s2 := HN2.out; have s3 := HN3.out; have s4 := HN4.out; omega))
                          replace HRv := Lib.hid (hov.hasB HRv.out (by have s0 := HN0.out; have s1 := HN1.out; have s2 := HN2.out; have s3 := HN3.out; have s4 := HN4.out; omega))
                          replace HSv := Lib.hid (hov.spR HSv.out (by have s0 := HN0.out; have s1 := HN1.out; have s2 := HN2.out; have s3 := HN3.out; have s4 := HN4.out; omega))
                          clear hV hov hz hgn hHeld
                          as_aux_lemma =>
                            refine wpAnyH_ready (rs := [9]) (by kernel_rfl) (by simp) ?_
                            refine AllReadyH.cons (o := { dst := none, op := Op.store 28 (Operand.tmp 4) (Operand.tmp 25), type := 0, pos := "law.go:99", after := #[{ on := 7, ground := Ground.data }, { on := 5, ground := Ground.data }, { on := 8, ground := Ground.chain }, { on := 0, ground := Ground.phase }, { on := 1, ground := Ground.phase }, { on := 2, ground := Ground.phase }, { on := 3, ground := Ground.phase }, { on := 4, ground := Ground.phase }, { on := 5, ground := Ground.phase }, { on := 6, ground := Ground.phase }, { on := 7, ground := Ground.phase }, { on := 8, ground := Ground.phase }], guard := none }) rfl (fun K hK => ?_) ?_
                            · obtain ⟨e0, e1, e2⟩ := HZ4.out.p3
                              obtain ⟨f0, f1, f2⟩ := HZ4.out.f3
                              go_simp
                              clear e0 e1 e2 f0 f1 f2
                              refine hK.out _ _ (HKEEP.out _ (((HG9.out.setCell (p := ⟨V0.heap.size, 0, none⟩) HLE4.out _).setCell (p := ⟨V0.heap.size, 1, none⟩) HLE4.out _).setCell (p := ⟨V0.heap.size, 2, none⟩) HLE4.out _)) (fun hHeld => ?_)
                              clear hK K
                              (try simp only [Act.put, List.setIfInBounds_toArray, List.set_cons_zero, List.set_cons_succ])
                              obtain ⟨V6, hV⟩ : ∃ V : World, V = (((V5.setCell ⟨V0.heap.size, 0, none⟩ (.int .i64 lvB)).setCell ⟨V0.heap.size, 1, none⟩ (.bool spB)).setCell ⟨V0.heap.size, 2, none⟩ (.slice xv nB cv)) := ⟨_, rfl⟩
                              rw [← hV]
                              have hov : Ov V0.heap.size (V0.heap.size + 1) V5 V6 := by rw [hV]; exact (((Ov.refl _).set (Nat.le_refl _) (Nat.lt_succ_self _) _).set (Nat.le_refl _) (Nat.lt_succ_self _) _).set (Nat.le_refl _) (Nat.lt_succ_self _) _
                              have hz : Blk V6 (V0.heap.size) 28 #[.int .i64 lvB, .bool spB, .slice xv nB cv] := by rw [hV]; exact ((HZ4.out.set 0 (.int .i64 lvB)).set 1 (.bool spB)).set 2 (.slice xv nB cv)
                              replace HZ4 := Lib.hid hz
                              have hgn : Gr w1 V6 := hov.of_gr HG9.out HLE4.out
                              replace HG9 := Lib.hid hgn
                              have HN6 := Lib.hid hov.size
                              replace HZ3 := Lib.hid (hov.blk HZ3.out (by have s0 := HN0.out; have s1 := HN1.out; have s2 := HN2.out; have s3 := HN3.out; have s4 := HN4.out; have s5 := HN5.out; omega))
                              replace HRu := Lib.hid (hov.hasB HRu.out (by have s0 := HN0.out; have s1 := HN1.out; have s2 := HN2.out; have s3 := HN3.out; have s4 := HN4.out; have s5 := HN5.out; omega))
                              replace HSu := Lib.hid (hov.spR HSu.out (by have s0 := HN0.out; have s1 := HN1.out; have s2 := HN2.out; have s3 := HN3.out; have s4 := HN4.out; have s5 := HN5.out; omega))
                              replace HRv := Lib.hid (hov.hasB HRv.out (by have s0 := HN0.out; have s1 := HN1.out; have s2 := HN2.out; have s3 := HN3.out; have s4 := HN4.out; have s5 := HN5.out; omega))
                              replace HSv := Lib.hid (hov.spR HSv.out (by have s0 := HN0.out; have s1 := HN1.out; have s2 := HN2.out; have s3 := HN3.out; have s4 := HN4.out; have s5 := HN5.out; omega))
                              clear hV hov hz hgn hHeld
                              as_aux_lemma =>
                                refine wpAnyH_done (by kernel_rfl) ?_ _
                                have s0 := HN0.out
                                have s1 := HN1.out
                                have s2 := HN2.out
                                have s3 := HN3.out
                                have s4 := HN4.out
                                have s5 := HN5.out
                                have s6 := HN6.out
                                have s90 := HLE3.out
                                have s91 := HLE4.out
                                have s92 := HG9.out.size
                                clear HKEEP
                                go_wp2_with fail
                                go_meet
                                exact ⟨V2.heap.size, V0.heap.size, xu, cu, xv, cv, V1.heap.size, V2.heap.size, V3.heap.size, V4.heap.size, rfl, rfl, HZ3.out, HZ4.out, HRu.out, HSu.out, HRv.out, HSv.out, HG9.out, HW10.out _ (by omega), by omega, by omega, by omega, by omega, by omega, by omega⟩
                            exact AllReadyH.nil
                        exact AllReadyH.nil
                    exact AllReadyH.nil
                exact AllReadyH.nil
            refine AllReadyH.cons (o := { dst := some 3, op := Op.alloc 28, type := 0, pos := "law.go:99", after := #[], guard := none }) rfl (fun K hK => ?_) ?_
            · go_simp
              refine hK.out _ _ (HKEEP.out _ (HG9.out.trans (Gr.new V1 (.cells #[.int .i64 0, .bool false, .slice none 0 0] 28)))) (fun hHeld => ?_)
              clear hK K
              (try simp only [Act.put, List.setIfInBounds_toArray, List.set_cons_zero, List.set_cons_succ])
              obtain ⟨V2, hV⟩ : ∃ V : World, V = V1.alloc (.cells #[.int .i64 0, .bool false, .slice none 0 0] 28) := ⟨_, rfl⟩
              rw [← hV]
              have hgn : Gr V1 V2 := by rw [hV]; exact Gr.new V1 (.cells #[.int .i64 0, .bool false, .slice none 0 0] 28)
              have HZ3 := Lib.hid (show Blk V2 V1.heap.size 28 #[.int .i64 0, .bool false, .slice none 0 0] by rw [hV]; exact Blk.new V1 28 #[.int .i64 0, .bool false, .slice none 0 0])
              have HN2 := Lib.hid (show V2.heap.size = V1.heap.size + 1 by rw [hV]; simp)
              have HLE3 := Lib.hid HG9.out.size
              replace HG9 := Lib.hid (HG9.out.trans hgn)
              replace HZ4 := Lib.hid (HZ4.out.gr hgn)
              clear hV hgn hHeld
              as_aux_lemma =>
                refine wpAnyH_ready (rs := [2]) (by kernel_rfl) (by simp) ?_
                refine AllReadyH.cons (o := { dst := some 22, op := Op.call { callee := Callee.value (Operand.func 13), args := #[Operand.tmp 21], argTypes := #[28] }, type := 28, pos := "law.go:99", after := #[{ on := 1, ground := Ground.data }], guard := none }) rfl (fun K hK => ?_) ?_
                · go_simp
                  go_at_call 13
                  refine (HLU.out V2 HG9.out).mono ?_
                  rintro e V3 ⟨xu, cu, rfl, hr8, hs8, hg8⟩
                  go_wp2_with fail
                  refine hK.out _ _ (HKEEP.out _ (HG9.out.trans hg8)) (fun hHeld => ?_)
                  clear hK K
                  (try simp only [Act.put, List.setIfInBounds_toArray, List.set_cons_zero, List.set_cons_succ])
                  have HRu := Lib.hid hr8
                  have HSu := Lib.hid hs8
                  have HN3 := Lib.hid hg8.size
                  replace HG9 := Lib.hid (HG9.out.trans hg8)
                  replace HZ4 := Lib.hid (HZ4.out.gr hg8)
                  replace HZ3 := Lib.hid (HZ3.out.gr hg8)
                  clear hr8 hs8 hg8 hHeld
                  as_aux_lemma =>
                    refine wpAnyH_ready (rs := [5]) (by kernel_rfl) (by simp) ?_
                    refine AllReadyH.cons (o := { dst := some 25, op := Op.call { callee := Callee.value (Operand.func 13), args := #[Operand.tmp 24], argTypes := #[28] }, type := 28, pos := "law.go:99", after := #[{ on := 4, ground := Ground.data }, { on := 2, ground := Ground.chain }], guard := none }) rfl (fun K hK => ?_) ?_
                    · go_simp
                      go_at_call 13
                      refine (HLV.out V3 HG9.out).mono ?_
                      rintro e V4 ⟨xv, cv, rfl, hr8, hs8, hg8⟩
                      go_wp2_with fail
                      refine hK.out _ _ (HKEEP.out _ (HG9.out.trans hg8)) (fun hHeld => ?_)
                      clear hK K
                      (try simp only [Act.put, List.setIfInBounds_toArray, List.set_cons_zero, List.set_cons_succ])
                      have HRv := Lib.hid hr8
                      have HSv := Lib.hid hs8
                      have HN4 := Lib.hid hg8.size
                      replace HG9 := Lib.hid (HG9.out.trans hg8)
                      replace HZ4 := Lib.hid (HZ4.out.gr hg8)
                      replace HZ3 := Lib.hid (HZ3.out.gr hg8)
                      replace HRu := Lib.hid (HRu.out.later hg8)
                      replace HSu := Lib.hid (HSu.out.gr hg8)
                      clear hr8 hs8 hg8 hHeld
                      as_aux_lemma =>
                        refine wpAnyH_ready (rs := [8]) (by kernel_rfl) (by simp) ?_
                        refine AllReadyH.cons (o := { dst := none, op := Op.store 28 (Operand.tmp 3) (Operand.tmp 22), type := 0, pos := "law.go:99", after := #[{ on := 6, ground := Ground.data }, { on := 2, ground := Ground.data }, { on := 5, ground := Ground.chain }, { on := 0, ground := Ground.phase }, { on := 1, ground := Ground.phase }, { on := 2, ground := Ground.phase }, { on := 3, ground := Ground.textOnly Departure.lateStores }, { on := 4, ground := Ground.textOnly Departure.lateStores }, { on := 5, ground := Ground.textOnly Departure.lateStoresUnsure }, { on := 6, ground := Ground.phase }, { on := 7, ground := Ground.phase }], guard := none }) rfl (fun K hK => ?_) ?_
                        · obtain ⟨e0, e1, e2⟩ := HZ3.out.p3
                          obtain ⟨f0, f1, f2⟩ := HZ3.out.f3
                          go_simp
                          clear e0 e1 e2 f0 f1 f2
                          refine hK.out _ _ (HKEEP.out _ (((HG9.out.setCell (p := ⟨V1.heap.size, 0, none⟩) HLE3.out _).setCell (p := ⟨V1.heap.size, 1, none⟩) HLE3.out _).setCell (p := ⟨V1.heap.size, 2, none⟩) HLE3.out _)) (fun hHeld => ?_)
                          clear hK K
                          (try simp only [Act.put, List.setIfInBounds_toArray, List.set_cons_zero, List.set_cons_succ])
                          obtain ⟨V5, hV⟩ : ∃ V : World, V = (((V4.setCell ⟨V1.heap.size, 0, none⟩ (.int .i64 lvA)).setCell ⟨V1.heap.size, 1, none⟩ (.bool spA)).setCell ⟨V1.heap.size, 2, none⟩ (.slice xu nA cu)) := ⟨_, rfl⟩
                          rw [← hV]
                          have hov : Ov V1.heap.size (V1.heap.size + 1) V4 V5 := by rw [hV]; exact (((Ov.refl _).set (Nat.le_refl _) (Nat.lt_succ_self _) _).set (Nat.le_refl _) (Nat.lt_succ_self _) _).set (Nat.le_refl _) (Nat.lt_succ_self _) _
                          have hz : Blk V5 (V1.heap.size) 28 #[.int .i64 lvA, .bool spA, .slice xu nA cu] := by rw [hV]; exact ((HZ3.out.set 0 (.int .i64 lvA)).set 1 (.bool spA)).set 2 (.slice xu nA cu)
                          replace HZ3 := Lib.hid hz
                          have hgn : Gr w1 V5 := hov.of_gr HG9.out HLE3.out
                          replace HG9 := Lib.hid hgn
                          have HN5 := Lib.hid hov.size
                          replace HZ4 := Lib.hid (hov.blk HZ4.out (by have s0 := HN0.out; have s1 := HN1.out; have s2 := HN2.out; have s3 := HN3.out; have s4 := HN4.out; omega))
                          replace HRu := Lib.hid (hov.hasB HRu.out (by have s0 := HN0.out; have s1 := HN1.out; have s2 := HN2.out; have s3 := HN3.out; have s4 := HN4.out; omega))
                          replace HSu := Lib.hid (hov.spR HSu.out (by have s0 := HN0.out; have s1 := HN1.out; have s2 := HN2.out; have s3 := HN3.out; have s4 := HN4.out; omega))
                          replace HRv := Lib.hid (hov.hasB HRv.out (by have s0 := HN0.out; have s1 := HN1.out; have s2 := HN2.out; have s3 := HN3.out; have s4 := HN4.out; omega))
                          replace HSv := Lib.hid (hov.spR HSv.out (by have s0 := HN0.out; have s1 := HN1.out; have s2 := HN2.out; have s3 := HN3.out; have s4 := HN4.out; omega))
                          clear hV hov hz hgn hHeld
                          as_aux_lemma =>
                            refine wpAnyH_ready (rs := [9]) (by kernel_rfl) (by simp) ?_
                            refine AllReadyH.cons (o := { dst := none, op := Op.store 28 (Operand.tmp 4) (Operand.tmp 25), type := 0, pos := "law.go:99", after := #[{ on := 7, ground := Ground.data }, { on := 5, ground := Ground.data }, { on := 8, ground := Ground.chain }, { on := 0, ground := Ground.phase }, { on := 1, ground := Ground.phase }, { on := 2, ground := Ground.phase }, { on := 3, ground := Ground.phase }, { on := 4, ground := Ground.phase }, { on := 5, ground := Ground.phase }, { on := 6, ground := Ground.phase }, { on := 7, ground := Ground.phase }, { on := 8, ground := Ground.phase }], guard := none }) rfl (fun K hK => ?_) ?_
                            · obtain ⟨e0, e1, e2⟩ := HZ4.out.p3
                              obtain ⟨f0, f1, f2⟩ := HZ4.out.f3
                              go_simp
                              clear e0 e1 e2 f0 f1 f2
                              refine hK.out _ _ (HKEEP.out _ (((HG9.out.setCell (p := ⟨V0.heap.size, 0, none⟩) HLE4.out _).setCell (p := ⟨V0.heap.size, 1, none⟩) HLE4.out _).setCell (p := ⟨V0.heap.size, 2, none⟩) HLE4.out _)) (fun hHeld => ?_)
                              clear hK K
                              (try simp only [Act.put, List.setIfInBounds_toArray, List.set_cons_zero, List.set_cons_succ])
                              obtain ⟨V6, hV⟩ : ∃ V : World, V = (((V5.setCell ⟨V0.heap.size, 0, none⟩ (.int .i64 lvB)).setCell ⟨V0.heap.size, 1, none⟩ (.bool spB)).setCell ⟨V0.heap.size, 2, none⟩ (.slice xv nB cv)) := ⟨_, rfl⟩
                              rw [← hV]
                              have hov : Ov V0.heap.size (V0.heap.size + 1) V5 V6 := by rw [hV]; exact (((Ov.refl _).set (Nat.le_refl _) (Nat.lt_succ_self _) _).set (Nat.le_refl _) (Nat.lt_succ_self _) _).set (Nat.le_refl _) (Nat.lt_succ_self _) _
                              have hz : Blk V6 (V0.heap.size) 28 #[.int .i64 lvB, .bool spB, .slice xv nB cv] := by rw [hV]; exact ((HZ4.out.set 0 (.int .i64 lvB)).set 1 (.bool spB)).set 2 (.slice xv nB cv)
                              replace HZ4 := Lib.hid hz
                              have hgn : Gr w1 V6 := hov.of_gr HG9.out HLE4.out
                              replace HG9 := Lib.hid hgn
                              have HN6 := Lib.hid hov.size
                              replace HZ3 := Lib.hid (hov.blk HZ3.out (by have s0 := HN0.out; have s1 := HN1.out; have s2 := HN2.out; have s3 := HN3.out; have s4 := HN4.out; have s5 := HN5.out; omega))
                              replace HRu := Lib.hid (hov.hasB HRu.out (by have s0 := HN0.out; have s1 := HN1.out; have s2 := HN2.out; have s3 := HN3.out; have s4 := HN4.out; have s5 := HN5.out; omega))
                              replace HSu := Lib.hid (hov.spR HSu.out (by have s0 := HN0.out; have s1 := HN1.out; have s2 := HN2.out; have s3 := HN3.out; have s4 := HN4.out; have s5 := HN5.out; omega))
                              replace HRv := Lib.hid (hov.hasB HRv.out (by have s0 := HN0.out; have s1 := HN1.out; have s2 := HN2.out; have s3 := HN3.out; have s4 := HN4.out; have s5 := HN5.out; omega))
                              replace HSv := Lib.hid (hov.spR HSv.out (by have s0 := HN0.out; have s1 := HN1.out; have s2 := HN2.out; have s3 := HN3.out; have s4 := HN4.out; have s5 := HN5.out; omega))
                              clear hV hov hz hgn hHeld
                              as_aux_lemma =>
                                refine wpAnyH_done (by kernel_rfl) ?_ _
                                have s0 := HN0.out
                                have s1 := HN1.out
                                have s2 := HN2.out
                                have s3 := HN3.out
                                have s4 := HN4.out
                                have s5 := HN5.out
                                have s6 := HN6.out
                                have s90 := HLE3.out
                                have s91 := HLE4.out
                                have s92 := HG9.out.size
                                clear HKEEP
                                go_wp2_with fail
                                go_meet
                                exact ⟨V1.heap.size, V0.heap.size, xu, cu, xv, cv, V2.heap.size, V3.heap.size, V3.heap.size, V4.heap.size, rfl, rfl, HZ3.out, HZ4.out, HRu.out, HSu.out, HRv.out, HSv.out, HG9.out, HW10.out _ (by omega), by omega, by omega, by omega, by omega, by omega, by omega⟩
                            exact AllReadyH.nil
                        exact AllReadyH.nil
                    exact AllReadyH.nil
                exact AllReadyH.nil
            exact AllReadyH.nil
        exact AllReadyH.nil
    case rest =>
      as_aux_lemma =>
        obtain ⟨G3, G4, xu, cu, xv, cv, lo1, hi1, lo2, hi2, rfl, rfl, hb3, hb4, hu, hsu, hv, hsv, hg0, s0, s1, s2, s3, s4, s5, s6, s7⟩ := hcut
        clear q0 q1 q2 q3 q4 q5 q6 k0 k1 k2 k3 k4 k5 j0 j1 j2 j3 j4
        replace HG := Lib.hid (HG.out.trans hg0)
        replace HX := Lib.hid (HX.out.gr hg0)
        replace HA := Lib.hid (HA.out.later hg0)
        replace HB := Lib.hid (HB.out.later hg0)
        replace HC := Lib.hid (HC.out.later hg0)
        have HE3 := Lib.hid hb3
        have HE4 := Lib.hid hb4
        have HRu := Lib.hid hu
        have HSu := Lib.hid hsu
        have HRv := Lib.hid hv
        have HSv := Lib.hid hsv
        have HBD := Lib.hid s5
        have HI1 := Lib.hid (show w.heap.size ≤ lo1 ∧ w.heap.size < lo1 ∧ w1.heap.size ≤ lo1 ∧ hi1 ≤ hi2 ∧ hi1 ≤ lo2 ∧ (G3 < lo1 ∨ hi1 ≤ G3) ∧ (G4 < lo1 ∨ hi1 ≤ G4) by refine ⟨?_, ?_, ?_, ?_, ?_, ?_, ?_⟩ <;> omega)
        have HI2 := Lib.hid (show w.heap.size ≤ lo2 ∧ w.heap.size < lo2 ∧ w1.heap.size ≤ lo2 ∧ hi2 ≤ hi2 by refine ⟨?_, ?_, ?_, ?_⟩ <;> omega)
        clear hb3 hb4 hu hsu hv hsv hg0 s0 s1 s2 s3 s4 s5 s6 s7 HLU HLV HWL HW10
        obtain ⟨c, hc⟩ : ∃ z, z = (twoE N ch S lvA spA rA lvB spB rB) := ⟨_, rfl⟩
        obtain ⟨LV, hLV⟩ : ∃ z, z = lvF (twoE N ch S lvA spA rA lvB spB rB) lvA := ⟨_, rfl⟩
        obtain ⟨SP, hSP⟩ : ∃ z, z = spF (twoE N ch S lvA spA rA lvB spB rB) spA := ⟨_, rfl⟩
        obtain ⟨LA, hLA⟩ : ∃ z, z = lsF (twoE N ch S lvA spA rA lvB spB rB) (sumE (Oj.mods ch S lvA.toNat spA) 1 rA rB) := ⟨_, rfl⟩
        obtain ⟨LS, hLS⟩ : ∃ z, z = lsF (twoE N ch S lvA spA rA lvB spB rB) (sumE (Oj.mods ch S lvA.toNat spA) (-1) rA rB) := ⟨_, rfl⟩
        obtain ⟨LM, hLM⟩ : ∃ z, z = lsF (twoE N ch S lvA spA rA lvB spB rB) (prodE (Oj.mods ch S lvA.toNat spA) rA rB) := ⟨_, rfl⟩
        have SMA := Lib.hid (show Sm 1000 LA by rw [hLA]; exact smF fun h => ev_sm h.1 (ev_sum 1 h.1 h.2.1))
        have SMS := Lib.hid (show Sm 1000 LS by rw [hLS]; exact smF fun h => ev_sm h.1 (ev_sum (-1) h.1 h.2.1))
        have SMM := Lib.hid (show Sm 1000 LM by rw [hLM]; exact smF fun h => ev_sm h.1 (ev_prodE h.1 h.2.1))
        have HOP5 := Lib.hid (show ∀ (V : World) (u v : Value), HasP V (.slice xC nC cC) ch → HasR V u rA → HasR V v rB → hi2 ≤ V.heap.size → Calls Tryz.prog 28 #[.agg #[.int .i64 N, .int .u32 p1, .int .i64 p2, .slice xC nC cC, .int .u32 S, .int .i64 p5, .int .u32 p6], .agg #[.int .i64 lvA, .bool spA, u], .agg #[.int .i64 lvB, .bool spB, v]] V (PairP c LV SP LA hi2 V) from fun V u v h1 h2 h3 h4 => opP (rAdd_any N p1 p2 xC nC cC S p5 p6 lvA spA lvB spB ch u v rA rB V H3.out h1 HS.out h2 h3) hc hLV hSP hLA h4)
        have HOP7 := Lib.hid (show ∀ (V : World) (u v : Value), HasP V (.slice xC nC cC) ch → HasR V u rA → HasR V v rB → hi2 ≤ V.heap.size → Calls Tryz.prog 29 #[.agg #[.int .i64 N, .int .u32 p1, .int .i64 p2, .slice xC nC cC, .int .u32 S, .int .i64 p5, .int .u32 p6], .agg #[.int .i64 lvA, .bool spA, u], .agg #[.int .i64 lvB, .bool spB, v]] V (PairP c LV SP LS hi2 V) from fun V u v h1 h2 h3 h4 => opP (rSub_any N p1 p2 xC nC cC S p5 p6 lvA spA lvB spB ch u v rA rB V H3.out h1 HS.out h2 h3) hc hLV hSP hLS h4)
        have HOP9 := Lib.hid (show ∀ (V : World) (u v : Value), HasP V (.slice xC nC cC) ch → HasR V u rA → HasR V v rB → hi2 ≤ V.heap.size → Calls Tryz.prog 30 #[.agg #[.int .i64 N, .int .u32 p1, .int .i64 p2, .slice xC nC cC, .int .u32 S, .int .i64 p5, .int .u32 p6], .agg #[.int .i64 lvA, .bool spA, u], .agg #[.int .i64 lvB, .bool spB, v]] V (PairP c LV SP LM hi2 V) from fun V u v h1 h2 h3 h4 => opP (rMul_any N p1 p2 xC nC cC S p5 p6 lvA spA lvB spB ch u v rA rB V H3.out h1 HS.out h2 h3) hc hLV hSP hLM h4)
        have HOP11 := Lib.hid (show ∀ (V : World) (u v : Value), HasP V (.slice xC nC cC) ch → HasR V u rA → HasR V v rB → hi2 ≤ V.heap.size → Calls Tryz.prog 32 #[.agg #[.int .i64 N, .int .u32 p1, .int .i64 p2, .slice xC nC cC, .int .u32 S, .int .i64 p5, .int .u32 p6], .agg #[.int .i64 lvA, .bool spA, u], .agg #[.int .i64 lvB, .bool spB, v]] V (PairP c LV SP LA hi2 V) from fun V u v h1 h2 h3 h4 => opP (fAdd_any N p1 p2 xC nC cC S p5 p6 lvA spA lvB spB ch u v rA rB V H3.out h1 HS.out h2 h3) hc hLV hSP hLA h4)
        have HOP13 := Lib.hid (show ∀ (V : World) (u v : Value), HasP V (.slice xC nC cC) ch → HasR V u rA → HasR V v rB → hi2 ≤ V.heap.size → Calls Tryz.prog 33 #[.agg #[.int .i64 N, .int .u32 p1, .int .i64 p2, .slice xC nC cC, .int .u32 S, .int .i64 p5, .int .u32 p6], .agg #[.int .i64 lvA, .bool spA, u], .agg #[.int .i64 lvB, .bool spB, v]] V (PairP c LV SP LS hi2 V) from fun V u v h1 h2 h3 h4 => opP (fSub_any N p1 p2 xC nC cC S p5 p6 lvA spA lvB spB ch u v rA rB V H3.out h1 HS.out h2 h3) hc hLV hSP hLS h4)
        have HOP15 := Lib.hid (show ∀ (V : World) (u v : Value), HasP V (.slice xC nC cC) ch → HasR V u rA → HasR V v rB → hi2 ≤ V.heap.size → Calls Tryz.prog 34 #[.agg #[.int .i64 N, .int .u32 p1, .int .i64 p2, .slice xC nC cC, .int .u32 S, .int .i64 p5, .int .u32 p6], .agg #[.int .i64 lvA, .bool spA, u], .agg #[.int .i64 lvB, .bool spB, v]] V (PairP c LV SP LM hi2 V) from fun V u v h1 h2 h3 h4 => opP (fMul_any N p1 p2 xC nC cC S p5 p6 lvA spA lvB spB ch u v rA rB V H3.out h1 HS.out h2 h3) hc hLV hSP hLM h4)
        clear hc hLV hSP hLA hLS hLM
        obtain ⟨⟨q0, q1, q2, q3, q4, q5, q6⟩, ⟨k0, k1, k2, k3, k4, k5⟩, j0, j1, j2, j3, j4⟩ := HX.out.p18
        obtain ⟨a3, b3, d3⟩ := HE3.out.p3
        obtain ⟨a4, b4, d4⟩ := HE4.out.p3
        go_wp2_with fail
        refine (HOP5.out _ (.slice xu nA cu) (.slice xv nB cv) HC.out HRu.out.hasR HRv.out.hasR HBD.out).mono ?_
        rintro e v5 ⟨x5, n5, c5, rfl, hr5, hg0⟩
        have HI5 := Lib.hid (Nat.le_trans HBD.out (Gr.size hg0))
        have hgn := Gr.new v5 (.cells #[.int .i64 LV, .bool SP, .slice x5 n5 c5] 28)
        have hgg := Gr.trans hg0 hgn
        clear q0 q1 q2 q3 q4 q5 q6 k0 k1 k2 k3 k4 k5 j0 j1 j2 j3 j4 a3 b3 d3 a4 b4 d4
        replace HG := Lib.hid (HG.out.trans hgg)
        replace HX := Lib.hid (HX.out.gr hgg)
        replace HE3 := Lib.hid (HE3.out.gr hgg)
        replace HE4 := Lib.hid (HE4.out.gr hgg)
        replace HA := Lib.hid (HA.out.later hgg)
        replace HB := Lib.hid (HB.out.later hgg)
        replace HC := Lib.hid (HC.out.later hgg)
        replace HRu := Lib.hid (HRu.out.later hgg)
        replace HSu := Lib.hid (HSu.out.later hgg)
        replace HRv := Lib.hid (HRv.out.later hgg)
        replace HSv := Lib.hid (HSv.out.later hgg)
        replace HBD := Lib.hid (Nat.le_trans HBD.out (Gr.size hgg))
        have HE5 := Lib.hid (Blk.new v5 28 #[.int .i64 LV, .bool SP, .slice x5 n5 c5])
        have HR5 := Lib.hid (hr5.later hgn)
        clear hr5 hg0 hgn hgg
        obtain ⟨⟨q0, q1, q2, q3, q4, q5, q6⟩, ⟨k0, k1, k2, k3, k4, k5⟩, j0, j1, j2, j3, j4⟩ := HX.out.p18
        obtain ⟨a3, b3, d3⟩ := HE3.out.p3
        obtain ⟨a4, b4, d4⟩ := HE4.out.p3
        obtain ⟨a5, b5, d5⟩ := HE5.out.p3
        clear HOP5
        as_aux_lemma =>
          go_wp2_with fail
          refine (HOP7.out _ (.slice xu nA cu) (.slice xv nB cv) HC.out HRu.out.hasR HRv.out.hasR HBD.out).mono ?_
          rintro e v7 ⟨x7, n7, c7, rfl, hr7, hg0⟩
          have HI7 := Lib.hid (Nat.le_trans HBD.out (Gr.size hg0))
          have hgn := Gr.new v7 (.cells #[.int .i64 LV, .bool SP, .slice x7 n7 c7] 28)
          have hgg := Gr.trans hg0 hgn
          clear q0 q1 q2 q3 q4 q5 q6 k0 k1 k2 k3 k4 k5 j0 j1 j2 j3 j4 a3 b3 d3 a4 b4 d4 a5 b5 d5
          replace HG := Lib.hid (HG.out.trans hgg)
          replace HX := Lib.hid (HX.out.gr hgg)
          replace HE3 := Lib.hid (HE3.out.gr hgg)
          replace HE4 := Lib.hid (HE4.out.gr hgg)
          replace HE5 := Lib.hid (HE5.out.gr hgg)
          replace HA := Lib.hid (HA.out.later hgg)
          replace HB := Lib.hid (HB.out.later hgg)
          replace HC := Lib.hid (HC.out.later hgg)
          replace HRu := Lib.hid (HRu.out.later hgg)
          replace HSu := Lib.hid (HSu.out.later hgg)
          replace HRv := Lib.hid (HRv.out.later hgg)
          replace HSv := Lib.hid (HSv.out.later hgg)
          replace HR5 := Lib.hid (HR5.out.later hgg)
          replace HBD := Lib.hid (Nat.le_trans HBD.out (Gr.size hgg))
          have HE7 := Lib.hid (Blk.new v7 28 #[.int .i64 LV, .bool SP, .slice x7 n7 c7])
          have HR7 := Lib.hid (hr7.later hgn)
          clear hr7 hg0 hgn hgg
          obtain ⟨⟨q0, q1, q2, q3, q4, q5, q6⟩, ⟨k0, k1, k2, k3, k4, k5⟩, j0, j1, j2, j3, j4⟩ := HX.out.p18
          obtain ⟨a3, b3, d3⟩ := HE3.out.p3
          obtain ⟨a4, b4, d4⟩ := HE4.out.p3
          obtain ⟨a5, b5, d5⟩ := HE5.out.p3
          obtain ⟨a7, b7, d7⟩ := HE7.out.p3
          clear HOP7
          as_aux_lemma =>
            go_wp2_with fail
            refine (HOP9.out _ (.slice xu nA cu) (.slice xv nB cv) HC.out HRu.out.hasR HRv.out.hasR HBD.out).mono ?_
            rintro e v9 ⟨x9, n9, c9, rfl, hr9, hg0⟩
            have HI9 := Lib.hid (Nat.le_trans HBD.out (Gr.size hg0))
            have hgn := Gr.new v9 (.cells #[.int .i64 LV, .bool SP, .slice x9 n9 c9] 28)
            have hgg := Gr.trans hg0 hgn
            clear q0 q1 q2 q3 q4 q5 q6 k0 k1 k2 k3 k4 k5 j0 j1 j2 j3 j4 a3 b3 d3 a4 b4 d4 a5 b5 d5 a7 b7 d7
            replace HG := Lib.hid (HG.out.trans hgg)
            replace HX := Lib.hid (HX.out.gr hgg)
            replace HE3 := Lib.hid (HE3.out.gr hgg)
            replace HE4 := Lib.hid (HE4.out.gr hgg)
            replace HE5 := Lib.hid (HE5.out.gr hgg)
            replace HE7 := Lib.hid (HE7.out.gr hgg)
            replace HA := Lib.hid (HA.out.later hgg)
            replace HB := Lib.hid (HB.out.later hgg)
            replace HC := Lib.hid (HC.out.later hgg)
            replace HRu := Lib.hid (HRu.out.later hgg)
            replace HSu := Lib.hid (HSu.out.later hgg)
            replace HRv := Lib.hid (HRv.out.later hgg)
            replace HSv := Lib.hid (HSv.out.later hgg)
            replace HR5 := Lib.hid (HR5.out.later hgg)
            replace HR7 := Lib.hid (HR7.out.later hgg)
            replace HBD := Lib.hid (Nat.le_trans HBD.out (Gr.size hgg))
            have HE9 := Lib.hid (Blk.new v9 28 #[.int .i64 LV, .bool SP, .slice x9 n9 c9])
            have HR9 := Lib.hid (hr9.later hgn)
            clear hr9 hg0 hgn hgg
            obtain ⟨⟨q0, q1, q2, q3, q4, q5, q6⟩, ⟨k0, k1, k2, k3, k4, k5⟩, j0, j1, j2, j3, j4⟩ := HX.out.p18
            obtain ⟨a3, b3, d3⟩ := HE3.out.p3
            obtain ⟨a4, b4, d4⟩ := HE4.out.p3
            obtain ⟨a5, b5, d5⟩ := HE5.out.p3
            obtain ⟨a7, b7, d7⟩ := HE7.out.p3
            obtain ⟨a9, b9, d9⟩ := HE9.out.p3
            clear HOP9
            as_aux_lemma =>
              obtain ⟨W9, hW9⟩ : ∃ W : World, W = v9.alloc (.cells #[.int .i64 LV, .bool SP, .slice x9 n9 c9] 28) := ⟨_, rfl⟩
              rw [← hW9] at HG HX HBD HE3 HE4 HE5 HE7 HE9 HA HB HC HRu HSu HRv HSv HR5 HR7 HR9
              go_upto_region 7 with (fail)
              rw [← hW9]
              clear q0 q1 q2 q3 q4 q5 q6 k0 k1 k2 k3 k4 k5 j0 j1 j2 j3 j4 a3 b3 d3 a4 b4 d4 a5 b5 d5 a7 b7 d7 a9 b9 d9 hW9
              obtain ⟨⟨q0, q1, q2, q3, q4, q5, q6⟩, ⟨k0, k1, k2, k3, k4, k5⟩, j0, j1, j2, j3, j4⟩ := HX.out.p18
              obtain ⟨a3, b3, d3⟩ := HE3.out.p3
              obtain ⟨a4, b4, d4⟩ := HE4.out.p3
              obtain ⟨a5, b5, d5⟩ := HE5.out.p3
              obtain ⟨a7, b7, d7⟩ := HE7.out.p3
              obtain ⟨a9, b9, d9⟩ := HE9.out.p3
              have HKEEP := Lib.hid (show ∀ wz, Gr W9 wz → (wz.cell? ⟨w.heap.size, 7, none⟩ = some (.int .i64 lvA) ∧ wz.cell? ⟨w.heap.size, 8, none⟩ = some (.bool spA) ∧ wz.cell? ⟨w.heap.size, 9, none⟩ = some (.slice xA nA cA) ∧ wz.cell? ⟨w.heap.size, 10, none⟩ = some (.int .i64 lvB) ∧ wz.cell? ⟨w.heap.size, 11, none⟩ = some (.bool spB) ∧ wz.cell? ⟨w.heap.size, 12, none⟩ = some (.slice xB nB cB) ∧ wz.cell? ⟨G3, 0, none⟩ = some (.int .i64 lvA) ∧ wz.cell? ⟨G3, 1, none⟩ = some (.bool spA) ∧ wz.cell? ⟨G3, 2, none⟩ = some (.slice xu nA cu) ∧ wz.cell? ⟨G4, 0, none⟩ = some (.int .i64 lvB) ∧ wz.cell? ⟨G4, 1, none⟩ = some (.bool spB) ∧ wz.cell? ⟨G4, 2, none⟩ = some (.slice xv nB cv)) from fun wz g => ⟨g.keeps k0, g.keeps k1, g.keeps k2, g.keeps k3, g.keeps k4, g.keeps k5, g.keeps a3, g.keeps b3, g.keeps d3, g.keeps a4, g.keeps b4, g.keeps d4⟩)
              obtain ⟨s, hs⟩ : ∃ z, z = decide (SameE lvA spA rA lvB spB rB) := ⟨_, rfl⟩
              have HQ1 := Lib.hid (show ∀ V, Gr W9 V → Calls Tryz.prog 20 #[.agg #[.int .i64 lvA, .bool spA, (.slice xu nA cu)], .agg #[.int .i64 lvA, .bool spA, (.slice xA nA cA)]] V (fun e w' => e = .returned (.bool true) ∧ Gr V w') from fun V g => by
                have h := lsame_any lvA spA lvA spA rA rA (.slice xu nA cu) (.slice xA nA cA) V (HRu.out.later g).hasR (HA.out.later g).hasR (sm_up SA.out.2) (sm_up SA.out.2)
                rw [decide_eq_true (show SameE _ _ _ _ _ _ from ⟨rfl, rfl, rfl⟩)] at h
                exact h)
              have HQ2 := Lib.hid (show ∀ V, Gr W9 V → Calls Tryz.prog 20 #[.agg #[.int .i64 lvB, .bool spB, (.slice xv nB cv)], .agg #[.int .i64 lvB, .bool spB, (.slice xB nB cB)]] V (fun e w' => e = .returned (.bool true) ∧ Gr V w') from fun V g => by
                have h := lsame_any lvB spB lvB spB rB rB (.slice xv nB cv) (.slice xB nB cB) V (HRv.out.later g).hasR (HB.out.later g).hasR (sm_up SB.out.2) (sm_up SB.out.2)
                rw [decide_eq_true (show SameE _ _ _ _ _ _ from ⟨rfl, rfl, rfl⟩)] at h
                exact h)
              have HQ3 := Lib.hid (show ∀ V, Gr W9 V → Calls Tryz.prog 31 #[.agg #[.int .i64 lvA, .bool spA, (.slice xu nA cu)], .agg #[.int .i64 lvB, .bool spB, (.slice xv nB cv)]] V (fun e w' => e = .returned (.bool s) ∧ Gr V w') from fun V g => by
                have h := rSame_any lvA spA lvB spB rA rB (.slice xu nA cu) (.slice xv nB cv) V (HRu.out.later g).hasR (HRv.out.later g).hasR (sm_up SA.out.2) (sm_up SB.out.2)
                rw [← hs] at h
                exact h)
              have HQ4 := Lib.hid (show ∀ V, Gr W9 V → Calls Tryz.prog 20 #[.agg #[.int .i64 lvA, .bool spA, (.slice xu nA cu)], .agg #[.int .i64 lvB, .bool spB, (.slice xv nB cv)]] V (fun e w' => e = .returned (.bool s) ∧ Gr V w') from fun V g => by
                have h := lsame_any lvA spA lvB spB rA rB (.slice xu nA cu) (.slice xv nB cv) V (HRu.out.later g).hasR (HRv.out.later g).hasR (sm_up SA.out.2) (sm_up SB.out.2)
                rw [← hs] at h
                exact h)
              have HQ5 := Lib.hid (show ∀ V, Gr W9 V → Calls Tryz.prog 31 #[.agg #[.int .i64 lvA, .bool spA, (.slice xu nA cu)], .agg #[.int .i64 lvA, .bool spA, (.slice xA nA cA)]] V (fun e w' => e = .returned (.bool true) ∧ Gr V w') from fun V g => by
                have h := rSame_any lvA spA lvA spA rA rA (.slice xu nA cu) (.slice xA nA cA) V (HRu.out.later g).hasR (HA.out.later g).hasR (sm_up SA.out.2) (sm_up SA.out.2)
                rw [decide_eq_true (show SameE _ _ _ _ _ _ from ⟨rfl, rfl, rfl⟩)] at h
                exact h)
              clear hs
              refine wp_region_held_drew (S := fun wz => wz.cell? ⟨w.heap.size, 7, none⟩ = some (.int .i64 lvA) ∧ wz.cell? ⟨w.heap.size, 8, none⟩ = some (.bool spA) ∧ wz.cell? ⟨w.heap.size, 9, none⟩ = some (.slice xA nA cA) ∧ wz.cell? ⟨w.heap.size, 10, none⟩ = some (.int .i64 lvB) ∧ wz.cell? ⟨w.heap.size, 11, none⟩ = some (.bool spB) ∧ wz.cell? ⟨w.heap.size, 12, none⟩ = some (.slice xB nB cB) ∧ wz.cell? ⟨G3, 0, none⟩ = some (.int .i64 lvA) ∧ wz.cell? ⟨G3, 1, none⟩ = some (.bool spA) ∧ wz.cell? ⟨G3, 2, none⟩ = some (.slice xu nA cu) ∧ wz.cell? ⟨G4, 0, none⟩ = some (.int .i64 lvB) ∧ wz.cell? ⟨G4, 1, none⟩ = some (.bool spB) ∧ wz.cell? ⟨G4, 2, none⟩ = some (.slice xv nB cv)) (by kernel_rfl) (HKEEP.out _ (Below.drew (Gr.refl W9))) (fun hHeld => ?_)
              show wpAnyH _ _ _ _ _ 28 #[false, false, false, false, false, false, false, false, false, false, false, false, false, false, false, false, false, false, false, false, false, false, false, false, false, false, false, false] _ _
              have HG9 := Lib.hid (show Gr W9 W9.drew from Below.drew (Gr.refl W9))
              refine wpAnyH_take (i := 0) (oi := { dst := some 50, op := Op.load 28 (Operand.tmp 3), type := 28, pos := "law.go:103", after := #[], guard := none }) (v := ?_) rfl (by kernel_rfl) (by kernel_rfl) (by kernel_rfl) (fun _ _ _ h => h) (_root_.Or.inl ⟨by rfl, ?_⟩) (by assumption) ?_
              rotate_left
              · intro w0 hSw; (try dsimp only at hSw); go_simp; try with_reducible rfl
              (try simp only [Act.put, List.setIfInBounds_toArray, List.set_cons_zero, List.set_cons_succ])
              refine wpAnyH_take (i := 1) (oi := { dst := some 51, op := Op.fieldAddr 31 (Operand.tmp 1) 1, type := 0, pos := "law.go:103", after := #[], guard := none }) (v := ?_) rfl (by kernel_rfl) (by kernel_rfl) (by kernel_rfl) (fun _ _ _ h => h) (_root_.Or.inl ⟨by rfl, ?_⟩) (by assumption) ?_
              rotate_left
              · intro w0 hSw; (try dsimp only at hSw); go_simp; try with_reducible rfl
              (try simp only [Act.put, List.setIfInBounds_toArray, List.set_cons_zero, List.set_cons_succ])
              refine wpAnyH_take (i := 2) (oi := { dst := some 52, op := Op.load 28 (Operand.tmp 51), type := 28, pos := "law.go:103", after := #[{ on := 1, ground := Ground.data }], guard := none }) (v := ?_) rfl (by kernel_rfl) (by kernel_rfl) (by kernel_rfl) (fun _ _ _ h => h) (_root_.Or.inl ⟨by rfl, ?_⟩) (by assumption) ?_
              rotate_left
              · intro w0 hSw; (try dsimp only at hSw); go_simp; try with_reducible rfl
              (try simp only [Act.put, List.setIfInBounds_toArray, List.set_cons_zero, List.set_cons_succ])
              refine wpAnyH_ready (rs := [3]) (by kernel_rfl) (by simp) ?_
              refine AllReadyH.cons (o := { dst := some 53, op := Op.call { callee := Callee.value (Operand.func 20), args := #[Operand.tmp 50, Operand.tmp 52], argTypes := #[28, 28] }, type := 4, pos := "law.go:103", after := #[{ on := 0, ground := Ground.data }, { on := 2, ground := Ground.data }], guard := none }) rfl (fun K hK => ?_) AllReadyH.nil
              go_simp
              go_at_call 20
              refine (HQ1.out _ HG9.out).mono ?_
              rintro e y1 ⟨rfl, hg8⟩
              go_wp2_with fail
              replace HG9 := Lib.hid (HG9.out.trans hg8)
              clear hg8 hHeld
              refine hK.out _ _ (HKEEP.out _ HG9.out) (fun hHeld => ?_)
              clear hK K
              (try simp only [Act.put, List.setIfInBounds_toArray, List.set_cons_zero, List.set_cons_succ])
              as_aux_lemma =>
                refine wpAnyH_take (i := 4) (oi := { dst := some 54, op := Op.unOp UnOp.not 4 (Operand.tmp 53), type := 4, pos := "law.go:103", after := #[{ on := 3, ground := Ground.data }], guard := none }) (v := ?_) rfl (by kernel_rfl) (by kernel_rfl) (by kernel_rfl) (fun _ _ _ h => h) (_root_.Or.inl ⟨by rfl, ?_⟩) (by assumption) ?_
                rotate_left
                · intro w0 hSw; (try dsimp only at hSw); go_simp; try with_reducible rfl
                (try simp only [Act.put, List.setIfInBounds_toArray, List.set_cons_zero, List.set_cons_succ])
                refine wpAnyH_take (i := 5) (oi := { dst := some 55, op := Op.move (Operand.tmp 54), type := 4, pos := "law.go:103", after := #[{ on := 4, ground := Ground.data }, { on := 3, ground := Ground.chain }], guard := none }) (v := ?_) rfl (by kernel_rfl) (by kernel_rfl) (by kernel_rfl) (fun _ _ _ h => h) (_root_.Or.inl ⟨by rfl, ?_⟩) (by assumption) ?_
                rotate_left
                · intro w0 hSw; (try dsimp only at hSw); go_simp; try with_reducible rfl
                (try simp only [Act.put, List.setIfInBounds_toArray, List.set_cons_zero, List.set_cons_succ])
                refine wpAnyH_take (i := 6) (oi := { dst := some 56, op := Op.load 28 (Operand.tmp 4), type := 28, pos := "law.go:103", after := #[{ on := 5, ground := Ground.guard }], guard := some (5, false) }) (v := ?_) rfl (by kernel_rfl) (by kernel_rfl) (by kernel_rfl) (fun _ _ _ h => h) (_root_.Or.inl ⟨by rfl, ?_⟩) (by assumption) ?_
                rotate_left
                · intro w0 hSw; (try dsimp only at hSw); go_simp; try with_reducible rfl
                (try simp only [Act.put, List.setIfInBounds_toArray, List.set_cons_zero, List.set_cons_succ])
                refine wpAnyH_take (i := 7) (oi := { dst := some 57, op := Op.fieldAddr 31 (Operand.tmp 1) 2, type := 0, pos := "law.go:103", after := #[{ on := 5, ground := Ground.guard }], guard := some (5, false) }) (v := ?_) rfl (by kernel_rfl) (by kernel_rfl) (by kernel_rfl) (fun _ _ _ h => h) (_root_.Or.inl ⟨by rfl, ?_⟩) (by assumption) ?_
                rotate_left
                · intro w0 hSw; (try dsimp only at hSw); go_simp; try with_reducible rfl
                (try simp only [Act.put, List.setIfInBounds_toArray, List.set_cons_zero, List.set_cons_succ])
                refine wpAnyH_take (i := 8) (oi := { dst := some 58, op := Op.load 28 (Operand.tmp 57), type := 28, pos := "law.go:103", after := #[{ on := 7, ground := Ground.data }, { on := 5, ground := Ground.guard }], guard := some (5, false) }) (v := ?_) rfl (by kernel_rfl) (by kernel_rfl) (by kernel_rfl) (fun _ _ _ h => h) (_root_.Or.inl ⟨by rfl, ?_⟩) (by assumption) ?_
                rotate_left
                · intro w0 hSw; (try dsimp only at hSw); go_simp; try with_reducible rfl
                (try simp only [Act.put, List.setIfInBounds_toArray, List.set_cons_zero, List.set_cons_succ])
                refine wpAnyH_ready (rs := [9]) (by kernel_rfl) (by simp) ?_
                refine AllReadyH.cons (o := { dst := some 59, op := Op.call { callee := Callee.value (Operand.func 20), args := #[Operand.tmp 56, Operand.tmp 58], argTypes := #[28, 28] }, type := 4, pos := "law.go:103", after := #[{ on := 6, ground := Ground.data }, { on := 8, ground := Ground.data }, { on := 5, ground := Ground.chain }, { on := 5, ground := Ground.guard }], guard := some (5, false) }) rfl (fun K hK => ?_) AllReadyH.nil
                go_simp
                go_at_call 20
                refine (HQ2.out _ HG9.out).mono ?_
                rintro e y2 ⟨rfl, hg8⟩
                go_wp2_with fail
                replace HG9 := Lib.hid (HG9.out.trans hg8)
                clear hg8 hHeld
                refine hK.out _ _ (HKEEP.out _ HG9.out) (fun hHeld => ?_)
                clear hK K
                (try simp only [Act.put, List.setIfInBounds_toArray, List.set_cons_zero, List.set_cons_succ])
                as_aux_lemma =>
                  refine wpAnyH_take (i := 10) (oi := { dst := some 60, op := Op.unOp UnOp.not 4 (Operand.tmp 59), type := 4, pos := "law.go:103", after := #[{ on := 9, ground := Ground.data }, { on := 5, ground := Ground.guard }], guard := some (5, false) }) (v := ?_) rfl (by kernel_rfl) (by kernel_rfl) (by kernel_rfl) (fun _ _ _ h => h) (_root_.Or.inl ⟨by rfl, ?_⟩) (by assumption) ?_
                  rotate_left
                  · intro w0 hSw; (try dsimp only at hSw); go_simp; try with_reducible rfl
                  (try simp only [Act.put, List.setIfInBounds_toArray, List.set_cons_zero, List.set_cons_succ])
                  refine wpAnyH_take (i := 11) (oi := { dst := some 61, op := Op.pick (Operand.tmp 55) (Operand.const (Value.bool true)) (Operand.tmp 60), type := 4, pos := "law.go:103", after := #[{ on := 5, ground := Ground.data }, { on := 10, ground := Ground.data }], guard := none }) (v := ?_) rfl (by kernel_rfl) (by kernel_rfl) (by kernel_rfl) (fun _ _ _ h => h) (_root_.Or.inl ⟨by rfl, ?_⟩) (by assumption) ?_
                  rotate_left
                  · intro w0 hSw; (try dsimp only at hSw); go_simp; try with_reducible rfl
                  (try simp only [Act.put, List.setIfInBounds_toArray, List.set_cons_zero, List.set_cons_succ])
                  refine wpAnyH_take (i := 12) (oi := { dst := some 62, op := Op.move (Operand.tmp 61), type := 4, pos := "law.go:103", after := #[{ on := 11, ground := Ground.data }, { on := 9, ground := Ground.chain }], guard := none }) (v := ?_) rfl (by kernel_rfl) (by kernel_rfl) (by kernel_rfl) (fun _ _ _ h => h) (_root_.Or.inl ⟨by rfl, ?_⟩) (by assumption) ?_
                  rotate_left
                  · intro w0 hSw; (try dsimp only at hSw); go_simp; try with_reducible rfl
                  (try simp only [Act.put, List.setIfInBounds_toArray, List.set_cons_zero, List.set_cons_succ])
                  refine wpAnyH_take (i := 13) (oi := { dst := some 63, op := Op.load 28 (Operand.tmp 3), type := 28, pos := "law.go:103", after := #[{ on := 12, ground := Ground.guard }], guard := some (12, false) }) (v := ?_) rfl (by kernel_rfl) (by kernel_rfl) (by kernel_rfl) (fun _ _ _ h => h) (_root_.Or.inl ⟨by rfl, ?_⟩) (by assumption) ?_
                  rotate_left
                  · intro w0 hSw; (try dsimp only at hSw); go_simp; try with_reducible rfl
                  (try simp only [Act.put, List.setIfInBounds_toArray, List.set_cons_zero, List.set_cons_succ])
                  refine wpAnyH_take (i := 14) (oi := { dst := some 64, op := Op.load 28 (Operand.tmp 4), type := 28, pos := "law.go:103", after := #[{ on := 12, ground := Ground.guard }], guard := some (12, false) }) (v := ?_) rfl (by kernel_rfl) (by kernel_rfl) (by kernel_rfl) (fun _ _ _ h => h) (_root_.Or.inl ⟨by rfl, ?_⟩) (by assumption) ?_
                  rotate_left
                  · intro w0 hSw; (try dsimp only at hSw); go_simp; try with_reducible rfl
                  (try simp only [Act.put, List.setIfInBounds_toArray, List.set_cons_zero, List.set_cons_succ])
                  refine wpAnyH_take (i := 16) (oi := { dst := some 66, op := Op.load 28 (Operand.tmp 3), type := 28, pos := "law.go:103", after := #[{ on := 12, ground := Ground.guard }], guard := some (12, false) }) (v := ?_) rfl (by kernel_rfl) (by kernel_rfl) (by kernel_rfl) (fun _ _ _ h => h) (_root_.Or.inl ⟨by rfl, ?_⟩) (by assumption) ?_
                  rotate_left
                  · intro w0 hSw; (try dsimp only at hSw); go_simp; try with_reducible rfl
                  (try simp only [Act.put, List.setIfInBounds_toArray, List.set_cons_zero, List.set_cons_succ])
                  refine wpAnyH_take (i := 17) (oi := { dst := some 67, op := Op.load 28 (Operand.tmp 4), type := 28, pos := "law.go:103", after := #[{ on := 12, ground := Ground.guard }], guard := some (12, false) }) (v := ?_) rfl (by kernel_rfl) (by kernel_rfl) (by kernel_rfl) (fun _ _ _ h => h) (_root_.Or.inl ⟨by rfl, ?_⟩) (by assumption) ?_
                  rotate_left
                  · intro w0 hSw; (try dsimp only at hSw); go_simp; try with_reducible rfl
                  (try simp only [Act.put, List.setIfInBounds_toArray, List.set_cons_zero, List.set_cons_succ])
                  refine wpAnyH_ready (rs := [15]) (by kernel_rfl) (by simp) ?_
                  refine AllReadyH.cons (o := { dst := some 65, op := Op.call { callee := Callee.value (Operand.func 31), args := #[Operand.tmp 63, Operand.tmp 64], argTypes := #[28, 28] }, type := 4, pos := "law.go:103", after := #[{ on := 13, ground := Ground.data }, { on := 14, ground := Ground.data }, { on := 12, ground := Ground.chain }, { on := 12, ground := Ground.guard }], guard := some (12, false) }) rfl (fun K hK => ?_) AllReadyH.nil
                  go_simp
                  go_at_call 31
                  refine (HQ3.out _ HG9.out).mono ?_
                  rintro e y3 ⟨rfl, hg8⟩
                  go_wp2_with fail
                  replace HG9 := Lib.hid (HG9.out.trans hg8)
                  clear hg8 hHeld
                  refine hK.out _ _ (HKEEP.out _ HG9.out) (fun hHeld => ?_)
                  clear hK K
                  (try simp only [Act.put, List.setIfInBounds_toArray, List.set_cons_zero, List.set_cons_succ])
                  as_aux_lemma =>
                    refine wpAnyH_ready (rs := [18]) (by kernel_rfl) (by simp) ?_
                    refine AllReadyH.cons (o := { dst := some 68, op := Op.call { callee := Callee.value (Operand.func 20), args := #[Operand.tmp 66, Operand.tmp 67], argTypes := #[28, 28] }, type := 4, pos := "law.go:103", after := #[{ on := 16, ground := Ground.data }, { on := 17, ground := Ground.data }, { on := 15, ground := Ground.chain }, { on := 12, ground := Ground.guard }], guard := some (12, false) }) rfl (fun K hK => ?_) AllReadyH.nil
                    go_simp
                    go_at_call 20
                    refine (HQ4.out _ HG9.out).mono ?_
                    rintro e y4 ⟨rfl, hg8⟩
                    go_wp2_with fail
                    replace HG9 := Lib.hid (HG9.out.trans hg8)
                    clear hg8 hHeld
                    refine hK.out _ _ (HKEEP.out _ HG9.out) (fun hHeld => ?_)
                    clear hK K
                    (try simp only [Act.put, List.setIfInBounds_toArray, List.set_cons_zero, List.set_cons_succ])
                    as_aux_lemma =>
                      refine wpAnyH_take (i := 19) (oi := { dst := some 69, op := Op.binOp BinOp.neq 4 (Operand.tmp 65) (Operand.tmp 68) 4, type := 4, pos := "law.go:103", after := #[{ on := 15, ground := Ground.data }, { on := 18, ground := Ground.data }, { on := 12, ground := Ground.guard }], guard := some (12, false) }) (v := ?_) rfl (by kernel_rfl) (by kernel_rfl) (by kernel_rfl) (fun _ _ _ h => h) (_root_.Or.inl ⟨by rfl, ?_⟩) (by assumption) ?_
                      rotate_left
                      · intro w0 hSw; (try dsimp only at hSw); go_simp; try with_reducible rfl
                      (try simp only [Act.put, List.setIfInBounds_toArray, List.set_cons_zero, List.set_cons_succ])
                      refine wpAnyH_take (i := 20) (oi := { dst := some 70, op := Op.pick (Operand.tmp 62) (Operand.const (Value.bool true)) (Operand.tmp 69), type := 4, pos := "law.go:103", after := #[{ on := 12, ground := Ground.data }, { on := 19, ground := Ground.data }], guard := none }) (v := ?_) rfl (by kernel_rfl) (by kernel_rfl) (by kernel_rfl) (fun _ _ _ h => h) (_root_.Or.inl ⟨by rfl, ?_⟩) (by assumption) ?_
                      rotate_left
                      · intro w0 hSw; (try dsimp only at hSw); go_simp; try with_reducible rfl
                      (try simp only [Act.put, List.setIfInBounds_toArray, List.set_cons_zero, List.set_cons_succ])
                      refine wpAnyH_take (i := 21) (oi := { dst := some 71, op := Op.move (Operand.tmp 70), type := 4, pos := "law.go:103", after := #[{ on := 20, ground := Ground.data }, { on := 18, ground := Ground.chain }], guard := none }) (v := ?_) rfl (by kernel_rfl) (by kernel_rfl) (by kernel_rfl) (fun _ _ _ h => h) (_root_.Or.inl ⟨by rfl, ?_⟩) (by assumption) ?_
                      rotate_left
                      · intro w0 hSw; (try dsimp only at hSw); go_simp; try with_reducible rfl
                      (try simp only [Act.put, List.setIfInBounds_toArray, List.set_cons_zero, List.set_cons_succ])
                      refine wpAnyH_take (i := 22) (oi := { dst := some 72, op := Op.load 28 (Operand.tmp 3), type := 28, pos := "law.go:103", after := #[{ on := 21, ground := Ground.guard }], guard := some (21, false) }) (v := ?_) rfl (by kernel_rfl) (by kernel_rfl) (by kernel_rfl) (fun _ _ _ h => h) (_root_.Or.inl ⟨by rfl, ?_⟩) (by assumption) ?_
                      rotate_left
                      · intro w0 hSw; (try dsimp only at hSw); go_simp; try with_reducible rfl
                      (try simp only [Act.put, List.setIfInBounds_toArray, List.set_cons_zero, List.set_cons_succ])
                      refine wpAnyH_take (i := 23) (oi := { dst := some 73, op := Op.fieldAddr 31 (Operand.tmp 1) 1, type := 0, pos := "law.go:103", after := #[{ on := 21, ground := Ground.guard }], guard := some (21, false) }) (v := ?_) rfl (by kernel_rfl) (by kernel_rfl) (by kernel_rfl) (fun _ _ _ h => h) (_root_.Or.inl ⟨by rfl, ?_⟩) (by assumption) ?_
                      rotate_left
                      · intro w0 hSw; (try dsimp only at hSw); go_simp; try with_reducible rfl
                      (try simp only [Act.put, List.setIfInBounds_toArray, List.set_cons_zero, List.set_cons_succ])
                      refine wpAnyH_take (i := 24) (oi := { dst := some 74, op := Op.load 28 (Operand.tmp 73), type := 28, pos := "law.go:103", after := #[{ on := 23, ground := Ground.data }, { on := 21, ground := Ground.guard }], guard := some (21, false) }) (v := ?_) rfl (by kernel_rfl) (by kernel_rfl) (by kernel_rfl) (fun _ _ _ h => h) (_root_.Or.inl ⟨by rfl, ?_⟩) (by assumption) ?_
                      rotate_left
                      · intro w0 hSw; (try dsimp only at hSw); go_simp; try with_reducible rfl
                      (try simp only [Act.put, List.setIfInBounds_toArray, List.set_cons_zero, List.set_cons_succ])
                      refine wpAnyH_ready (rs := [25]) (by kernel_rfl) (by simp) ?_
                      refine AllReadyH.cons (o := { dst := some 75, op := Op.call { callee := Callee.value (Operand.func 31), args := #[Operand.tmp 72, Operand.tmp 74], argTypes := #[28, 28] }, type := 4, pos := "law.go:103", after := #[{ on := 22, ground := Ground.data }, { on := 24, ground := Ground.data }, { on := 21, ground := Ground.chain }, { on := 21, ground := Ground.guard }], guard := some (21, false) }) rfl (fun K hK => ?_) AllReadyH.nil
                      go_simp
                      go_at_call 31
                      refine (HQ5.out _ HG9.out).mono ?_
                      rintro e y5 ⟨rfl, hg8⟩
                      go_wp2_with fail
                      replace HG9 := Lib.hid (HG9.out.trans hg8)
                      clear hg8 hHeld
                      refine hK.out _ _ (HKEEP.out _ HG9.out) (fun hHeld => ?_)
                      clear hK K
                      (try simp only [Act.put, List.setIfInBounds_toArray, List.set_cons_zero, List.set_cons_succ])
                      as_aux_lemma =>
                        refine wpAnyH_take (i := 26) (oi := { dst := some 76, op := Op.unOp UnOp.not 4 (Operand.tmp 75), type := 4, pos := "law.go:103", after := #[{ on := 25, ground := Ground.data }, { on := 21, ground := Ground.guard }], guard := some (21, false) }) (v := ?_) rfl (by kernel_rfl) (by kernel_rfl) (by kernel_rfl) (fun _ _ _ h => h) (_root_.Or.inl ⟨by rfl, ?_⟩) (by assumption) ?_
                        rotate_left
                        · intro w0 hSw; (try dsimp only at hSw); go_simp; try with_reducible rfl
                        (try simp only [Act.put, List.setIfInBounds_toArray, List.set_cons_zero, List.set_cons_succ])
                        refine wpAnyH_take (i := 27) (oi := { dst := some 77, op := Op.pick (Operand.tmp 71) (Operand.const (Value.bool true)) (Operand.tmp 76), type := 4, pos := "law.go:103", after := #[{ on := 21, ground := Ground.data }, { on := 26, ground := Ground.data }], guard := none }) (v := ?_) rfl (by kernel_rfl) (by kernel_rfl) (by kernel_rfl) (fun _ _ _ h => h) (_root_.Or.inl ⟨by rfl, ?_⟩) (by assumption) ?_
                        rotate_left
                        · intro w0 hSw; (try dsimp only at hSw); go_simp; try with_reducible rfl
                        (try simp only [Act.put, List.setIfInBounds_toArray, List.set_cons_zero, List.set_cons_succ])
                        refine wpAnyH_done (by kernel_rfl) ?_ _
                        clear hHeld HKEEP
                        clear q0 q1 q2 q3 q4 q5 q6 k0 k1 k2 k3 k4 k5 j0 j1 j2 j3 j4 a3 b3 d3 a4 b4 d4 a5 b5 d5 a7 b7 d7 a9 b9 d9
                        replace HG := Lib.hid (HG.out.trans HG9.out)
                        replace HX := Lib.hid (HX.out.gr HG9.out)
                        replace HE3 := Lib.hid (HE3.out.gr HG9.out)
                        replace HE4 := Lib.hid (HE4.out.gr HG9.out)
                        replace HE5 := Lib.hid (HE5.out.gr HG9.out)
                        replace HE7 := Lib.hid (HE7.out.gr HG9.out)
                        replace HE9 := Lib.hid (HE9.out.gr HG9.out)
                        replace HA := Lib.hid (HA.out.later HG9.out)
                        replace HB := Lib.hid (HB.out.later HG9.out)
                        replace HC := Lib.hid (HC.out.later HG9.out)
                        replace HRu := Lib.hid (HRu.out.later HG9.out)
                        replace HSu := Lib.hid (HSu.out.later HG9.out)
                        replace HRv := Lib.hid (HRv.out.later HG9.out)
                        replace HSv := Lib.hid (HSv.out.later HG9.out)
                        replace HR5 := Lib.hid (HR5.out.later HG9.out)
                        replace HR7 := Lib.hid (HR7.out.later HG9.out)
                        replace HR9 := Lib.hid (HR9.out.later HG9.out)
                        replace HBD := Lib.hid (Nat.le_trans HBD.out (Gr.size HG9.out))
                        clear HG9 HQ1 HQ2 HQ3 HQ4 HQ5
                        obtain ⟨⟨q0, q1, q2, q3, q4, q5, q6⟩, ⟨k0, k1, k2, k3, k4, k5⟩, j0, j1, j2, j3, j4⟩ := HX.out.p18
                        obtain ⟨a3, b3, d3⟩ := HE3.out.p3
                        obtain ⟨a4, b4, d4⟩ := HE4.out.p3
                        obtain ⟨a5, b5, d5⟩ := HE5.out.p3
                        obtain ⟨a7, b7, d7⟩ := HE7.out.p3
                        obtain ⟨a9, b9, d9⟩ := HE9.out.p3
                        as_aux_lemma =>
                          go_wp2_with fail
                          refine (spoil_any lvA spA _ rA lo1 hi1 _ HSu.out (Nat.le_trans HI1.out.2.2.2.1 HBD.out) (sm_up SA.out.2).2).mono ?_
                          rintro e z1 ⟨rfl, hov⟩
                          clear q0 q1 q2 q3 q4 q5 q6 k0 k1 k2 k3 k4 k5 j0 j1 j2 j3 j4 a3 b3 d3 a4 b4 d4 a5 b5 d5 a7 b7 d7 a9 b9 d9
                          clear HE3
                          clear HRu HSu
                          replace HG := Lib.hid (hov.of_gr HG.out HI1.out.1)
                          replace HX := Lib.hid (hov.blk HX.out (.inl HI1.out.2.1))
                          replace HE4 := Lib.hid (hov.blk HE4.out HI1.out.2.2.2.2.2.2)
                          replace HE5 := Lib.hid (hov.blk HE5.out (.inr (Nat.le_trans HI1.out.2.2.2.1 HI5.out)))
                          replace HE7 := Lib.hid (hov.blk HE7.out (.inr (Nat.le_trans HI1.out.2.2.2.1 HI7.out)))
                          replace HE9 := Lib.hid (hov.blk HE9.out (.inr (Nat.le_trans HI1.out.2.2.2.1 HI9.out)))
                          replace HA := Lib.hid (hov.hasB HA.out (.inl HI1.out.2.2.1))
                          replace HB := Lib.hid (hov.hasB HB.out (.inl HI1.out.2.2.1))
                          replace HC := Lib.hid (hov.hasP HC.out (fun h0 q hq => Nat.lt_of_lt_of_le (HCL.out h0 q hq) HI1.out.2.2.1))
                          replace HRv := Lib.hid (hov.hasB HRv.out (.inr HI1.out.2.2.2.2.1))
                          replace HSv := Lib.hid (hov.spR HSv.out (.inr HI1.out.2.2.2.2.1))
                          replace HR5 := Lib.hid (hov.hasB HR5.out (.inr HI1.out.2.2.2.1))
                          replace HR7 := Lib.hid (hov.hasB HR7.out (.inr HI1.out.2.2.2.1))
                          replace HR9 := Lib.hid (hov.hasB HR9.out (.inr HI1.out.2.2.2.1))
                          replace HBD := Lib.hid (Nat.le_trans HBD.out hov.size)
                          clear hov
                          obtain ⟨⟨q0, q1, q2, q3, q4, q5, q6⟩, ⟨k0, k1, k2, k3, k4, k5⟩, j0, j1, j2, j3, j4⟩ := HX.out.p18
                          obtain ⟨a4, b4, d4⟩ := HE4.out.p3
                          obtain ⟨a5, b5, d5⟩ := HE5.out.p3
                          obtain ⟨a7, b7, d7⟩ := HE7.out.p3
                          obtain ⟨a9, b9, d9⟩ := HE9.out.p3
                          as_aux_lemma =>
                            go_wp2_with fail
                            refine (spoil_any lvB spB _ rB lo2 hi2 _ HSv.out (Nat.le_trans HI2.out.2.2.2 HBD.out) (sm_up SB.out.2).2).mono ?_
                            rintro e z2 ⟨rfl, hov⟩
                            clear q0 q1 q2 q3 q4 q5 q6 k0 k1 k2 k3 k4 k5 j0 j1 j2 j3 j4 a4 b4 d4 a5 b5 d5 a7 b7 d7 a9 b9 d9
                            clear HE4
                            clear HRv HSv
                            replace HG := Lib.hid (hov.of_gr HG.out HI2.out.1)
                            replace HX := Lib.hid (hov.blk HX.out (.inl HI2.out.2.1))
                            replace HE5 := Lib.hid (hov.blk HE5.out (.inr (Nat.le_trans HI2.out.2.2.2 HI5.out)))
                            replace HE7 := Lib.hid (hov.blk HE7.out (.inr (Nat.le_trans HI2.out.2.2.2 HI7.out)))
                            replace HE9 := Lib.hid (hov.blk HE9.out (.inr (Nat.le_trans HI2.out.2.2.2 HI9.out)))
                            replace HA := Lib.hid (hov.hasB HA.out (.inl HI2.out.2.2.1))
                            replace HB := Lib.hid (hov.hasB HB.out (.inl HI2.out.2.2.1))
                            replace HC := Lib.hid (hov.hasP HC.out (fun h0 q hq => Nat.lt_of_lt_of_le (HCL.out h0 q hq) HI2.out.2.2.1))
                            replace HR5 := Lib.hid (hov.hasB HR5.out (.inr HI2.out.2.2.2))
                            replace HR7 := Lib.hid (hov.hasB HR7.out (.inr HI2.out.2.2.2))
                            replace HR9 := Lib.hid (hov.hasB HR9.out (.inr HI2.out.2.2.2))
                            replace HBD := Lib.hid (Nat.le_trans HBD.out hov.size)
                            clear hov
                            obtain ⟨⟨q0, q1, q2, q3, q4, q5, q6⟩, ⟨k0, k1, k2, k3, k4, k5⟩, j0, j1, j2, j3, j4⟩ := HX.out.p18
                            obtain ⟨a5, b5, d5⟩ := HE5.out.p3
                            obtain ⟨a7, b7, d7⟩ := HE7.out.p3
                            obtain ⟨a9, b9, d9⟩ := HE9.out.p3
                            as_aux_lemma =>
                              go_wp2_with fail
                              refine (HOP11.out _ (.slice xA nA cA) (.slice xB nB cB) HC.out HA.out.hasR HB.out.hasR HBD.out).mono ?_
                              rintro e v11 ⟨x11, n11, c11, rfl, hr11, hg0⟩
                              have HI11 := Lib.hid (Nat.le_trans HBD.out (Gr.size hg0))
                              have hgn := Gr.new v11 (.cells #[.int .i64 LV, .bool SP, .slice x11 n11 c11] 28)
                              have hgg := Gr.trans hg0 hgn
                              clear q0 q1 q2 q3 q4 q5 q6 k0 k1 k2 k3 k4 k5 j0 j1 j2 j3 j4 a5 b5 d5 a7 b7 d7 a9 b9 d9
                              replace HG := Lib.hid (HG.out.trans hgg)
                              replace HX := Lib.hid (HX.out.gr hgg)
                              replace HE5 := Lib.hid (HE5.out.gr hgg)
                              replace HE7 := Lib.hid (HE7.out.gr hgg)
                              replace HE9 := Lib.hid (HE9.out.gr hgg)
                              replace HA := Lib.hid (HA.out.later hgg)
                              replace HB := Lib.hid (HB.out.later hgg)
                              replace HC := Lib.hid (HC.out.later hgg)
                              replace HR5 := Lib.hid (HR5.out.later hgg)
                              replace HR7 := Lib.hid (HR7.out.later hgg)
                              replace HR9 := Lib.hid (HR9.out.later hgg)
                              replace HBD := Lib.hid (Nat.le_trans HBD.out (Gr.size hgg))
                              have HE11 := Lib.hid (Blk.new v11 28 #[.int .i64 LV, .bool SP, .slice x11 n11 c11])
                              have HR11 := Lib.hid (hr11.later hgn)
                              clear hr11 hg0 hgn hgg
                              obtain ⟨⟨q0, q1, q2, q3, q4, q5, q6⟩, ⟨k0, k1, k2, k3, k4, k5⟩, j0, j1, j2, j3, j4⟩ := HX.out.p18
                              obtain ⟨a5, b5, d5⟩ := HE5.out.p3
                              obtain ⟨a7, b7, d7⟩ := HE7.out.p3
                              obtain ⟨a9, b9, d9⟩ := HE9.out.p3
                              obtain ⟨a11, b11, d11⟩ := HE11.out.p3
                              clear HOP11
                              as_aux_lemma =>
                                go_wp2_with fail
                                refine (HOP13.out _ (.slice xA nA cA) (.slice xB nB cB) HC.out HA.out.hasR HB.out.hasR HBD.out).mono ?_
                                rintro e v13 ⟨x13, n13, c13, rfl, hr13, hg0⟩
                                have HI13 := Lib.hid (Nat.le_trans HBD.out (Gr.size hg0))
                                have hgn := Gr.new v13 (.cells #[.int .i64 LV, .bool SP, .slice x13 n13 c13] 28)
                                have hgg := Gr.trans hg0 hgn
                                clear q0 q1 q2 q3 q4 q5 q6 k0 k1 k2 k3 k4 k5 j0 j1 j2 j3 j4 a5 b5 d5 a7 b7 d7 a9 b9 d9 a11 b11 d11
                                replace HG := Lib.hid (HG.out.trans hgg)
                                replace HX := Lib.hid (HX.out.gr hgg)
                                replace HE5 := Lib.hid (HE5.out.gr hgg)
                                replace HE7 := Lib.hid (HE7.out.gr hgg)
                                replace HE9 := Lib.hid (HE9.out.gr hgg)
                                replace HE11 := Lib.hid (HE11.out.gr hgg)
                                replace HA := Lib.hid (HA.out.later hgg)
                                replace HB := Lib.hid (HB.out.later hgg)
                                replace HC := Lib.hid (HC.out.later hgg)
                                replace HR5 := Lib.hid (HR5.out.later hgg)
                                replace HR7 := Lib.hid (HR7.out.later hgg)
                                replace HR9 := Lib.hid (HR9.out.later hgg)
                                replace HR11 := Lib.hid (HR11.out.later hgg)
                                replace HBD := Lib.hid (Nat.le_trans HBD.out (Gr.size hgg))
                                have HE13 := Lib.hid (Blk.new v13 28 #[.int .i64 LV, .bool SP, .slice x13 n13 c13])
                                have HR13 := Lib.hid (hr13.later hgn)
                                clear hr13 hg0 hgn hgg
                                obtain ⟨⟨q0, q1, q2, q3, q4, q5, q6⟩, ⟨k0, k1, k2, k3, k4, k5⟩, j0, j1, j2, j3, j4⟩ := HX.out.p18
                                obtain ⟨a5, b5, d5⟩ := HE5.out.p3
                                obtain ⟨a7, b7, d7⟩ := HE7.out.p3
                                obtain ⟨a9, b9, d9⟩ := HE9.out.p3
                                obtain ⟨a11, b11, d11⟩ := HE11.out.p3
                                obtain ⟨a13, b13, d13⟩ := HE13.out.p3
                                clear HOP13
                                as_aux_lemma =>
                                  go_wp2_with fail
                                  refine (HOP15.out _ (.slice xA nA cA) (.slice xB nB cB) HC.out HA.out.hasR HB.out.hasR HBD.out).mono ?_
                                  rintro e v15 ⟨x15, n15, c15, rfl, hr15, hg0⟩
                                  have HI15 := Lib.hid (Nat.le_trans HBD.out (Gr.size hg0))
                                  have hgn := Gr.new v15 (.cells #[.int .i64 LV, .bool SP, .slice x15 n15 c15] 28)
                                  have hgg := Gr.trans hg0 hgn
                                  clear q0 q1 q2 q3 q4 q5 q6 k0 k1 k2 k3 k4 k5 j0 j1 j2 j3 j4 a5 b5 d5 a7 b7 d7 a9 b9 d9 a11 b11 d11 a13 b13 d13
                                  replace HG := Lib.hid (HG.out.trans hgg)
                                  replace HX := Lib.hid (HX.out.gr hgg)
                                  replace HE5 := Lib.hid (HE5.out.gr hgg)
                                  replace HE7 := Lib.hid (HE7.out.gr hgg)
                                  replace HE9 := Lib.hid (HE9.out.gr hgg)
                                  replace HE11 := Lib.hid (HE11.out.gr hgg)
                                  replace HE13 := Lib.hid (HE13.out.gr hgg)
                                  replace HA := Lib.hid (HA.out.later hgg)
                                  replace HB := Lib.hid (HB.out.later hgg)
                                  replace HC := Lib.hid (HC.out.later hgg)
                                  replace HR5 := Lib.hid (HR5.out.later hgg)
                                  replace HR7 := Lib.hid (HR7.out.later hgg)
                                  replace HR9 := Lib.hid (HR9.out.later hgg)
                                  replace HR11 := Lib.hid (HR11.out.later hgg)
                                  replace HR13 := Lib.hid (HR13.out.later hgg)
                                  replace HBD := Lib.hid (Nat.le_trans HBD.out (Gr.size hgg))
                                  have HE15 := Lib.hid (Blk.new v15 28 #[.int .i64 LV, .bool SP, .slice x15 n15 c15])
                                  have HR15 := Lib.hid (hr15.later hgn)
                                  clear hr15 hg0 hgn hgg
                                  obtain ⟨⟨q0, q1, q2, q3, q4, q5, q6⟩, ⟨k0, k1, k2, k3, k4, k5⟩, j0, j1, j2, j3, j4⟩ := HX.out.p18
                                  obtain ⟨a5, b5, d5⟩ := HE5.out.p3
                                  obtain ⟨a7, b7, d7⟩ := HE7.out.p3
                                  obtain ⟨a9, b9, d9⟩ := HE9.out.p3
                                  obtain ⟨a11, b11, d11⟩ := HE11.out.p3
                                  obtain ⟨a13, b13, d13⟩ := HE13.out.p3
                                  obtain ⟨a15, b15, d15⟩ := HE15.out.p3
                                  clear HOP15
                                  as_aux_lemma =>
                                    clear HA HB HC
                                    go_wp2_with fail
                                    refine (lsame_any LV SP LV SP LA LA (.slice x5 n5 c5) (.slice x11 n11 c11) _ HR5.out.hasR HR11.out.hasR SMA.out SMA.out).mono ?_
                                    rintro e y6 ⟨rfl, hg0⟩
                                    rw [decide_eq_true (show SameE LV SP LA LV SP LA from ⟨rfl, rfl, rfl⟩)]
                                    clear q0 q1 q2 q3 q4 q5 q6 k0 k1 k2 k3 k4 k5 j0 j1 j2 j3 j4 a5 b5 d5 a7 b7 d7 a9 b9 d9 a11 b11 d11 a13 b13 d13 a15 b15 d15
                                    replace HG := Lib.hid (HG.out.trans hg0)
                                    replace HX := Lib.hid (HX.out.gr hg0)
                                    replace HE5 := Lib.hid (HE5.out.gr hg0)
                                    replace HE7 := Lib.hid (HE7.out.gr hg0)
                                    replace HE9 := Lib.hid (HE9.out.gr hg0)
                                    replace HE11 := Lib.hid (HE11.out.gr hg0)
                                    replace HE13 := Lib.hid (HE13.out.gr hg0)
                                    replace HE15 := Lib.hid (HE15.out.gr hg0)
                                    replace HR5 := Lib.hid (HR5.out.later hg0)
                                    replace HR7 := Lib.hid (HR7.out.later hg0)
                                    replace HR9 := Lib.hid (HR9.out.later hg0)
                                    replace HR11 := Lib.hid (HR11.out.later hg0)
                                    replace HR13 := Lib.hid (HR13.out.later hg0)
                                    replace HR15 := Lib.hid (HR15.out.later hg0)
                                    replace HBD := Lib.hid (Nat.le_trans HBD.out (Gr.size hg0))
                                    clear hg0
                                    obtain ⟨⟨q0, q1, q2, q3, q4, q5, q6⟩, ⟨k0, k1, k2, k3, k4, k5⟩, j0, j1, j2, j3, j4⟩ := HX.out.p18
                                    obtain ⟨a5, b5, d5⟩ := HE5.out.p3
                                    obtain ⟨a7, b7, d7⟩ := HE7.out.p3
                                    obtain ⟨a9, b9, d9⟩ := HE9.out.p3
                                    obtain ⟨a11, b11, d11⟩ := HE11.out.p3
                                    obtain ⟨a13, b13, d13⟩ := HE13.out.p3
                                    obtain ⟨a15, b15, d15⟩ := HE15.out.p3
                                    as_aux_lemma =>
                                      go_wp2_with fail
                                      refine (lsame_any LV SP LV SP LS LS (.slice x7 n7 c7) (.slice x13 n13 c13) _ HR7.out.hasR HR13.out.hasR SMS.out SMS.out).mono ?_
                                      rintro e y7 ⟨rfl, hg0⟩
                                      rw [decide_eq_true (show SameE LV SP LS LV SP LS from ⟨rfl, rfl, rfl⟩)]
                                      clear q0 q1 q2 q3 q4 q5 q6 k0 k1 k2 k3 k4 k5 j0 j1 j2 j3 j4 a5 b5 d5 a7 b7 d7 a9 b9 d9 a11 b11 d11 a13 b13 d13 a15 b15 d15
                                      replace HG := Lib.hid (HG.out.trans hg0)
                                      replace HX := Lib.hid (HX.out.gr hg0)
                                      replace HE5 := Lib.hid (HE5.out.gr hg0)
                                      replace HE7 := Lib.hid (HE7.out.gr hg0)
                                      replace HE9 := Lib.hid (HE9.out.gr hg0)
                                      replace HE11 := Lib.hid (HE11.out.gr hg0)
                                      replace HE13 := Lib.hid (HE13.out.gr hg0)
                                      replace HE15 := Lib.hid (HE15.out.gr hg0)
                                      replace HR5 := Lib.hid (HR5.out.later hg0)
                                      replace HR7 := Lib.hid (HR7.out.later hg0)
                                      replace HR9 := Lib.hid (HR9.out.later hg0)
                                      replace HR11 := Lib.hid (HR11.out.later hg0)
                                      replace HR13 := Lib.hid (HR13.out.later hg0)
                                      replace HR15 := Lib.hid (HR15.out.later hg0)
                                      replace HBD := Lib.hid (Nat.le_trans HBD.out (Gr.size hg0))
                                      clear hg0
                                      obtain ⟨⟨q0, q1, q2, q3, q4, q5, q6⟩, ⟨k0, k1, k2, k3, k4, k5⟩, j0, j1, j2, j3, j4⟩ := HX.out.p18
                                      obtain ⟨a5, b5, d5⟩ := HE5.out.p3
                                      obtain ⟨a7, b7, d7⟩ := HE7.out.p3
                                      obtain ⟨a9, b9, d9⟩ := HE9.out.p3
                                      obtain ⟨a11, b11, d11⟩ := HE11.out.p3
                                      obtain ⟨a13, b13, d13⟩ := HE13.out.p3
                                      obtain ⟨a15, b15, d15⟩ := HE15.out.p3
                                      as_aux_lemma =>
                                        go_wp2_with fail
                                        refine (lsame_any LV SP LV SP LM LM (.slice x9 n9 c9) (.slice x15 n15 c15) _ HR9.out.hasR HR15.out.hasR SMM.out SMM.out).mono ?_
                                        rintro e y8 ⟨rfl, hg0⟩
                                        rw [decide_eq_true (show SameE LV SP LM LV SP LM from ⟨rfl, rfl, rfl⟩)]
                                        clear q0 q1 q2 q3 q4 q5 q6 k0 k1 k2 k3 k4 k5 j0 j1 j2 j3 j4 a5 b5 d5 a7 b7 d7 a9 b9 d9 a11 b11 d11 a13 b13 d13 a15 b15 d15
                                        replace HG := Lib.hid (HG.out.trans hg0)
                                        replace HX := Lib.hid (HX.out.gr hg0)
                                        replace HE5 := Lib.hid (HE5.out.gr hg0)
                                        replace HE7 := Lib.hid (HE7.out.gr hg0)
                                        replace HE9 := Lib.hid (HE9.out.gr hg0)
                                        replace HE11 := Lib.hid (HE11.out.gr hg0)
                                        replace HE13 := Lib.hid (HE13.out.gr hg0)
                                        replace HE15 := Lib.hid (HE15.out.gr hg0)
                                        replace HR5 := Lib.hid (HR5.out.later hg0)
                                        replace HR7 := Lib.hid (HR7.out.later hg0)
                                        replace HR9 := Lib.hid (HR9.out.later hg0)
                                        replace HR11 := Lib.hid (HR11.out.later hg0)
                                        replace HR13 := Lib.hid (HR13.out.later hg0)
                                        replace HR15 := Lib.hid (HR15.out.later hg0)
                                        replace HBD := Lib.hid (Nat.le_trans HBD.out (Gr.size hg0))
                                        clear hg0
                                        obtain ⟨⟨q0, q1, q2, q3, q4, q5, q6⟩, ⟨k0, k1, k2, k3, k4, k5⟩, j0, j1, j2, j3, j4⟩ := HX.out.p18
                                        obtain ⟨a5, b5, d5⟩ := HE5.out.p3
                                        obtain ⟨a7, b7, d7⟩ := HE7.out.p3
                                        obtain ⟨a9, b9, d9⟩ := HE9.out.p3
                                        obtain ⟨a11, b11, d11⟩ := HE11.out.p3
                                        obtain ⟨a13, b13, d13⟩ := HE13.out.p3
                                        obtain ⟨a15, b15, d15⟩ := HE15.out.p3
                                        as_aux_lemma =>
                                          go_wp2_with fail
                                          refine (awake9_any _).mono ?_
                                          rintro e wz ⟨rfl, hg2⟩
                                          replace HG := Lib.hid (HG.out.trans hg2)
                                          clear hg2
                                          go_wp2_with fail
                                          go_ret
                                          exact ⟨rfl, HG.out⟩
end Go.Proofs.YtlfiakpmnkhcdaaGreat.Mo
