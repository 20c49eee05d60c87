import Derived.Test.YtlfiakpmnkhcdaaGreatLKk
namespace Go.Proofs.YtlfiakpmnkhcdaaGreat.Mo
open Go.RowKit Go.Shelf
set_option linter.unusedVariables false
set_option linter.unusedSimpArgs false
def LentP (lv : Int) (sp : Bool) (rA : List (List Int)) (w : World) (e : Ending) (w' : World) : Prop := ∃ x c, e = .returned (.agg #[.int .i64 lv, .bool sp, .slice x rA.length c]) ∧ HasB w' w.heap.size w'.heap.size (.slice x rA.length c) rA ∧ SpR w' w.heap.size w'.heap.size (.slice x rA.length c) rA ∧ Gr w w'
theorem own_empty32 (w : World) (base : Nat) (hb : base ≤ w.heap.size) : Own1 (w.alloc (.cells #[] 22)) base (.slice (some ⟨w.heap.size, 0, none⟩) 0 0) [] :=
 ⟨U32.nil, rfl, .inr ⟨w.heap.size, 0, #[], rfl, hb, heap_alloc_new w _, Nat.le_refl _, by unfold maxLen; omega, rfl, rfl⟩⟩
set_option maxRecDepth 100000 in
set_option maxHeartbeats 8000000 in
theorem lent_any (lv : Int) (sp : Bool) (uA : Value) (rA : List (List Int)) (w : World) (hA : HasR w uA rA) (hs : Sm 1000 rA) :
  Calls Tryz.prog 13 #[.agg #[.int .i64 lv, .bool sp, uA]] w (LentP lv sp rA w) := by
 obtain ⟨xA, cA, rfl⟩ := hA.form
 generalize hnA : rA.length = nA at *
 obtain ⟨W1, hW1⟩ : ∃ W1, W1 = ((w.alloc (.cells #[.int .i64 lv, .bool sp, .slice xA nA cA] 28)).alloc (.cells #[.int .i64 0, .bool false, .slice none 0 0] 28)).alloc (.cells #[.int .i64 lv, .bool sp, .slice none 0 0] 28) := ⟨_, rfl⟩
 have HG := Lib.hid (show Gr w W1 by rw [hW1]; exact ((Gr.new w _).alloc _).alloc _)
 have HBA := Lib.hid (show Blk W1 w.heap.size 28 #[.int .i64 lv, .bool sp, .slice xA nA cA] by rw [hW1]; exact (Blk.new w _ _).gr ((Gr.new _ _).alloc _))
 have HRB := Lib.hid (show Blk W1 (w.heap.size + 1) 28 #[.int .i64 0, .bool false, .slice none 0 0] by rw [hW1]; exact (Blk.newk _ _ (by simp)).gr (Gr.new _ _))
 have HBO := Lib.hid (show Blk W1 (w.heap.size + 2) 28 #[.int .i64 lv, .bool sp, .slice none 0 0] by rw [hW1]; exact Blk.newk _ _ (by simp))
 have HSZ := Lib.hid (show W1.heap.size = w.heap.size + 3 by rw [hW1]; simp)
 have HA := Lib.hid hA
 have HNA := Lib.hid hnA
 have HSM := Lib.hid hs
 have hnA1 : nA ≤ 1000 := by rw [← hnA]; exact hs.1
 clear hA hnA hs
 obtain ⟨M, hM⟩ : ∃ M : List Int, M = List.replicate nA 0 := ⟨_, rfl⟩
 have HML := Lib.hid (show M.length = nA by rw [hM]; simp)
 clear hM
 obtain ⟨b, hb⟩ : ∃ b, b = W1.heap.size := ⟨_, rfl⟩
 have HLP := Lib.hid (show LP b (w.heap.size + 2) w W1 lv sp (fun i _ => rw_ rA i) M 0 (.slice none 0 0) [] W1 from LP.start hb.symm HBO.out HG.out)
 have hb3 : b = w.heap.size + 3 := by rw [hb]; exact HSZ.out
 have HB3 := Lib.hid hb3
 have hb4 : w.heap.size + 3 ≤ b := by omega
 clear hb hb3
 go_enter Tryz.func13, Tryz.ntmps13
 go_upto_region 2 with (fail)
 rw [← hW1]
 clear hW1
 go_wp2_with fail
 go_loopw [4] (fun i wr => ∃ (k : Nat) (x : Option Addr) (c : Nat) (ls : List (List Int)), i = .int .i64 k ∧ k ≤ nA ∧ LP b (w.heap.size + 2) w W1 lv sp (fun i _ => rw_ rA i) M k (.slice x k c) ls wr ∧ OwnF wr b (.slice x k c) ls) (fun i _ => nA - (intOf i).toNat)
 case atStart => exact ⟨0, none, 0, [], rfl, by omega, HLP.out, OwnF.nil _ _⟩
 case round =>
  obtain ⟨k, vx, vc, ls, rfl, hk, hlp, hof⟩ := hrel
  have HFK := Lib.hid hof
  clear hof
  have HLK := Lib.hid hlp
  obtain ⟨a0, a1, a2⟩ := (hlp.fx.blk HBA.out (by omega) (by omega)).p3
  clear hlp
  by_cases hlt : k < nA
  ·have i1 : (k : Int) < (nA : Int) := by omega
   have i0 : (0 : Int) ≤ (k : Int) := by omega
   obtain ⟨gA, oA, sx, sn, sc, rfl, hcA, hs1, hpA⟩ := HasB.at_ HA.out (i := k) (by rw [HNA.out]; exact hlt)
   have HPA := Lib.hid hpA
   have HCA := Lib.hid hcA
   have HRL := Lib.hid (show ([] : List Int).length + (rw_ rA k).length ≤ 1000000 by have := HSM.out.2 k (by rw [HNA.out]; exact hlt); simp; omega)
   have HROW := Lib.hid (show rw_ rA k = (fun i _ => rw_ rA i) k (Op.cf M k) from rfl)
   clear hs1 hpA hcA
   go_wp2_with fail
   clear a0 a1 a2
   have HKEEP := Lib.hid (show ∀ wz, Fx b (w.heap.size + 2) W1 wz → Gr w wz → (wz.cell? ⟨w.heap.size, 2, none⟩ = some (.slice (some ⟨gA, oA, none⟩) nA cA) ∧ wz.cell? ⟨gA, oA + k, none⟩ = some (.slice sx sn sc)) from fun wz fx g => ⟨(fx.blk HBA.out (by omega) (by omega)).p3.2.2, g.keeps HCA.out⟩)
   have HL0 := Lib.hid (HLK.out.later (show Gr wr wr.drew from Below.drew (Gr.refl wr)))
   have HLd := HL0
   have HFd := Lib.hid (HFK.out.gr (show Gr wr wr.drew from Below.drew (Gr.refl wr)))
   have HLEN := Lib.hid (show ls.length ≤ 1000000 by rw [HLK.out.len]; omega)
   have HLL := Lib.hid (show (ls ++ [(rw_ rA k)]).length = k + 1 by rw [List.length_append, HLK.out.len]; rfl)
   obtain ⟨o0, o1, o2⟩ := HLd.out.out.p3
   refine wp_region_held_drew (S := fun wz => wz.cell? ⟨w.heap.size, 2, none⟩ = some (.slice (some ⟨gA, oA, none⟩) nA cA) ∧ wz.cell? ⟨gA, oA + k, none⟩ = some (.slice sx sn sc)) (by kernel_rfl) (HKEEP.out _ HLd.out.fx HLd.out.gr) (fun hHeld => ?_)
   show wpAnyH _ _ _ _ _ 13 #[false, false, false, false, false, false, false, false, false, false, false, false, false] _ _
   refine wpAnyH_take (i := 0) (oi := ⟨some 17, .fieldAddr 28 (.tmp 3) 2, 0, "law.go:53", #[], none⟩) (v := ?_) rfl (by kernel_rfl) (by kernel_rfl) (by kernel_rfl) (fun _ _ _ h => h) (_root_.Or.inl ⟨by rfl, ?_⟩) (by assumption) ?_
   rotate_left
   ·intro w0 hSw; (try dsimp only at hSw); go_simp; try with_reducible rfl
   (try simp only [Act.put, List.setIfInBounds_toArray, List.set_cons_zero, List.set_cons_succ])
   refine wpAnyH_take (i := 3) (oi := ⟨some 20, .fieldAddr 28 (.tmp 1) 2, 0, "law.go:53", #[], none⟩) (v := ?_) rfl (by kernel_rfl) (by kernel_rfl) (by kernel_rfl) (fun _ _ _ h => h) (_root_.Or.inl ⟨by rfl, ?_⟩) (by assumption) ?_
   rotate_left
   ·intro w0 hSw; (try dsimp only at hSw); go_simp; try with_reducible rfl
   (try simp only [Act.put, List.setIfInBounds_toArray, List.set_cons_zero, List.set_cons_succ])
   refine wpAnyH_take (i := 4) (oi := ⟨some 21, .load 26 (.tmp 20), 26, "law.go:53", #[⟨3, .data⟩], none⟩) (v := ?_) rfl (by kernel_rfl) (by kernel_rfl) (by kernel_rfl) (fun _ _ _ h => h) (_root_.Or.inl ⟨by rfl, ?_⟩) (by assumption) ?_
   rotate_left
   ·intro w0 hSw; (try dsimp only at hSw); go_simp; try with_reducible rfl
   (try simp only [Act.put, List.setIfInBounds_toArray, List.set_cons_zero, List.set_cons_succ])
   refine wpAnyH_take (i := 5) (oi := ⟨some 22, .move (.tmp 4), 3, "law.go:53", #[], none⟩) (v := ?_) rfl (by kernel_rfl) (by kernel_rfl) (by kernel_rfl) (fun _ _ _ h => h) (_root_.Or.inl ⟨by rfl, ?_⟩) (by assumption) ?_
   rotate_left
   ·intro w0 hSw; (try dsimp only at hSw); go_simp; try with_reducible rfl
   (try simp only [Act.put, List.setIfInBounds_toArray, List.set_cons_zero, List.set_cons_succ])
   refine wpAnyH_take (i := 6) (oi := ⟨some 23, .indexAddr 26 (.tmp 21) (.tmp 22), 0, "law.go:53", #[⟨4, .data⟩, ⟨5, .data⟩], none⟩) (v := ?_) rfl (by kernel_rfl) (by kernel_rfl) (by kernel_rfl) (fun _ _ _ h => h) (_root_.Or.inl ⟨by rfl, ?_⟩) (by assumption) ?_
   rotate_left
   ·intro w0 hSw; (try dsimp only at hSw); go_simp; try with_reducible rfl
   (try simp only [Act.put, List.setIfInBounds_toArray, List.set_cons_zero, List.set_cons_succ])
   refine wpAnyH_take (i := 7) (oi := ⟨some 24, .load 23 (.tmp 23), 23, "law.go:53", #[⟨6, .data⟩], none⟩) (v := ?_) rfl (by kernel_rfl) (by kernel_rfl) (by kernel_rfl) (fun _ _ _ h => h) (_root_.Or.inl ⟨by rfl, ?_⟩) (by assumption) ?_
   rotate_left
   ·intro w0 hSw; (try dsimp only at hSw); go_simp; try with_reducible rfl
   (try simp only [Act.put, List.setIfInBounds_toArray, List.set_cons_zero, List.set_cons_succ])
   refine wpAnyH_ready (rs := [1, 2]) (by kernel_rfl) (by simp) ?_
   refine AllReadyH.cons (o := ⟨some 18, .load 26 (.tmp 17), 26, "law.go:53", #[⟨0, .data⟩], none⟩) rfl (fun K hK => ?_) ?_
   ·go_simp
    refine hK.out _ _ hHeld (fun hHeld => ?_)
    clear hK K
    (try simp only [Act.put, List.setIfInBounds_toArray, List.set_cons_zero, List.set_cons_succ])
    refine wpAnyH_ready (rs := [2]) (by kernel_rfl) (by simp) ?_
    refine AllReadyH.cons (o := ⟨some 19, .buildSlice 23 0 #[], 23, "law.go:53", #[], none⟩) rfl (fun K hK => ?_) ?_
    ·go_simp
     refine hK.out _ _ (HKEEP.out _ (HL0.out.later (Gr.new wr.drew (.cells #[] 22))).fx (HL0.out.later (Gr.new wr.drew (.cells #[] 22))).gr) (fun hHeld => ?_)
     clear hK K
     (try simp only [Act.put, List.setIfInBounds_toArray, List.set_cons_zero, List.set_cons_succ])
     replace HLd := Lib.hid (HL0.out.later (show Gr wr.drew (wr.alloc (.cells #[] 22)).drew from Gr.new wr.drew (.cells #[] 22)))
     replace HFd := Lib.hid (HFd.out.gr (show Gr wr.drew (wr.alloc (.cells #[] 22)).drew from Gr.new wr.drew (.cells #[] 22)))
     clear o0 o1 o2
     obtain ⟨o0, o1, o2⟩ := HLd.out.out.p3
     refine wpAnyH_ready (rs := [8]) (by kernel_rfl) (by simp) ?_
     refine AllReadyH.cons (o := ⟨some 25, .call ⟨.builtin .append, #[.tmp 19, .tmp 24], #[23, 23]⟩, 23, "law.go:53", #[⟨2, .data⟩, ⟨7, .data⟩], none⟩) rfl (fun K hK => ?_) ?_
     ·refine wp_app (.tmp 19) (.tmp 24) rfl rfl wr.drew.heap.size (.slice (some ⟨wr.heap.size, 0, none⟩) 0 0) [] rfl (own_empty32 wr.drew _ (Nat.le_refl _)) (.slice sx sn sc) (rw_ rA k) rfl (HPA.out.later HLd.out.gr) HRL.out (Nat.le_of_lt (by simp)) ?_
      intro v1 w8 hown hgrow
      rw [List.nil_append] at hown
      obtain ⟨px, pc, hpv, -, -⟩ := hown.form
      subst hpv
      have HP8 := Lib.hid hown.hasP
      have HTH := Lib.hid hown.thaw
      have HF8 := Lib.hid (show Ap b (.slice vx k vc) (.slice px ((rw_ rA k)).length pc) (rw_ rA k) from ap_of_fresh (W0 := wr.drew) HL0.out.own HL0.out.fx.1 (hown.fresh rfl))
      have hg8 : Gr wr.drew w8 := grown_own (Gr.new wr.drew (.cells #[] 22)) (own_empty32 wr.drew _ (Nat.le_refl _)) hgrow (Nat.le_refl _)
      replace HFd := Lib.hid ((HFK.out.gr (show Gr wr wr.drew from Below.drew (Gr.refl wr))).gr hg8)
      clear hown hgrow
      refine hK.out _ _ (HKEEP.out _ (HL0.out.later hg8).fx (HL0.out.later hg8).gr) (fun hHeld => ?_)
      clear hK K
      (try simp only [Act.put, List.setIfInBounds_toArray, List.set_cons_zero, List.set_cons_succ])
      replace HLd := Lib.hid (HL0.out.later hg8)
      clear hg8
      clear o0 o1 o2
      obtain ⟨o0, o1, o2⟩ := HLd.out.out.p3
      refine wpAnyH_ready (rs := [9]) (by kernel_rfl) (by simp) ?_
      refine AllReadyH.cons (o := ⟨some 26, .buildSlice 26 1 #[(0, .tmp 25)], 26, "law.go:53", #[⟨8, .data⟩], none⟩) rfl (fun K hK => ?_) ?_
      ·go_simp
       refine hK.out _ _ (HKEEP.out _ (HLd.out.later (Gr.new w8 (.cells #[.slice px ((rw_ rA k)).length pc] 23))).fx (HLd.out.later (Gr.new w8 (.cells #[.slice px ((rw_ rA k)).length pc] 23))).gr) (fun hHeld => ?_)
       clear hK K
       (try simp only [Act.put, List.setIfInBounds_toArray, List.set_cons_zero, List.set_cons_succ])
       replace HLd := Lib.hid (HLd.out.later (Gr.new w8 (.cells #[.slice px ((rw_ rA k)).length pc] 23)))
       replace HFd := Lib.hid (HFd.out.gr (Gr.new w8 (.cells #[.slice px ((rw_ rA k)).length pc] 23)))
       clear o0 o1 o2
       obtain ⟨o0, o1, o2⟩ := HLd.out.out.p3
       refine wpAnyH_ready (rs := [10]) (by kernel_rfl) (by simp) ?_
       refine AllReadyH.cons (o := ⟨some 27, .call ⟨.builtin .append, #[.tmp 18, .tmp 26], #[26, 26]⟩, 26, "law.go:53", #[⟨1, .data⟩, ⟨9, .data⟩, ⟨8, .chain⟩], none⟩) rfl (fun K hK => ?_) ?_
       ·refine wp_appF (.tmp 18) (.tmp 26) rfl rfl b (.slice vx k vc) ls rfl HFd.out (.slice px ((rw_ rA k)).length pc) (rw_ rA k) w8.heap.size rfl (cell_new _ _ _) (HP8.out.later (Gr.new _ _)) HF8.out (HTH.out.gr (Gr.new _ _)) HLEN.out HLd.out.fx.1 ?_
        intro v' wn hownF hgrow
        have hown := hownF.ownR
        obtain ⟨va2, vc2, hv2, -, -⟩ := hown.form
        rw [HLL.out] at hv2
        subst hv2
        have HF9 := Lib.hid hownF
        clear hownF
        have HMID := Lib.hid (HLd.out.mid (by omega) hgrow)
        have HAPP := Lib.hid (HLd.out.app (by omega) (by omega) hown hgrow (by first | rfl | exact HROW.out))
        have HFX := Lib.hid (HLd.out.fx.row hgrow (fun r e => (HLd.out.own.lt r e).1))
        have HGN := Lib.hid (OwnR.grown HLd.out.own HLd.out.gr hgrow (by omega))
        clear hown hgrow
        refine hK.out _ _ (HKEEP.out _ HFX.out HGN.out) (fun hHeld => ?_)
        clear hK K
        (try simp only [Act.put, List.setIfInBounds_toArray, List.set_cons_zero, List.set_cons_succ])
        obtain ⟨e0, e1, e2⟩ := HMID.out.p3
        obtain ⟨f0, f1, f2⟩ := HMID.out.f3
        refine wpAnyH_take (i := 11) (oi := ⟨some 28, .fieldAddr 28 (.tmp 3) 2, 0, "law.go:53", #[⟨0, .phase⟩, ⟨1, .phase⟩, ⟨2, .phase⟩, ⟨3, .phase⟩, ⟨4, .phase⟩, ⟨5, .phase⟩, ⟨6, .phase⟩, ⟨7, .phase⟩, ⟨8, .phase⟩, ⟨9, .phase⟩, ⟨10, .phase⟩], none⟩) (v := ?_) rfl (by kernel_rfl) (by kernel_rfl) (by kernel_rfl) (fun _ _ _ h => h) (_root_.Or.inl ⟨by rfl, ?_⟩) (by assumption) ?_
        rotate_left
        ·intro w0 hSw; (try dsimp only at hSw); go_simp; try with_reducible rfl
        (try simp only [Act.put, List.setIfInBounds_toArray, List.set_cons_zero, List.set_cons_succ])
        refine wpAnyH_ready (rs := [12]) (by kernel_rfl) (by simp) ?_
        refine AllReadyH.cons (o := ⟨none, .store 26 (.tmp 28) (.tmp 27), 0, "law.go:53", #[⟨11, .data⟩, ⟨10, .data⟩, ⟨10, .chain⟩, ⟨0, .phase⟩, ⟨1, .phase⟩, ⟨2, .phase⟩, ⟨3, .phase⟩, ⟨4, .phase⟩, ⟨5, .phase⟩, ⟨6, .phase⟩, ⟨7, .phase⟩, ⟨8, .phase⟩, ⟨9, .phase⟩, ⟨10, .phase⟩], none⟩) rfl (fun K hK => ?_) ?_
        ·go_simp
         refine hK.out _ _ (HKEEP.out _ HAPP.out.fx HAPP.out.gr) (fun hHeld => ?_)
         clear hK K
         (try simp only [Act.put, List.setIfInBounds_toArray, List.set_cons_zero, List.set_cons_succ])
         refine wpAnyH_done (by kernel_rfl) ?_ _
         clear hHeld
         go_wp2_with fail
         go_roundw
         case rel => exact ⟨k + 1, va2, vc2, _, by go_num, by omega, HAPP.out, HF9.out.set (by omega) _⟩
         case measure => simp [intOf]; omega
        exact AllReadyH.nil
       exact AllReadyH.nil
      exact AllReadyH.nil
     exact AllReadyH.nil
    exact AllReadyH.nil
   refine AllReadyH.cons (o := ⟨some 19, .buildSlice 23 0 #[], 23, "law.go:53", #[], none⟩) rfl (fun K hK => ?_) ?_
   ·go_simp
    refine hK.out _ _ (HKEEP.out _ (HL0.out.later (Gr.new wr.drew (.cells #[] 22))).fx (HL0.out.later (Gr.new wr.drew (.cells #[] 22))).gr) (fun hHeld => ?_)
    clear hK K
    (try simp only [Act.put, List.setIfInBounds_toArray, List.set_cons_zero, List.set_cons_succ])
    replace HLd := Lib.hid (HL0.out.later (show Gr wr.drew (wr.alloc (.cells #[] 22)).drew from Gr.new wr.drew (.cells #[] 22)))
    replace HFd := Lib.hid (HFd.out.gr (show Gr wr.drew (wr.alloc (.cells #[] 22)).drew from Gr.new wr.drew (.cells #[] 22)))
    clear o0 o1 o2
    obtain ⟨o0, o1, o2⟩ := HLd.out.out.p3
    refine wpAnyH_ready (rs := [1, 8]) (by kernel_rfl) (by simp) ?_
    refine AllReadyH.cons (o := ⟨some 18, .load 26 (.tmp 17), 26, "law.go:53", #[⟨0, .data⟩], none⟩) rfl (fun K hK => ?_) ?_
    ·go_simp
     refine hK.out _ _ hHeld (fun hHeld => ?_)
     clear hK K
     (try simp only [Act.put, List.setIfInBounds_toArray, List.set_cons_zero, List.set_cons_succ])
     refine wpAnyH_ready (rs := [8]) (by kernel_rfl) (by simp) ?_
     refine AllReadyH.cons (o := ⟨some 25, .call ⟨.builtin .append, #[.tmp 19, .tmp 24], #[23, 23]⟩, 23, "law.go:53", #[⟨2, .data⟩, ⟨7, .data⟩], none⟩) rfl (fun K hK => ?_) ?_
     ·refine wp_app (.tmp 19) (.tmp 24) rfl rfl wr.drew.heap.size (.slice (some ⟨wr.heap.size, 0, none⟩) 0 0) [] rfl (own_empty32 wr.drew _ (Nat.le_refl _)) (.slice sx sn sc) (rw_ rA k) rfl (HPA.out.later HLd.out.gr) HRL.out (Nat.le_of_lt (by simp)) ?_
      intro v1 w8 hown hgrow
      rw [List.nil_append] at hown
      obtain ⟨px, pc, hpv, -, -⟩ := hown.form
      subst hpv
      have HP8 := Lib.hid hown.hasP
      have HTH := Lib.hid hown.thaw
      have HF8 := Lib.hid (show Ap b (.slice vx k vc) (.slice px ((rw_ rA k)).length pc) (rw_ rA k) from ap_of_fresh (W0 := wr.drew) HL0.out.own HL0.out.fx.1 (hown.fresh rfl))
      have hg8 : Gr wr.drew w8 := grown_own (Gr.new wr.drew (.cells #[] 22)) (own_empty32 wr.drew _ (Nat.le_refl _)) hgrow (Nat.le_refl _)
      replace HFd := Lib.hid ((HFK.out.gr (show Gr wr wr.drew from Below.drew (Gr.refl wr))).gr hg8)
      clear hown hgrow
      refine hK.out _ _ (HKEEP.out _ (HL0.out.later hg8).fx (HL0.out.later hg8).gr) (fun hHeld => ?_)
      clear hK K
      (try simp only [Act.put, List.setIfInBounds_toArray, List.set_cons_zero, List.set_cons_succ])
      replace HLd := Lib.hid (HL0.out.later hg8)
      clear hg8
      clear o0 o1 o2
      obtain ⟨o0, o1, o2⟩ := HLd.out.out.p3
      refine wpAnyH_ready (rs := [9]) (by kernel_rfl) (by simp) ?_
      refine AllReadyH.cons (o := ⟨some 26, .buildSlice 26 1 #[(0, .tmp 25)], 26, "law.go:53", #[⟨8, .data⟩], none⟩) rfl (fun K hK => ?_) ?_
      ·go_simp
       refine hK.out _ _ (HKEEP.out _ (HLd.out.later (Gr.new w8 (.cells #[.slice px ((rw_ rA k)).length pc] 23))).fx (HLd.out.later (Gr.new w8 (.cells #[.slice px ((rw_ rA k)).length pc] 23))).gr) (fun hHeld => ?_)
       clear hK K
       (try simp only [Act.put, List.setIfInBounds_toArray, List.set_cons_zero, List.set_cons_succ])
       replace HLd := Lib.hid (HLd.out.later (Gr.new w8 (.cells #[.slice px ((rw_ rA k)).length pc] 23)))
       replace HFd := Lib.hid (HFd.out.gr (Gr.new w8 (.cells #[.slice px ((rw_ rA k)).length pc] 23)))
       clear o0 o1 o2
       obtain ⟨o0, o1, o2⟩ := HLd.out.out.p3
       refine wpAnyH_ready (rs := [10]) (by kernel_rfl) (by simp) ?_
       refine AllReadyH.cons (o := ⟨some 27, .call ⟨.builtin .append, #[.tmp 18, .tmp 26], #[26, 26]⟩, 26, "law.go:53", #[⟨1, .data⟩, ⟨9, .data⟩, ⟨8, .chain⟩], none⟩) rfl (fun K hK => ?_) ?_
       ·refine wp_appF (.tmp 18) (.tmp 26) rfl rfl b (.slice vx k vc) ls rfl HFd.out (.slice px ((rw_ rA k)).length pc) (rw_ rA k) w8.heap.size rfl (cell_new _ _ _) (HP8.out.later (Gr.new _ _)) HF8.out (HTH.out.gr (Gr.new _ _)) HLEN.out HLd.out.fx.1 ?_
        intro v' wn hownF hgrow
        have hown := hownF.ownR
        obtain ⟨va2, vc2, hv2, -, -⟩ := hown.form
        rw [HLL.out] at hv2
        subst hv2
        have HF9 := Lib.hid hownF
        clear hownF
        have HMID := Lib.hid (HLd.out.mid (by omega) hgrow)
        have HAPP := Lib.hid (HLd.out.app (by omega) (by omega) hown hgrow (by first | rfl | exact HROW.out))
        have HFX := Lib.hid (HLd.out.fx.row hgrow (fun r e => (HLd.out.own.lt r e).1))
        have HGN := Lib.hid (OwnR.grown HLd.out.own HLd.out.gr hgrow (by omega))
        clear hown hgrow
        refine hK.out _ _ (HKEEP.out _ HFX.out HGN.out) (fun hHeld => ?_)
        clear hK K
        (try simp only [Act.put, List.setIfInBounds_toArray, List.set_cons_zero, List.set_cons_succ])
        obtain ⟨e0, e1, e2⟩ := HMID.out.p3
        obtain ⟨f0, f1, f2⟩ := HMID.out.f3
        refine wpAnyH_take (i := 11) (oi := ⟨some 28, .fieldAddr 28 (.tmp 3) 2, 0, "law.go:53", #[⟨0, .phase⟩, ⟨1, .phase⟩, ⟨2, .phase⟩, ⟨3, .phase⟩, ⟨4, .phase⟩, ⟨5, .phase⟩, ⟨6, .phase⟩, ⟨7, .phase⟩, ⟨8, .phase⟩, ⟨9, .phase⟩, ⟨10, .phase⟩], none⟩) (v := ?_) rfl (by kernel_rfl) (by kernel_rfl) (by kernel_rfl) (fun _ _ _ h => h) (_root_.Or.inl ⟨by rfl, ?_⟩) (by assumption) ?_
        rotate_left
        ·intro w0 hSw; (try dsimp only at hSw); go_simp; try with_reducible rfl
        (try simp only [Act.put, List.setIfInBounds_toArray, List.set_cons_zero, List.set_cons_succ])
        refine wpAnyH_ready (rs := [12]) (by kernel_rfl) (by simp) ?_
        refine AllReadyH.cons (o := ⟨none, .store 26 (.tmp 28) (.tmp 27), 0, "law.go:53", #[⟨11, .data⟩, ⟨10, .data⟩, ⟨10, .chain⟩, ⟨0, .phase⟩, ⟨1, .phase⟩, ⟨2, .phase⟩, ⟨3, .phase⟩, ⟨4, .phase⟩, ⟨5, .phase⟩, ⟨6, .phase⟩, ⟨7, .phase⟩, ⟨8, .phase⟩, ⟨9, .phase⟩, ⟨10, .phase⟩], none⟩) rfl (fun K hK => ?_) ?_
        ·go_simp
         refine hK.out _ _ (HKEEP.out _ HAPP.out.fx HAPP.out.gr) (fun hHeld => ?_)
         clear hK K
         (try simp only [Act.put, List.setIfInBounds_toArray, List.set_cons_zero, List.set_cons_succ])
         refine wpAnyH_done (by kernel_rfl) ?_ _
         clear hHeld
         go_wp2_with fail
         go_roundw
         case rel => exact ⟨k + 1, va2, vc2, _, by go_num, by omega, HAPP.out, HF9.out.set (by omega) _⟩
         case measure => simp [intOf]; omega
        exact AllReadyH.nil
       exact AllReadyH.nil
      exact AllReadyH.nil
     exact AllReadyH.nil
    refine AllReadyH.cons (o := ⟨some 25, .call ⟨.builtin .append, #[.tmp 19, .tmp 24], #[23, 23]⟩, 23, "law.go:53", #[⟨2, .data⟩, ⟨7, .data⟩], none⟩) rfl (fun K hK => ?_) ?_
    ·refine wp_app (.tmp 19) (.tmp 24) rfl rfl wr.drew.heap.size (.slice (some ⟨wr.heap.size, 0, none⟩) 0 0) [] rfl (own_empty32 wr.drew _ (Nat.le_refl _)) (.slice sx sn sc) (rw_ rA k) rfl (HPA.out.later HLd.out.gr) HRL.out (Nat.le_of_lt (by simp)) ?_
     intro v1 w8 hown hgrow
     rw [List.nil_append] at hown
     obtain ⟨px, pc, hpv, -, -⟩ := hown.form
     subst hpv
     have HP8 := Lib.hid hown.hasP
     have HTH := Lib.hid hown.thaw
     have HF8 := Lib.hid (show Ap b (.slice vx k vc) (.slice px ((rw_ rA k)).length pc) (rw_ rA k) from ap_of_fresh (W0 := wr.drew) HL0.out.own HL0.out.fx.1 (hown.fresh rfl))
     have hg8 : Gr wr.drew w8 := grown_own (Gr.new wr.drew (.cells #[] 22)) (own_empty32 wr.drew _ (Nat.le_refl _)) hgrow (Nat.le_refl _)
     replace HFd := Lib.hid ((HFK.out.gr (show Gr wr wr.drew from Below.drew (Gr.refl wr))).gr hg8)
     clear hown hgrow
     refine hK.out _ _ (HKEEP.out _ (HL0.out.later hg8).fx (HL0.out.later hg8).gr) (fun hHeld => ?_)
     clear hK K
     (try simp only [Act.put, List.setIfInBounds_toArray, List.set_cons_zero, List.set_cons_succ])
     replace HLd := Lib.hid (HL0.out.later hg8)
     clear hg8
     clear o0 o1 o2
     obtain ⟨o0, o1, o2⟩ := HLd.out.out.p3
     refine wpAnyH_ready (rs := [1, 9]) (by kernel_rfl) (by simp) ?_
     refine AllReadyH.cons (o := ⟨some 18, .load 26 (.tmp 17), 26, "law.go:53", #[⟨0, .data⟩], none⟩) rfl (fun K hK => ?_) ?_
     ·go_simp
      refine hK.out _ _ hHeld (fun hHeld => ?_)
      clear hK K
      (try simp only [Act.put, List.setIfInBounds_toArray, List.set_cons_zero, List.set_cons_succ])
      refine wpAnyH_ready (rs := [9]) (by kernel_rfl) (by simp) ?_
      refine AllReadyH.cons (o := ⟨some 26, .buildSlice 26 1 #[(0, .tmp 25)], 26, "law.go:53", #[⟨8, .data⟩], none⟩) rfl (fun K hK => ?_) ?_
      ·go_simp
       refine hK.out _ _ (HKEEP.out _ (HLd.out.later (Gr.new w8 (.cells #[.slice px ((rw_ rA k)).length pc] 23))).fx (HLd.out.later (Gr.new w8 (.cells #[.slice px ((rw_ rA k)).length pc] 23))).gr) (fun hHeld => ?_)
       clear hK K
       (try simp only [Act.put, List.setIfInBounds_toArray, List.set_cons_zero, List.set_cons_succ])
       replace HLd := Lib.hid (HLd.out.later (Gr.new w8 (.cells #[.slice px ((rw_ rA k)).length pc] 23)))
       replace HFd := Lib.hid (HFd.out.gr (Gr.new w8 (.cells #[.slice px ((rw_ rA k)).length pc] 23)))
       clear o0 o1 o2
       obtain ⟨o0, o1, o2⟩ := HLd.out.out.p3
       refine wpAnyH_ready (rs := [10]) (by kernel_rfl) (by simp) ?_
       refine AllReadyH.cons (o := ⟨some 27, .call ⟨.builtin .append, #[.tmp 18, .tmp 26], #[26, 26]⟩, 26, "law.go:53", #[⟨1, .data⟩, ⟨9, .data⟩, ⟨8, .chain⟩], none⟩) rfl (fun K hK => ?_) ?_
       ·refine wp_appF (.tmp 18) (.tmp 26) rfl rfl b (.slice vx k vc) ls rfl HFd.out (.slice px ((rw_ rA k)).length pc) (rw_ rA k) w8.heap.size rfl (cell_new _ _ _) (HP8.out.later (Gr.new _ _)) HF8.out (HTH.out.gr (Gr.new _ _)) HLEN.out HLd.out.fx.1 ?_
        intro v' wn hownF hgrow
        have hown := hownF.ownR
        obtain ⟨va2, vc2, hv2, -, -⟩ := hown.form
        rw [HLL.out] at hv2
        subst hv2
        have HF9 := Lib.hid hownF
        clear hownF
        have HMID := Lib.hid (HLd.out.mid (by omega) hgrow)
        have HAPP := Lib.hid (HLd.out.app (by omega) (by omega) hown hgrow (by first | rfl | exact HROW.out))
        have HFX := Lib.hid (HLd.out.fx.row hgrow (fun r e => (HLd.out.own.lt r e).1))
        have HGN := Lib.hid (OwnR.grown HLd.out.own HLd.out.gr hgrow (by omega))
        clear hown hgrow
        refine hK.out _ _ (HKEEP.out _ HFX.out HGN.out) (fun hHeld => ?_)
        clear hK K
        (try simp only [Act.put, List.setIfInBounds_toArray, List.set_cons_zero, List.set_cons_succ])
        obtain ⟨e0, e1, e2⟩ := HMID.out.p3
        obtain ⟨f0, f1, f2⟩ := HMID.out.f3
        refine wpAnyH_take (i := 11) (oi := ⟨some 28, .fieldAddr 28 (.tmp 3) 2, 0, "law.go:53", #[⟨0, .phase⟩, ⟨1, .phase⟩, ⟨2, .phase⟩, ⟨3, .phase⟩, ⟨4, .phase⟩, ⟨5, .phase⟩, ⟨6, .phase⟩, ⟨7, .phase⟩, ⟨8, .phase⟩, ⟨9, .phase⟩, ⟨10, .phase⟩], none⟩) (v := ?_) rfl (by kernel_rfl) (by kernel_rfl) (by kernel_rfl) (fun _ _ _ h => h) (_root_.Or.inl ⟨by rfl, ?_⟩) (by assumption) ?_
        rotate_left
        ·intro w0 hSw; (try dsimp only at hSw); go_simp; try with_reducible rfl
        (try simp only [Act.put, List.setIfInBounds_toArray, List.set_cons_zero, List.set_cons_succ])
        refine wpAnyH_ready (rs := [12]) (by kernel_rfl) (by simp) ?_
        refine AllReadyH.cons (o := ⟨none, .store 26 (.tmp 28) (.tmp 27), 0, "law.go:53", #[⟨11, .data⟩, ⟨10, .data⟩, ⟨10, .chain⟩, ⟨0, .phase⟩, ⟨1, .phase⟩, ⟨2, .phase⟩, ⟨3, .phase⟩, ⟨4, .phase⟩, ⟨5, .phase⟩, ⟨6, .phase⟩, ⟨7, .phase⟩, ⟨8, .phase⟩, ⟨9, .phase⟩, ⟨10, .phase⟩], none⟩) rfl (fun K hK => ?_) ?_
        ·go_simp
         refine hK.out _ _ (HKEEP.out _ HAPP.out.fx HAPP.out.gr) (fun hHeld => ?_)
         clear hK K
         (try simp only [Act.put, List.setIfInBounds_toArray, List.set_cons_zero, List.set_cons_succ])
         refine wpAnyH_done (by kernel_rfl) ?_ _
         clear hHeld
         go_wp2_with fail
         go_roundw
         case rel => exact ⟨k + 1, va2, vc2, _, by go_num, by omega, HAPP.out, HF9.out.set (by omega) _⟩
         case measure => simp [intOf]; omega
        exact AllReadyH.nil
       exact AllReadyH.nil
      exact AllReadyH.nil
     refine AllReadyH.cons (o := ⟨some 26, .buildSlice 26 1 #[(0, .tmp 25)], 26, "law.go:53", #[⟨8, .data⟩], none⟩) rfl (fun K hK => ?_) ?_
     ·go_simp
      refine hK.out _ _ (HKEEP.out _ (HLd.out.later (Gr.new w8 (.cells #[.slice px ((rw_ rA k)).length pc] 23))).fx (HLd.out.later (Gr.new w8 (.cells #[.slice px ((rw_ rA k)).length pc] 23))).gr) (fun hHeld => ?_)
      clear hK K
      (try simp only [Act.put, List.setIfInBounds_toArray, List.set_cons_zero, List.set_cons_succ])
      replace HLd := Lib.hid (HLd.out.later (Gr.new w8 (.cells #[.slice px ((rw_ rA k)).length pc] 23)))
      replace HFd := Lib.hid (HFd.out.gr (Gr.new w8 (.cells #[.slice px ((rw_ rA k)).length pc] 23)))
      clear o0 o1 o2
      obtain ⟨o0, o1, o2⟩ := HLd.out.out.p3
      refine wpAnyH_ready (rs := [1]) (by kernel_rfl) (by simp) ?_
      refine AllReadyH.cons (o := ⟨some 18, .load 26 (.tmp 17), 26, "law.go:53", #[⟨0, .data⟩], none⟩) rfl (fun K hK => ?_) ?_
      ·go_simp
       refine hK.out _ _ hHeld (fun hHeld => ?_)
       clear hK K
       (try simp only [Act.put, List.setIfInBounds_toArray, List.set_cons_zero, List.set_cons_succ])
       refine wpAnyH_ready (rs := [10]) (by kernel_rfl) (by simp) ?_
       refine AllReadyH.cons (o := ⟨some 27, .call ⟨.builtin .append, #[.tmp 18, .tmp 26], #[26, 26]⟩, 26, "law.go:53", #[⟨1, .data⟩, ⟨9, .data⟩, ⟨8, .chain⟩], none⟩) rfl (fun K hK => ?_) ?_
       ·refine wp_appF (.tmp 18) (.tmp 26) rfl rfl b (.slice vx k vc) ls rfl HFd.out (.slice px ((rw_ rA k)).length pc) (rw_ rA k) w8.heap.size rfl (cell_new _ _ _) (HP8.out.later (Gr.new _ _)) HF8.out (HTH.out.gr (Gr.new _ _)) HLEN.out HLd.out.fx.1 ?_
        intro v' wn hownF hgrow
        have hown := hownF.ownR
        obtain ⟨va2, vc2, hv2, -, -⟩ := hown.form
        rw [HLL.out] at hv2
        subst hv2
        have HF9 := Lib.hid hownF
        clear hownF
        have HMID := Lib.hid (HLd.out.mid (by omega) hgrow)
        have HAPP := Lib.hid (HLd.out.app (by omega) (by omega) hown hgrow (by first | rfl | exact HROW.out))
        have HFX := Lib.hid (HLd.out.fx.row hgrow (fun r e => (HLd.out.own.lt r e).1))
        have HGN := Lib.hid (OwnR.grown HLd.out.own HLd.out.gr hgrow (by omega))
        clear hown hgrow
        refine hK.out _ _ (HKEEP.out _ HFX.out HGN.out) (fun hHeld => ?_)
        clear hK K
        (try simp only [Act.put, List.setIfInBounds_toArray, List.set_cons_zero, List.set_cons_succ])
        obtain ⟨e0, e1, e2⟩ := HMID.out.p3
        obtain ⟨f0, f1, f2⟩ := HMID.out.f3
        refine wpAnyH_take (i := 11) (oi := ⟨some 28, .fieldAddr 28 (.tmp 3) 2, 0, "law.go:53", #[⟨0, .phase⟩, ⟨1, .phase⟩, ⟨2, .phase⟩, ⟨3, .phase⟩, ⟨4, .phase⟩, ⟨5, .phase⟩, ⟨6, .phase⟩, ⟨7, .phase⟩, ⟨8, .phase⟩, ⟨9, .phase⟩, ⟨10, .phase⟩], none⟩) (v := ?_) rfl (by kernel_rfl) (by kernel_rfl) (by kernel_rfl) (fun _ _ _ h => h) (_root_.Or.inl ⟨by rfl, ?_⟩) (by assumption) ?_
        rotate_left
        ·intro w0 hSw; (try dsimp only at hSw); go_simp; try with_reducible rfl
        (try simp only [Act.put, List.setIfInBounds_toArray, List.set_cons_zero, List.set_cons_succ])
        refine wpAnyH_ready (rs := [12]) (by kernel_rfl) (by simp) ?_
        refine AllReadyH.cons (o := ⟨none, .store 26 (.tmp 28) (.tmp 27), 0, "law.go:53", #[⟨11, .data⟩, ⟨10, .data⟩, ⟨10, .chain⟩, ⟨0, .phase⟩, ⟨1, .phase⟩, ⟨2, .phase⟩, ⟨3, .phase⟩, ⟨4, .phase⟩, ⟨5, .phase⟩, ⟨6, .phase⟩, ⟨7, .phase⟩, ⟨8, .phase⟩, ⟨9, .phase⟩, ⟨10, .phase⟩], none⟩) rfl (fun K hK => ?_) ?_
        ·go_simp
         refine hK.out _ _ (HKEEP.out _ HAPP.out.fx HAPP.out.gr) (fun hHeld => ?_)
         clear hK K
         (try simp only [Act.put, List.setIfInBounds_toArray, List.set_cons_zero, List.set_cons_succ])
         refine wpAnyH_done (by kernel_rfl) ?_ _
         clear hHeld
         go_wp2_with fail
         go_roundw
         case rel => exact ⟨k + 1, va2, vc2, _, by go_num, by omega, HAPP.out, HF9.out.set (by omega) _⟩
         case measure => simp [intOf]; omega
        exact AllReadyH.nil
       exact AllReadyH.nil
      exact AllReadyH.nil
     exact AllReadyH.nil
    exact AllReadyH.nil
   exact AllReadyH.nil
  ·obtain rfl : k = nA := by omega
   have i1 : ¬ (k : Int) < (k : Int) := by omega
   have HD := Lib.hid (show ls = rA from (HLK.out.done HML.out.symm).trans (rows_eq (by rw [rwA_len, HML.out, HNA.out]) fun i hi => by rw [rwA_len] at hi; rw [rwA_at _ _ hi]))
   obtain ⟨o0, o1, o2⟩ := HLK.out.out.p3
   have HRR := Lib.hid (HLK.out.fx.blk HRB.out (by omega) (by omega))
   obtain ⟨r0, r1, r2⟩ := HRR.out.p3
   obtain ⟨f0, f1, f2⟩ := HRR.out.f3
   go_wp2_with fail
   have hr := ((HRR.out.set 0 (.int .i64 lv)).set 1 (.bool sp)).set 2 (.slice vx k vc)
   obtain ⟨e0, e1, e2⟩ := (show Blk _ _ _ #[.int .i64 lv, .bool sp, .slice vx k vc] from hr).p3
   refine bodyPost_ret (v := .agg #[.int .i64 lv, .bool sp, .slice vx k vc]) (by simp [results, Tryz.results13, go_sem, e0, e1, e2]) rfl ?_
   have h := put3b HLK.out.own.hasB HLK.out.gr (k := w.heap.size + 1) (by omega) (by omega) (.int .i64 lv) (.bool sp) (.slice vx k vc)
   have hf := ((HFK.out.set (B := w.heap.size + 1) (o := 0) (by omega) (.int .i64 lv)).set (B := w.heap.size + 1) (o := 1) (by omega) (.bool sp)).set (B := w.heap.size + 1) (o := 2) (by omega) (.slice vx k vc)
   rw [HD.out] at h hf
   exact ⟨_, _, by rw [HNA.out], by rw [HNA.out]; exact h.1, by rw [HNA.out]; exact hf.spR.mono (by omega) (Nat.le_refl _), h.2⟩
end Go.Proofs.YtlfiakpmnkhcdaaGreat.Mo
