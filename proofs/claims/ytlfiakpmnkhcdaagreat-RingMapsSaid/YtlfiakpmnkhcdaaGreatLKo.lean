import Derived.Test.YtlfiakpmnkhcdaaGreatLKj
import Derived.Test.YtlfiakpmnkhcdaaGreatLKh
/- The reference of layer 9: Restrict. (made by mkko.py) -/
namespace Go.Proofs.YtlfiakpmnkhcdaaGreat.Mo
open Go.RowKit Go.Shelf
set_option linter.unusedVariables false
set_option linter.unusedSimpArgs false

set_option maxRecDepth 100000 in
set_option maxHeartbeats 8000000 in
theorem fRestrict_any (N p1 p2 : Int) (xC : Option Addr) (nC cC : Nat) (S p5 p6 : Int) (lv : Int) (sp : Bool) (ch : List Int) (uA : Value) (rA : List (List Int)) (lv2 : Int) (sp2 : Bool) (w : World) (h3 : ch.length ≤ 1000) (hC : HasP w (.slice xC nC cC) ch) (hS : 0 ≤ S ∧ S < 4294967296) (hA : HasR w uA rA) :
    Calls Tryz.prog 26 #[.agg #[.int .i64 N, .int .u32 p1, .int .i64 p2, .slice xC nC cC, .int .u32 S, .int .i64 p5, .int .u32 p6], .agg #[.int .i64 lv, .bool sp, uA], .int .i64 lv2, .bool sp2] w (ResE (rsE N ch S lv sp rA lv2 sp2) lv2 sp2 (rwA (Oj.mods ch S lv2.toNat sp2) (fun i _ => rw_ rA (if i = lv2.toNat then lv.toNat else i))) w) := by
  obtain ⟨LS, hLS⟩ : ∃ LS, LS = rwA (Oj.mods ch S lv2.toNat sp2) (fun i _ => rw_ rA (if i = lv2.toNat then lv.toNat else i)) := ⟨_, rfl⟩
  rw [← hLS]
  obtain ⟨xA, cA, rfl⟩ := hA.form
  generalize hnA : rA.length = nA at *
  obtain ⟨W0, hW0⟩ : ∃ W0, W0 = ((w.alloc (.cells #[.int .i64 N, .int .u32 p1, .int .i64 p2, .slice xC nC cC, .int .u32 S, .int .i64 p5, .int .u32 p6] 25)).alloc (.cells #[.int .i64 lv, .bool sp, .slice xA nA cA] 28)).alloc (.cells #[.int .i64 0, .bool false, .slice none 0 0] 28) := ⟨_, rfl⟩
  have HG := Lib.hid (show Gr w W0 by rw [hW0]; exact ((Gr.new w _).alloc _).alloc _)
  have HBP := Lib.hid (show Blk W0 w.heap.size 25 #[.int .i64 N, .int .u32 p1, .int .i64 p2, .slice xC nC cC, .int .u32 S, .int .i64 p5, .int .u32 p6] by rw [hW0]; exact (Blk.new w _ _).gr ((Gr.new _ _).alloc _))
  have HBA := Lib.hid (show Blk W0 (w.heap.size + 1) 28 #[.int .i64 lv, .bool sp, .slice xA nA cA] by rw [hW0]; exact (Blk.newk _ _ (by simp)).gr (Gr.new _ _))
  have HRB := Lib.hid (show Blk W0 (w.heap.size + 2) 28 #[.int .i64 0, .bool false, .slice none 0 0] by rw [hW0]; exact Blk.newk _ _ (by simp))
  have HSZ := Lib.hid (show W0.heap.size = w.heap.size + 3 by rw [hW0]; simp)
  have HA := Lib.hid hA
  have HC := Lib.hid hC
  have HS := Lib.hid hS
  have HNA := Lib.hid hnA
  have HNO := Lib.hid (show ¬ RsOK N ch S lv sp rA lv2 sp2 → rsE N ch S lv sp rA lv2 sp2 = 2 from fun h => if_neg h)
  have HYES := Lib.hid (show RsOK N ch S lv sp rA lv2 sp2 → rsE N ch S lv sp rA lv2 sp2 = 0 from fun h => if_pos h)
  have HLS0 := Lib.hid hLS
  clear hA hC hS hnA hLS
  obtain ⟨q0, q1, q2, q3, q4, q5, q6⟩ := HBP.out.p7
  obtain ⟨a0, a1, a2⟩ := HBA.out.p3
  go_enter Tryz.func26, Tryz.ntmps26
  go_upto_region 1 with (fail)
  rw [← hW0]
  clear hW0
  go_wp2_with fail
  refine (fCheck_any N p1 p2 xC nC cC S p5 p6 lv sp ch _ rA _ h3 (HC.out.later HG.out) HS.out (HA.out.later HG.out)).mono ?_
  rintro e w1 ⟨rfl, hg1⟩
  replace HG := Lib.hid (HG.out.trans hg1)
  replace HBP := Lib.hid (HBP.out.gr hg1)
  replace HBA := Lib.hid (HBA.out.gr hg1)
  replace HRB := Lib.hid (HRB.out.gr hg1)
  have HSZ1 := Lib.hid (show w.heap.size + 3 ≤ w1.heap.size by have := HSZ.out; have := hg1.size; omega)
  clear hg1 q0 q1 q2 q3 q4 q5 q6 a0 a1 a2
  obtain ⟨a0, a1, a2⟩ := HBA.out.p3
  by_cases h1 : VP N ch S ∧ EV N ch S lv sp rA
  · rw [show chkE N ch S lv sp rA = 0 from if_pos h1]
    obtain ⟨lv, rfl⟩ := Int.eq_ofNat_of_zero_le (show 0 ≤ lv by have := h1.2.1.1; omega)
    have H1 := Lib.hid h1
    have hlch : lv ≤ ch.length := by have := h1.2.1.2.1; omega
    clear h1
    by_cases k1 : lv2 < 1
    · have HE0 := Lib.hid (HNO.out (fun h => by have := h.2.1; omega))
      have t1 : decide (lv2 < 1) = true := decide_eq_true k1
      clear k1
      obtain ⟨r0, r1, r2⟩ := HRB.out.p3
      obtain ⟨f0, f1, f2⟩ := HRB.out.f3
      go_wp2_with fail
      have hr := ((HRB.out.set 0 (.int .i64 0)).set 1 (.bool false)).set 2 (.slice none 0 0)
      obtain ⟨e0, e1, e2⟩ := (show Blk _ _ _ #[.int .i64 0, .bool false, .slice none 0 0] from hr).p3
      refine bodyPost_ret (v := .tuple #[.agg #[.int .i64 0, .bool false, .slice none 0 0], .int .i64 2]) (by simp only [Nat.add_assoc, Nat.reduceAdd]; simp [results, Tryz.results26, go_sem, e0, e1, e2]) rfl ?_
      have h := put3b (HasB.nil _ _ _) HG.out (k := w.heap.size + 2) (b := w.heap.size + 2 + 1) (by omega) (by omega) (.int .i64 0) (.bool false) (.slice none 0 0)
      exact ⟨0, false, [], _, by rw [HE0.out], .inr ⟨HE0.out, rfl, rfl, rfl⟩, h.1, h.2⟩
    have t1 : decide (lv2 < 1) = false := decide_eq_false k1
    obtain ⟨l2, rfl⟩ := Int.eq_ofNat_of_zero_le (show 0 ≤ lv2 by omega)
    by_cases k2 : lv < l2
    · have HE0 := Lib.hid (HNO.out (fun h => by have := h.2.2.1; omega))
      have t2 : decide ((l2 : Int) > (lv : Int)) = true := by simp; omega
      have t2' : decide ((lv : Int) < (l2 : Int)) = true := by simp; omega
      clear k1
      obtain ⟨r0, r1, r2⟩ := HRB.out.p3
      obtain ⟨f0, f1, f2⟩ := HRB.out.f3
      go_wp2_with fail
      have hr := ((HRB.out.set 0 (.int .i64 0)).set 1 (.bool false)).set 2 (.slice none 0 0)
      obtain ⟨e0, e1, e2⟩ := (show Blk _ _ _ #[.int .i64 0, .bool false, .slice none 0 0] from hr).p3
      refine bodyPost_ret (v := .tuple #[.agg #[.int .i64 0, .bool false, .slice none 0 0], .int .i64 2]) (by simp only [Nat.add_assoc, Nat.reduceAdd]; simp [results, Tryz.results26, go_sem, e0, e1, e2]) rfl ?_
      have h := put3b (HasB.nil _ _ _) HG.out (k := w.heap.size + 2) (b := w.heap.size + 2 + 1) (by omega) (by omega) (.int .i64 0) (.bool false) (.slice none 0 0)
      exact ⟨0, false, [], _, by rw [HE0.out], .inr ⟨HE0.out, rfl, rfl, rfl⟩, h.1, h.2⟩
    have t2 : decide ((l2 : Int) > (lv : Int)) = false := by simp; omega
    have t2' : decide ((lv : Int) < (l2 : Int)) = false := by simp; omega
    by_cases k3 : sp2 = true → sp = true
    · have HOK := Lib.hid (show RsOK N ch S lv sp rA l2 sp2 from ⟨H1.out, by omega, by omega, k3⟩)
      have HE0 := Lib.hid (HYES.out HOK.out)
      have HLS := Lib.hid (show rwA (Oj.mods ch S l2 sp2) (fun i _ => rw_ rA (if i = l2 then lv else i)) = LS from HLS0.out.symm)
      have HK1 := Lib.hid (show 1 ≤ l2 ∧ l2 ≤ lv ∧ l2 ≤ 1000 by omega)
      have HML := Lib.hid (Oj.mods_len (S := S) (sp := sp2) (show l2 ≤ ch.length by omega))
      have t3 : (sp2 && !sp) = false := by cases sp2 <;> cases sp <;> simp_all
      have HK3 := Lib.hid k3
      clear k1 k3
      cases sp2
      · go_upto_region 4 with (fail)
        clear t1 t2 t2' t3
        obtain ⟨W3, hW3⟩ : ∃ W3, W3 = w1.alloc (.cells #[.int .i64 l2, .bool false, .slice none 0 0] 28) := ⟨_, rfl⟩
        obtain ⟨G, hG⟩ : ∃ G, G = w1.heap.size := ⟨_, rfl⟩
        have hg3 : Gr w1 W3 := by rw [hW3]; exact Gr.new _ _
        have HSG := Lib.hid (show w.heap.size + 3 ≤ G by rw [hG]; exact HSZ1.out)
        have HSZ3 := Lib.hid (show W3.heap.size = G + 1 by rw [hW3, hG]; simp)
        have HBO := Lib.hid (show Blk W3 G 28 #[.int .i64 l2, .bool false, .slice none 0 0] by rw [hW3, hG]; exact Blk.new _ _ _)
        rw [← hW3, ← hG]
        replace HG := Lib.hid (HG.out.trans hg3)
        replace HBP := Lib.hid (HBP.out.gr hg3)
        replace HBA := Lib.hid (HBA.out.gr hg3)
        replace HRB := Lib.hid (HRB.out.gr hg3)
        clear hg3 hW3 hG a0 a1 a2
        obtain ⟨b, hb⟩ : ∃ b, b = W3.heap.size := ⟨_, rfl⟩
        have HLP := Lib.hid (show LP b G w W3 l2 false (fun i _ => rw_ rA (if i = l2 then lv else i)) (Oj.mods ch S l2 false) 0 (.slice none 0 0) [] W3 from LP.start hb.symm HBO.out HG.out)
        have hGb : G + 1 ≤ b := by rw [hb, HSZ3.out]; exact Nat.le_refl _
        have hwG := HSG.out
        have hl2 := HK1.out
        clear hb
        go_wp2_with fail
        go_loopw [11] (fun i wr => ∃ (k : Nat) (x : Option Addr) (c : Nat) (ls : List (List Int)), i = .int .i64 k ∧ k ≤ l2 ∧ LP b G w W3 l2 false (fun i _ => rw_ rA (if i = l2 then lv else i)) (Oj.mods ch S l2 false) k (.slice x k c) ls wr ∧ OwnF wr b (.slice x k c) ls) (fun i _ => l2 - (intOf i).toNat)
        case atStart => exact ⟨0, none, 0, [], rfl, by omega, HLP.out, OwnF.nil _ _⟩
        case round =>
          obtain ⟨k, vx, vc, ls, rfl, hk, hlp, hof⟩ := hrel
          have HFK := Lib.hid hof
          have HLK := Lib.hid hlp
          have hk1000 : k ≤ 1000 := by omega
          clear hlp hof
          by_cases hlt : k < l2
          · have i1 : (k : Int) < (l2 : Int) := by omega
            have i0 : (0 : Int) ≤ (k : Int) := by omega
            have hix := rs_idx HOK.out (i := k) (show k < (Oj.mods ch S l2 false).length by rw [HML.out]; omega)
            rw [if_neg (show ¬ k = l2 by omega), HNA.out] at hix
            have i2 : (k : Int) < (nA : Int) := by omega
            obtain ⟨gA, oA, sx, sn, sc, rfl, hcA, hs1, hpA⟩ := HasB.at_ HA.out (i := k) (by rw [HNA.out]; exact hix.1)
            have HPA := Lib.hid hpA
            have HCA := Lib.hid hcA
            have HRL := Lib.hid (show ([] : List Int).length + (rw_ rA k).length ≤ 1000000 by have := hix.2.2; simp; omega)
            have HROW := Lib.hid (show rw_ rA k = (fun i _ => rw_ rA (if i = l2 then lv else i)) k (Op.cf (Oj.mods ch S l2 false) k) by show _ = rw_ rA (if k = l2 then lv else k); rw [if_neg (show ¬ k = l2 by omega)])
            clear hs1 hpA hcA hix
            go_wp2_with fail
            have HKEEP := Lib.hid (show ∀ wz, Fx b G W3 wz → Gr w wz → (wz.cell? ⟨w.heap.size + 1, 2, none⟩ = some (.slice (some ⟨gA, oA, none⟩) nA cA) ∧ wz.cell? ⟨gA, oA + k, none⟩ = some (.slice sx sn sc)) from fun wz fx g => ⟨(fx.blk HBA.out (by omega) (by omega)).p3.2.2, g.keeps HCA.out⟩)
            have HL0 := Lib.hid (HLK.out.later (show Gr wr wr.drew from Below.drew (Gr.refl wr)))
            have HLd := HL0
            have HFd := Lib.hid (HFK.out.gr (show Gr wr wr.drew from Below.drew (Gr.refl wr)))
            have HLEN := Lib.hid (show ls.length ≤ 1000000 by rw [HLK.out.len]; omega)
            have HLL := Lib.hid (show (ls ++ [(rw_ rA k)]).length = k + 1 by rw [List.length_append, HLK.out.len]; rfl)
            obtain ⟨o0, o1, o2⟩ := HLd.out.out.p3
            refine wp_region_held_drew (S := fun wz => wz.cell? ⟨w.heap.size + 1, 2, none⟩ = some (.slice (some ⟨gA, oA, none⟩) nA cA) ∧ wz.cell? ⟨gA, oA + k, none⟩ = some (.slice sx sn sc)) (by kernel_rfl) (HKEEP.out _ HLd.out.fx HLd.out.gr) (fun hHeld => ?_)
            show wpAnyH _ _ _ _ _ 13 #[false, false, false, false, false, false, false, false, false, false, false, false, false] _ _
            refine wpAnyH_take (i := 0) (oi := { dst := some 43, op := Op.fieldAddr 28 (Operand.tmp 10) 2, type := 0, pos := "ref.go:190", after := #[], guard := none }) (v := ?_) rfl (by kernel_rfl) (by kernel_rfl) (by kernel_rfl) (fun _ _ _ h => h) (_root_.Or.inl ⟨by rfl, ?_⟩) (by assumption) ?_
            rotate_left
            · intro w0 hSw; (try dsimp only at hSw); go_simp; try with_reducible rfl
            (try simp only [Act.put, List.setIfInBounds_toArray, List.set_cons_zero, List.set_cons_succ])
            refine wpAnyH_take (i := 3) (oi := { dst := some 46, op := Op.fieldAddr 28 (Operand.tmp 5) 2, type := 0, pos := "ref.go:190", after := #[], guard := none }) (v := ?_) rfl (by kernel_rfl) (by kernel_rfl) (by kernel_rfl) (fun _ _ _ h => h) (_root_.Or.inl ⟨by rfl, ?_⟩) (by assumption) ?_
            rotate_left
            · intro w0 hSw; (try dsimp only at hSw); go_simp; try with_reducible rfl
            (try simp only [Act.put, List.setIfInBounds_toArray, List.set_cons_zero, List.set_cons_succ])
            refine wpAnyH_take (i := 4) (oi := { dst := some 47, op := Op.load 26 (Operand.tmp 46), type := 26, pos := "ref.go:190", after := #[{ on := 3, ground := Ground.data }], guard := none }) (v := ?_) rfl (by kernel_rfl) (by kernel_rfl) (by kernel_rfl) (fun _ _ _ h => h) (_root_.Or.inl ⟨by rfl, ?_⟩) (by assumption) ?_
            rotate_left
            · intro w0 hSw; (try dsimp only at hSw); go_simp; try with_reducible rfl
            (try simp only [Act.put, List.setIfInBounds_toArray, List.set_cons_zero, List.set_cons_succ])
            refine wpAnyH_take (i := 5) (oi := { dst := some 48, op := Op.move (Operand.tmp 11), type := 3, pos := "ref.go:190", after := #[], guard := none }) (v := ?_) rfl (by kernel_rfl) (by kernel_rfl) (by kernel_rfl) (fun _ _ _ h => h) (_root_.Or.inl ⟨by rfl, ?_⟩) (by assumption) ?_
            rotate_left
            · intro w0 hSw; (try dsimp only at hSw); go_simp; try with_reducible rfl
            (try simp only [Act.put, List.setIfInBounds_toArray, List.set_cons_zero, List.set_cons_succ])
            refine wpAnyH_take (i := 6) (oi := { dst := some 49, op := Op.indexAddr 26 (Operand.tmp 47) (Operand.tmp 48), type := 0, pos := "ref.go:190", after := #[{ on := 4, ground := Ground.data }, { on := 5, ground := Ground.data }], guard := none }) (v := ?_) rfl (by kernel_rfl) (by kernel_rfl) (by kernel_rfl) (fun _ _ _ h => h) (_root_.Or.inl ⟨by rfl, ?_⟩) (by assumption) ?_
            rotate_left
            · intro w0 hSw; (try dsimp only at hSw); go_simp; try with_reducible rfl
            (try simp only [Act.put, List.setIfInBounds_toArray, List.set_cons_zero, List.set_cons_succ])
            refine wpAnyH_take (i := 7) (oi := { dst := some 50, op := Op.load 23 (Operand.tmp 49), type := 23, pos := "ref.go:190", after := #[{ on := 6, ground := Ground.data }], guard := none }) (v := ?_) rfl (by kernel_rfl) (by kernel_rfl) (by kernel_rfl) (fun _ _ _ h => h) (_root_.Or.inl ⟨by rfl, ?_⟩) (by assumption) ?_
            rotate_left
            · intro w0 hSw; (try dsimp only at hSw); go_simp; try with_reducible rfl
            (try simp only [Act.put, List.setIfInBounds_toArray, List.set_cons_zero, List.set_cons_succ])
            refine wpAnyH_ready (rs := [1, 2]) (by kernel_rfl) (by simp) ?_
            refine AllReadyH.cons (o := { dst := some 44, op := Op.load 26 (Operand.tmp 43), type := 26, pos := "ref.go:190", after := #[{ on := 0, ground := Ground.data }], guard := none }) rfl (fun K hK => ?_) ?_
            · go_simp
              refine hK.out _ _ hHeld (fun hHeld => ?_)
              clear hK K
              (try simp only [Act.put, List.setIfInBounds_toArray, List.set_cons_zero, List.set_cons_succ])
              refine wpAnyH_ready (rs := [2]) (by kernel_rfl) (by simp) ?_
              refine AllReadyH.cons (o := { dst := some 45, op := Op.buildSlice 23 0 #[], type := 23, pos := "ref.go:190", after := #[], guard := none }) rfl (fun K hK => ?_) ?_
              · go_simp
                refine hK.out _ _ (HKEEP.out _ (HL0.out.later (Gr.new wr.drew (.cells #[] 22))).fx (HL0.out.later (Gr.new wr.drew (.cells #[] 22))).gr) (fun hHeld => ?_)
                clear hK K
                (try simp only [Act.put, List.setIfInBounds_toArray, List.set_cons_zero, List.set_cons_succ])
                replace HLd := Lib.hid (HL0.out.later (show Gr wr.drew (wr.alloc (.cells #[] 22)).drew from Gr.new wr.drew (.cells #[] 22)))
                replace HFd := Lib.hid (HFd.out.gr (show Gr wr.drew (wr.alloc (.cells #[] 22)).drew from Gr.new wr.drew (.cells #[] 22)))
                clear o0 o1 o2
                obtain ⟨o0, o1, o2⟩ := HLd.out.out.p3
                refine wpAnyH_ready (rs := [8]) (by kernel_rfl) (by simp) ?_
                refine AllReadyH.cons (o := { dst := some 51, op := Op.call { callee := Callee.builtin Builtin.append, args := #[Operand.tmp 45, Operand.tmp 50], argTypes := #[23, 23] }, type := 23, pos := "ref.go:190", after := #[{ on := 2, ground := Ground.data }, { on := 7, ground := Ground.data }], guard := none }) rfl (fun K hK => ?_) ?_
                · refine wp_app (.tmp 45) (.tmp 50) rfl rfl wr.drew.heap.size (.slice (some ⟨wr.heap.size, 0, none⟩) 0 0) [] rfl (own_empty32 wr.drew _ (Nat.le_refl _)) (.slice sx sn sc) (rw_ rA k) rfl (HPA.out.later HLd.out.gr) HRL.out (Nat.le_of_lt (by simp)) ?_
                  intro v1 w8 hown hgrow
                  rw [List.nil_append] at hown
                  obtain ⟨px, pc, hpv, -, -⟩ := hown.form
                  subst hpv
                  have HP8 := Lib.hid hown.hasP
                  have HTH := Lib.hid hown.thaw
                  have HF8 := Lib.hid (show Ap b (.slice vx k vc) (.slice px ((rw_ rA k)).length pc) (rw_ rA k) from ap_of_fresh (W0 := wr.drew) HL0.out.own HL0.out.fx.1 (hown.fresh rfl))
                  have hg8 : Gr wr.drew w8 := grown_own (Gr.new wr.drew (.cells #[] 22)) (own_empty32 wr.drew _ (Nat.le_refl _)) hgrow (Nat.le_refl _)
                  replace HFd := Lib.hid ((HFK.out.gr (show Gr wr wr.drew from Below.drew (Gr.refl wr))).gr hg8)
                  clear hown hgrow
                  refine hK.out _ _ (HKEEP.out _ (HL0.out.later hg8).fx (HL0.out.later hg8).gr) (fun hHeld => ?_)
                  clear hK K
                  (try simp only [Act.put, List.setIfInBounds_toArray, List.set_cons_zero, List.set_cons_succ])
                  replace HLd := Lib.hid (HL0.out.later hg8)
                  clear hg8
                  clear o0 o1 o2
                  obtain ⟨o0, o1, o2⟩ := HLd.out.out.p3
                  refine wpAnyH_ready (rs := [9]) (by kernel_rfl) (by simp) ?_
                  refine AllReadyH.cons (o := { dst := some 52, op := Op.buildSlice 26 1 #[(0, Operand.tmp 51)], type := 26, pos := "ref.go:190", after := #[{ on := 8, ground := Ground.data }], guard := none }) rfl (fun K hK => ?_) ?_
                  · go_simp
                    refine hK.out _ _ (HKEEP.out _ (HLd.out.later (Gr.new w8 (.cells #[.slice px ((rw_ rA k)).length pc] 23))).fx (HLd.out.later (Gr.new w8 (.cells #[.slice px ((rw_ rA k)).length pc] 23))).gr) (fun hHeld => ?_)
                    clear hK K
                    (try simp only [Act.put, List.setIfInBounds_toArray, List.set_cons_zero, List.set_cons_succ])
                    replace HLd := Lib.hid (HLd.out.later (Gr.new w8 (.cells #[.slice px ((rw_ rA k)).length pc] 23)))
                    replace HFd := Lib.hid (HFd.out.gr (Gr.new w8 (.cells #[.slice px ((rw_ rA k)).length pc] 23)))
                    clear o0 o1 o2
                    obtain ⟨o0, o1, o2⟩ := HLd.out.out.p3
                    refine wpAnyH_ready (rs := [10]) (by kernel_rfl) (by simp) ?_
                    refine AllReadyH.cons (o := { dst := some 53, op := Op.call { callee := Callee.builtin Builtin.append, args := #[Operand.tmp 44, Operand.tmp 52], argTypes := #[26, 26] }, type := 26, pos := "ref.go:190", after := #[{ on := 1, ground := Ground.data }, { on := 9, ground := Ground.data }, { on := 8, ground := Ground.chain }], guard := none }) rfl (fun K hK => ?_) ?_
                    · refine wp_appF (.tmp 44) (.tmp 52) rfl rfl b (.slice vx k vc) ls rfl HFd.out (.slice px ((rw_ rA k)).length pc) (rw_ rA k) w8.heap.size rfl (cell_new _ _ _) (HP8.out.later (Gr.new _ _)) HF8.out (HTH.out.gr (Gr.new _ _)) HLEN.out HLd.out.fx.1 ?_
                      intro v' wn hownF hgrow
                      have hown := hownF.ownR
                      obtain ⟨va2, vc2, hv2, -, -⟩ := hown.form
                      rw [HLL.out] at hv2
                      subst hv2
                      have HF9 := Lib.hid hownF
                      clear hownF
                      have HMID := Lib.hid (HLd.out.mid (by omega) hgrow)
                      have HAPP := Lib.hid (HLd.out.app (by omega) (by omega) hown hgrow (by first | rfl | exact HROW.out | (simp; done)))
                      have HFX := Lib.hid (HLd.out.fx.row hgrow (fun r e => (HLd.out.own.lt r e).1))
                      have HGN := Lib.hid (OwnR.grown HLd.out.own HLd.out.gr hgrow (by omega))
                      clear hown hgrow
                      refine hK.out _ _ (HKEEP.out _ HFX.out HGN.out) (fun hHeld => ?_)
                      clear hK K
                      (try simp only [Act.put, List.setIfInBounds_toArray, List.set_cons_zero, List.set_cons_succ])
                      obtain ⟨e0, e1, e2⟩ := HMID.out.p3
                      obtain ⟨f0, f1, f2⟩ := HMID.out.f3
                      refine wpAnyH_take (i := 11) (oi := { dst := some 54, op := Op.fieldAddr 28 (Operand.tmp 10) 2, type := 0, pos := "ref.go:190", after := #[{ on := 0, ground := Ground.phase }, { on := 1, ground := Ground.phase }, { on := 2, ground := Ground.phase }, { on := 3, ground := Ground.phase }, { on := 4, ground := Ground.phase }, { on := 5, ground := Ground.phase }, { on := 6, ground := Ground.phase }, { on := 7, ground := Ground.phase }, { on := 8, ground := Ground.phase }, { on := 9, ground := Ground.phase }, { on := 10, ground := Ground.phase }], guard := none }) (v := ?_) rfl (by kernel_rfl) (by kernel_rfl) (by kernel_rfl) (fun _ _ _ h => h) (_root_.Or.inl ⟨by rfl, ?_⟩) (by assumption) ?_
                      rotate_left
                      · intro w0 hSw; (try dsimp only at hSw); go_simp; try with_reducible rfl
                      (try simp only [Act.put, List.setIfInBounds_toArray, List.set_cons_zero, List.set_cons_succ])
                      refine wpAnyH_ready (rs := [12]) (by kernel_rfl) (by simp) ?_
                      refine AllReadyH.cons (o := { dst := none, op := Op.store 26 (Operand.tmp 54) (Operand.tmp 53), type := 0, pos := "ref.go:190", after := #[{ on := 11, ground := Ground.data }, { on := 10, ground := Ground.data }, { on := 10, ground := Ground.chain }, { on := 0, ground := Ground.phase }, { on := 1, ground := Ground.phase }, { on := 2, ground := Ground.phase }, { on := 3, ground := Ground.phase }, { on := 4, ground := Ground.phase }, { on := 5, ground := Ground.phase }, { on := 6, ground := Ground.phase }, { on := 7, ground := Ground.phase }, { on := 8, ground := Ground.phase }, { on := 9, ground := Ground.phase }, { on := 10, ground := Ground.phase }], guard := none }) rfl (fun K hK => ?_) ?_
                      · go_simp
                        refine hK.out _ _ (HKEEP.out _ HAPP.out.fx HAPP.out.gr) (fun hHeld => ?_)
                        clear hK K
                        (try simp only [Act.put, List.setIfInBounds_toArray, List.set_cons_zero, List.set_cons_succ])
                        refine wpAnyH_done (by kernel_rfl) ?_ _
                        clear hHeld
                        go_wp2_with fail
                        go_roundw
                        case rel => exact ⟨k + 1, va2, vc2, _, by go_num, by omega, HAPP.out, HF9.out.set (by omega) _⟩
                        case measure => simp [intOf]; omega
                      exact AllReadyH.nil
                    exact AllReadyH.nil
                  exact AllReadyH.nil
                exact AllReadyH.nil
              exact AllReadyH.nil
            refine AllReadyH.cons (o := { dst := some 45, op := Op.buildSlice 23 0 #[], type := 23, pos := "ref.go:190", after := #[], guard := none }) rfl (fun K hK => ?_) ?_
            · go_simp
              refine hK.out _ _ (HKEEP.out _ (HL0.out.later (Gr.new wr.drew (.cells #[] 22))).fx (HL0.out.later (Gr.new wr.drew (.cells #[] 22))).gr) (fun hHeld => ?_)
              clear hK K
              (try simp only [Act.put, List.setIfInBounds_toArray, List.set_cons_zero, List.set_cons_succ])
              replace HLd := Lib.hid (HL0.out.later (show Gr wr.drew (wr.alloc (.cells #[] 22)).drew from Gr.new wr.drew (.cells #[] 22)))
              replace HFd := Lib.hid (HFd.out.gr (show Gr wr.drew (wr.alloc (.cells #[] 22)).drew from Gr.new wr.drew (.cells #[] 22)))
              clear o0 o1 o2
              obtain ⟨o0, o1, o2⟩ := HLd.out.out.p3
              refine wpAnyH_ready (rs := [1, 8]) (by kernel_rfl) (by simp) ?_
              refine AllReadyH.cons (o := { dst := some 44, op := Op.load 26 (Operand.tmp 43), type := 26, pos := "ref.go:190", after := #[{ on := 0, ground := Ground.data }], guard := none }) rfl (fun K hK => ?_) ?_
              · go_simp
                refine hK.out _ _ hHeld (fun hHeld => ?_)
                clear hK K
                (try simp only [Act.put, List.setIfInBounds_toArray, List.set_cons_zero, List.set_cons_succ])
                refine wpAnyH_ready (rs := [8]) (by kernel_rfl) (by simp) ?_
                refine AllReadyH.cons (o := { dst := some 51, op := Op.call { callee := Callee.builtin Builtin.append, args := #[Operand.tmp 45, Operand.tmp 50], argTypes := #[23, 23] }, type := 23, pos := "ref.go:190", after := #[{ on := 2, ground := Ground.data }, { on := 7, ground := Ground.data }], guard := none }) rfl (fun K hK => ?_) ?_
                · refine wp_app (.tmp 45) (.tmp 50) rfl rfl wr.drew.heap.size (.slice (some ⟨wr.heap.size, 0, none⟩) 0 0) [] rfl (own_empty32 wr.drew _ (Nat.le_refl _)) (.slice sx sn sc) (rw_ rA k) rfl (HPA.out.later HLd.out.gr) HRL.out (Nat.le_of_lt (by simp)) ?_
                  intro v1 w8 hown hgrow
                  rw [List.nil_append] at hown
                  obtain ⟨px, pc, hpv, -, -⟩ := hown.form
                  subst hpv
                  have HP8 := Lib.hid hown.hasP
                  have HTH := Lib.hid hown.thaw
                  have HF8 := Lib.hid (show Ap b (.slice vx k vc) (.slice px ((rw_ rA k)).length pc) (rw_ rA k) from ap_of_fresh (W0 := wr.drew) HL0.out.own HL0.out.fx.1 (hown.fresh rfl))
                  have hg8 : Gr wr.drew w8 := grown_own (Gr.new wr.drew (.cells #[] 22)) (own_empty32 wr.drew _ (Nat.le_refl _)) hgrow (Nat.le_refl _)
                  replace HFd := Lib.hid ((HFK.out.gr (show Gr wr wr.drew from Below.drew (Gr.refl wr))).gr hg8)
                  clear hown hgrow
                  refine hK.out _ _ (HKEEP.out _ (HL0.out.later hg8).fx (HL0.out.later hg8).gr) (fun hHeld => ?_)
                  clear hK K
                  (try simp only [Act.put, List.setIfInBounds_toArray, List.set_cons_zero, List.set_cons_succ])
                  replace HLd := Lib.hid (HL0.out.later hg8)
                  clear hg8
                  clear o0 o1 o2
                  obtain ⟨o0, o1, o2⟩ := HLd.out.out.p3
                  refine wpAnyH_ready (rs := [9]) (by kernel_rfl) (by simp) ?_
                  refine AllReadyH.cons (o := { dst := some 52, op := Op.buildSlice 26 1 #[(0, Operand.tmp 51)], type := 26, pos := "ref.go:190", after := #[{ on := 8, ground := Ground.data }], guard := none }) rfl (fun K hK => ?_) ?_
                  · go_simp
                    refine hK.out _ _ (HKEEP.out _ (HLd.out.later (Gr.new w8 (.cells #[.slice px ((rw_ rA k)).length pc] 23))).fx (HLd.out.later (Gr.new w8 (.cells #[.slice px ((rw_ rA k)).length pc] 23))).gr) (fun hHeld => ?_)
                    clear hK K
                    (try simp only [Act.put, List.setIfInBounds_toArray, List.set_cons_zero, List.set_cons_succ])
                    replace HLd := Lib.hid (HLd.out.later (Gr.new w8 (.cells #[.slice px ((rw_ rA k)).length pc] 23)))
                    replace HFd := Lib.hid (HFd.out.gr (Gr.new w8 (.cells #[.slice px ((rw_ rA k)).length pc] 23)))
                    clear o0 o1 o2
                    obtain ⟨o0, o1, o2⟩ := HLd.out.out.p3
                    refine wpAnyH_ready (rs := [10]) (by kernel_rfl) (by simp) ?_
                    refine AllReadyH.cons (o := { dst := some 53, op := Op.call { callee := Callee.builtin Builtin.append, args := #[Operand.tmp 44, Operand.tmp 52], argTypes := #[26, 26] }, type := 26, pos := "ref.go:190", after := #[{ on := 1, ground := Ground.data }, { on := 9, ground := Ground.data }, { on := 8, ground := Ground.chain }], guard := none }) rfl (fun K hK => ?_) ?_
                    · refine wp_appF (.tmp 44) (.tmp 52) rfl rfl b (.slice vx k vc) ls rfl HFd.out (.slice px ((rw_ rA k)).length pc) (rw_ rA k) w8.heap.size rfl (cell_new _ _ _) (HP8.out.later (Gr.new _ _)) HF8.out (HTH.out.gr (Gr.new _ _)) HLEN.out HLd.out.fx.1 ?_
                      intro v' wn hownF hgrow
                      have hown := hownF.ownR
                      obtain ⟨va2, vc2, hv2, -, -⟩ := hown.form
                      rw [HLL.out] at hv2
                      subst hv2
                      have HF9 := Lib.hid hownF
                      clear hownF
                      have HMID := Lib.hid (HLd.out.mid (by omega) hgrow)
                      have HAPP := Lib.hid (HLd.out.app (by omega) (by omega) hown hgrow (by first | rfl | exact HROW.out | (simp; done)))
                      have HFX := Lib.hid (HLd.out.fx.row hgrow (fun r e => (HLd.out.own.lt r e).1))
                      have HGN := Lib.hid (OwnR.grown HLd.out.own HLd.out.gr hgrow (by omega))
                      clear hown hgrow
                      refine hK.out _ _ (HKEEP.out _ HFX.out HGN.out) (fun hHeld => ?_)
                      clear hK K
                      (try simp only [Act.put, List.setIfInBounds_toArray, List.set_cons_zero, List.set_cons_succ])
                      obtain ⟨e0, e1, e2⟩ := HMID.out.p3
                      obtain ⟨f0, f1, f2⟩ := HMID.out.f3
                      refine wpAnyH_take (i := 11) (oi := { dst := some 54, op := Op.fieldAddr 28 (Operand.tmp 10) 2, type := 0, pos := "ref.go:190", after := #[{ on := 0, ground := Ground.phase }, { on := 1, ground := Ground.phase }, { on := 2, ground := Ground.phase }, { on := 3, ground := Ground.phase }, { on := 4, ground := Ground.phase }, { on := 5, ground := Ground.phase }, { on := 6, ground := Ground.phase }, { on := 7, ground := Ground.phase }, { on := 8, ground := Ground.phase }, { on := 9, ground := Ground.phase }, { on := 10, ground := Ground.phase }], guard := none }) (v := ?_) rfl (by kernel_rfl) (by kernel_rfl) (by kernel_rfl) (fun _ _ _ h => h) (_root_.Or.inl ⟨by rfl, ?_⟩) (by assumption) ?_
                      rotate_left
                      · intro w0 hSw; (try dsimp only at hSw); go_simp; try with_reducible rfl
                      (try simp only [Act.put, List.setIfInBounds_toArray, List.set_cons_zero, List.set_cons_succ])
                      refine wpAnyH_ready (rs := [12]) (by kernel_rfl) (by simp) ?_
                      refine AllReadyH.cons (o := { dst := none, op := Op.store 26 (Operand.tmp 54) (Operand.tmp 53), type := 0, pos := "ref.go:190", after := #[{ on := 11, ground := Ground.data }, { on := 10, ground := Ground.data }, { on := 10, ground := Ground.chain }, { on := 0, ground := Ground.phase }, { on := 1, ground := Ground.phase }, { on := 2, ground := Ground.phase }, { on := 3, ground := Ground.phase }, { on := 4, ground := Ground.phase }, { on := 5, ground := Ground.phase }, { on := 6, ground := Ground.phase }, { on := 7, ground := Ground.phase }, { on := 8, ground := Ground.phase }, { on := 9, ground := Ground.phase }, { on := 10, ground := Ground.phase }], guard := none }) rfl (fun K hK => ?_) ?_
                      · go_simp
                        refine hK.out _ _ (HKEEP.out _ HAPP.out.fx HAPP.out.gr) (fun hHeld => ?_)
                        clear hK K
                        (try simp only [Act.put, List.setIfInBounds_toArray, List.set_cons_zero, List.set_cons_succ])
                        refine wpAnyH_done (by kernel_rfl) ?_ _
                        clear hHeld
                        go_wp2_with fail
                        go_roundw
                        case rel => exact ⟨k + 1, va2, vc2, _, by go_num, by omega, HAPP.out, HF9.out.set (by omega) _⟩
                        case measure => simp [intOf]; omega
                      exact AllReadyH.nil
                    exact AllReadyH.nil
                  exact AllReadyH.nil
                exact AllReadyH.nil
              refine AllReadyH.cons (o := { dst := some 51, op := Op.call { callee := Callee.builtin Builtin.append, args := #[Operand.tmp 45, Operand.tmp 50], argTypes := #[23, 23] }, type := 23, pos := "ref.go:190", after := #[{ on := 2, ground := Ground.data }, { on := 7, ground := Ground.data }], guard := none }) rfl (fun K hK => ?_) ?_
              · refine wp_app (.tmp 45) (.tmp 50) rfl rfl wr.drew.heap.size (.slice (some ⟨wr.heap.size, 0, none⟩) 0 0) [] rfl (own_empty32 wr.drew _ (Nat.le_refl _)) (.slice sx sn sc) (rw_ rA k) rfl (HPA.out.later HLd.out.gr) HRL.out (Nat.le_of_lt (by simp)) ?_
                intro v1 w8 hown hgrow
                rw [List.nil_append] at hown
                obtain ⟨px, pc, hpv, -, -⟩ := hown.form
                subst hpv
                have HP8 := Lib.hid hown.hasP
                have HTH := Lib.hid hown.thaw
                have HF8 := Lib.hid (show Ap b (.slice vx k vc) (.slice px ((rw_ rA k)).length pc) (rw_ rA k) from ap_of_fresh (W0 := wr.drew) HL0.out.own HL0.out.fx.1 (hown.fresh rfl))
                have hg8 : Gr wr.drew w8 := grown_own (Gr.new wr.drew (.cells #[] 22)) (own_empty32 wr.drew _ (Nat.le_refl _)) hgrow (Nat.le_refl _)
                replace HFd := Lib.hid ((HFK.out.gr (show Gr wr wr.drew from Below.drew (Gr.refl wr))).gr hg8)
                clear hown hgrow
                refine hK.out _ _ (HKEEP.out _ (HL0.out.later hg8).fx (HL0.out.later hg8).gr) (fun hHeld => ?_)
                clear hK K
                (try simp only [Act.put, List.setIfInBounds_toArray, List.set_cons_zero, List.set_cons_succ])
                replace HLd := Lib.hid (HL0.out.later hg8)
                clear hg8
                clear o0 o1 o2
                obtain ⟨o0, o1, o2⟩ := HLd.out.out.p3
                refine wpAnyH_ready (rs := [1, 9]) (by kernel_rfl) (by simp) ?_
                refine AllReadyH.cons (o := { dst := some 44, op := Op.load 26 (Operand.tmp 43), type := 26, pos := "ref.go:190", after := #[{ on := 0, ground := Ground.data }], guard := none }) rfl (fun K hK => ?_) ?_
                · go_simp
                  refine hK.out _ _ hHeld (fun hHeld => ?_)
                  clear hK K
                  (try simp only [Act.put, List.setIfInBounds_toArray, List.set_cons_zero, List.set_cons_succ])
                  refine wpAnyH_ready (rs := [9]) (by kernel_rfl) (by simp) ?_
                  refine AllReadyH.cons (o := { dst := some 52, op := Op.buildSlice 26 1 #[(0, Operand.tmp 51)], type := 26, pos := "ref.go:190", after := #[{ on := 8, ground := Ground.data }], guard := none }) rfl (fun K hK => ?_) ?_
                  · go_simp
                    refine hK.out _ _ (HKEEP.out _ (HLd.out.later (Gr.new w8 (.cells #[.slice px ((rw_ rA k)).length pc] 23))).fx (HLd.out.later (Gr.new w8 (.cells #[.slice px ((rw_ rA k)).length pc] 23))).gr) (fun hHeld => ?_)
                    clear hK K
                    (try simp only [Act.put, List.setIfInBounds_toArray, List.set_cons_zero, List.set_cons_succ])
                    replace HLd := Lib.hid (HLd.out.later (Gr.new w8 (.cells #[.slice px ((rw_ rA k)).length pc] 23)))
                    replace HFd := Lib.hid (HFd.out.gr (Gr.new w8 (.cells #[.slice px ((rw_ rA k)).length pc] 23)))
                    clear o0 o1 o2
                    obtain ⟨o0, o1, o2⟩ := HLd.out.out.p3
                    refine wpAnyH_ready (rs := [10]) (by kernel_rfl) (by simp) ?_
                    refine AllReadyH.cons (o := { dst := some 53, op := Op.call { callee := Callee.builtin Builtin.append, args := #[Operand.tmp 44, Operand.tmp 52], argTypes := #[26, 26] }, type := 26, pos := "ref.go:190", after := #[{ on := 1, ground := Ground.data }, { on := 9, ground := Ground.data }, { on := 8, ground := Ground.chain }], guard := none }) rfl (fun K hK => ?_) ?_
                    · refine wp_appF (.tmp 44) (.tmp 52) rfl rfl b (.slice vx k vc) ls rfl HFd.out (.slice px ((rw_ rA k)).length pc) (rw_ rA k) w8.heap.size rfl (cell_new _ _ _) (HP8.out.later (Gr.new _ _)) HF8.out (HTH.out.gr (Gr.new _ _)) HLEN.out HLd.out.fx.1 ?_
                      intro v' wn hownF hgrow
                      have hown := hownF.ownR
                      obtain ⟨va2, vc2, hv2, -, -⟩ := hown.form
                      rw [HLL.out] at hv2
                      subst hv2
                      have HF9 := Lib.hid hownF
                      clear hownF
                      have HMID := Lib.hid (HLd.out.mid (by omega) hgrow)
                      have HAPP := Lib.hid (HLd.out.app (by omega) (by omega) hown hgrow (by first | rfl | exact HROW.out | (simp; done)))
                      have HFX := Lib.hid (HLd.out.fx.row hgrow (fun r e => (HLd.out.own.lt r e).1))
                      have HGN := Lib.hid (OwnR.grown HLd.out.own HLd.out.gr hgrow (by omega))
                      clear hown hgrow
                      refine hK.out _ _ (HKEEP.out _ HFX.out HGN.out) (fun hHeld => ?_)
                      clear hK K
                      (try simp only [Act.put, List.setIfInBounds_toArray, List.set_cons_zero, List.set_cons_succ])
                      obtain ⟨e0, e1, e2⟩ := HMID.out.p3
                      obtain ⟨f0, f1, f2⟩ := HMID.out.f3
                      refine wpAnyH_take (i := 11) (oi := { dst := some 54, op := Op.fieldAddr 28 (Operand.tmp 10) 2, type := 0, pos := "ref.go:190", after := #[{ on := 0, ground := Ground.phase }, { on := 1, ground := Ground.phase }, { on := 2, ground := Ground.phase }, { on := 3, ground := Ground.phase }, { on := 4, ground := Ground.phase }, { on := 5, ground := Ground.phase }, { on := 6, ground := Ground.phase }, { on := 7, ground := Ground.phase }, { on := 8, ground := Ground.phase }, { on := 9, ground := Ground.phase }, { on := 10, ground := Ground.phase }], guard := none }) (v := ?_) rfl (by kernel_rfl) (by kernel_rfl) (by kernel_rfl) (fun _ _ _ h => h) (_root_.Or.inl ⟨by rfl, ?_⟩) (by assumption) ?_
                      rotate_left
                      · intro w0 hSw; (try dsimp only at hSw); go_simp; try with_reducible rfl
                      (try simp only [Act.put, List.setIfInBounds_toArray, List.set_cons_zero, List.set_cons_succ])
                      refine wpAnyH_ready (rs := [12]) (by kernel_rfl) (by simp) ?_
                      refine AllReadyH.cons (o := { dst := none, op := Op.store 26 (Operand.tmp 54) (Operand.tmp 53), type := 0, pos := "ref.go:190", after := #[{ on := 11, ground := Ground.data }, { on := 10, ground := Ground.data }, { on := 10, ground := Ground.chain }, { on := 0, ground := Ground.phase }, { on := 1, ground := Ground.phase }, { on := 2, ground := Ground.phase }, { on := 3, ground := Ground.phase }, { on := 4, ground := Ground.phase }, { on := 5, ground := Ground.phase }, { on := 6, ground := Ground.phase }, { on := 7, ground := Ground.phase }, { on := 8, ground := Ground.phase }, { on := 9, ground := Ground.phase }, { on := 10, ground := Ground.phase }], guard := none }) rfl (fun K hK => ?_) ?_
                      · go_simp
                        refine hK.out _ _ (HKEEP.out _ HAPP.out.fx HAPP.out.gr) (fun hHeld => ?_)
                        clear hK K
                        (try simp only [Act.put, List.setIfInBounds_toArray, List.set_cons_zero, List.set_cons_succ])
                        refine wpAnyH_done (by kernel_rfl) ?_ _
                        clear hHeld
                        go_wp2_with fail
                        go_roundw
                        case rel => exact ⟨k + 1, va2, vc2, _, by go_num, by omega, HAPP.out, HF9.out.set (by omega) _⟩
                        case measure => simp [intOf]; omega
                      exact AllReadyH.nil
                    exact AllReadyH.nil
                  exact AllReadyH.nil
                refine AllReadyH.cons (o := { dst := some 52, op := Op.buildSlice 26 1 #[(0, Operand.tmp 51)], type := 26, pos := "ref.go:190", after := #[{ on := 8, ground := Ground.data }], guard := none }) rfl (fun K hK => ?_) ?_
                · go_simp
                  refine hK.out _ _ (HKEEP.out _ (HLd.out.later (Gr.new w8 (.cells #[.slice px ((rw_ rA k)).length pc] 23))).fx (HLd.out.later (Gr.new w8 (.cells #[.slice px ((rw_ rA k)).length pc] 23))).gr) (fun hHeld => ?_)
                  clear hK K
                  (try simp only [Act.put, List.setIfInBounds_toArray, List.set_cons_zero, List.set_cons_succ])
                  replace HLd := Lib.hid (HLd.out.later (Gr.new w8 (.cells #[.slice px ((rw_ rA k)).length pc] 23)))
                  replace HFd := Lib.hid (HFd.out.gr (Gr.new w8 (.cells #[.slice px ((rw_ rA k)).length pc] 23)))
                  clear o0 o1 o2
                  obtain ⟨o0, o1, o2⟩ := HLd.out.out.p3
                  refine wpAnyH_ready (rs := [1]) (by kernel_rfl) (by simp) ?_
                  refine AllReadyH.cons (o := { dst := some 44, op := Op.load 26 (Operand.tmp 43), type := 26, pos := "ref.go:190", after := #[{ on := 0, ground := Ground.data }], guard := none }) rfl (fun K hK => ?_) ?_
                  · go_simp
                    refine hK.out _ _ hHeld (fun hHeld => ?_)
                    clear hK K
                    (try simp only [Act.put, List.setIfInBounds_toArray, List.set_cons_zero, List.set_cons_succ])
                    refine wpAnyH_ready (rs := [10]) (by kernel_rfl) (by simp) ?_
                    refine AllReadyH.cons (o := { dst := some 53, op := Op.call { callee := Callee.builtin Builtin.append, args := #[Operand.tmp 44, Operand.tmp 52], argTypes := #[26, 26] }, type := 26, pos := "ref.go:190", after := #[{ on := 1, ground := Ground.data }, { on := 9, ground := Ground.data }, { on := 8, ground := Ground.chain }], guard := none }) rfl (fun K hK => ?_) ?_
                    · refine wp_appF (.tmp 44) (.tmp 52) rfl rfl b (.slice vx k vc) ls rfl HFd.out (.slice px ((rw_ rA k)).length pc) (rw_ rA k) w8.heap.size rfl (cell_new _ _ _) (HP8.out.later (Gr.new _ _)) HF8.out (HTH.out.gr (Gr.new _ _)) HLEN.out HLd.out.fx.1 ?_
                      intro v' wn hownF hgrow
                      have hown := hownF.ownR
                      obtain ⟨va2, vc2, hv2, -, -⟩ := hown.form
                      rw [HLL.out] at hv2
                      subst hv2
                      have HF9 := Lib.hid hownF
                      clear hownF
                      have HMID := Lib.hid (HLd.out.mid (by omega) hgrow)
                      have HAPP := Lib.hid (HLd.out.app (by omega) (by omega) hown hgrow (by first | rfl | exact HROW.out | (simp; done)))
                      have HFX := Lib.hid (HLd.out.fx.row hgrow (fun r e => (HLd.out.own.lt r e).1))
                      have HGN := Lib.hid (OwnR.grown HLd.out.own HLd.out.gr hgrow (by omega))
                      clear hown hgrow
                      refine hK.out _ _ (HKEEP.out _ HFX.out HGN.out) (fun hHeld => ?_)
                      clear hK K
                      (try simp only [Act.put, List.setIfInBounds_toArray, List.set_cons_zero, List.set_cons_succ])
                      obtain ⟨e0, e1, e2⟩ := HMID.out.p3
                      obtain ⟨f0, f1, f2⟩ := HMID.out.f3
                      refine wpAnyH_take (i := 11) (oi := { dst := some 54, op := Op.fieldAddr 28 (Operand.tmp 10) 2, type := 0, pos := "ref.go:190", after := #[{ on := 0, ground := Ground.phase }, { on := 1, ground := Ground.phase }, { on := 2, ground := Ground.phase }, { on := 3, ground := Ground.phase }, { on := 4, ground := Ground.phase }, { on := 5, ground := Ground.phase }, { on := 6, ground := Ground.phase }, { on := 7, ground := Ground.phase }, { on := 8, ground := Ground.phase }, { on := 9, ground := Ground.phase }, { on := 10, ground := Ground.phase }], guard := none }) (v := ?_) rfl (by kernel_rfl) (by kernel_rfl) (by kernel_rfl) (fun _ _ _ h => h) (_root_.Or.inl ⟨by rfl, ?_⟩) (by assumption) ?_
                      rotate_left
                      · intro w0 hSw; (try dsimp only at hSw); go_simp; try with_reducible rfl
                      (try simp only [Act.put, List.setIfInBounds_toArray, List.set_cons_zero, List.set_cons_succ])
                      refine wpAnyH_ready (rs := [12]) (by kernel_rfl) (by simp) ?_
                      refine AllReadyH.cons (o := { dst := none, op := Op.store 26 (Operand.tmp 54) (Operand.tmp 53), type := 0, pos := "ref.go:190", after := #[{ on := 11, ground := Ground.data }, { on := 10, ground := Ground.data }, { on := 10, ground := Ground.chain }, { on := 0, ground := Ground.phase }, { on := 1, ground := Ground.phase }, { on := 2, ground := Ground.phase }, { on := 3, ground := Ground.phase }, { on := 4, ground := Ground.phase }, { on := 5, ground := Ground.phase }, { on := 6, ground := Ground.phase }, { on := 7, ground := Ground.phase }, { on := 8, ground := Ground.phase }, { on := 9, ground := Ground.phase }, { on := 10, ground := Ground.phase }], guard := none }) rfl (fun K hK => ?_) ?_
                      · go_simp
                        refine hK.out _ _ (HKEEP.out _ HAPP.out.fx HAPP.out.gr) (fun hHeld => ?_)
                        clear hK K
                        (try simp only [Act.put, List.setIfInBounds_toArray, List.set_cons_zero, List.set_cons_succ])
                        refine wpAnyH_done (by kernel_rfl) ?_ _
                        clear hHeld
                        go_wp2_with fail
                        go_roundw
                        case rel => exact ⟨k + 1, va2, vc2, _, by go_num, by omega, HAPP.out, HF9.out.set (by omega) _⟩
                        case measure => simp [intOf]; omega
                      exact AllReadyH.nil
                    exact AllReadyH.nil
                  exact AllReadyH.nil
                exact AllReadyH.nil
              exact AllReadyH.nil
            exact AllReadyH.nil
        
          · obtain rfl : k = l2 := by omega
            have i1 : ¬ (k : Int) < (k : Int) := by omega
            have HD := Lib.hid (HLK.out.done (by rw [HML.out]; simp))
            obtain ⟨o0, o1, o2⟩ := HLK.out.out.p3
            have HRR := Lib.hid (HLK.out.fx.blk HRB.out (by omega) (by omega))
            obtain ⟨r0, r1, r2⟩ := HRR.out.p3
            obtain ⟨f0, f1, f2⟩ := HRR.out.f3
            go_wp2_with fail
            have hr := ((HRR.out.set 0 (.int .i64 k)).set 1 (.bool false)).set 2 (.slice vx k vc)
            obtain ⟨e0, e1, e2⟩ := (show Blk _ _ _ #[.int .i64 k, .bool false, .slice vx k vc] from hr).p3
            refine bodyPost_ret (v := .tuple #[.agg #[.int .i64 k, .bool false, .slice vx k vc], .int .i64 0]) (by simp only [Nat.add_assoc, Nat.reduceAdd]; simp [results, Tryz.results26, go_sem, e0, e1, e2]) rfl ?_
            have h := put3b HLK.out.own.hasB HLK.out.gr (k := w.heap.size + 2) (by omega) (by omega) (.int .i64 k) (.bool false) (.slice vx k vc)
            rw [HD.out, HLS.out] at h
            exact ⟨k, false, _, _, by rw [HE0.out], .inl ⟨HE0.out, rfl, rfl, rfl⟩, h.1, h.2⟩
      · obtain rfl : sp = true := HK3.out rfl
        go_upto_region 4 with (fail)
        clear t1 t2 t2' t3
        obtain ⟨W3, hW3⟩ : ∃ W3, W3 = w1.alloc (.cells #[.int .i64 l2, .bool true, .slice none 0 0] 28) := ⟨_, rfl⟩
        obtain ⟨G, hG⟩ : ∃ G, G = w1.heap.size := ⟨_, rfl⟩
        have hg3 : Gr w1 W3 := by rw [hW3]; exact Gr.new _ _
        have HSG := Lib.hid (show w.heap.size + 3 ≤ G by rw [hG]; exact HSZ1.out)
        have HSZ3 := Lib.hid (show W3.heap.size = G + 1 by rw [hW3, hG]; simp)
        have HBO := Lib.hid (show Blk W3 G 28 #[.int .i64 l2, .bool true, .slice none 0 0] by rw [hW3, hG]; exact Blk.new _ _ _)
        rw [← hW3, ← hG]
        replace HG := Lib.hid (HG.out.trans hg3)
        replace HBP := Lib.hid (HBP.out.gr hg3)
        replace HBA := Lib.hid (HBA.out.gr hg3)
        replace HRB := Lib.hid (HRB.out.gr hg3)
        clear hg3 hW3 hG a0 a1 a2
        obtain ⟨b, hb⟩ : ∃ b, b = W3.heap.size := ⟨_, rfl⟩
        have HLP := Lib.hid (show LP b G w W3 l2 true (fun i _ => rw_ rA (if i = l2 then lv else i)) (Oj.mods ch S l2 true) 0 (.slice none 0 0) [] W3 from LP.start hb.symm HBO.out HG.out)
        have hGb : G + 1 ≤ b := by rw [hb, HSZ3.out]; exact Nat.le_refl _
        have hwG := HSG.out
        have hl2 := HK1.out
        clear hb
        go_wp2_with fail
        go_loopw [11] (fun i wr => ∃ (k : Nat) (x : Option Addr) (c : Nat) (ls : List (List Int)), i = .int .i64 k ∧ k ≤ l2 ∧ LP b G w W3 l2 true (fun i _ => rw_ rA (if i = l2 then lv else i)) (Oj.mods ch S l2 true) k (.slice x k c) ls wr ∧ OwnF wr b (.slice x k c) ls) (fun i _ => l2 - (intOf i).toNat)
        case atStart => exact ⟨0, none, 0, [], rfl, by omega, HLP.out, OwnF.nil _ _⟩
        case round =>
          obtain ⟨k, vx, vc, ls, rfl, hk, hlp, hof⟩ := hrel
          have HFK := Lib.hid hof
          have HLK := Lib.hid hlp
          have hk1000 : k ≤ 1000 := by omega
          clear hlp hof
          by_cases hlt : k < l2
          · have i1 : (k : Int) < (l2 : Int) := by omega
            have i0 : (0 : Int) ≤ (k : Int) := by omega
            have hix := rs_idx HOK.out (i := k) (show k < (Oj.mods ch S l2 true).length by rw [HML.out]; omega)
            rw [if_neg (show ¬ k = l2 by omega), HNA.out] at hix
            have i2 : (k : Int) < (nA : Int) := by omega
            obtain ⟨gA, oA, sx, sn, sc, rfl, hcA, hs1, hpA⟩ := HasB.at_ HA.out (i := k) (by rw [HNA.out]; exact hix.1)
            have HPA := Lib.hid hpA
            have HCA := Lib.hid hcA
            have HRL := Lib.hid (show ([] : List Int).length + (rw_ rA k).length ≤ 1000000 by have := hix.2.2; simp; omega)
            have HROW := Lib.hid (show rw_ rA k = (fun i _ => rw_ rA (if i = l2 then lv else i)) k (Op.cf (Oj.mods ch S l2 true) k) by show _ = rw_ rA (if k = l2 then lv else k); rw [if_neg (show ¬ k = l2 by omega)])
            clear hs1 hpA hcA hix
            go_wp2_with fail
            have HKEEP := Lib.hid (show ∀ wz, Fx b G W3 wz → Gr w wz → (wz.cell? ⟨w.heap.size + 1, 2, none⟩ = some (.slice (some ⟨gA, oA, none⟩) nA cA) ∧ wz.cell? ⟨gA, oA + k, none⟩ = some (.slice sx sn sc)) from fun wz fx g => ⟨(fx.blk HBA.out (by omega) (by omega)).p3.2.2, g.keeps HCA.out⟩)
            have HL0 := Lib.hid (HLK.out.later (show Gr wr wr.drew from Below.drew (Gr.refl wr)))
            have HLd := HL0
            have HFd := Lib.hid (HFK.out.gr (show Gr wr wr.drew from Below.drew (Gr.refl wr)))
            have HLEN := Lib.hid (show ls.length ≤ 1000000 by rw [HLK.out.len]; omega)
            have HLL := Lib.hid (show (ls ++ [(rw_ rA k)]).length = k + 1 by rw [List.length_append, HLK.out.len]; rfl)
            obtain ⟨o0, o1, o2⟩ := HLd.out.out.p3
            refine wp_region_held_drew (S := fun wz => wz.cell? ⟨w.heap.size + 1, 2, none⟩ = some (.slice (some ⟨gA, oA, none⟩) nA cA) ∧ wz.cell? ⟨gA, oA + k, none⟩ = some (.slice sx sn sc)) (by kernel_rfl) (HKEEP.out _ HLd.out.fx HLd.out.gr) (fun hHeld => ?_)
            show wpAnyH _ _ _ _ _ 13 #[false, false, false, false, false, false, false, false, false, false, false, false, false] _ _
            refine wpAnyH_take (i := 0) (oi := { dst := some 43, op := Op.fieldAddr 28 (Operand.tmp 10) 2, type := 0, pos := "ref.go:190", after := #[], guard := none }) (v := ?_) rfl (by kernel_rfl) (by kernel_rfl) (by kernel_rfl) (fun _ _ _ h => h) (_root_.Or.inl ⟨by rfl, ?_⟩) (by assumption) ?_
            rotate_left
            · intro w0 hSw; (try dsimp only at hSw); go_simp; try with_reducible rfl
            (try simp only [Act.put, List.setIfInBounds_toArray, List.set_cons_zero, List.set_cons_succ])
            refine wpAnyH_take (i := 3) (oi := { dst := some 46, op := Op.fieldAddr 28 (Operand.tmp 5) 2, type := 0, pos := "ref.go:190", after := #[], guard := none }) (v := ?_) rfl (by kernel_rfl) (by kernel_rfl) (by kernel_rfl) (fun _ _ _ h => h) (_root_.Or.inl ⟨by rfl, ?_⟩) (by assumption) ?_
            rotate_left
            · intro w0 hSw; (try dsimp only at hSw); go_simp; try with_reducible rfl
            (try simp only [Act.put, List.setIfInBounds_toArray, List.set_cons_zero, List.set_cons_succ])
            refine wpAnyH_take (i := 4) (oi := { dst := some 47, op := Op.load 26 (Operand.tmp 46), type := 26, pos := "ref.go:190", after := #[{ on := 3, ground := Ground.data }], guard := none }) (v := ?_) rfl (by kernel_rfl) (by kernel_rfl) (by kernel_rfl) (fun _ _ _ h => h) (_root_.Or.inl ⟨by rfl, ?_⟩) (by assumption) ?_
            rotate_left
            · intro w0 hSw; (try dsimp only at hSw); go_simp; try with_reducible rfl
            (try simp only [Act.put, List.setIfInBounds_toArray, List.set_cons_zero, List.set_cons_succ])
            refine wpAnyH_take (i := 5) (oi := { dst := some 48, op := Op.move (Operand.tmp 11), type := 3, pos := "ref.go:190", after := #[], guard := none }) (v := ?_) rfl (by kernel_rfl) (by kernel_rfl) (by kernel_rfl) (fun _ _ _ h => h) (_root_.Or.inl ⟨by rfl, ?_⟩) (by assumption) ?_
            rotate_left
            · intro w0 hSw; (try dsimp only at hSw); go_simp; try with_reducible rfl
            (try simp only [Act.put, List.setIfInBounds_toArray, List.set_cons_zero, List.set_cons_succ])
            refine wpAnyH_take (i := 6) (oi := { dst := some 49, op := Op.indexAddr 26 (Operand.tmp 47) (Operand.tmp 48), type := 0, pos := "ref.go:190", after := #[{ on := 4, ground := Ground.data }, { on := 5, ground := Ground.data }], guard := none }) (v := ?_) rfl (by kernel_rfl) (by kernel_rfl) (by kernel_rfl) (fun _ _ _ h => h) (_root_.Or.inl ⟨by rfl, ?_⟩) (by assumption) ?_
            rotate_left
            · intro w0 hSw; (try dsimp only at hSw); go_simp; try with_reducible rfl
            (try simp only [Act.put, List.setIfInBounds_toArray, List.set_cons_zero, List.set_cons_succ])
            refine wpAnyH_take (i := 7) (oi := { dst := some 50, op := Op.load 23 (Operand.tmp 49), type := 23, pos := "ref.go:190", after := #[{ on := 6, ground := Ground.data }], guard := none }) (v := ?_) rfl (by kernel_rfl) (by kernel_rfl) (by kernel_rfl) (fun _ _ _ h => h) (_root_.Or.inl ⟨by rfl, ?_⟩) (by assumption) ?_
            rotate_left
            · intro w0 hSw; (try dsimp only at hSw); go_simp; try with_reducible rfl
            (try simp only [Act.put, List.setIfInBounds_toArray, List.set_cons_zero, List.set_cons_succ])
            refine wpAnyH_ready (rs := [1, 2]) (by kernel_rfl) (by simp) ?_
            refine AllReadyH.cons (o := { dst := some 44, op := Op.load 26 (Operand.tmp 43), type := 26, pos := "ref.go:190", after := #[{ on := 0, ground := Ground.data }], guard := none }) rfl (fun K hK => ?_) ?_
            · go_simp
              refine hK.out _ _ hHeld (fun hHeld => ?_)
              clear hK K
              (try simp only [Act.put, List.setIfInBounds_toArray, List.set_cons_zero, List.set_cons_succ])
              refine wpAnyH_ready (rs := [2]) (by kernel_rfl) (by simp) ?_
              refine AllReadyH.cons (o := { dst := some 45, op := Op.buildSlice 23 0 #[], type := 23, pos := "ref.go:190", after := #[], guard := none }) rfl (fun K hK => ?_) ?_
              · go_simp
                refine hK.out _ _ (HKEEP.out _ (HL0.out.later (Gr.new wr.drew (.cells #[] 22))).fx (HL0.out.later (Gr.new wr.drew (.cells #[] 22))).gr) (fun hHeld => ?_)
                clear hK K
                (try simp only [Act.put, List.setIfInBounds_toArray, List.set_cons_zero, List.set_cons_succ])
                replace HLd := Lib.hid (HL0.out.later (show Gr wr.drew (wr.alloc (.cells #[] 22)).drew from Gr.new wr.drew (.cells #[] 22)))
                replace HFd := Lib.hid (HFd.out.gr (show Gr wr.drew (wr.alloc (.cells #[] 22)).drew from Gr.new wr.drew (.cells #[] 22)))
                clear o0 o1 o2
                obtain ⟨o0, o1, o2⟩ := HLd.out.out.p3
                refine wpAnyH_ready (rs := [8]) (by kernel_rfl) (by simp) ?_
                refine AllReadyH.cons (o := { dst := some 51, op := Op.call { callee := Callee.builtin Builtin.append, args := #[Operand.tmp 45, Operand.tmp 50], argTypes := #[23, 23] }, type := 23, pos := "ref.go:190", after := #[{ on := 2, ground := Ground.data }, { on := 7, ground := Ground.data }], guard := none }) rfl (fun K hK => ?_) ?_
                · refine wp_app (.tmp 45) (.tmp 50) rfl rfl wr.drew.heap.size (.slice (some ⟨wr.heap.size, 0, none⟩) 0 0) [] rfl (own_empty32 wr.drew _ (Nat.le_refl _)) (.slice sx sn sc) (rw_ rA k) rfl (HPA.out.later HLd.out.gr) HRL.out (Nat.le_of_lt (by simp)) ?_
                  intro v1 w8 hown hgrow
                  rw [List.nil_append] at hown
                  obtain ⟨px, pc, hpv, -, -⟩ := hown.form
                  subst hpv
                  have HP8 := Lib.hid hown.hasP
                  have HTH := Lib.hid hown.thaw
                  have HF8 := Lib.hid (show Ap b (.slice vx k vc) (.slice px ((rw_ rA k)).length pc) (rw_ rA k) from ap_of_fresh (W0 := wr.drew) HL0.out.own HL0.out.fx.1 (hown.fresh rfl))
                  have hg8 : Gr wr.drew w8 := grown_own (Gr.new wr.drew (.cells #[] 22)) (own_empty32 wr.drew _ (Nat.le_refl _)) hgrow (Nat.le_refl _)
                  replace HFd := Lib.hid ((HFK.out.gr (show Gr wr wr.drew from Below.drew (Gr.refl wr))).gr hg8)
                  clear hown hgrow
                  refine hK.out _ _ (HKEEP.out _ (HL0.out.later hg8).fx (HL0.out.later hg8).gr) (fun hHeld => ?_)
                  clear hK K
                  (try simp only [Act.put, List.setIfInBounds_toArray, List.set_cons_zero, List.set_cons_succ])
                  replace HLd := Lib.hid (HL0.out.later hg8)
                  clear hg8
                  clear o0 o1 o2
                  obtain ⟨o0, o1, o2⟩ := HLd.out.out.p3
                  refine wpAnyH_ready (rs := [9]) (by kernel_rfl) (by simp) ?_
                  refine AllReadyH.cons (o := { dst := some 52, op := Op.buildSlice 26 1 #[(0, Operand.tmp 51)], type := 26, pos := "ref.go:190", after := #[{ on := 8, ground := Ground.data }], guard := none }) rfl (fun K hK => ?_) ?_
                  · go_simp
                    refine hK.out _ _ (HKEEP.out _ (HLd.out.later (Gr.new w8 (.cells #[.slice px ((rw_ rA k)).length pc] 23))).fx (HLd.out.later (Gr.new w8 (.cells #[.slice px ((rw_ rA k)).length pc] 23))).gr) (fun hHeld => ?_)
                    clear hK K
                    (try simp only [Act.put, List.setIfInBounds_toArray, List.set_cons_zero, List.set_cons_succ])
                    replace HLd := Lib.hid (HLd.out.later (Gr.new w8 (.cells #[.slice px ((rw_ rA k)).length pc] 23)))
                    replace HFd := Lib.hid (HFd.out.gr (Gr.new w8 (.cells #[.slice px ((rw_ rA k)).length pc] 23)))
                    clear o0 o1 o2
                    obtain ⟨o0, o1, o2⟩ := HLd.out.out.p3
                    refine wpAnyH_ready (rs := [10]) (by kernel_rfl) (by simp) ?_
                    refine AllReadyH.cons (o := { dst := some 53, op := Op.call { callee := Callee.builtin Builtin.append, args := #[Operand.tmp 44, Operand.tmp 52], argTypes := #[26, 26] }, type := 26, pos := "ref.go:190", after := #[{ on := 1, ground := Ground.data }, { on := 9, ground := Ground.data }, { on := 8, ground := Ground.chain }], guard := none }) rfl (fun K hK => ?_) ?_
                    · refine wp_appF (.tmp 44) (.tmp 52) rfl rfl b (.slice vx k vc) ls rfl HFd.out (.slice px ((rw_ rA k)).length pc) (rw_ rA k) w8.heap.size rfl (cell_new _ _ _) (HP8.out.later (Gr.new _ _)) HF8.out (HTH.out.gr (Gr.new _ _)) HLEN.out HLd.out.fx.1 ?_
                      intro v' wn hownF hgrow
                      have hown := hownF.ownR
                      obtain ⟨va2, vc2, hv2, -, -⟩ := hown.form
                      rw [HLL.out] at hv2
                      subst hv2
                      have HF9 := Lib.hid hownF
                      clear hownF
                      have HMID := Lib.hid (HLd.out.mid (by omega) hgrow)
                      have HAPP := Lib.hid (HLd.out.app (by omega) (by omega) hown hgrow (by first | rfl | exact HROW.out | (simp; done)))
                      have HFX := Lib.hid (HLd.out.fx.row hgrow (fun r e => (HLd.out.own.lt r e).1))
                      have HGN := Lib.hid (OwnR.grown HLd.out.own HLd.out.gr hgrow (by omega))
                      clear hown hgrow
                      refine hK.out _ _ (HKEEP.out _ HFX.out HGN.out) (fun hHeld => ?_)
                      clear hK K
                      (try simp only [Act.put, List.setIfInBounds_toArray, List.set_cons_zero, List.set_cons_succ])
                      obtain ⟨e0, e1, e2⟩ := HMID.out.p3
                      obtain ⟨f0, f1, f2⟩ := HMID.out.f3
                      refine wpAnyH_take (i := 11) (oi := { dst := some 54, op := Op.fieldAddr 28 (Operand.tmp 10) 2, type := 0, pos := "ref.go:190", after := #[{ on := 0, ground := Ground.phase }, { on := 1, ground := Ground.phase }, { on := 2, ground := Ground.phase }, { on := 3, ground := Ground.phase }, { on := 4, ground := Ground.phase }, { on := 5, ground := Ground.phase }, { on := 6, ground := Ground.phase }, { on := 7, ground := Ground.phase }, { on := 8, ground := Ground.phase }, { on := 9, ground := Ground.phase }, { on := 10, ground := Ground.phase }], guard := none }) (v := ?_) rfl (by kernel_rfl) (by kernel_rfl) (by kernel_rfl) (fun _ _ _ h => h) (_root_.Or.inl ⟨by rfl, ?_⟩) (by assumption) ?_
                      rotate_left
                      · intro w0 hSw; (try dsimp only at hSw); go_simp; try with_reducible rfl
                      (try simp only [Act.put, List.setIfInBounds_toArray, List.set_cons_zero, List.set_cons_succ])
                      refine wpAnyH_ready (rs := [12]) (by kernel_rfl) (by simp) ?_
                      refine AllReadyH.cons (o := { dst := none, op := Op.store 26 (Operand.tmp 54) (Operand.tmp 53), type := 0, pos := "ref.go:190", after := #[{ on := 11, ground := Ground.data }, { on := 10, ground := Ground.data }, { on := 10, ground := Ground.chain }, { on := 0, ground := Ground.phase }, { on := 1, ground := Ground.phase }, { on := 2, ground := Ground.phase }, { on := 3, ground := Ground.phase }, { on := 4, ground := Ground.phase }, { on := 5, ground := Ground.phase }, { on := 6, ground := Ground.phase }, { on := 7, ground := Ground.phase }, { on := 8, ground := Ground.phase }, { on := 9, ground := Ground.phase }, { on := 10, ground := Ground.phase }], guard := none }) rfl (fun K hK => ?_) ?_
                      · go_simp
                        refine hK.out _ _ (HKEEP.out _ HAPP.out.fx HAPP.out.gr) (fun hHeld => ?_)
                        clear hK K
                        (try simp only [Act.put, List.setIfInBounds_toArray, List.set_cons_zero, List.set_cons_succ])
                        refine wpAnyH_done (by kernel_rfl) ?_ _
                        clear hHeld
                        go_wp2_with fail
                        go_roundw
                        case rel => exact ⟨k + 1, va2, vc2, _, by go_num, by omega, HAPP.out, HF9.out.set (by omega) _⟩
                        case measure => simp [intOf]; omega
                      exact AllReadyH.nil
                    exact AllReadyH.nil
                  exact AllReadyH.nil
                exact AllReadyH.nil
              exact AllReadyH.nil
            refine AllReadyH.cons (o := { dst := some 45, op := Op.buildSlice 23 0 #[], type := 23, pos := "ref.go:190", after := #[], guard := none }) rfl (fun K hK => ?_) ?_
            · go_simp
              refine hK.out _ _ (HKEEP.out _ (HL0.out.later (Gr.new wr.drew (.cells #[] 22))).fx (HL0.out.later (Gr.new wr.drew (.cells #[] 22))).gr) (fun hHeld => ?_)
              clear hK K
              (try simp only [Act.put, List.setIfInBounds_toArray, List.set_cons_zero, List.set_cons_succ])
              replace HLd := Lib.hid (HL0.out.later (show Gr wr.drew (wr.alloc (.cells #[] 22)).drew from Gr.new wr.drew (.cells #[] 22)))
              replace HFd := Lib.hid (HFd.out.gr (show Gr wr.drew (wr.alloc (.cells #[] 22)).drew from Gr.new wr.drew (.cells #[] 22)))
              clear o0 o1 o2
              obtain ⟨o0, o1, o2⟩ := HLd.out.out.p3
              refine wpAnyH_ready (rs := [1, 8]) (by kernel_rfl) (by simp) ?_
              refine AllReadyH.cons (o := { dst := some 44, op := Op.load 26 (Operand.tmp 43), type := 26, pos := "ref.go:190", after := #[{ on := 0, ground := Ground.data }], guard := none }) rfl (fun K hK => ?_) ?_
              · go_simp
                refine hK.out _ _ hHeld (fun hHeld => ?_)
                clear hK K
                (try simp only [Act.put, List.setIfInBounds_toArray, List.set_cons_zero, List.set_cons_succ])
                refine wpAnyH_ready (rs := [8]) (by kernel_rfl) (by simp) ?_
                refine AllReadyH.cons (o := { dst := some 51, op := Op.call { callee := Callee.builtin Builtin.append, args := #[Operand.tmp 45, Operand.tmp 50], argTypes := #[23, 23] }, type := 23, pos := "ref.go:190", after := #[{ on := 2, ground := Ground.data }, { on := 7, ground := Ground.data }], guard := none }) rfl (fun K hK => ?_) ?_
                · refine wp_app (.tmp 45) (.tmp 50) rfl rfl wr.drew.heap.size (.slice (some ⟨wr.heap.size, 0, none⟩) 0 0) [] rfl (own_empty32 wr.drew _ (Nat.le_refl _)) (.slice sx sn sc) (rw_ rA k) rfl (HPA.out.later HLd.out.gr) HRL.out (Nat.le_of_lt (by simp)) ?_
                  intro v1 w8 hown hgrow
                  rw [List.nil_append] at hown
                  obtain ⟨px, pc, hpv, -, -⟩ := hown.form
                  subst hpv
                  have HP8 := Lib.hid hown.hasP
                  have HTH := Lib.hid hown.thaw
                  have HF8 := Lib.hid (show Ap b (.slice vx k vc) (.slice px ((rw_ rA k)).length pc) (rw_ rA k) from ap_of_fresh (W0 := wr.drew) HL0.out.own HL0.out.fx.1 (hown.fresh rfl))
                  have hg8 : Gr wr.drew w8 := grown_own (Gr.new wr.drew (.cells #[] 22)) (own_empty32 wr.drew _ (Nat.le_refl _)) hgrow (Nat.le_refl _)
                  replace HFd := Lib.hid ((HFK.out.gr (show Gr wr wr.drew from Below.drew (Gr.refl wr))).gr hg8)
                  clear hown hgrow
                  refine hK.out _ _ (HKEEP.out _ (HL0.out.later hg8).fx (HL0.out.later hg8).gr) (fun hHeld => ?_)
                  clear hK K
                  (try simp only [Act.put, List.setIfInBounds_toArray, List.set_cons_zero, List.set_cons_succ])
                  replace HLd := Lib.hid (HL0.out.later hg8)
                  clear hg8
                  clear o0 o1 o2
                  obtain ⟨o0, o1, o2⟩ := HLd.out.out.p3
                  refine wpAnyH_ready (rs := [9]) (by kernel_rfl) (by simp) ?_
                  refine AllReadyH.cons (o := { dst := some 52, op := Op.buildSlice 26 1 #[(0, Operand.tmp 51)], type := 26, pos := "ref.go:190", after := #[{ on := 8, ground := Ground.data }], guard := none }) rfl (fun K hK => ?_) ?_
                  · go_simp
                    refine hK.out _ _ (HKEEP.out _ (HLd.out.later (Gr.new w8 (.cells #[.slice px ((rw_ rA k)).length pc] 23))).fx (HLd.out.later (Gr.new w8 (.cells #[.slice px ((rw_ rA k)).length pc] 23))).gr) (fun hHeld => ?_)
                    clear hK K
                    (try simp only [Act.put, List.setIfInBounds_toArray, List.set_cons_zero, List.set_cons_succ])
                    replace HLd := Lib.hid (HLd.out.later (Gr.new w8 (.cells #[.slice px ((rw_ rA k)).length pc] 23)))
                    replace HFd := Lib.hid (HFd.out.gr (Gr.new w8 (.cells #[.slice px ((rw_ rA k)).length pc] 23)))
                    clear o0 o1 o2
                    obtain ⟨o0, o1, o2⟩ := HLd.out.out.p3
                    refine wpAnyH_ready (rs := [10]) (by kernel_rfl) (by simp) ?_
                    refine AllReadyH.cons (o := { dst := some 53, op := Op.call { callee := Callee.builtin Builtin.append, args := #[Operand.tmp 44, Operand.tmp 52], argTypes := #[26, 26] }, type := 26, pos := "ref.go:190", after := #[{ on := 1, ground := Ground.data }, { on := 9, ground := Ground.data }, { on := 8, ground := Ground.chain }], guard := none }) rfl (fun K hK => ?_) ?_
                    · refine wp_appF (.tmp 44) (.tmp 52) rfl rfl b (.slice vx k vc) ls rfl HFd.out (.slice px ((rw_ rA k)).length pc) (rw_ rA k) w8.heap.size rfl (cell_new _ _ _) (HP8.out.later (Gr.new _ _)) HF8.out (HTH.out.gr (Gr.new _ _)) HLEN.out HLd.out.fx.1 ?_
                      intro v' wn hownF hgrow
                      have hown := hownF.ownR
                      obtain ⟨va2, vc2, hv2, -, -⟩ := hown.form
                      rw [HLL.out] at hv2
                      subst hv2
                      have HF9 := Lib.hid hownF
                      clear hownF
                      have HMID := Lib.hid (HLd.out.mid (by omega) hgrow)
                      have HAPP := Lib.hid (HLd.out.app (by omega) (by omega) hown hgrow (by first | rfl | exact HROW.out | (simp; done)))
                      have HFX := Lib.hid (HLd.out.fx.row hgrow (fun r e => (HLd.out.own.lt r e).1))
                      have HGN := Lib.hid (OwnR.grown HLd.out.own HLd.out.gr hgrow (by omega))
                      clear hown hgrow
                      refine hK.out _ _ (HKEEP.out _ HFX.out HGN.out) (fun hHeld => ?_)
                      clear hK K
                      (try simp only [Act.put, List.setIfInBounds_toArray, List.set_cons_zero, List.set_cons_succ])
                      obtain ⟨e0, e1, e2⟩ := HMID.out.p3
                      obtain ⟨f0, f1, f2⟩ := HMID.out.f3
                      refine wpAnyH_take (i := 11) (oi := { dst := some 54, op := Op.fieldAddr 28 (Operand.tmp 10) 2, type := 0, pos := "ref.go:190", after := #[{ on := 0, ground := Ground.phase }, { on := 1, ground := Ground.phase }, { on := 2, ground := Ground.phase }, { on := 3, ground := Ground.phase }, { on := 4, ground := Ground.phase }, { on := 5, ground := Ground.phase }, { on := 6, ground := Ground.phase }, { on := 7, ground := Ground.phase }, { on := 8, ground := Ground.phase }, { on := 9, ground := Ground.phase }, { on := 10, ground := Ground.phase }], guard := none }) (v := ?_) rfl (by kernel_rfl) (by kernel_rfl) (by kernel_rfl) (fun _ _ _ h => h) (_root_.Or.inl ⟨by rfl, ?_⟩) (by assumption) ?_
                      rotate_left
                      · intro w0 hSw; (try dsimp only at hSw); go_simp; try with_reducible rfl
                      (try simp only [Act.put, List.setIfInBounds_toArray, List.set_cons_zero, List.set_cons_succ])
                      refine wpAnyH_ready (rs := [12]) (by kernel_rfl) (by simp) ?_
                      refine AllReadyH.cons (o := { dst := none, op := Op.store 26 (Operand.tmp 54) (Operand.tmp 53), type := 0, pos := "ref.go:190", after := #[{ on := 11, ground := Ground.data }, { on := 10, ground := Ground.data }, { on := 10, ground := Ground.chain }, { on := 0, ground := Ground.phase }, { on := 1, ground := Ground.phase }, { on := 2, ground := Ground.phase }, { on := 3, ground := Ground.phase }, { on := 4, ground := Ground.phase }, { on := 5, ground := Ground.phase }, { on := 6, ground := Ground.phase }, { on := 7, ground := Ground.phase }, { on := 8, ground := Ground.phase }, { on := 9, ground := Ground.phase }, { on := 10, ground := Ground.phase }], guard := none }) rfl (fun K hK => ?_) ?_
                      · go_simp
                        refine hK.out _ _ (HKEEP.out _ HAPP.out.fx HAPP.out.gr) (fun hHeld => ?_)
                        clear hK K
                        (try simp only [Act.put, List.setIfInBounds_toArray, List.set_cons_zero, List.set_cons_succ])
                        refine wpAnyH_done (by kernel_rfl) ?_ _
                        clear hHeld
                        go_wp2_with fail
                        go_roundw
                        case rel => exact ⟨k + 1, va2, vc2, _, by go_num, by omega, HAPP.out, HF9.out.set (by omega) _⟩
                        case measure => simp [intOf]; omega
                      exact AllReadyH.nil
                    exact AllReadyH.nil
                  exact AllReadyH.nil
                exact AllReadyH.nil
              refine AllReadyH.cons (o := { dst := some 51, op := Op.call { callee := Callee.builtin Builtin.append, args := #[Operand.tmp 45, Operand.tmp 50], argTypes := #[23, 23] }, type := 23, pos := "ref.go:190", after := #[{ on := 2, ground := Ground.data }, { on := 7, ground := Ground.data }], guard := none }) rfl (fun K hK => ?_) ?_
              · refine wp_app (.tmp 45) (.tmp 50) rfl rfl wr.drew.heap.size (.slice (some ⟨wr.heap.size, 0, none⟩) 0 0) [] rfl (own_empty32 wr.drew _ (Nat.le_refl _)) (.slice sx sn sc) (rw_ rA k) rfl (HPA.out.later HLd.out.gr) HRL.out (Nat.le_of_lt (by simp)) ?_
                intro v1 w8 hown hgrow
                rw [List.nil_append] at hown
                obtain ⟨px, pc, hpv, -, -⟩ := hown.form
                subst hpv
                have HP8 := Lib.hid hown.hasP
                have HTH := Lib.hid hown.thaw
                have HF8 := Lib.hid (show Ap b (.slice vx k vc) (.slice px ((rw_ rA k)).length pc) (rw_ rA k) from ap_of_fresh (W0 := wr.drew) HL0.out.own HL0.out.fx.1 (hown.fresh rfl))
                have hg8 : Gr wr.drew w8 := grown_own (Gr.new wr.drew (.cells #[] 22)) (own_empty32 wr.drew _ (Nat.le_refl _)) hgrow (Nat.le_refl _)
                replace HFd := Lib.hid ((HFK.out.gr (show Gr wr wr.drew from Below.drew (Gr.refl wr))).gr hg8)
                clear hown hgrow
                refine hK.out _ _ (HKEEP.out _ (HL0.out.later hg8).fx (HL0.out.later hg8).gr) (fun hHeld => ?_)
                clear hK K
                (try simp only [Act.put, List.setIfInBounds_toArray, List.set_cons_zero, List.set_cons_succ])
                replace HLd := Lib.hid (HL0.out.later hg8)
                clear hg8
                clear o0 o1 o2
                obtain ⟨o0, o1, o2⟩ := HLd.out.out.p3
                refine wpAnyH_ready (rs := [1, 9]) (by kernel_rfl) (by simp) ?_
                refine AllReadyH.cons (o := { dst := some 44, op := Op.load 26 (Operand.tmp 43), type := 26, pos := "ref.go:190", after := #[{ on := 0, ground := Ground.data }], guard := none }) rfl (fun K hK => ?_) ?_
                · go_simp
                  refine hK.out _ _ hHeld (fun hHeld => ?_)
                  clear hK K
                  (try simp only [Act.put, List.setIfInBounds_toArray, List.set_cons_zero, List.set_cons_succ])
                  refine wpAnyH_ready (rs := [9]) (by kernel_rfl) (by simp) ?_
                  refine AllReadyH.cons (o := { dst := some 52, op := Op.buildSlice 26 1 #[(0, Operand.tmp 51)], type := 26, pos := "ref.go:190", after := #[{ on := 8, ground := Ground.data }], guard := none }) rfl (fun K hK => ?_) ?_
                  · go_simp
                    refine hK.out _ _ (HKEEP.out _ (HLd.out.later (Gr.new w8 (.cells #[.slice px ((rw_ rA k)).length pc] 23))).fx (HLd.out.later (Gr.new w8 (.cells #[.slice px ((rw_ rA k)).length pc] 23))).gr) (fun hHeld => ?_)
                    clear hK K
                    (try simp only [Act.put, List.setIfInBounds_toArray, List.set_cons_zero, List.set_cons_succ])
                    replace HLd := Lib.hid (HLd.out.later (Gr.new w8 (.cells #[.slice px ((rw_ rA k)).length pc] 23)))
                    replace HFd := Lib.hid (HFd.out.gr (Gr.new w8 (.cells #[.slice px ((rw_ rA k)).length pc] 23)))
                    clear o0 o1 o2
                    obtain ⟨o0, o1, o2⟩ := HLd.out.out.p3
                    refine wpAnyH_ready (rs := [10]) (by kernel_rfl) (by simp) ?_
                    refine AllReadyH.cons (o := { dst := some 53, op := Op.call { callee := Callee.builtin Builtin.append, args := #[Operand.tmp 44, Operand.tmp 52], argTypes := #[26, 26] }, type := 26, pos := "ref.go:190", after := #[{ on := 1, ground := Ground.data }, { on := 9, ground := Ground.data }, { on := 8, ground := Ground.chain }], guard := none }) rfl (fun K hK => ?_) ?_
                    · refine wp_appF (.tmp 44) (.tmp 52) rfl rfl b (.slice vx k vc) ls rfl HFd.out (.slice px ((rw_ rA k)).length pc) (rw_ rA k) w8.heap.size rfl (cell_new _ _ _) (HP8.out.later (Gr.new _ _)) HF8.out (HTH.out.gr (Gr.new _ _)) HLEN.out HLd.out.fx.1 ?_
                      intro v' wn hownF hgrow
                      have hown := hownF.ownR
                      obtain ⟨va2, vc2, hv2, -, -⟩ := hown.form
                      rw [HLL.out] at hv2
                      subst hv2
                      have HF9 := Lib.hid hownF
                      clear hownF
                      have HMID := Lib.hid (HLd.out.mid (by omega) hgrow)
                      have HAPP := Lib.hid (HLd.out.app (by omega) (by omega) hown hgrow (by first | rfl | exact HROW.out | (simp; done)))
                      have HFX := Lib.hid (HLd.out.fx.row hgrow (fun r e => (HLd.out.own.lt r e).1))
                      have HGN := Lib.hid (OwnR.grown HLd.out.own HLd.out.gr hgrow (by omega))
                      clear hown hgrow
                      refine hK.out _ _ (HKEEP.out _ HFX.out HGN.out) (fun hHeld => ?_)
                      clear hK K
                      (try simp only [Act.put, List.setIfInBounds_toArray, List.set_cons_zero, List.set_cons_succ])
                      obtain ⟨e0, e1, e2⟩ := HMID.out.p3
                      obtain ⟨f0, f1, f2⟩ := HMID.out.f3
                      refine wpAnyH_take (i := 11) (oi := { dst := some 54, op := Op.fieldAddr 28 (Operand.tmp 10) 2, type := 0, pos := "ref.go:190", after := #[{ on := 0, ground := Ground.phase }, { on := 1, ground := Ground.phase }, { on := 2, ground := Ground.phase }, { on := 3, ground := Ground.phase }, { on := 4, ground := Ground.phase }, { on := 5, ground := Ground.phase }, { on := 6, ground := Ground.phase }, { on := 7, ground := Ground.phase }, { on := 8, ground := Ground.phase }, { on := 9, ground := Ground.phase }, { on := 10, ground := Ground.phase }], guard := none }) (v := ?_) rfl (by kernel_rfl) (by kernel_rfl) (by kernel_rfl) (fun _ _ _ h => h) (_root_.Or.inl ⟨by rfl, ?_⟩) (by assumption) ?_
                      rotate_left
                      · intro w0 hSw; (try dsimp only at hSw); go_simp; try with_reducible rfl
                      (try simp only [Act.put, List.setIfInBounds_toArray, List.set_cons_zero, List.set_cons_succ])
                      refine wpAnyH_ready (rs := [12]) (by kernel_rfl) (by simp) ?_
                      refine AllReadyH.cons (o := { dst := none, op := Op.store 26 (Operand.tmp 54) (Operand.tmp 53), type := 0, pos := "ref.go:190", after := #[{ on := 11, ground := Ground.data }, { on := 10, ground := Ground.data }, { on := 10, ground := Ground.chain }, { on := 0, ground := Ground.phase }, { on := 1, ground := Ground.phase }, { on := 2, ground := Ground.phase }, { on := 3, ground := Ground.phase }, { on := 4, ground := Ground.phase }, { on := 5, ground := Ground.phase }, { on := 6, ground := Ground.phase }, { on := 7, ground := Ground.phase }, { on := 8, ground := Ground.phase }, { on := 9, ground := Ground.phase }, { on := 10, ground := Ground.phase }], guard := none }) rfl (fun K hK => ?_) ?_
                      · go_simp
                        refine hK.out _ _ (HKEEP.out _ HAPP.out.fx HAPP.out.gr) (fun hHeld => ?_)
                        clear hK K
                        (try simp only [Act.put, List.setIfInBounds_toArray, List.set_cons_zero, List.set_cons_succ])
                        refine wpAnyH_done (by kernel_rfl) ?_ _
                        clear hHeld
                        go_wp2_with fail
                        go_roundw
                        case rel => exact ⟨k + 1, va2, vc2, _, by go_num, by omega, HAPP.out, HF9.out.set (by omega) _⟩
                        case measure => simp [intOf]; omega
                      exact AllReadyH.nil
                    exact AllReadyH.nil
                  exact AllReadyH.nil
                refine AllReadyH.cons (o := { dst := some 52, op := Op.buildSlice 26 1 #[(0, Operand.tmp 51)], type := 26, pos := "ref.go:190", after := #[{ on := 8, ground := Ground.data }], guard := none }) rfl (fun K hK => ?_) ?_
                · go_simp
                  refine hK.out _ _ (HKEEP.out _ (HLd.out.later (Gr.new w8 (.cells #[.slice px ((rw_ rA k)).length pc] 23))).fx (HLd.out.later (Gr.new w8 (.cells #[.slice px ((rw_ rA k)).length pc] 23))).gr) (fun hHeld => ?_)
                  clear hK K
                  (try simp only [Act.put, List.setIfInBounds_toArray, List.set_cons_zero, List.set_cons_succ])
                  replace HLd := Lib.hid (HLd.out.later (Gr.new w8 (.cells #[.slice px ((rw_ rA k)).length pc] 23)))
                  replace HFd := Lib.hid (HFd.out.gr (Gr.new w8 (.cells #[.slice px ((rw_ rA k)).length pc] 23)))
                  clear o0 o1 o2
                  obtain ⟨o0, o1, o2⟩ := HLd.out.out.p3
                  refine wpAnyH_ready (rs := [1]) (by kernel_rfl) (by simp) ?_
                  refine AllReadyH.cons (o := { dst := some 44, op := Op.load 26 (Operand.tmp 43), type := 26, pos := "ref.go:190", after := #[{ on := 0, ground := Ground.data }], guard := none }) rfl (fun K hK => ?_) ?_
                  · go_simp
                    refine hK.out _ _ hHeld (fun hHeld => ?_)
                    clear hK K
                    (try simp only [Act.put, List.setIfInBounds_toArray, List.set_cons_zero, List.set_cons_succ])
                    refine wpAnyH_ready (rs := [10]) (by kernel_rfl) (by simp) ?_
                    refine AllReadyH.cons (o := { dst := some 53, op := Op.call { callee := Callee.builtin Builtin.append, args := #[Operand.tmp 44, Operand.tmp 52], argTypes := #[26, 26] }, type := 26, pos := "ref.go:190", after := #[{ on := 1, ground := Ground.data }, { on := 9, ground := Ground.data }, { on := 8, ground := Ground.chain }], guard := none }) rfl (fun K hK => ?_) ?_
                    · refine wp_appF (.tmp 44) (.tmp 52) rfl rfl b (.slice vx k vc) ls rfl HFd.out (.slice px ((rw_ rA k)).length pc) (rw_ rA k) w8.heap.size rfl (cell_new _ _ _) (HP8.out.later (Gr.new _ _)) HF8.out (HTH.out.gr (Gr.new _ _)) HLEN.out HLd.out.fx.1 ?_
                      intro v' wn hownF hgrow
                      have hown := hownF.ownR
                      obtain ⟨va2, vc2, hv2, -, -⟩ := hown.form
                      rw [HLL.out] at hv2
                      subst hv2
                      have HF9 := Lib.hid hownF
                      clear hownF
                      have HMID := Lib.hid (HLd.out.mid (by omega) hgrow)
                      have HAPP := Lib.hid (HLd.out.app (by omega) (by omega) hown hgrow (by first | rfl | exact HROW.out | (simp; done)))
                      have HFX := Lib.hid (HLd.out.fx.row hgrow (fun r e => (HLd.out.own.lt r e).1))
                      have HGN := Lib.hid (OwnR.grown HLd.out.own HLd.out.gr hgrow (by omega))
                      clear hown hgrow
                      refine hK.out _ _ (HKEEP.out _ HFX.out HGN.out) (fun hHeld => ?_)
                      clear hK K
                      (try simp only [Act.put, List.setIfInBounds_toArray, List.set_cons_zero, List.set_cons_succ])
                      obtain ⟨e0, e1, e2⟩ := HMID.out.p3
                      obtain ⟨f0, f1, f2⟩ := HMID.out.f3
                      refine wpAnyH_take (i := 11) (oi := { dst := some 54, op := Op.fieldAddr 28 (Operand.tmp 10) 2, type := 0, pos := "ref.go:190", after := #[{ on := 0, ground := Ground.phase }, { on := 1, ground := Ground.phase }, { on := 2, ground := Ground.phase }, { on := 3, ground := Ground.phase }, { on := 4, ground := Ground.phase }, { on := 5, ground := Ground.phase }, { on := 6, ground := Ground.phase }, { on := 7, ground := Ground.phase }, { on := 8, ground := Ground.phase }, { on := 9, ground := Ground.phase }, { on := 10, ground := Ground.phase }], guard := none }) (v := ?_) rfl (by kernel_rfl) (by kernel_rfl) (by kernel_rfl) (fun _ _ _ h => h) (_root_.Or.inl ⟨by rfl, ?_⟩) (by assumption) ?_
                      rotate_left
                      · intro w0 hSw; (try dsimp only at hSw); go_simp; try with_reducible rfl
                      (try simp only [Act.put, List.setIfInBounds_toArray, List.set_cons_zero, List.set_cons_succ])
                      refine wpAnyH_ready (rs := [12]) (by kernel_rfl) (by simp) ?_
                      refine AllReadyH.cons (o := { dst := none, op := Op.store 26 (Operand.tmp 54) (Operand.tmp 53), type := 0, pos := "ref.go:190", after := #[{ on := 11, ground := Ground.data }, { on := 10, ground := Ground.data }, { on := 10, ground := Ground.chain }, { on := 0, ground := Ground.phase }, { on := 1, ground := Ground.phase }, { on := 2, ground := Ground.phase }, { on := 3, ground := Ground.phase }, { on := 4, ground := Ground.phase }, { on := 5, ground := Ground.phase }, { on := 6, ground := Ground.phase }, { on := 7, ground := Ground.phase }, { on := 8, ground := Ground.phase }, { on := 9, ground := Ground.phase }, { on := 10, ground := Ground.phase }], guard := none }) rfl (fun K hK => ?_) ?_
                      · go_simp
                        refine hK.out _ _ (HKEEP.out _ HAPP.out.fx HAPP.out.gr) (fun hHeld => ?_)
                        clear hK K
                        (try simp only [Act.put, List.setIfInBounds_toArray, List.set_cons_zero, List.set_cons_succ])
                        refine wpAnyH_done (by kernel_rfl) ?_ _
                        clear hHeld
                        go_wp2_with fail
                        go_roundw
                        case rel => exact ⟨k + 1, va2, vc2, _, by go_num, by omega, HAPP.out, HF9.out.set (by omega) _⟩
                        case measure => simp [intOf]; omega
                      exact AllReadyH.nil
                    exact AllReadyH.nil
                  exact AllReadyH.nil
                exact AllReadyH.nil
              exact AllReadyH.nil
            exact AllReadyH.nil
        
          · obtain rfl : k = l2 := by omega
            have i1 : ¬ (k : Int) < (k : Int) := by omega
            have hix := rs_idx HOK.out (i := k) (show k < (Oj.mods ch S k true).length by rw [HML.out]; simp)
            rw [if_pos rfl, HNA.out] at hix
            have i2 : (lv : Int) < (nA : Int) := by omega
            have i3 : (0 : Int) ≤ (lv : Int) := by omega
            obtain ⟨gA, oA, sx, sn, sc, rfl, hcA, hs1, hpA⟩ := HasB.at_ HA.out (i := lv) (by rw [HNA.out]; exact hix.1)
            have HPA := Lib.hid hpA
            have HCA := Lib.hid hcA
            have HRL := Lib.hid (show ([] : List Int).length + (rw_ rA lv).length ≤ 1000000 by have := hix.2.2; simp; omega)
            have HROW := Lib.hid (show rw_ rA lv = (fun i _ => rw_ rA (if i = k then lv else i)) k (Op.cf (Oj.mods ch S k true) k) by show _ = rw_ rA (if k = k then lv else k); rw [if_pos rfl])
            clear hs1 hpA hcA hix
            go_wp2_with fail
            have HKEEP := Lib.hid (show ∀ wz, Fx b G W3 wz → Gr w wz → (wz.cell? ⟨w.heap.size + 1, 0, none⟩ = some (.int .i64 lv) ∧ wz.cell? ⟨w.heap.size + 1, 2, none⟩ = some (.slice (some ⟨gA, oA, none⟩) nA cA) ∧ wz.cell? ⟨gA, oA + lv, none⟩ = some (.slice sx sn sc)) from fun wz fx g => ⟨(fx.blk HBA.out (by omega) (by omega)).p3.1, (fx.blk HBA.out (by omega) (by omega)).p3.2.2, g.keeps HCA.out⟩)
            have HL0 := Lib.hid (HLK.out.later (show Gr wr wr.drew from Below.drew (Gr.refl wr)))
            have HLd := HL0
            have HFd := Lib.hid (HFK.out.gr (show Gr wr wr.drew from Below.drew (Gr.refl wr)))
            have HLEN := Lib.hid (show ls.length ≤ 1000000 by rw [HLK.out.len]; omega)
            have HLL := Lib.hid (show (ls ++ [(rw_ rA lv)]).length = k + 1 by rw [List.length_append, HLK.out.len]; rfl)
            obtain ⟨o0, o1, o2⟩ := HLd.out.out.p3
            refine wp_region_held_drew (S := fun wz => wz.cell? ⟨w.heap.size + 1, 0, none⟩ = some (.int .i64 lv) ∧ wz.cell? ⟨w.heap.size + 1, 2, none⟩ = some (.slice (some ⟨gA, oA, none⟩) nA cA) ∧ wz.cell? ⟨gA, oA + lv, none⟩ = some (.slice sx sn sc)) (by kernel_rfl) (HKEEP.out _ HLd.out.fx HLd.out.gr) (fun hHeld => ?_)
            show wpAnyH _ _ _ _ _ 14 #[false, false, false, false, false, false, false, false, false, false, false, false, false, false] _ _
            refine wpAnyH_take (i := 0) (oi := { dst := some 56, op := Op.fieldAddr 28 (Operand.tmp 10) 2, type := 0, pos := "ref.go:193", after := #[], guard := none }) (v := ?_) rfl (by kernel_rfl) (by kernel_rfl) (by kernel_rfl) (fun _ _ _ h => h) (_root_.Or.inl ⟨by rfl, ?_⟩) (by assumption) ?_
            rotate_left
            · intro w0 hSw; (try dsimp only at hSw); go_simp; try with_reducible rfl
            (try simp only [Act.put, List.setIfInBounds_toArray, List.set_cons_zero, List.set_cons_succ])
            refine wpAnyH_take (i := 3) (oi := { dst := some 59, op := Op.fieldAddr 28 (Operand.tmp 5) 2, type := 0, pos := "ref.go:193", after := #[], guard := none }) (v := ?_) rfl (by kernel_rfl) (by kernel_rfl) (by kernel_rfl) (fun _ _ _ h => h) (_root_.Or.inl ⟨by rfl, ?_⟩) (by assumption) ?_
            rotate_left
            · intro w0 hSw; (try dsimp only at hSw); go_simp; try with_reducible rfl
            (try simp only [Act.put, List.setIfInBounds_toArray, List.set_cons_zero, List.set_cons_succ])
            refine wpAnyH_take (i := 4) (oi := { dst := some 60, op := Op.load 26 (Operand.tmp 59), type := 26, pos := "ref.go:193", after := #[{ on := 3, ground := Ground.data }], guard := none }) (v := ?_) rfl (by kernel_rfl) (by kernel_rfl) (by kernel_rfl) (fun _ _ _ h => h) (_root_.Or.inl ⟨by rfl, ?_⟩) (by assumption) ?_
            rotate_left
            · intro w0 hSw; (try dsimp only at hSw); go_simp; try with_reducible rfl
            (try simp only [Act.put, List.setIfInBounds_toArray, List.set_cons_zero, List.set_cons_succ])
            refine wpAnyH_take (i := 5) (oi := { dst := some 61, op := Op.fieldAddr 28 (Operand.tmp 5) 0, type := 0, pos := "ref.go:193", after := #[], guard := none }) (v := ?_) rfl (by kernel_rfl) (by kernel_rfl) (by kernel_rfl) (fun _ _ _ h => h) (_root_.Or.inl ⟨by rfl, ?_⟩) (by assumption) ?_
            rotate_left
            · intro w0 hSw; (try dsimp only at hSw); go_simp; try with_reducible rfl
            (try simp only [Act.put, List.setIfInBounds_toArray, List.set_cons_zero, List.set_cons_succ])
            refine wpAnyH_take (i := 6) (oi := { dst := some 62, op := Op.load 3 (Operand.tmp 61), type := 3, pos := "ref.go:193", after := #[{ on := 5, ground := Ground.data }], guard := none }) (v := ?_) rfl (by kernel_rfl) (by kernel_rfl) (by kernel_rfl) (fun _ _ _ h => h) (_root_.Or.inl ⟨by rfl, ?_⟩) (by assumption) ?_
            rotate_left
            · intro w0 hSw; (try dsimp only at hSw); go_simp; try with_reducible rfl
            (try simp only [Act.put, List.setIfInBounds_toArray, List.set_cons_zero, List.set_cons_succ])
            refine wpAnyH_take (i := 7) (oi := { dst := some 63, op := Op.indexAddr 26 (Operand.tmp 60) (Operand.tmp 62), type := 0, pos := "ref.go:193", after := #[{ on := 4, ground := Ground.data }, { on := 6, ground := Ground.data }], guard := none }) (v := ?_) rfl (by kernel_rfl) (by kernel_rfl) (by kernel_rfl) (fun _ _ _ h => h) (_root_.Or.inl ⟨by rfl, ?_⟩) (by assumption) ?_
            rotate_left
            · intro w0 hSw; (try dsimp only at hSw); go_simp; try with_reducible rfl
            (try simp only [Act.put, List.setIfInBounds_toArray, List.set_cons_zero, List.set_cons_succ])
            refine wpAnyH_take (i := 8) (oi := { dst := some 64, op := Op.load 23 (Operand.tmp 63), type := 23, pos := "ref.go:193", after := #[{ on := 7, ground := Ground.data }], guard := none }) (v := ?_) rfl (by kernel_rfl) (by kernel_rfl) (by kernel_rfl) (fun _ _ _ h => h) (_root_.Or.inl ⟨by rfl, ?_⟩) (by assumption) ?_
            rotate_left
            · intro w0 hSw; (try dsimp only at hSw); go_simp; try with_reducible rfl
            (try simp only [Act.put, List.setIfInBounds_toArray, List.set_cons_zero, List.set_cons_succ])
            refine wpAnyH_ready (rs := [1, 2]) (by kernel_rfl) (by simp) ?_
            refine AllReadyH.cons (o := { dst := some 57, op := Op.load 26 (Operand.tmp 56), type := 26, pos := "ref.go:193", after := #[{ on := 0, ground := Ground.data }], guard := none }) rfl (fun K hK => ?_) ?_
            · go_simp
              refine hK.out _ _ hHeld (fun hHeld => ?_)
              clear hK K
              (try simp only [Act.put, List.setIfInBounds_toArray, List.set_cons_zero, List.set_cons_succ])
              refine wpAnyH_ready (rs := [2]) (by kernel_rfl) (by simp) ?_
              refine AllReadyH.cons (o := { dst := some 58, op := Op.buildSlice 23 0 #[], type := 23, pos := "ref.go:193", after := #[], guard := none }) rfl (fun K hK => ?_) ?_
              · go_simp
                refine hK.out _ _ (HKEEP.out _ (HL0.out.later (Gr.new wr.drew (.cells #[] 22))).fx (HL0.out.later (Gr.new wr.drew (.cells #[] 22))).gr) (fun hHeld => ?_)
                clear hK K
                (try simp only [Act.put, List.setIfInBounds_toArray, List.set_cons_zero, List.set_cons_succ])
                replace HLd := Lib.hid (HL0.out.later (show Gr wr.drew (wr.alloc (.cells #[] 22)).drew from Gr.new wr.drew (.cells #[] 22)))
                replace HFd := Lib.hid (HFd.out.gr (show Gr wr.drew (wr.alloc (.cells #[] 22)).drew from Gr.new wr.drew (.cells #[] 22)))
                clear o0 o1 o2
                obtain ⟨o0, o1, o2⟩ := HLd.out.out.p3
                refine wpAnyH_ready (rs := [9]) (by kernel_rfl) (by simp) ?_
                refine AllReadyH.cons (o := { dst := some 65, op := Op.call { callee := Callee.builtin Builtin.append, args := #[Operand.tmp 58, Operand.tmp 64], argTypes := #[23, 23] }, type := 23, pos := "ref.go:193", after := #[{ on := 2, ground := Ground.data }, { on := 8, ground := Ground.data }], guard := none }) rfl (fun K hK => ?_) ?_
                · refine wp_app (.tmp 58) (.tmp 64) rfl rfl wr.drew.heap.size (.slice (some ⟨wr.heap.size, 0, none⟩) 0 0) [] rfl (own_empty32 wr.drew _ (Nat.le_refl _)) (.slice sx sn sc) (rw_ rA lv) rfl (HPA.out.later HLd.out.gr) HRL.out (Nat.le_of_lt (by simp)) ?_
                  intro v1 w8 hown hgrow
                  rw [List.nil_append] at hown
                  obtain ⟨px, pc, hpv, -, -⟩ := hown.form
                  subst hpv
                  have HP8 := Lib.hid hown.hasP
                  have HTH := Lib.hid hown.thaw
                  have HF8 := Lib.hid (show Ap b (.slice vx k vc) (.slice px ((rw_ rA lv)).length pc) (rw_ rA lv) from ap_of_fresh (W0 := wr.drew) HL0.out.own HL0.out.fx.1 (hown.fresh rfl))
                  have hg8 : Gr wr.drew w8 := grown_own (Gr.new wr.drew (.cells #[] 22)) (own_empty32 wr.drew _ (Nat.le_refl _)) hgrow (Nat.le_refl _)
                  replace HFd := Lib.hid ((HFK.out.gr (show Gr wr wr.drew from Below.drew (Gr.refl wr))).gr hg8)
                  clear hown hgrow
                  refine hK.out _ _ (HKEEP.out _ (HL0.out.later hg8).fx (HL0.out.later hg8).gr) (fun hHeld => ?_)
                  clear hK K
                  (try simp only [Act.put, List.setIfInBounds_toArray, List.set_cons_zero, List.set_cons_succ])
                  replace HLd := Lib.hid (HL0.out.later hg8)
                  clear hg8
                  clear o0 o1 o2
                  obtain ⟨o0, o1, o2⟩ := HLd.out.out.p3
                  refine wpAnyH_ready (rs := [10]) (by kernel_rfl) (by simp) ?_
                  refine AllReadyH.cons (o := { dst := some 66, op := Op.buildSlice 26 1 #[(0, Operand.tmp 65)], type := 26, pos := "ref.go:193", after := #[{ on := 9, ground := Ground.data }], guard := none }) rfl (fun K hK => ?_) ?_
                  · go_simp
                    refine hK.out _ _ (HKEEP.out _ (HLd.out.later (Gr.new w8 (.cells #[.slice px ((rw_ rA lv)).length pc] 23))).fx (HLd.out.later (Gr.new w8 (.cells #[.slice px ((rw_ rA lv)).length pc] 23))).gr) (fun hHeld => ?_)
                    clear hK K
                    (try simp only [Act.put, List.setIfInBounds_toArray, List.set_cons_zero, List.set_cons_succ])
                    replace HLd := Lib.hid (HLd.out.later (Gr.new w8 (.cells #[.slice px ((rw_ rA lv)).length pc] 23)))
                    replace HFd := Lib.hid (HFd.out.gr (Gr.new w8 (.cells #[.slice px ((rw_ rA lv)).length pc] 23)))
                    clear o0 o1 o2
                    obtain ⟨o0, o1, o2⟩ := HLd.out.out.p3
                    refine wpAnyH_ready (rs := [11]) (by kernel_rfl) (by simp) ?_
                    refine AllReadyH.cons (o := { dst := some 67, op := Op.call { callee := Callee.builtin Builtin.append, args := #[Operand.tmp 57, Operand.tmp 66], argTypes := #[26, 26] }, type := 26, pos := "ref.go:193", after := #[{ on := 1, ground := Ground.data }, { on := 10, ground := Ground.data }, { on := 9, ground := Ground.chain }], guard := none }) rfl (fun K hK => ?_) ?_
                    · refine wp_appF (.tmp 57) (.tmp 66) rfl rfl b (.slice vx k vc) ls rfl HFd.out (.slice px ((rw_ rA lv)).length pc) (rw_ rA lv) w8.heap.size rfl (cell_new _ _ _) (HP8.out.later (Gr.new _ _)) HF8.out (HTH.out.gr (Gr.new _ _)) HLEN.out HLd.out.fx.1 ?_
                      intro v' wn hownF hgrow
                      have hown := hownF.ownR
                      obtain ⟨va2, vc2, hv2, -, -⟩ := hown.form
                      rw [HLL.out] at hv2
                      subst hv2
                      have HF9 := Lib.hid hownF
                      clear hownF
                      have HMID := Lib.hid (HLd.out.mid (by omega) hgrow)
                      have HAPP := Lib.hid (HLd.out.app (by omega) (by omega) hown hgrow (by first | rfl | exact HROW.out | (simp; done)))
                      have HFX := Lib.hid (HLd.out.fx.row hgrow (fun r e => (HLd.out.own.lt r e).1))
                      have HGN := Lib.hid (OwnR.grown HLd.out.own HLd.out.gr hgrow (by omega))
                      clear hown hgrow
                      refine hK.out _ _ (HKEEP.out _ HFX.out HGN.out) (fun hHeld => ?_)
                      clear hK K
                      (try simp only [Act.put, List.setIfInBounds_toArray, List.set_cons_zero, List.set_cons_succ])
                      obtain ⟨e0, e1, e2⟩ := HMID.out.p3
                      obtain ⟨f0, f1, f2⟩ := HMID.out.f3
                      refine wpAnyH_take (i := 12) (oi := { dst := some 68, op := Op.fieldAddr 28 (Operand.tmp 10) 2, type := 0, pos := "ref.go:193", after := #[{ on := 0, ground := Ground.phase }, { on := 1, ground := Ground.phase }, { on := 2, ground := Ground.phase }, { on := 3, ground := Ground.phase }, { on := 4, ground := Ground.phase }, { on := 5, ground := Ground.phase }, { on := 6, ground := Ground.phase }, { on := 7, ground := Ground.phase }, { on := 8, ground := Ground.phase }, { on := 9, ground := Ground.phase }, { on := 10, ground := Ground.phase }, { on := 11, ground := Ground.phase }], guard := none }) (v := ?_) rfl (by kernel_rfl) (by kernel_rfl) (by kernel_rfl) (fun _ _ _ h => h) (_root_.Or.inl ⟨by rfl, ?_⟩) (by assumption) ?_
                      rotate_left
                      · intro w0 hSw; (try dsimp only at hSw); go_simp; try with_reducible rfl
                      (try simp only [Act.put, List.setIfInBounds_toArray, List.set_cons_zero, List.set_cons_succ])
                      refine wpAnyH_ready (rs := [13]) (by kernel_rfl) (by simp) ?_
                      refine AllReadyH.cons (o := { dst := none, op := Op.store 26 (Operand.tmp 68) (Operand.tmp 67), type := 0, pos := "ref.go:193", after := #[{ on := 12, ground := Ground.data }, { on := 11, ground := Ground.data }, { on := 11, ground := Ground.chain }, { on := 0, ground := Ground.phase }, { on := 1, ground := Ground.phase }, { on := 2, ground := Ground.phase }, { on := 3, ground := Ground.phase }, { on := 4, ground := Ground.phase }, { on := 5, ground := Ground.phase }, { on := 6, ground := Ground.phase }, { on := 7, ground := Ground.phase }, { on := 8, ground := Ground.phase }, { on := 9, ground := Ground.phase }, { on := 10, ground := Ground.phase }, { on := 11, ground := Ground.phase }], guard := none }) rfl (fun K hK => ?_) ?_
                      · go_simp
                        refine hK.out _ _ (HKEEP.out _ HAPP.out.fx HAPP.out.gr) (fun hHeld => ?_)
                        clear hK K
                        (try simp only [Act.put, List.setIfInBounds_toArray, List.set_cons_zero, List.set_cons_succ])
                        refine wpAnyH_done (by kernel_rfl) ?_ _
                        clear hHeld
                        clear e0 e1 e2 f0 f1 f2
                        replace HLK := HAPP
                        have HD := Lib.hid (HLK.out.done (by rw [HML.out]; simp))
                        obtain ⟨o0, o1, o2⟩ := HLK.out.out.p3
                        have HRR := Lib.hid (HLK.out.fx.blk HRB.out (by omega) (by omega))
                        obtain ⟨r0, r1, r2⟩ := HRR.out.p3
                        obtain ⟨f0, f1, f2⟩ := HRR.out.f3
                        go_wp2_with fail
                        have hr := ((HRR.out.set 0 (.int .i64 k)).set 1 (.bool true)).set 2 (.slice va2 (k + 1) vc2)
                        obtain ⟨e0, e1, e2⟩ := (show Blk _ _ _ #[.int .i64 k, .bool true, .slice va2 (k + 1) vc2] from hr).p3
                        refine bodyPost_ret (v := .tuple #[.agg #[.int .i64 k, .bool true, .slice va2 (k + 1) vc2], .int .i64 0]) (by simp only [Nat.add_assoc, Nat.reduceAdd]; simp [results, Tryz.results26, go_sem, e0, e1, e2]) rfl ?_
                        have h := put3b HLK.out.own.hasB HLK.out.gr (k := w.heap.size + 2) (by omega) (by omega) (.int .i64 k) (.bool true) (.slice va2 (k + 1) vc2)
                        rw [HD.out, HLS.out] at h
                        exact ⟨k, true, _, _, by rw [HE0.out], .inl ⟨HE0.out, rfl, rfl, rfl⟩, h.1, h.2⟩
                      exact AllReadyH.nil
                    exact AllReadyH.nil
                  exact AllReadyH.nil
                exact AllReadyH.nil
              exact AllReadyH.nil
            refine AllReadyH.cons (o := { dst := some 58, op := Op.buildSlice 23 0 #[], type := 23, pos := "ref.go:193", after := #[], guard := none }) rfl (fun K hK => ?_) ?_
            · go_simp
              refine hK.out _ _ (HKEEP.out _ (HL0.out.later (Gr.new wr.drew (.cells #[] 22))).fx (HL0.out.later (Gr.new wr.drew (.cells #[] 22))).gr) (fun hHeld => ?_)
              clear hK K
              (try simp only [Act.put, List.setIfInBounds_toArray, List.set_cons_zero, List.set_cons_succ])
              replace HLd := Lib.hid (HL0.out.later (show Gr wr.drew (wr.alloc (.cells #[] 22)).drew from Gr.new wr.drew (.cells #[] 22)))
              replace HFd := Lib.hid (HFd.out.gr (show Gr wr.drew (wr.alloc (.cells #[] 22)).drew from Gr.new wr.drew (.cells #[] 22)))
              clear o0 o1 o2
              obtain ⟨o0, o1, o2⟩ := HLd.out.out.p3
              refine wpAnyH_ready (rs := [1, 9]) (by kernel_rfl) (by simp) ?_
              refine AllReadyH.cons (o := { dst := some 57, op := Op.load 26 (Operand.tmp 56), type := 26, pos := "ref.go:193", after := #[{ on := 0, ground := Ground.data }], guard := none }) rfl (fun K hK => ?_) ?_
              · go_simp
                refine hK.out _ _ hHeld (fun hHeld => ?_)
                clear hK K
                (try simp only [Act.put, List.setIfInBounds_toArray, List.set_cons_zero, List.set_cons_succ])
                refine wpAnyH_ready (rs := [9]) (by kernel_rfl) (by simp) ?_
                refine AllReadyH.cons (o := { dst := some 65, op := Op.call { callee := Callee.builtin Builtin.append, args := #[Operand.tmp 58, Operand.tmp 64], argTypes := #[23, 23] }, type := 23, pos := "ref.go:193", after := #[{ on := 2, ground := Ground.data }, { on := 8, ground := Ground.data }], guard := none }) rfl (fun K hK => ?_) ?_
                · refine wp_app (.tmp 58) (.tmp 64) rfl rfl wr.drew.heap.size (.slice (some ⟨wr.heap.size, 0, none⟩) 0 0) [] rfl (own_empty32 wr.drew _ (Nat.le_refl _)) (.slice sx sn sc) (rw_ rA lv) rfl (HPA.out.later HLd.out.gr) HRL.out (Nat.le_of_lt (by simp)) ?_
                  intro v1 w8 hown hgrow
                  rw [List.nil_append] at hown
                  obtain ⟨px, pc, hpv, -, -⟩ := hown.form
                  subst hpv
                  have HP8 := Lib.hid hown.hasP
                  have HTH := Lib.hid hown.thaw
                  have HF8 := Lib.hid (show Ap b (.slice vx k vc) (.slice px ((rw_ rA lv)).length pc) (rw_ rA lv) from ap_of_fresh (W0 := wr.drew) HL0.out.own HL0.out.fx.1 (hown.fresh rfl))
                  have hg8 : Gr wr.drew w8 := grown_own (Gr.new wr.drew (.cells #[] 22)) (own_empty32 wr.drew _ (Nat.le_refl _)) hgrow (Nat.le_refl _)
                  replace HFd := Lib.hid ((HFK.out.gr (show Gr wr wr.drew from Below.drew (Gr.refl wr))).gr hg8)
                  clear hown hgrow
                  refine hK.out _ _ (HKEEP.out _ (HL0.out.later hg8).fx (HL0.out.later hg8).gr) (fun hHeld => ?_)
                  clear hK K
                  (try simp only [Act.put, List.setIfInBounds_toArray, List.set_cons_zero, List.set_cons_succ])
                  replace HLd := Lib.hid (HL0.out.later hg8)
                  clear hg8
                  clear o0 o1 o2
                  obtain ⟨o0, o1, o2⟩ := HLd.out.out.p3
                  refine wpAnyH_ready (rs := [10]) (by kernel_rfl) (by simp) ?_
                  refine AllReadyH.cons (o := { dst := some 66, op := Op.buildSlice 26 1 #[(0, Operand.tmp 65)], type := 26, pos := "ref.go:193", after := #[{ on := 9, ground := Ground.data }], guard := none }) rfl (fun K hK => ?_) ?_
                  · go_simp
                    refine hK.out _ _ (HKEEP.out _ (HLd.out.later (Gr.new w8 (.cells #[.slice px ((rw_ rA lv)).length pc] 23))).fx (HLd.out.later (Gr.new w8 (.cells #[.slice px ((rw_ rA lv)).length pc] 23))).gr) (fun hHeld => ?_)
                    clear hK K
                    (try simp only [Act.put, List.setIfInBounds_toArray, List.set_cons_zero, List.set_cons_succ])
                    replace HLd := Lib.hid (HLd.out.later (Gr.new w8 (.cells #[.slice px ((rw_ rA lv)).length pc] 23)))
                    replace HFd := Lib.hid (HFd.out.gr (Gr.new w8 (.cells #[.slice px ((rw_ rA lv)).length pc] 23)))
                    clear o0 o1 o2
                    obtain ⟨o0, o1, o2⟩ := HLd.out.out.p3
                    refine wpAnyH_ready (rs := [11]) (by kernel_rfl) (by simp) ?_
                    refine AllReadyH.cons (o := { dst := some 67, op := Op.call { callee := Callee.builtin Builtin.append, args := #[Operand.tmp 57, Operand.tmp 66], argTypes := #[26, 26] }, type := 26, pos := "ref.go:193", after := #[{ on := 1, ground := Ground.data }, { on := 10, ground := Ground.data }, { on := 9, ground := Ground.chain }], guard := none }) rfl (fun K hK => ?_) ?_
                    · refine wp_appF (.tmp 57) (.tmp 66) rfl rfl b (.slice vx k vc) ls rfl HFd.out (.slice px ((rw_ rA lv)).length pc) (rw_ rA lv) w8.heap.size rfl (cell_new _ _ _) (HP8.out.later (Gr.new _ _)) HF8.out (HTH.out.gr (Gr.new _ _)) HLEN.out HLd.out.fx.1 ?_
                      intro v' wn hownF hgrow
                      have hown := hownF.ownR
                      obtain ⟨va2, vc2, hv2, -, -⟩ := hown.form
                      rw [HLL.out] at hv2
                      subst hv2
                      have HF9 := Lib.hid hownF
                      clear hownF
                      have HMID := Lib.hid (HLd.out.mid (by omega) hgrow)
                      have HAPP := Lib.hid (HLd.out.app (by omega) (by omega) hown hgrow (by first | rfl | exact HROW.out | (simp; done)))
                      have HFX := Lib.hid (HLd.out.fx.row hgrow (fun r e => (HLd.out.own.lt r e).1))
                      have HGN := Lib.hid (OwnR.grown HLd.out.own HLd.out.gr hgrow (by omega))
                      clear hown hgrow
                      refine hK.out _ _ (HKEEP.out _ HFX.out HGN.out) (fun hHeld => ?_)
                      clear hK K
                      (try simp only [Act.put, List.setIfInBounds_toArray, List.set_cons_zero, List.set_cons_succ])
                      obtain ⟨e0, e1, e2⟩ := HMID.out.p3
                      obtain ⟨f0, f1, f2⟩ := HMID.out.f3
                      refine wpAnyH_take (i := 12) (oi := { dst := some 68, op := Op.fieldAddr 28 (Operand.tmp 10) 2, type := 0, pos := "ref.go:193", after := #[{ on := 0, ground := Ground.phase }, { on := 1, ground := Ground.phase }, { on := 2, ground := Ground.phase }, { on := 3, ground := Ground.phase }, { on := 4, ground := Ground.phase }, { on := 5, ground := Ground.phase }, { on := 6, ground := Ground.phase }, { on := 7, ground := Ground.phase }, { on := 8, ground := Ground.phase }, { on := 9, ground := Ground.phase }, { on := 10, ground := Ground.phase }, { on := 11, ground := Ground.phase }], guard := none }) (v := ?_) rfl (by kernel_rfl) (by kernel_rfl) (by kernel_rfl) (fun _ _ _ h => h) (_root_.Or.inl ⟨by rfl, ?_⟩) (by assumption) ?_
                      rotate_left
                      · intro w0 hSw; (try dsimp only at hSw); go_simp; try with_reducible rfl
                      (try simp only [Act.put, List.setIfInBounds_toArray, List.set_cons_zero, List.set_cons_succ])
                      refine wpAnyH_ready (rs := [13]) (by kernel_rfl) (by simp) ?_
                      refine AllReadyH.cons (o := { dst := none, op := Op.store 26 (Operand.tmp 68) (Operand.tmp 67), type := 0, pos := "ref.go:193", after := #[{ on := 12, ground := Ground.data }, { on := 11, ground := Ground.data }, { on := 11, ground := Ground.chain }, { on := 0, ground := Ground.phase }, { on := 1, ground := Ground.phase }, { on := 2, ground := Ground.phase }, { on := 3, ground := Ground.phase }, { on := 4, ground := Ground.phase }, { on := 5, ground := Ground.phase }, { on := 6, ground := Ground.phase }, { on := 7, ground := Ground.phase }, { on := 8, ground := Ground.phase }, { on := 9, ground := Ground.phase }, { on := 10, ground := Ground.phase }, { on := 11, ground := Ground.phase }], guard := none }) rfl (fun K hK => ?_) ?_
                      · go_simp
                        refine hK.out _ _ (HKEEP.out _ HAPP.out.fx HAPP.out.gr) (fun hHeld => ?_)
                        clear hK K
                        (try simp only [Act.put, List.setIfInBounds_toArray, List.set_cons_zero, List.set_cons_succ])
                        refine wpAnyH_done (by kernel_rfl) ?_ _
                        clear hHeld
                        clear e0 e1 e2 f0 f1 f2
                        replace HLK := HAPP
                        have HD := Lib.hid (HLK.out.done (by rw [HML.out]; simp))
                        obtain ⟨o0, o1, o2⟩ := HLK.out.out.p3
                        have HRR := Lib.hid (HLK.out.fx.blk HRB.out (by omega) (by omega))
                        obtain ⟨r0, r1, r2⟩ := HRR.out.p3
                        obtain ⟨f0, f1, f2⟩ := HRR.out.f3
                        go_wp2_with fail
                        have hr := ((HRR.out.set 0 (.int .i64 k)).set 1 (.bool true)).set 2 (.slice va2 (k + 1) vc2)
                        obtain ⟨e0, e1, e2⟩ := (show Blk _ _ _ #[.int .i64 k, .bool true, .slice va2 (k + 1) vc2] from hr).p3
                        refine bodyPost_ret (v := .tuple #[.agg #[.int .i64 k, .bool true, .slice va2 (k + 1) vc2], .int .i64 0]) (by simp only [Nat.add_assoc, Nat.reduceAdd]; simp [results, Tryz.results26, go_sem, e0, e1, e2]) rfl ?_
                        have h := put3b HLK.out.own.hasB HLK.out.gr (k := w.heap.size + 2) (by omega) (by omega) (.int .i64 k) (.bool true) (.slice va2 (k + 1) vc2)
                        rw [HD.out, HLS.out] at h
                        exact ⟨k, true, _, _, by rw [HE0.out], .inl ⟨HE0.out, rfl, rfl, rfl⟩, h.1, h.2⟩
                      exact AllReadyH.nil
                    exact AllReadyH.nil
                  exact AllReadyH.nil
                exact AllReadyH.nil
              refine AllReadyH.cons (o := { dst := some 65, op := Op.call { callee := Callee.builtin Builtin.append, args := #[Operand.tmp 58, Operand.tmp 64], argTypes := #[23, 23] }, type := 23, pos := "ref.go:193", after := #[{ on := 2, ground := Ground.data }, { on := 8, ground := Ground.data }], guard := none }) rfl (fun K hK => ?_) ?_
              · refine wp_app (.tmp 58) (.tmp 64) rfl rfl wr.drew.heap.size (.slice (some ⟨wr.heap.size, 0, none⟩) 0 0) [] rfl (own_empty32 wr.drew _ (Nat.le_refl _)) (.slice sx sn sc) (rw_ rA lv) rfl (HPA.out.later HLd.out.gr) HRL.out (Nat.le_of_lt (by simp)) ?_
                intro v1 w8 hown hgrow
                rw [List.nil_append] at hown
                obtain ⟨px, pc, hpv, -, -⟩ := hown.form
                subst hpv
                have HP8 := Lib.hid hown.hasP
                have HTH := Lib.hid hown.thaw
                have HF8 := Lib.hid (show Ap b (.slice vx k vc) (.slice px ((rw_ rA lv)).length pc) (rw_ rA lv) from ap_of_fresh (W0 := wr.drew) HL0.out.own HL0.out.fx.1 (hown.fresh rfl))
                have hg8 : Gr wr.drew w8 := grown_own (Gr.new wr.drew (.cells #[] 22)) (own_empty32 wr.drew _ (Nat.le_refl _)) hgrow (Nat.le_refl _)
                replace HFd := Lib.hid ((HFK.out.gr (show Gr wr wr.drew from Below.drew (Gr.refl wr))).gr hg8)
                clear hown hgrow
                refine hK.out _ _ (HKEEP.out _ (HL0.out.later hg8).fx (HL0.out.later hg8).gr) (fun hHeld => ?_)
                clear hK K
                (try simp only [Act.put, List.setIfInBounds_toArray, List.set_cons_zero, List.set_cons_succ])
                replace HLd := Lib.hid (HL0.out.later hg8)
                clear hg8
                clear o0 o1 o2
                obtain ⟨o0, o1, o2⟩ := HLd.out.out.p3
                refine wpAnyH_ready (rs := [1, 10]) (by kernel_rfl) (by simp) ?_
                refine AllReadyH.cons (o := { dst := some 57, op := Op.load 26 (Operand.tmp 56), type := 26, pos := "ref.go:193", after := #[{ on := 0, ground := Ground.data }], guard := none }) rfl (fun K hK => ?_) ?_
                · go_simp
                  refine hK.out _ _ hHeld (fun hHeld => ?_)
                  clear hK K
                  (try simp only [Act.put, List.setIfInBounds_toArray, List.set_cons_zero, List.set_cons_succ])
                  refine wpAnyH_ready (rs := [10]) (by kernel_rfl) (by simp) ?_
                  refine AllReadyH.cons (o := { dst := some 66, op := Op.buildSlice 26 1 #[(0, Operand.tmp 65)], type := 26, pos := "ref.go:193", after := #[{ on := 9, ground := Ground.data }], guard := none }) rfl (fun K hK => ?_) ?_
                  · go_simp
                    refine hK.out _ _ (HKEEP.out _ (HLd.out.later (Gr.new w8 (.cells #[.slice px ((rw_ rA lv)).length pc] 23))).fx (HLd.out.later (Gr.new w8 (.cells #[.slice px ((rw_ rA lv)).length pc] 23))).gr) (fun hHeld => ?_)
                    clear hK K
                    (try simp only [Act.put, List.setIfInBounds_toArray, List.set_cons_zero, List.set_cons_succ])
                    replace HLd := Lib.hid (HLd.out.later (Gr.new w8 (.cells #[.slice px ((rw_ rA lv)).length pc] 23)))
                    replace HFd := Lib.hid (HFd.out.gr (Gr.new w8 (.cells #[.slice px ((rw_ rA lv)).length pc] 23)))
                    clear o0 o1 o2
                    obtain ⟨o0, o1, o2⟩ := HLd.out.out.p3
                    refine wpAnyH_ready (rs := [11]) (by kernel_rfl) (by simp) ?_
                    refine AllReadyH.cons (o := { dst := some 67, op := Op.call { callee := Callee.builtin Builtin.append, args := #[Operand.tmp 57, Operand.tmp 66], argTypes := #[26, 26] }, type := 26, pos := "ref.go:193", after := #[{ on := 1, ground := Ground.data }, { on := 10, ground := Ground.data }, { on := 9, ground := Ground.chain }], guard := none }) rfl (fun K hK => ?_) ?_
                    · refine wp_appF (.tmp 57) (.tmp 66) rfl rfl b (.slice vx k vc) ls rfl HFd.out (.slice px ((rw_ rA lv)).length pc) (rw_ rA lv) w8.heap.size rfl (cell_new _ _ _) (HP8.out.later (Gr.new _ _)) HF8.out (HTH.out.gr (Gr.new _ _)) HLEN.out HLd.out.fx.1 ?_
                      intro v' wn hownF hgrow
                      have hown := hownF.ownR
                      obtain ⟨va2, vc2, hv2, -, -⟩ := hown.form
                      rw [HLL.out] at hv2
                      subst hv2
                      have HF9 := Lib.hid hownF
                      clear hownF
                      have HMID := Lib.hid (HLd.out.mid (by omega) hgrow)
                      have HAPP := Lib.hid (HLd.out.app (by omega) (by omega) hown hgrow (by first | rfl | exact HROW.out | (simp; done)))
                      have HFX := Lib.hid (HLd.out.fx.row hgrow (fun r e => (HLd.out.own.lt r e).1))
                      have HGN := Lib.hid (OwnR.grown HLd.out.own HLd.out.gr hgrow (by omega))
                      clear hown hgrow
                      refine hK.out _ _ (HKEEP.out _ HFX.out HGN.out) (fun hHeld => ?_)
                      clear hK K
                      (try simp only [Act.put, List.setIfInBounds_toArray, List.set_cons_zero, List.set_cons_succ])
                      obtain ⟨e0, e1, e2⟩ := HMID.out.p3
                      obtain ⟨f0, f1, f2⟩ := HMID.out.f3
                      refine wpAnyH_take (i := 12) (oi := { dst := some 68, op := Op.fieldAddr 28 (Operand.tmp 10) 2, type := 0, pos := "ref.go:193", after := #[{ on := 0, ground := Ground.phase }, { on := 1, ground := Ground.phase }, { on := 2, ground := Ground.phase }, { on := 3, ground := Ground.phase }, { on := 4, ground := Ground.phase }, { on := 5, ground := Ground.phase }, { on := 6, ground := Ground.phase }, { on := 7, ground := Ground.phase }, { on := 8, ground := Ground.phase }, { on := 9, ground := Ground.phase }, { on := 10, ground := Ground.phase }, { on := 11, ground := Ground.phase }], guard := none }) (v := ?_) rfl (by kernel_rfl) (by kernel_rfl) (by kernel_rfl) (fun _ _ _ h => h) (_root_.Or.inl ⟨by rfl, ?_⟩) (by assumption) ?_
                      rotate_left
                      · intro w0 hSw; (try dsimp only at hSw); go_simp; try with_reducible rfl
                      (try simp only [Act.put, List.setIfInBounds_toArray, List.set_cons_zero, List.set_cons_succ])
                      refine wpAnyH_ready (rs := [13]) (by kernel_rfl) (by simp) ?_
                      refine AllReadyH.cons (o := { dst := none, op := Op.store 26 (Operand.tmp 68) (Operand.tmp 67), type := 0, pos := "ref.go:193", after := #[{ on := 12, ground := Ground.data }, { on := 11, ground := Ground.data }, { on := 11, ground := Ground.chain }, { on := 0, ground := Ground.phase }, { on := 1, ground := Ground.phase }, { on := 2, ground := Ground.phase }, { on := 3, ground := Ground.phase }, { on := 4, ground := Ground.phase }, { on := 5, ground := Ground.phase }, { on := 6, ground := Ground.phase }, { on := 7, ground := Ground.phase }, { on := 8, ground := Ground.phase }, { on := 9, ground := Ground.phase }, { on := 10, ground := Ground.phase }, { on := 11, ground := Ground.phase }], guard := none }) rfl (fun K hK => ?_) ?_
                      · go_simp
                        refine hK.out _ _ (HKEEP.out _ HAPP.out.fx HAPP.out.gr) (fun hHeld => ?_)
                        clear hK K
                        (try simp only [Act.put, List.setIfInBounds_toArray, List.set_cons_zero, List.set_cons_succ])
                        refine wpAnyH_done (by kernel_rfl) ?_ _
                        clear hHeld
                        clear e0 e1 e2 f0 f1 f2
                        replace HLK := HAPP
                        have HD := Lib.hid (HLK.out.done (by rw [HML.out]; simp))
                        obtain ⟨o0, o1, o2⟩ := HLK.out.out.p3
                        have HRR := Lib.hid (HLK.out.fx.blk HRB.out (by omega) (by omega))
                        obtain ⟨r0, r1, r2⟩ := HRR.out.p3
                        obtain ⟨f0, f1, f2⟩ := HRR.out.f3
                        go_wp2_with fail
                        have hr := ((HRR.out.set 0 (.int .i64 k)).set 1 (.bool true)).set 2 (.slice va2 (k + 1) vc2)
                        obtain ⟨e0, e1, e2⟩ := (show Blk _ _ _ #[.int .i64 k, .bool true, .slice va2 (k + 1) vc2] from hr).p3
                        refine bodyPost_ret (v := .tuple #[.agg #[.int .i64 k, .bool true, .slice va2 (k + 1) vc2], .int .i64 0]) (by simp only [Nat.add_assoc, Nat.reduceAdd]; simp [results, Tryz.results26, go_sem, e0, e1, e2]) rfl ?_
                        have h := put3b HLK.out.own.hasB HLK.out.gr (k := w.heap.size + 2) (by omega) (by omega) (.int .i64 k) (.bool true) (.slice va2 (k + 1) vc2)
                        rw [HD.out, HLS.out] at h
                        exact ⟨k, true, _, _, by rw [HE0.out], .inl ⟨HE0.out, rfl, rfl, rfl⟩, h.1, h.2⟩
                      exact AllReadyH.nil
                    exact AllReadyH.nil
                  exact AllReadyH.nil
                refine AllReadyH.cons (o := { dst := some 66, op := Op.buildSlice 26 1 #[(0, Operand.tmp 65)], type := 26, pos := "ref.go:193", after := #[{ on := 9, ground := Ground.data }], guard := none }) rfl (fun K hK => ?_) ?_
                · go_simp
                  refine hK.out _ _ (HKEEP.out _ (HLd.out.later (Gr.new w8 (.cells #[.slice px ((rw_ rA lv)).length pc] 23))).fx (HLd.out.later (Gr.new w8 (.cells #[.slice px ((rw_ rA lv)).length pc] 23))).gr) (fun hHeld => ?_)
                  clear hK K
                  (try simp only [Act.put, List.setIfInBounds_toArray, List.set_cons_zero, List.set_cons_succ])
                  replace HLd := Lib.hid (HLd.out.later (Gr.new w8 (.cells #[.slice px ((rw_ rA lv)).length pc] 23)))
                  replace HFd := Lib.hid (HFd.out.gr (Gr.new w8 (.cells #[.slice px ((rw_ rA lv)).length pc] 23)))
                  clear o0 o1 o2
                  obtain ⟨o0, o1, o2⟩ := HLd.out.out.p3
                  refine wpAnyH_ready (rs := [1]) (by kernel_rfl) (by simp) ?_
                  refine AllReadyH.cons (o := { dst := some 57, op := Op.load 26 (Operand.tmp 56), type := 26, pos := "ref.go:193", after := #[{ on := 0, ground := Ground.data }], guard := none }) rfl (fun K hK => ?_) ?_
                  · go_simp
                    refine hK.out _ _ hHeld (fun hHeld => ?_)
                    clear hK K
                    (try simp only [Act.put, List.setIfInBounds_toArray, List.set_cons_zero, List.set_cons_succ])
                    refine wpAnyH_ready (rs := [11]) (by kernel_rfl) (by simp) ?_
                    refine AllReadyH.cons (o := { dst := some 67, op := Op.call { callee := Callee.builtin Builtin.append, args := #[Operand.tmp 57, Operand.tmp 66], argTypes := #[26, 26] }, type := 26, pos := "ref.go:193", after := #[{ on := 1, ground := Ground.data }, { on := 10, ground := Ground.data }, { on := 9, ground := Ground.chain }], guard := none }) rfl (fun K hK => ?_) ?_
                    · refine wp_appF (.tmp 57) (.tmp 66) rfl rfl b (.slice vx k vc) ls rfl HFd.out (.slice px ((rw_ rA lv)).length pc) (rw_ rA lv) w8.heap.size rfl (cell_new _ _ _) (HP8.out.later (Gr.new _ _)) HF8.out (HTH.out.gr (Gr.new _ _)) HLEN.out HLd.out.fx.1 ?_
                      intro v' wn hownF hgrow
                      have hown := hownF.ownR
                      obtain ⟨va2, vc2, hv2, -, -⟩ := hown.form
                      rw [HLL.out] at hv2
                      subst hv2
                      have HF9 := Lib.hid hownF
                      clear hownF
                      have HMID := Lib.hid (HLd.out.mid (by omega) hgrow)
                      have HAPP := Lib.hid (HLd.out.app (by omega) (by omega) hown hgrow (by first | rfl | exact HROW.out | (simp; done)))
                      have HFX := Lib.hid (HLd.out.fx.row hgrow (fun r e => (HLd.out.own.lt r e).1))
                      have HGN := Lib.hid (OwnR.grown HLd.out.own HLd.out.gr hgrow (by omega))
                      clear hown hgrow
                      refine hK.out _ _ (HKEEP.out _ HFX.out HGN.out) (fun hHeld => ?_)
                      clear hK K
                      (try simp only [Act.put, List.setIfInBounds_toArray, List.set_cons_zero, List.set_cons_succ])
                      obtain ⟨e0, e1, e2⟩ := HMID.out.p3
                      obtain ⟨f0, f1, f2⟩ := HMID.out.f3
                      refine wpAnyH_take (i := 12) (oi := { dst := some 68, op := Op.fieldAddr 28 (Operand.tmp 10) 2, type := 0, pos := "ref.go:193", after := #[{ on := 0, ground := Ground.phase }, { on := 1, ground := Ground.phase }, { on := 2, ground := Ground.phase }, { on := 3, ground := Ground.phase }, { on := 4, ground := Ground.phase }, { on := 5, ground := Ground.phase }, { on := 6, ground := Ground.phase }, { on := 7, ground := Ground.phase }, { on := 8, ground := Ground.phase }, { on := 9, ground := Ground.phase }, { on := 10, ground := Ground.phase }, { on := 11, ground := Ground.phase }], guard := none }) (v := ?_) rfl (by kernel_rfl) (by kernel_rfl) (by kernel_rfl) (fun _ _ _ h => h) (_root_.Or.inl ⟨by rfl, ?_⟩) (by assumption) ?_
                      rotate_left
                      · intro w0 hSw; (try dsimp only at hSw); go_simp; try with_reducible rfl
                      (try simp only [Act.put, List.setIfInBounds_toArray, List.set_cons_zero, List.set_cons_succ])
                      refine wpAnyH_ready (rs := [13]) (by kernel_rfl) (by simp) ?_
                      refine AllReadyH.cons (o := { dst := none, op := Op.store 26 (Operand.tmp 68) (Operand.tmp 67), type := 0, pos := "ref.go:193", after := #[{ on := 12, ground := Ground.data }, { on := 11, ground := Ground.data }, { on := 11, ground := Ground.chain }, { on := 0, ground := Ground.phase }, { on := 1, ground := Ground.phase }, { on := 2, ground := Ground.phase }, { on := 3, ground := Ground.phase }, { on := 4, ground := Ground.phase }, { on := 5, ground := Ground.phase }, { on := 6, ground := Ground.phase }, { on := 7, ground := Ground.phase }, { on := 8, ground := Ground.phase }, { on := 9, ground := Ground.phase }, { on := 10, ground := Ground.phase }, { on := 11, ground := Ground.phase }], guard := none }) rfl (fun K hK => ?_) ?_
                      · go_simp
                        refine hK.out _ _ (HKEEP.out _ HAPP.out.fx HAPP.out.gr) (fun hHeld => ?_)
                        clear hK K
                        (try simp only [Act.put, List.setIfInBounds_toArray, List.set_cons_zero, List.set_cons_succ])
                        refine wpAnyH_done (by kernel_rfl) ?_ _
                        clear hHeld
                        clear e0 e1 e2 f0 f1 f2
                        replace HLK := HAPP
                        have HD := Lib.hid (HLK.out.done (by rw [HML.out]; simp))
                        obtain ⟨o0, o1, o2⟩ := HLK.out.out.p3
                        have HRR := Lib.hid (HLK.out.fx.blk HRB.out (by omega) (by omega))
                        obtain ⟨r0, r1, r2⟩ := HRR.out.p3
                        obtain ⟨f0, f1, f2⟩ := HRR.out.f3
                        go_wp2_with fail
                        have hr := ((HRR.out.set 0 (.int .i64 k)).set 1 (.bool true)).set 2 (.slice va2 (k + 1) vc2)
                        obtain ⟨e0, e1, e2⟩ := (show Blk _ _ _ #[.int .i64 k, .bool true, .slice va2 (k + 1) vc2] from hr).p3
                        refine bodyPost_ret (v := .tuple #[.agg #[.int .i64 k, .bool true, .slice va2 (k + 1) vc2], .int .i64 0]) (by simp only [Nat.add_assoc, Nat.reduceAdd]; simp [results, Tryz.results26, go_sem, e0, e1, e2]) rfl ?_
                        have h := put3b HLK.out.own.hasB HLK.out.gr (k := w.heap.size + 2) (by omega) (by omega) (.int .i64 k) (.bool true) (.slice va2 (k + 1) vc2)
                        rw [HD.out, HLS.out] at h
                        exact ⟨k, true, _, _, by rw [HE0.out], .inl ⟨HE0.out, rfl, rfl, rfl⟩, h.1, h.2⟩
                      exact AllReadyH.nil
                    exact AllReadyH.nil
                  exact AllReadyH.nil
                exact AllReadyH.nil
              exact AllReadyH.nil
            exact AllReadyH.nil
    · have HE0 := Lib.hid (HNO.out (fun h => k3 h.2.2.2))
      obtain rfl : sp2 = true := by cases sp2 <;> simp_all
      obtain rfl : sp = false := by cases sp <;> simp_all
      clear k1 k3
      obtain ⟨r0, r1, r2⟩ := HRB.out.p3
      obtain ⟨f0, f1, f2⟩ := HRB.out.f3
      go_wp2_with fail
      have hr := ((HRB.out.set 0 (.int .i64 0)).set 1 (.bool false)).set 2 (.slice none 0 0)
      obtain ⟨e0, e1, e2⟩ := (show Blk _ _ _ #[.int .i64 0, .bool false, .slice none 0 0] from hr).p3
      refine bodyPost_ret (v := .tuple #[.agg #[.int .i64 0, .bool false, .slice none 0 0], .int .i64 2]) (by simp only [Nat.add_assoc, Nat.reduceAdd]; simp [results, Tryz.results26, go_sem, e0, e1, e2]) rfl ?_
      have h := put3b (HasB.nil _ _ _) HG.out (k := w.heap.size + 2) (b := w.heap.size + 2 + 1) (by omega) (by omega) (.int .i64 0) (.bool false) (.slice none 0 0)
      exact ⟨0, false, [], _, by rw [HE0.out], .inr ⟨HE0.out, rfl, rfl, rfl⟩, h.1, h.2⟩
  · have HE0 := Lib.hid (HNO.out (fun h => h1 h.1))
    rw [show chkE N ch S lv sp rA = 2 from if_neg h1]
    clear h1
    obtain ⟨r0, r1, r2⟩ := HRB.out.p3
    obtain ⟨f0, f1, f2⟩ := HRB.out.f3
    go_wp2_with fail
    have hr := ((HRB.out.set 0 (.int .i64 0)).set 1 (.bool false)).set 2 (.slice none 0 0)
    obtain ⟨e0, e1, e2⟩ := (show Blk _ _ _ #[.int .i64 0, .bool false, .slice none 0 0] from hr).p3
    refine bodyPost_ret (v := .tuple #[.agg #[.int .i64 0, .bool false, .slice none 0 0], .int .i64 2]) (by simp only [Nat.add_assoc, Nat.reduceAdd]; simp [results, Tryz.results26, go_sem, e0, e1, e2]) rfl ?_
    have h := put3b (HasB.nil _ _ _) HG.out (k := w.heap.size + 2) (b := w.heap.size + 2 + 1) (by omega) (by omega) (.int .i64 0) (.bool false) (.slice none 0 0)
    exact ⟨0, false, [], _, by rw [HE0.out], .inr ⟨HE0.out, rfl, rfl, rfl⟩, h.1, h.2⟩
end Go.Proofs.YtlfiakpmnkhcdaaGreat.Mo
/- The reference of layer 9: Auto. (made by mkki.py) -/
namespace Go.Proofs.YtlfiakpmnkhcdaaGreat.Mo
open Go.RowKit Go.Shelf
set_option linter.unusedVariables false
set_option linter.unusedSimpArgs false

theorem auto_eq {nn : Nat} {ch : List Int} {S : Int} {lv : Nat} {sp : Bool} {rA : List (List Int)} (K : Nat) (hA : EV nn ch S lv sp rA) : rwA (Oj.mods ch S lv sp) (fun i m => Oj.autoR nn m K (rw_ rA i)) = rwA (Oj.mods ch S lv sp) (fun i m => (fun m x => Oj.autoR x.length m K x) m (rw_ rA i)) :=
  rwA_cong fun i hi => by
    have h := (hA.2.2 i hi).1
    show Oj.autoR nn _ _ _ = Oj.autoR (rw_ rA i).length _ _ _
    rw [show (rw_ rA i).length = nn by omega]
theorem autoS_low {n k t : Nat} {m : Int} {a : List Int} (h : t * k % (2 * n) < n) : Oj.autoS n m k a (t + 1) = (Oj.autoS n m k a t).set (t * k % (2 * n)) (Op.cf a t) := by
  rw [Oj.autoS, Oj.ps, Oj.vl, if_pos h, if_pos h]
theorem autoS_high {n k t : Nat} {m : Int} {a : List Int} (h : ¬ t * k % (2 * n) < n) : Oj.autoS n m k a (t + 1) = (Oj.autoS n m k a t).set (t * k % (2 * n) - n) ((m - Op.cf a t) % m) := by
  rw [Oj.autoS, Oj.ps, Oj.vl, if_neg h, if_neg h, show m - Op.cf a t = -(Op.cf a t) + m by omega, Int.add_emod_right]

set_option maxRecDepth 100000 in
set_option maxHeartbeats 8000000 in
theorem fAuto_any (N p1 p2 : Int) (xC : Option Addr) (nC cC : Nat) (S p5 p6 : Int) (lv : Int) (sp : Bool) (ch : List Int) (uA : Value) (rA : List (List Int)) (k : Int) (w : World) (hk : isW k) (h3 : ch.length ≤ 1000) (hC : HasP w (.slice xC nC cC) ch) (hS : 0 ≤ S ∧ S < 4294967296) (hA : HasR w uA rA) :
    Calls Tryz.prog 25 #[.agg #[.int .i64 N, .int .u32 p1, .int .i64 p2, .slice xC nC cC, .int .u32 S, .int .i64 p5, .int .u32 p6], .agg #[.int .i64 lv, .bool sp, uA], .int .i64 k] w (ResE (auE N ch S lv sp rA k) lv sp (rwA (Oj.mods ch S lv.toNat sp) (fun i m => (fun m x => Oj.autoR x.length m k.toNat x) m (rw_ rA i))) w) := by
  obtain ⟨LS, hLS⟩ : ∃ LS, LS = rwA (Oj.mods ch S lv.toNat sp) (fun i m => (fun m x => Oj.autoR x.length m k.toNat x) m (rw_ rA i)) := ⟨_, rfl⟩
  rw [← hLS]
  have HLS := Lib.hid hLS
  clear hLS
  obtain ⟨xA, cA, rfl⟩ := hA.form
  generalize hnA : rA.length = nA at *
  obtain ⟨W0, hW0⟩ : ∃ W0, W0 = ((w.alloc (.cells #[.int .i64 N, .int .u32 p1, .int .i64 p2, .slice xC nC cC, .int .u32 S, .int .i64 p5, .int .u32 p6] 25)).alloc (.cells #[.int .i64 lv, .bool sp, .slice xA nA cA] 28)).alloc (.cells #[.int .i64 0, .bool false, .slice none 0 0] 28) := ⟨_, rfl⟩
  have HG := Lib.hid (show Gr w W0 by rw [hW0]; exact ((Gr.new w _).alloc _).alloc _)
  have HBP := Lib.hid (show Blk W0 w.heap.size 25 #[.int .i64 N, .int .u32 p1, .int .i64 p2, .slice xC nC cC, .int .u32 S, .int .i64 p5, .int .u32 p6] by rw [hW0]; exact (Blk.new w _ _).gr ((Gr.new _ _).alloc _))
  have HBA := Lib.hid (show Blk W0 (w.heap.size + 1) 28 #[.int .i64 lv, .bool sp, .slice xA nA cA] by rw [hW0]; exact (Blk.newk _ _ (by simp)).gr (Gr.new _ _))
  have HRB := Lib.hid (show Blk W0 (w.heap.size + 2) 28 #[.int .i64 0, .bool false, .slice none 0 0] by rw [hW0]; exact Blk.newk _ _ (by simp))
  have HSZ := Lib.hid (show W0.heap.size = w.heap.size + 3 by rw [hW0]; simp)
  have HA := Lib.hid hA
  have HC := Lib.hid hC
  have HS := Lib.hid hS
  have HNA := Lib.hid hnA
  have HKW := Lib.hid hk
  have HNO := Lib.hid (show ¬ ((1 ≤ k ∧ k < 2 * N ∧ k % 2 ≠ 0) ∧ VP N ch S ∧ EV N ch S lv sp rA) → auE N ch S lv sp rA k = 2 from fun h => if_neg h)
  have HYES := Lib.hid (show ((1 ≤ k ∧ k < 2 * N ∧ k % 2 ≠ 0) ∧ VP N ch S ∧ EV N ch S lv sp rA) → auE N ch S lv sp rA k = 0 from fun h => if_pos h)
  clear hA hC hS hnA hk
  obtain ⟨q0, q1, q2, q3, q4, q5, q6⟩ := HBP.out.p7
  obtain ⟨a0, a1, a2⟩ := HBA.out.p3
  go_enter Tryz.func25, Tryz.ntmps25
  go_upto_region 1 with (fail)
  rw [← hW0]
  clear hW0
  go_wp2_with fail
  refine (fCheck_any N p1 p2 xC nC cC S p5 p6 lv sp ch _ rA _ h3 (HC.out.later HG.out) HS.out (HA.out.later HG.out)).mono ?_
  rintro e w1 ⟨rfl, hg1⟩
  replace HG := Lib.hid (HG.out.trans hg1)
  replace HBP := Lib.hid (HBP.out.gr hg1)
  replace HBA := Lib.hid (HBA.out.gr hg1)
  replace HRB := Lib.hid (HRB.out.gr hg1)
  have HSZ1 := Lib.hid (show w.heap.size + 3 ≤ w1.heap.size by have := HSZ.out; have := hg1.size; omega)
  clear hg1 q0 q1 q2 q3 q4 q5 q6 a0 a1 a2
  obtain ⟨q0, q1, q2, q3, q4, q5, q6⟩ := HBP.out.p7
  obtain ⟨a0, a1, a2⟩ := HBA.out.p3
  by_cases h1 : VP N ch S ∧ EV N ch S lv sp rA
  · rw [show chkE N ch S lv sp rA = 0 from if_pos h1]
    obtain ⟨lv, rfl⟩ := Int.eq_ofNat_of_zero_le (show 0 ≤ lv by have := h1.2.1.1; omega)
    have HV := Lib.hid h1.1
    have HEA := Lib.hid h1.2
    have HL2 := Lib.hid (show lv ≤ ch.length by have := h1.2.1.2.1; omega)
    have HL1 := Lib.hid (show 1 ≤ lv by have := h1.2.1.1; omega)
    clear h1
    obtain ⟨nn, rfl, n4, n32⟩ := vp_dim HV.out
    by_cases k1 : k < 1
    · have HE0 := Lib.hid (HNO.out (fun h => by omega))
      have t1 : decide (k < 1) = true := decide_eq_true k1
      clear k1
      obtain ⟨r0, r1, r2⟩ := HRB.out.p3
      obtain ⟨f0, f1, f2⟩ := HRB.out.f3
      go_wp2_with fail
      have hr := ((HRB.out.set 0 (.int .i64 0)).set 1 (.bool false)).set 2 (.slice none 0 0)
      obtain ⟨e0, e1, e2⟩ := (show Blk _ _ _ #[.int .i64 0, .bool false, .slice none 0 0] from hr).p3
      refine bodyPost_ret (v := .tuple #[.agg #[.int .i64 0, .bool false, .slice none 0 0], .int .i64 2]) (by simp only [Nat.add_assoc, Nat.reduceAdd]; simp [results, Tryz.results25, go_sem, e0, e1, e2]) rfl ?_
      have h := put3b (HasB.nil _ _ _) HG.out (k := w.heap.size + 2) (b := w.heap.size + 2 + 1) (by omega) (by omega) (.int .i64 0) (.bool false) (.slice none 0 0)
      exact ⟨0, false, [], _, by rw [HE0.out], .inr ⟨HE0.out, rfl, rfl, rfl⟩, h.1, h.2⟩
    have t1 : decide (k < 1) = false := decide_eq_false k1
    by_cases k2 : 2 * (nn : Int) - 1 < k
    · have HE0 := Lib.hid (HNO.out (fun h => by omega))
      have t2 : decide (2 * (nn : Int) - 1 < k) = true := decide_eq_true k2
      have t2' : decide (k > 2 * (nn : Int) - 1) = true := decide_eq_true k2
      clear k1 k2
      obtain ⟨r0, r1, r2⟩ := HRB.out.p3
      obtain ⟨f0, f1, f2⟩ := HRB.out.f3
      go_wp2_with fail
      have hr := ((HRB.out.set 0 (.int .i64 0)).set 1 (.bool false)).set 2 (.slice none 0 0)
      obtain ⟨e0, e1, e2⟩ := (show Blk _ _ _ #[.int .i64 0, .bool false, .slice none 0 0] from hr).p3
      refine bodyPost_ret (v := .tuple #[.agg #[.int .i64 0, .bool false, .slice none 0 0], .int .i64 2]) (by simp only [Nat.add_assoc, Nat.reduceAdd]; simp [results, Tryz.results25, go_sem, e0, e1, e2]) rfl ?_
      have h := put3b (HasB.nil _ _ _) HG.out (k := w.heap.size + 2) (b := w.heap.size + 2 + 1) (by omega) (by omega) (.int .i64 0) (.bool false) (.slice none 0 0)
      exact ⟨0, false, [], _, by rw [HE0.out], .inr ⟨HE0.out, rfl, rfl, rfl⟩, h.1, h.2⟩
    have t2 : decide (2 * (nn : Int) - 1 < k) = false := decide_eq_false k2
    have t2' : decide (k > 2 * (nn : Int) - 1) = false := decide_eq_false k2
    obtain ⟨K, rfl⟩ := Int.eq_ofNat_of_zero_le (show 0 ≤ k by omega)
    by_cases k3 : K % 2 = 1
    · have HE0 := Lib.hid (HYES.out ⟨⟨by omega, by omega, by omega⟩, HV.out, HEA.out⟩)
      have t3 : ((K : Int) % 2 != 1) = false := by simp; omega
      have hK1 : K < 2 * nn := by omega
      clear k1 k2 k3
      go_upto_region 4 with (fail)
      clear t1 t2 t2' t3
      obtain ⟨W3, hW3⟩ : ∃ W3, W3 = w1.alloc (.cells #[.int .i64 lv, .bool sp, .slice none 0 0] 28) := ⟨_, rfl⟩
      obtain ⟨G, hG⟩ : ∃ G, G = w1.heap.size := ⟨_, rfl⟩
      have hg3 : Gr w1 W3 := by rw [hW3]; exact Gr.new _ _
      have HSG := Lib.hid (show w.heap.size + 3 ≤ G by rw [hG]; exact HSZ1.out)
      have HSZ3 := Lib.hid (show W3.heap.size = G + 1 by rw [hW3, hG]; simp)
      have HBO := Lib.hid (show Blk W3 G 28 #[.int .i64 lv, .bool sp, .slice none 0 0] by rw [hW3, hG]; exact Blk.new _ _ _)
      rw [← hW3, ← hG]
      replace HG := Lib.hid (HG.out.trans hg3)
      replace HBP := Lib.hid (HBP.out.gr hg3)
      replace HBA := Lib.hid (HBA.out.gr hg3)
      replace HRB := Lib.hid (HRB.out.gr hg3)
      clear hg3 hW3 hG q0 q1 q2 q3 q4 q5 q6 a0 a1 a2
      obtain ⟨q0, q1, q2, q3, q4, q5, q6⟩ := HBP.out.p7
      obtain ⟨a0, a1, a2⟩ := HBA.out.p3
      go_wp2_with fail
      refine (fModuli_any nn p1 p2 xC nC cC S p5 p6 lv sp ch _ HL2.out h3 (HC.out.later HG.out) HS.out).mono ?_
      rintro e w4 ⟨xm, nm, cm, rfl, hm, hmf, hg4⟩
      have HM := Lib.hid hm
      replace HG := Lib.hid (HG.out.trans hg4)
      replace HBP := Lib.hid (HBP.out.gr hg4)
      replace HBA := Lib.hid (HBA.out.gr hg4)
      replace HRB := Lib.hid (HRB.out.gr hg4)
      replace HBO := Lib.hid (HBO.out.gr hg4)
      have HSZ4 := Lib.hid (show G + 1 ≤ w4.heap.size by have := HSZ3.out; have := hg4.size; omega)
      have HMP := Lib.hid (show ∀ p, (Value.slice xm nm cm).ownBlock = some p → p < w4.heap.size ∧ p ≠ G from fun p hp => by
        obtain ⟨q, rfl, rfl⟩ := own_some hp
        have h1 := hmf q rfl
        have h2 := HSZ3.out
        refine ⟨?_, by omega⟩
        by_cases h0 : 0 < (Oj.mods ch S lv sp).length
        · exact hm.lt h0 _ hp
        · exfalso
          have := Oj.mods_len (S := S) (sp := sp) HL2.out
          have := HL1.out
          omega)
      have HNM := Lib.hid hm.len.1
      have hnm : nm ≤ 1001 := by
        have h5 := Oj.mods_len (S := S) (sp := sp) HL2.out
        have := HNM.out
        have := HL2.out
        cases sp <;> simp at h5 <;> omega
      clear hm hmf hg4 q0 q1 q2 q3 q4 q5 q6 a0 a1 a2
      obtain ⟨b, hb⟩ : ∃ b, b = w4.heap.size := ⟨_, rfl⟩
      have HLP := Lib.hid (show LP b G w w4 lv sp (fun i m => Oj.autoR nn m K (rw_ rA i)) (Oj.mods ch S lv sp) 0 (.slice none 0 0) [] w4 from LP.start hb.symm HBO.out HG.out)
      have hGb : G + 1 ≤ b := by rw [hb]; exact HSZ4.out
      have hwG := HSG.out
      rw [← hb] at HMP
      clear hb
      have hmk := mk_row nn (nn : Int) rfl (by omega)
      go_wp2_with fail
      go_loopw [10, 11, 12, 13] (fun i _ _ _ wr => ∃ (k : Nat) (x : Option Addr) (c : Nat) (ls : List (List Int)), i = .int .i64 k ∧ k ≤ nm ∧ LP b G w w4 lv sp (fun i m => Oj.autoR nn m K (rw_ rA i)) (Oj.mods ch S lv sp) k (.slice x k c) ls wr) (fun i _ _ _ _ => nm - (intOf i).toNat)
      case atStart => exact ⟨0, none, 0, [], rfl, by omega, HLP.out⟩
      case round =>
        obtain ⟨i, vx, vc, ls, rfl, hi, hlp⟩ := hrel
        have HLK := Lib.hid hlp
        clear hlp
        by_cases hlt : i < nm
        · have i1 : (i : Int) < (nm : Int) := by omega
          have i0 : (0 : Int) ≤ (i : Int) := by omega
          have HKM := Lib.hid (show i < (Oj.mods ch S lv sp).length by rw [← HNM.out]; exact hlt)
          have hnA : i < nA := by have := HEA.out.2.1; have := HNA.out; have := HNM.out; have : (Oj.mods ch S (lv : Int).toNat sp).length = (Oj.mods ch S lv sp).length := rfl; omega
          have j1 : (i : Int) < (nA : Int) := by omega
          obtain ⟨n1, en1, -, -, hra⟩ := ev_rws HV.out HEA.out (hasR_nn HA.out) (show i < (Oj.mods ch S (lv : Int).toNat sp).length from HKM.out)
          have hMk := mods_ok HV.out HEA.out.1 HKM.out
          rw [show Oj.mods ch S (lv : Int).toNat sp = Oj.mods ch S lv sp from rfl] at hra
          obtain ⟨m, hme⟩ : ∃ m, m = Op.cf (Oj.mods ch S lv sp) i := ⟨_, rfl⟩
          rw [← hme] at hMk hra
          rw [show n1 = nn by omega] at hra
          have HME := Lib.hid hme
          have HMK := Lib.hid hMk
          have HRA := Lib.hid hra
          have m1 := hMk.1
          have m2 := hMk.2
          obtain ⟨gA, oA, sx, sn, sc, rfl, hcA, hs1, hpA⟩ := HasB.at_ HA.out (i := i) (by rw [HNA.out]; exact hnA)
          obtain ⟨gM, oM, rfl, hcM⟩ := HM.out.at_ (i := i) HKM.out
          rw [← hme] at hcM
          have HGM := Lib.hid (HMP.out gM rfl)
          have hsn : sn = nn := by rw [hs1]; exact hra.1
          have HPA := Lib.hid hpA
          have HCA := Lib.hid (HLK.out.gr.keeps hcA)
          have HCM := Lib.hid (HLK.out.fx.cell hcM HGM.out)
          have HQP := Lib.hid (HLK.out.fx.blk HBP.out (by omega) (by omega))
          have HQA := Lib.hid (HLK.out.fx.blk HBA.out (by omega) (by omega))
          clear hs1 hpA hcA hcM hme hMk hra en1
          subst hsn
          obtain ⟨wo, rfl⟩ : ∃ wo : World, wo = wr := ⟨_, rfl⟩
          obtain ⟨q0, q1, q2, q3, q4, q5, q6⟩ := HQP.out.p7
          go_wp2_with fail
          clear q0 q1 q2 q3 q4 q5 q6
          obtain ⟨W5, hW5⟩ : ∃ W : World, W = wo.alloc (.cells (zrow sn) 22) := ⟨_, rfl⟩
          obtain ⟨g, hg⟩ : ∃ g, g = wo.heap.size := ⟨_, rfl⟩
          rw [← hW5, ← hg]
          have HR0 := Lib.hid (show Own1 W5 wo.heap.size (.slice (some ⟨g, 0, none⟩) sn sn) (List.replicate sn 0) by rw [hW5, hg]; exact own_zeros wo sn _ (Nat.le_refl _) (by omega))
          have HG5 := Lib.hid (show Gr wo W5 by rw [hW5]; exact Gr.new wo _)
          have HGS := Lib.hid hg
          clear hW5 hg
          go_loopw [12, 13] (fun j _ wi => ∃ (t : Nat), j = .int .i64 t ∧ t ≤ sn ∧ Own1 wi wo.heap.size (.slice (some ⟨g, 0, none⟩) sn sn) (Oj.autoS sn m K (rw_ rA i) t) ∧ Gr wo wi) (fun j _ _ => sn - (intOf j).toNat)
          case atStart => exact ⟨0, rfl, by omega, HR0.out, HG5.out⟩
          case round =>
            obtain ⟨t, rfl, ht, hown, hgw⟩ := hrel
            have HOW := Lib.hid hown
            have HGW := Lib.hid hgw
            obtain ⟨q0, q1, q2, q3, q4, q5, q6⟩ := (HQP.out.gr hgw).p7
            obtain ⟨a0, a1, a2⟩ := (HQA.out.gr hgw).p3
            have hcA := hgw.keeps HCA.out
            have hcM := hgw.keeps HCM.out
            clear hown hgw
            by_cases hjt : t < sn
            · have i2 : (t : Int) < (sn : Int) := by omega
              have i3 : (0 : Int) ≤ (t : Int) := by omega
              obtain ⟨gx, ox, rfl, hcx⟩ := HPA.out.at_ (i := t) (by rw [HRA.out.1]; exact hjt)
              obtain ⟨x0, x1⟩ := HRA.out.2 t hjt
              obtain ⟨x, hxe⟩ : ∃ x, x = Op.cf (rw_ rA i) t := ⟨_, rfl⟩
              rw [← hxe] at hcx x0 x1
              have HXE := Lib.hid hxe
              have hcx0 := (HLK.out.gr.trans HGW.out).keeps hcx
              obtain ⟨AT, hAT⟩ : ∃ AT, AT = t * K % (2 * sn) := ⟨_, rfl⟩
              have hATl : AT < 2 * sn := by rw [hAT]; exact Nat.mod_lt _ (by omega)
              have m0 := mul_lo (a := (t : Int)) (b := (K : Int)) (by omega) (by omega)
              have m3 : (t : Int) * (K : Int) ≤ 32 * 64 := Int.mul_le_mul (by omega) (by omega) (by omega) (by omega)
              have y1 : (t : Int) * (K : Int) % (2 * (sn : Int)) = (AT : Int) := by rw [hAT]; simp
              have y2 : ((t : Int) * (K : Int)).tmod (2 * (sn : Int)) = (AT : Int) := by rw [Int.tmod_eq_emod_of_nonneg m0]; exact y1
              have w1' : IntKind.i64.wrap (2 * (sn : Int)) = 2 * (sn : Int) := IntWalk.i64_in _ (by omega)
              have w2' : IntKind.i64.wrap ((t : Int) * (K : Int)) = (t : Int) * (K : Int) := IntWalk.i64_in _ (by omega)
              have w3' : IntKind.i64.wrap (AT : Int) = (AT : Int) := IntWalk.i64_in _ (by omega)
              have w4' : ¬ 2 * (sn : Int) = 0 := by omega
              have HAT := Lib.hid hAT
              have HAL := Lib.hid (show (Oj.autoS sn m K (rw_ rA i) t).length = sn from Oj.autoS_len _ _ _ _ _)
              clear hAT hxe
              by_cases hw : AT < sn
              · have i5 : (AT : Int) < (sn : Int) := by omega
                have i6 : (0 : Int) ≤ (AT : Int) := by omega
                have HST := Lib.hid (show Oj.autoS sn m K (rw_ rA i) (t + 1) = (Oj.autoS sn m K (rw_ rA i) t).set AT x by rw [HAT.out, HXE.out]; exact autoS_low (by rw [← HAT.out]; exact hw))
                have HO2 := Lib.hid (HOW.out.set (j := AT) (x := x) (by rw [HAL.out]; exact hw) (row_u32 (n := 0) HMK.out x0 x1)).1
                rw [← HST.out] at HO2
                have hc3 := HOW.out.cell (j := AT) (by rw [HAL.out]; exact hw)
                have hf3 := HOW.out.frz (by rw [HAL.out]; omega) AT
                generalize hcv : Op.cf (Oj.autoS sn m K (rw_ rA i) t) AT = cv at hc3
                clear hcv
                have hcx := hcx0
                go_wp2_with fail
                go_roundw
                case rel => exact ⟨t + 1, by go_num, by omega, HO2.out, HGW.out.setCell (p := ⟨g, AT, none⟩) (Nat.le_of_eq HGS.out.symm) _⟩
                case measure => simp [intOf]; omega
              · obtain ⟨A2, hA2⟩ : ∃ A2, A2 = AT - sn := ⟨_, rfl⟩
                have hA2l : A2 < sn := by omega
                have i5 : ¬ (AT : Int) < (sn : Int) := by omega
                have i6 : (AT : Int) - (sn : Int) = (A2 : Int) := by omega
                have i7 : (0 : Int) ≤ (A2 : Int) := by omega
                have i8 : (A2 : Int) < (sn : Int) := by omega
                have w5' : IntKind.i64.wrap ((AT : Int) - (sn : Int)) = (A2 : Int) := by rw [i6]; exact IntWalk.i64_in _ (by omega)
                have w11' : IntKind.i64.wrap (A2 : Int) = (A2 : Int) := IntWalk.i64_in _ (by omega)
                have w6' : IntKind.u32.wrap (m - x) = m - x := IntWalk.u32_in _ (by omega)
                obtain ⟨z, hz⟩ : ∃ z, z = (m - x) % m := ⟨_, rfl⟩
                have z0 : 0 ≤ z := by rw [hz]; exact emod_lo _ m (by omega)
                have z1 : z < m := by rw [hz]; exact emod_hi _ m (by omega)
                have w7' : (m - x).tmod m = z := by rw [hz]; exact Int.tmod_eq_emod_of_nonneg (by omega)
                have w8' : (m - x) % m = z := hz.symm
                have w9' : (-x) % m = z := by rw [hz, show m - x = -x + m by omega, Int.add_emod_right]
                have w10' : IntKind.u32.wrap z = z := IntWalk.u32_in _ (by omega)
                have wm0 : ¬ m = 0 := by omega
                have HST := Lib.hid (show Oj.autoS sn m K (rw_ rA i) (t + 1) = (Oj.autoS sn m K (rw_ rA i) t).set A2 z by rw [hA2, hz, HAT.out, HXE.out]; exact autoS_high (by rw [← HAT.out]; exact hw))
                have HO2 := Lib.hid (HOW.out.set (j := A2) (x := z) (by rw [HAL.out]; exact hA2l) (row_u32 (n := 0) HMK.out z0 z1)).1
                rw [← HST.out] at HO2
                have hc3 := HOW.out.cell (j := A2) (by rw [HAL.out]; exact hA2l)
                have hf3 := HOW.out.frz (by rw [HAL.out]; omega) A2
                generalize hcv : Op.cf (Oj.autoS sn m K (rw_ rA i) t) A2 = cv at hc3
                have HKEEP := Lib.hid (show ∀ wz, Gr wo wz → (wz.cell? ⟨w.heap.size, 0, none⟩ = some (.int .i64 sn) ∧ wz.cell? ⟨w.heap.size + 1, 2, none⟩ = some (.slice (some ⟨gA, oA, none⟩) nA cA) ∧ wz.cell? ⟨gA, oA + i, none⟩ = some (.slice (some ⟨gx, ox, none⟩) sn sc) ∧ wz.cell? ⟨gx, ox + t, none⟩ = some (.int .u32 x) ∧ wz.cell? ⟨gM, oM + i, none⟩ = some (.int .u32 m)) from fun wz gg => ⟨gg.keeps HQP.out.p7.1, gg.keeps HQA.out.p3.2.2, gg.keeps HCA.out, (HLK.out.gr.trans gg).keeps hcx, gg.keeps HCM.out⟩)
                have HGG := Lib.hid (show wo.heap.size ≤ g from Nat.le_of_eq HGS.out.symm)
                have hcx := hcx0
                clear hcv hz hA2
                go_upto_region 15 with (fail)
                clear y1 y2 w1' w2' w3' w4' m0 m3
                go_region_held3 (fun wz => wz.cell? ⟨w.heap.size, 0, none⟩ = some (.int .i64 sn) ∧ wz.cell? ⟨w.heap.size + 1, 2, none⟩ = some (.slice (some ⟨gA, oA, none⟩) nA cA) ∧ wz.cell? ⟨gA, oA + i, none⟩ = some (.slice (some ⟨gx, ox, none⟩) sn sc) ∧ wz.cell? ⟨gx, ox + t, none⟩ = some (.int .u32 x) ∧ wz.cell? ⟨gM, oM + i, none⟩ = some (.int .u32 m)) ((refine HKEEP.out _ ?_; repeat (first | exact HGW.out | refine Below.drew ?_ | refine Gr.setCell ?_ HGG.out _))) (fail)
                clear w5' w6' w7' w8' w9' w10' w11' i6
                go_wp2_with fail
                go_roundw
                case rel => exact ⟨t + 1, by go_num, by omega, HO2.out.gr (Below.drew (Gr.refl _)), Below.drew (HGW.out.setCell (p := ⟨g, A2, none⟩) HGG.out _)⟩
                case measure => simp [intOf]; omega
            · obtain rfl : t = sn := by omega
              have i2 : ¬ (t : Int) < (t : Int) := by omega
              have HPR := Lib.hid HOW.out.hasP
              have HL6 := Lib.hid ((HLK.out.later HGW.out).later (Gr.new wr (.cells #[.slice (some ⟨g, 0, none⟩) t t] 23)))
              have HAP := Lib.hid (show Ap b (.slice vx i vc) (.slice (some ⟨g, 0, none⟩) t t) (Oj.autoS t m K (rw_ rA i) t) from ap_of_fresh HLK.out.own HLK.out.fx.1 (HOW.out.fresh rfl))
              have HLEN := Lib.hid (show ls.length ≤ 1000000 by rw [HLK.out.len]; omega)
              have HBS := Lib.hid HL6.out.fx.1
              have HLL := Lib.hid (show (ls ++ [Oj.autoS t m K (rw_ rA i) t]).length = i + 1 by rw [List.length_append, HLK.out.len]; rfl)
              obtain ⟨o0, o1, o2⟩ := (HLK.out.later HGW.out).out.p3
              go_wp2_with (at_builtin; refine wpList_appR rfl (.tmp 109) (.tmp 111) rfl rfl b (.slice vx i vc) ls rfl HL6.out.own (.slice (some ⟨g, 0, none⟩) t t) (Oj.autoS t m K (rw_ rA i) t) wr.heap.size rfl (cell_new _ _ _) (HPR.out.later (Gr.new _ _)) HAP.out HLEN.out HBS.out ?_; intro v' wn hown hgrow; obtain ⟨va2, vc2, hv2, -, -⟩ := hown.form; rw [HLL.out] at hv2; subst hv2; have HMID := Lib.hid (HL6.out.mid (by omega) hgrow); have HAPP := Lib.hid (HL6.out.app (by omega) (by omega) hown hgrow (by rw [← HME.out]; rfl)); obtain ⟨e0, e1, e2⟩ := HMID.out.p3; obtain ⟨f0, f1, f2⟩ := HMID.out.f3; clear hown hgrow)
              go_roundw
              case rel => exact ⟨i + 1, va2, vc2, _, by go_num, by omega, HAPP.out⟩
              case measure => simp [intOf]; omega
        · obtain rfl : i = nm := by omega
          have i1 : ¬ (i : Int) < (i : Int) := by omega
          have HD := Lib.hid (HLK.out.done HNM.out)
          obtain ⟨o0, o1, o2⟩ := HLK.out.out.p3
          have HRR := Lib.hid (HLK.out.fx.blk HRB.out (by omega) (by omega))
          obtain ⟨r0, r1, r2⟩ := HRR.out.p3
          obtain ⟨f0, f1, f2⟩ := HRR.out.f3
          clear hmk
          go_wp2_with fail
          have hr := ((HRR.out.set 0 (.int .i64 lv)).set 1 (.bool sp)).set 2 (.slice vx i vc)
          obtain ⟨e0, e1, e2⟩ := (show Blk _ _ _ #[.int .i64 lv, .bool sp, .slice vx i vc] from hr).p3
          refine bodyPost_ret (v := .tuple #[.agg #[.int .i64 lv, .bool sp, .slice vx i vc], .int .i64 0]) (by simp only [Nat.add_assoc, Nat.reduceAdd]; simp [results, Tryz.results25, go_sem, e0, e1, e2]) rfl ?_
          have h := put3b HLK.out.own.hasB HLK.out.gr (k := w.heap.size + 2) (by omega) (by omega) (.int .i64 lv) (.bool sp) (.slice vx i vc)
          rw [HD.out, auto_eq K HEA.out, show rwA (Oj.mods ch S lv sp) (fun i m => (fun m x => Oj.autoR x.length m K x) m (rw_ rA i)) = LS from HLS.out.symm] at h
          exact ⟨lv, sp, _, _, by rw [HE0.out], .inl ⟨HE0.out, rfl, rfl, rfl⟩, h.1, h.2⟩
    · have HE0 := Lib.hid (HNO.out (fun h => by omega))
      have t3 : ((K : Int) % 2 != 1) = true := by simp; omega
      clear k1 k2 k3
      obtain ⟨r0, r1, r2⟩ := HRB.out.p3
      obtain ⟨f0, f1, f2⟩ := HRB.out.f3
      go_wp2_with fail
      have hr := ((HRB.out.set 0 (.int .i64 0)).set 1 (.bool false)).set 2 (.slice none 0 0)
      obtain ⟨e0, e1, e2⟩ := (show Blk _ _ _ #[.int .i64 0, .bool false, .slice none 0 0] from hr).p3
      refine bodyPost_ret (v := .tuple #[.agg #[.int .i64 0, .bool false, .slice none 0 0], .int .i64 2]) (by simp only [Nat.add_assoc, Nat.reduceAdd]; simp [results, Tryz.results25, go_sem, e0, e1, e2]) rfl ?_
      have h := put3b (HasB.nil _ _ _) HG.out (k := w.heap.size + 2) (b := w.heap.size + 2 + 1) (by omega) (by omega) (.int .i64 0) (.bool false) (.slice none 0 0)
      exact ⟨0, false, [], _, by rw [HE0.out], .inr ⟨HE0.out, rfl, rfl, rfl⟩, h.1, h.2⟩
  · have HE0 := Lib.hid (HNO.out (fun h => h1 h.2))
    rw [show chkE N ch S lv sp rA = 2 from if_neg h1]
    clear h1
    obtain ⟨r0, r1, r2⟩ := HRB.out.p3
    obtain ⟨f0, f1, f2⟩ := HRB.out.f3
    go_wp2_with fail
    have hr := ((HRB.out.set 0 (.int .i64 0)).set 1 (.bool false)).set 2 (.slice none 0 0)
    obtain ⟨e0, e1, e2⟩ := (show Blk _ _ _ #[.int .i64 0, .bool false, .slice none 0 0] from hr).p3
    refine bodyPost_ret (v := .tuple #[.agg #[.int .i64 0, .bool false, .slice none 0 0], .int .i64 2]) (by simp only [Nat.add_assoc, Nat.reduceAdd]; simp [results, Tryz.results25, go_sem, e0, e1, e2]) rfl ?_
    have h := put3b (HasB.nil _ _ _) HG.out (k := w.heap.size + 2) (b := w.heap.size + 2 + 1) (by omega) (by omega) (.int .i64 0) (.bool false) (.slice none 0 0)
    exact ⟨0, false, [], _, by rw [HE0.out], .inr ⟨HE0.out, rfl, rfl, rfl⟩, h.1, h.2⟩
end Go.Proofs.YtlfiakpmnkhcdaaGreat.Mo
