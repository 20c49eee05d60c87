/- The reference's Ternary. -/
import Derived.Test.YtmankcmmlcfbaaaVo
namespace Go.Proofs.Ytmankcmmlcfbaaa
open Go.RowKit Ov
set_option linter.unusedVariables false
set_option maxRecDepth 100000 in
set_option maxHeartbeats 4000000 in
theorem rTernary_any (b : Nat) (s : ByteArray) (p : Nat) (n0 h0 : Int) (w : World) (hS : Rup w b s p) : Calls Try.prog 28 #[.pointer (some ⟨b, 0, none⟩), .int .i64 n0, .int .i64 h0] w (RResL8 b s (rTern s n0 h0 p) w) := by
  have H := Lib.hid hS
  have c0 := hS.c1
  by_cases hv : 1 ≤ n0 ∧ n0 ≤ 4096 ∧ 0 ≤ h0 ∧ h0 ≤ n0
  · obtain ⟨n, rfl⟩ : ∃ m : Nat, n0 = m := ⟨n0.toNat, by omega⟩
    obtain ⟨h, rfl⟩ : ∃ m : Nat, h0 = m := ⟨h0.toNat, by omega⟩
    have HR1 := Lib.hid (fun L O q => show tern s n p h = some (L, O, q) → rTern s n h p = (O, 0, q) from fun e => by unfold rTern; rw [if_pos hv, Int.toNat_natCast, Int.toNat_natCast, e])
    have HR2 := Lib.hid (show tern s n p h = none → rTern s n h p = ([], 4, p) from fun e => by unfold rTern; rw [if_pos hv, Int.toNat_natCast, Int.toNat_natCast, e])
    generalize rTern s n h p = R at HR1 HR2 ⊢
    obtain ⟨hv1, hv2, hv3, hv4⟩ := hv
    have hn1 : 1 ≤ n := by omega
    have hn : n ≤ 4096 := by omega
    have hh : h ≤ n := by omega
    have t1 : ¬ (n : Int) < 1 := by omega
    have t2 : ¬ (4096 : Int) < (n : Int) := by omega
    have t3 : ¬ (h : Int) < 0 := by omega
    have t4 : ¬ (n : Int) < (h : Int) := by omega
    have HLT := Lib.hid hS.lt
    have HPL := Lib.hid hS.place
    have hmk := Li.mk_row n (n : Int) rfl (by omega)
    have HMK8 := Lib.hid (L8.mk_row n (n : Int) rfl (by omega))
    obtain ⟨G, hG⟩ : ∃ G, G = w.heap.size := ⟨_, rfl⟩
    rw [← hG] at HLT
    have HGG := Lib.hid hG
    clear hS hG
    go_enter Try.func28, Try.ntmps28
    go_wp2_with fail
    clear hmk
    rw [← HGG.out]
    go_loopw [10] (fun x wr => ∃ (i : Nat), x = .int .i64 (i : Nat) ∧ i ≤ n ∧ Li.Row wr G (up n i) ∧ wr.heap.size = G + 1 ∧ Gr w wr) (fun x _ => n - (intOf x).toNat)
    case atStart =>
      have := Li.Row.zeros w n
      rw [← HGG.out] at this
      exact ⟨0, rfl, by omega, by simpa [up] using this, by simp [HGG.out], Gr.new w _⟩
    case round =>
      obtain ⟨i, rfl, hi, hrow, hsz, hg⟩ := hrel
      have HROW := Lib.hid hrow
      have HG := Lib.hid hg
      have HSZ := Lib.hid hsz
      clear hrow hg hsz
      have hcase : i < n ∨ ¬ i < n := Classical.em _
      rcases hcase with hc | hc
      · have hci : (i : Int) < (n : Int) := by omega
        have hcl := HROW.out.cell (j := i) (by rw [up_len hi]; exact hc)
        have hfz := HROW.out.frozen i
        go_wp2_with fail
        go_roundw
        case rel =>
          refine ⟨i + 1, by simp, by omega, ?_, by simp [HSZ.out], HG.out.setCell (by simp [HGG.out]) _⟩
          rw [← up_set hc]
          exact HROW.out.setAt (by rw [up_len hi]; exact hc) (by omega)
        case measure => simp [intOf]; omega
      · obtain rfl : n = i := by omega
        have hmk8 := HMK8.out
        go_wp2_with fail
        clear hmk8
        rw [HSZ.out]
        have hsz0 : wr.heap.size = G + 1 := HSZ.out
        generalize hW : wr.alloc (.cells (L8.zrow n) 50) = W
        have hszW : W.heap.size = G + 2 := by rw [← hW]; simp [hsz0]
        have HR1' := Lib.hid (show Li.Row W G (up n n) from by rw [← hW]; exact HROW.out.later (Gr.new wr _))
        have HR2' := Lib.hid (show L8.Row W (G + 1) (List.replicate n 0) from by rw [← hW, ← hsz0]; exact L8.Row.zeros wr n)
        have HGW := Lib.hid (show Gr w W from by rw [← hW]; exact HG.out.alloc _)
        have HSW := Lib.hid hszW
        clear hsz0 hszW hc hi
        have hG0 : b < G := HLT.out
        go_loopw [12] (fun x wr => ∃ (i q : Nat) (L O : List Int), x = .int .i64 (i : Nat) ∧ i ≤ h ∧ tern s n p i = some (L, O, q) ∧ Li.Row wr G L ∧ L8.Row wr (G + 1) O ∧ Rup wr b s q ∧ Ex b w wr) (fun x _ => h - (intOf x).toNat)
        case atStart =>
          exact ⟨0, p, up n n, List.replicate n 0, rfl, by omega, by rw [up_full]; rfl, HR1'.out, HR2'.out, H.out.later HGW.out, Ex.of HGW.out b⟩
        case round =>
          obtain ⟨i, q, L, O, rfl, hi, hm, hL, hO, hs, hx⟩ := hrel
          have TI := Lib.hid (ternI HPL.out (show i ≤ n by omega) hm)
          have HM := Lib.hid hm
          have HL := Lib.hid hL
          have HO := Lib.hid hO
          have HS := Lib.hid hs
          have HX := Lib.hid hx
          clear hm hL hO hs hx
          have hcase : i < h ∨ ¬ i < h := Classical.em _
          rcases hcase with hc | hc
          · have hci : (i : Int) < (h : Int) := by omega
            obtain ⟨m, hm⟩ : ∃ m, m = n - i := ⟨_, rfl⟩
            have hmi : (n : Int) - (i : Int) = (m : Int) := by omega
            have HMM := Lib.hid hm
            have hm1 : 1 ≤ m ∧ m ≤ 4096 := by omega
            clear hm
            have HB := Lib.hid (rbelow_any b s m q wr HS.out ⟨hm1.1, by omega⟩)
            have hbc : (∃ v q', bel s m q = some (v, q') ∧ q' < nbits s) ∨ (∃ v q', bel s m q = some (v, q') ∧ nbits s ≤ q') ∨ bel s m q = none := by
              cases hh : bel s m q with
              | none => exact .inr (.inr rfl)
              | some x =>
                rcases Nat.lt_or_ge x.2 (nbits s) with h1 | h1
                · exact .inl ⟨x.1, x.2, rfl, h1⟩
                · exact .inr (.inl ⟨x.1, x.2, rfl, h1⟩)
            rcases hbc with ⟨v, q', hbel, hq'⟩ | ⟨v, q', hbel, hq'⟩ | hbel
            rotate_left 2
            · have HBEL := Lib.hid hbel
              clear hbel
              go_wp2_with (first | (go_at_call 48; refine HB.out.mono ?_; rintro e w2 (⟨v2, q2, hb2, _⟩ | ⟨h0, rfl, ⟨q3, hs2⟩, hx2⟩); (exfalso; have := HBEL.out; rw [hb2] at this; cases this)) | (go_at_call 49; refine (rbit_any b s q3 w2 hs2).mono ?_; rintro e w3 (⟨_, rfl, hs3, hx3⟩ | ⟨_, rfl, hs3, hx3⟩); (have c2 := hs3.c1; have f2 := hs3.fz 1); rotate_left; (have c2 := hs3.c1; have f2 := hs3.fz 1)))
              all_goals
                go_ret2
                exact rresL8 (HR2.out (tern_none (show i + 1 ≤ h from by omega) (tern_stop HM.out (by rw [← HMM.out]; exact HBEL.out)))) rfl (L8.HasQ.nil _) (fun x hx => by cases hx) (hs3.set rfl HPL.out) ((HX.out.trans (hx2.trans hx3)).setCell (.inl rfl) _)
            · have HBEL := Lib.hid hbel
              have HQ' := Lib.hid hq'
              have hvm := (bel_some hbel).1
              obtain ⟨o, ho⟩ : ∃ o, o = i + v := ⟨_, rfl⟩
              have hon : o < n := by have := HMM.out; omega
              have hio : (i : Int) + (v : Int) = (o : Int) := by omega
              have HOO := Lib.hid ho
              have HVM := Lib.hid hvm
              have rx := TI.out.rng i (by omega)
              have ry := TI.out.rng o hon
              obtain ⟨x, hx⟩ : ∃ x : Nat, Op.cf L i = (x : Int) := ⟨(Op.cf L i).toNat, by omega⟩
              obtain ⟨y, hy⟩ : ∃ y : Nat, Op.cf L o = (y : Int) := ⟨(Op.cf L o).toNat, by omega⟩
              rw [hx] at rx
              rw [hy] at ry
              have hxn : x < n := by omega
              have hyn : y < n := by omega
              have HXX := Lib.hid hx
              have HYY := Lib.hid hy
              have HLL := Lib.hid (TI.out.ll)
              have HLO := Lib.hid (TI.out.lo)
              clear hbel hvm hq' ho hx hy rx ry
              obtain ⟨SW, hSW⟩ : ∃ SW, SW = sw L i o := ⟨_, rfl⟩
              have HSW2 := Lib.hid hSW
              clear hSW
              obtain ⟨z, hz⟩ : ∃ z, z = bit s q' := ⟨_, rfl⟩
              have hz2 : z < 2 := by rw [hz]; exact bit_lt s q'
              have hz3 : (z : Int) ≤ 1 := by omega
              have HZ := Lib.hid hz
              clear hz
              go_wp2_with (first | (go_at_call 48; refine HB.out.mono ?_; rintro e w2 (⟨v2, q2, hb2, rfl, hs2, hx2⟩ | ⟨h0, _⟩); rotate_left; (exfalso; have := HBEL.out; rw [h0] at this; cases this); (have hb3 := hb2.symm.trans HBEL.out; cases hb3; clear hb2)) | (go_at_call 49; refine (rbit_any b s q' w2 hs2).mono ?_; rintro e w3 (⟨_, rfl, hs3, hx3⟩ | ⟨h0, _⟩); rotate_left; (exfalso; have := HQ'.out; omega); rw [← HZ.out]; (have HS2 := Lib.hid hs3; have HX2 := Lib.hid (hx2.trans hx3)); (have HL2 := Lib.hid (HL.out.same (HX2.out.block _ HL.out.lt (by omega)))); (have HO2 := Lib.hid (HO.out.same (HX2.out.block _ HO.out.lt (by omega)))); (have c1 := (HL2.out.cell (j := i) (by rw [HLL.out]; omega)).trans (by rw [HXX.out])); (have c2 := (HL2.out.cell (j := o) (by rw [HLL.out]; omega)).trans (by rw [HYY.out])); (have f1 := HL2.out.frozen i; have f2 := HL2.out.frozen o); clear hs2 hx2 hs3 hx3))
              have hcs : i = o ∨ (¬ i = o ∧ ¬ o = i) := by omega
              rcases hcs with he | ⟨he1, he2⟩
              · subst he
                go_region
                have HL3 := Lib.hid (show Li.Row (((w3.setCell ⟨G, i, none⟩ (.int .i64 (x : Nat))).setCell ⟨G, i, none⟩ (.int .i64 (x : Nat))).drew) G SW from by
                  have h1 := (HL2.out.setAt (k := i) (x := (x : Nat)) (by rw [HLL.out]; omega) (by omega)).setAt (k := i) (x := (x : Nat)) (by rw [List.length_set, HLL.out]; omega) (by omega)
                  have e : SW = (L.set i (x : Nat)).set i (x : Nat) := by rw [HSW2.out, sw, HXX.out]
                  rw [e]; exact h1.later ((Gr.refl _).drewN 1))
                have HO3 := Lib.hid (show L8.Row (((w3.setCell ⟨G, i, none⟩ (.int .i64 (x : Nat))).setCell ⟨G, i, none⟩ (.int .i64 (x : Nat))).drew) (G + 1) O from HO2.out.same (by
                  show ((w3.setCell ⟨G, i, none⟩ (.int .i64 (x : Nat))).setCell ⟨G, i, none⟩ (.int .i64 (x : Nat))).heap[G + 1]? = _
                  rw [Below.heap_setCell _ _ _ _ (by simp), Below.heap_setCell _ _ _ _ (by simp)]))
                have HS3 := Lib.hid (show Rup (((w3.setCell ⟨G, i, none⟩ (.int .i64 (x : Nat))).setCell ⟨G, i, none⟩ (.int .i64 (x : Nat))).drew) b s (q' + 1) from Rup.later ((HS2.out.other (a := ⟨G, i, none⟩) (by simp; omega) _).other (a := ⟨G, i, none⟩) (by simp; omega) _) ((Gr.refl _).drewN 1))
                have HX3 := Lib.hid (show Ex b w (((w3.setCell ⟨G, i, none⟩ (.int .i64 (x : Nat))).setCell ⟨G, i, none⟩ (.int .i64 (x : Nat))).drew) from (((HX.out.trans HX2.out).setCell (p := ⟨G, i, none⟩) (.inr (by simp [HGG.out])) _).setCell (p := ⟨G, i, none⟩) (.inr (by simp [HGG.out])) _).drewN 1)
                have HY3 := Lib.hid (show Op.cf SW i = (x : Nat) from by
                  rw [HSW2.out, sw_at L i i (by rw [HLL.out]; omega) (by rw [HLL.out]; omega)]
                  rw [if_pos rfl]; exact HXX.out)
                generalize ((w3.setCell ⟨G, i, none⟩ (.int .i64 (x : Nat))).setCell ⟨G, i, none⟩ (.int .i64 (x : Nat))).drew = W3 at HL3 HO3 HS3 HX3 ⊢
                clear f1 f2 c1 c2
                have c1 := (HL3.out.cell (j := i) (by rw [HSW2.out, sw_len, HLL.out]; omega)).trans (by rw [HY3.out])
                have c2 := HO3.out.cell (j := x) (by rw [HLO.out]; omega)
                have f2 := HO3.out.frozen x
                go_wp2_with fail
                go_roundw
                case rel =>
                  have hst := tern_step HM.out (by rw [← HMM.out]; exact HBEL.out) HQ'.out
                  rw [← HOO.out, ← HSW2.out, HY3.out, Int.toNat_natCast, ← HZ.out] at hst
                  refine ⟨i + 1, q' + 1, SW, _, by simp, by omega, hst, ?_, ?_, ?_, ?_⟩
                  · exact HL3.out.same (Below.heap_setCell _ _ _ _ (by simp))
                  · exact HO3.out.setAt (by rw [HLO.out]; omega) (by omega)
                  · exact HS3.out.other (by simp; omega) _
                  · exact HX3.out.setCell (.inr (by simp; have := HGG.out; omega)) _
                case measure => simp [intOf]; omega
              · go_region
                have HL3 := Lib.hid (show Li.Row (((w3.setCell ⟨G, i, none⟩ (.int .i64 (y : Nat))).setCell ⟨G, o, none⟩ (.int .i64 (x : Nat))).drew) G SW from by
                  have h1 := (HL2.out.setAt (k := i) (x := (y : Nat)) (by rw [HLL.out]; omega) (by omega)).setAt (k := o) (x := (x : Nat)) (by rw [List.length_set, HLL.out]; omega) (by omega)
                  have e : SW = (L.set i (y : Nat)).set o (x : Nat) := by rw [HSW2.out, sw, HXX.out, HYY.out]
                  rw [e]; exact h1.later ((Gr.refl _).drewN 1))
                have HO3 := Lib.hid (show L8.Row (((w3.setCell ⟨G, i, none⟩ (.int .i64 (y : Nat))).setCell ⟨G, o, none⟩ (.int .i64 (x : Nat))).drew) (G + 1) O from HO2.out.same (by
                  show ((w3.setCell ⟨G, i, none⟩ (.int .i64 (y : Nat))).setCell ⟨G, o, none⟩ (.int .i64 (x : Nat))).heap[G + 1]? = _
                  rw [Below.heap_setCell _ _ _ _ (by simp), Below.heap_setCell _ _ _ _ (by simp)]))
                have HS3 := Lib.hid (show Rup (((w3.setCell ⟨G, i, none⟩ (.int .i64 (y : Nat))).setCell ⟨G, o, none⟩ (.int .i64 (x : Nat))).drew) b s (q' + 1) from Rup.later ((HS2.out.other (a := ⟨G, i, none⟩) (by simp; omega) _).other (a := ⟨G, o, none⟩) (by simp; omega) _) ((Gr.refl _).drewN 1))
                have HX3 := Lib.hid (show Ex b w (((w3.setCell ⟨G, i, none⟩ (.int .i64 (y : Nat))).setCell ⟨G, o, none⟩ (.int .i64 (x : Nat))).drew) from (((HX.out.trans HX2.out).setCell (p := ⟨G, i, none⟩) (.inr (by simp [HGG.out])) _).setCell (p := ⟨G, o, none⟩) (.inr (by simp [HGG.out])) _).drewN 1)
                have HY3 := Lib.hid (show Op.cf SW i = (y : Nat) from by
                  rw [HSW2.out, sw_at L i o (by rw [HLL.out]; omega) (by rw [HLL.out]; omega)]
                  rw [if_neg he1, if_pos rfl]; exact HYY.out)
                generalize ((w3.setCell ⟨G, i, none⟩ (.int .i64 (y : Nat))).setCell ⟨G, o, none⟩ (.int .i64 (x : Nat))).drew = W3 at HL3 HO3 HS3 HX3 ⊢
                clear f1 f2 c1 c2
                have c1 := (HL3.out.cell (j := i) (by rw [HSW2.out, sw_len, HLL.out]; omega)).trans (by rw [HY3.out])
                have c2 := HO3.out.cell (j := y) (by rw [HLO.out]; omega)
                have f2 := HO3.out.frozen y
                go_wp2_with fail
                go_roundw
                case rel =>
                  have hst := tern_step HM.out (by rw [← HMM.out]; exact HBEL.out) HQ'.out
                  rw [← HOO.out, ← HSW2.out, HY3.out, Int.toNat_natCast, ← HZ.out] at hst
                  refine ⟨i + 1, q' + 1, SW, _, by simp, by omega, hst, ?_, ?_, ?_, ?_⟩
                  · exact HL3.out.same (Below.heap_setCell _ _ _ _ (by simp))
                  · exact HO3.out.setAt (by rw [HLO.out]; omega) (by omega)
                  · exact HS3.out.other (by simp; omega) _
                  · exact HX3.out.setCell (.inr (by simp; have := HGG.out; omega)) _
                case measure => simp [intOf]; omega
            · have HBEL := Lib.hid hbel
              have HQ' := Lib.hid hq'
              clear hbel hq'
              go_wp2_with (first | (go_at_call 48; refine HB.out.mono ?_; rintro e w2 (⟨v2, q2, hb2, rfl, hs2, hx2⟩ | ⟨h0, _⟩); rotate_left; (exfalso; have := HBEL.out; rw [h0] at this; cases this); (have hb3 := hb2.symm.trans HBEL.out; cases hb3; clear hb2)) | (go_at_call 49; refine (rbit_any b s q' w2 hs2).mono ?_; rintro e w3 (⟨h0, _⟩ | ⟨_, rfl, hs3, hx3⟩); (exfalso; have := HQ'.out; omega); (have c2 := hs3.c1; have f2 := hs3.fz 1)))
              go_ret2
              exact rresL8 (HR2.out (tern_none (show i + 1 ≤ h from by omega) (tern_end HM.out (by rw [← HMM.out]; exact HBEL.out) HQ'.out))) rfl (L8.HasQ.nil _) (fun x hx => by cases hx) (hs3.set rfl HPL.out) ((HX.out.trans (hx2.trans hx3)).setCell (.inl rfl) _)
          · obtain rfl : h = i := by omega
            go_wp2_with fail
            go_ret2
            have hq := HO.out.hasQ (cap := n) (by rw [TI.out.lo]; omega) (by omega)
            rw [TI.out.lo] at hq
            exact rresL8 (HR1.out _ _ _ HM.out) rfl hq (fun x hx => by cases hx; simp; have := HGG.out; omega) HS.out HX.out
  · have HR := Lib.hid (show rTern s n0 h0 p = ([], 2, p) from by unfold rTern; rw [if_neg hv])
    have hc : n0 < 1 ∨ (¬ n0 < 1 ∧ 4096 < n0) ∨ (¬ n0 < 1 ∧ ¬ 4096 < n0 ∧ h0 < 0) ∨ (¬ n0 < 1 ∧ ¬ 4096 < n0 ∧ ¬ h0 < 0 ∧ n0 < h0) := by omega
    clear hS hv
    rcases hc with hc | ⟨hc1, hc2⟩ | ⟨hc1, hc2, hc3⟩ | ⟨hc1, hc2, hc3, hc4⟩
    all_goals
      go_enter Try.func28, Try.ntmps28
      go_wp2_with fail
      go_ret2
      exact rresL8 HR.out rfl (L8.HasQ.nil _) (fun x hx => by cases hx) H.out (Ex.refl b w)
end Go.Proofs.Ytmankcmmlcfbaaa
