/- The marks of a ternary list, made by the program. -/
import Derived.Test.YtmankcmmlcfbaaaVe
import Derived.Test.YtmankcmmlcfbaaaL8
import Derived.Test.YtmankcmmlcfbaaaLi
namespace Ov
set_option linter.unusedVariables false
def up (n i : Nat) : List Int := (List.range i).map (fun (i : Nat) => (i : Int)) ++ List.replicate (n - i) 0
theorem up_full (n : Nat) : up n n = (List.range n).map (fun (i : Nat) => (i : Int)) := by simp [up]
theorem up_len {n i : Nat} (h : i ≤ n) : (up n i).length = n := by simp [up]; omega
theorem up_set {n i : Nat} (h : i < n) : (up n i).set i (i : Int) = up n (i + 1) := by
  unfold up
  have e := Go.Proofs.Ytmankcmmlcfbaaa.Li.set_next ((List.range i).map (fun (i : Nat) => (i : Int))) (n - (i + 1)) (i : Int)
  rw [List.length_map, List.length_range] at e
  rw [show n - i = n - (i + 1) + 1 from by omega, e, List.range_succ, List.map_append]; rfl
end Ov
namespace Go.Proofs.Ytmankcmmlcfbaaa
open Go.RowKit Ov
set_option linter.unusedVariables false

/-- What a function returns that takes a ternary list. -/
def TernP (b g c : Nat) (s : ByteArray) (n h p : Nat) (w : World) (e : Ending) (w' : World) : Prop :=
  (∃ L O q a m k, tern s n p h = some (L, O, q) ∧ e = .returned (.tuple #[.slice a m k, .int .i64 0]) ∧ L8.HasQ w' (.slice a m k) O ∧ (∀ x, a = some x → w.heap.size ≤ x.block) ∧ Sup w' b g c s q ∧ Ex b w w') ∨
  (tern s n p h = none ∧ e = .returned (.tuple #[.slice none 0 0, .int .i64 4]) ∧ (∃ q, Sup w' b g c s q) ∧ Ex b w w')

set_option maxRecDepth 100000 in
set_option maxHeartbeats 4000000 in
theorem signs_any (b g c : Nat) (t : Value) (s : ByteArray) (n h p : Nat) (w : World) (hS : Sup w b g c s p) (ht : IsTk w t b) (hn : n ≤ 4096) (hh : h ≤ n) :
    Calls Try.prog 37 #[t, .int .i64 (n : Nat), .int .i64 (h : Nat)] w (TernP b g c s n h p w) := by
  have H := Lib.hid hS
  obtain ⟨qq, rfl, hqq, hcq⟩ := ht
  have HT := Lib.hid (show IsTk w (.func (.func 56) #[] #[.pointer (some ⟨qq, 0, none⟩)]) b from ⟨qq, rfl, hqq, hcq⟩)
  have HQQ := Lib.hid hqq
  have HCQ := Lib.hid hcq
  have HLT := Lib.hid hS.lt
  have HPL := Lib.hid hS.place
  have hmk := Li.mk_row n (n : Int) rfl (by omega)
  have HMK8 := Lib.hid (L8.mk_row n (n : Int) rfl (by omega))
  obtain ⟨G, hG⟩ : ∃ G, G = w.heap.size := ⟨_, rfl⟩
  rw [← hG] at HLT
  have HGG := Lib.hid hG
  clear hS hqq hcq hG
  go_enter Try.func37, Try.ntmps37
  go_wp2_with fail
  clear hmk
  rw [← HGG.out]
  go_loopw [20] (fun x wr => ∃ (i : Nat), x = .int .i64 (i : Nat) ∧ i ≤ n ∧ Li.Row wr G (up n i) ∧ wr.heap.size = G + 1 ∧ Gr w wr) (fun x _ => n - (intOf x).toNat)
  case atStart =>
    have := Li.Row.zeros w n
    rw [← HGG.out] at this
    exact ⟨0, rfl, by omega, by simpa [up] using this, by simp [HGG.out], Gr.new w _⟩
  case round =>
    obtain ⟨i, rfl, hi, hrow, hsz, hg⟩ := hrel
    have HROW := Lib.hid hrow
    have HG := Lib.hid hg
    have HSZ := Lib.hid hsz
    clear hrow hg hsz
    have hcase : i < n ∨ ¬ i < n := Classical.em _
    rcases hcase with hc | hc
    · have hci : (i : Int) < (n : Int) := by omega
      have hcl := HROW.out.cell (j := i) (by rw [up_len hi]; exact hc)
      have hfz := HROW.out.frozen i
      go_wp2_with fail
      go_roundw
      case rel =>
        refine ⟨i + 1, by simp, by omega, ?_, by simp [HSZ.out], HG.out.setCell (by simp [HGG.out]) _⟩
        rw [← up_set hc]
        exact HROW.out.setAt (by rw [up_len hi]; exact hc) (by omega)
      case measure => simp [intOf]; omega
    · obtain rfl : n = i := by omega
      have hmk8 := HMK8.out
      go_wp2_with fail
      clear hmk8
      rw [HSZ.out]
      have hsz0 : wr.heap.size = G + 1 := HSZ.out
      generalize hW : wr.alloc (.cells (L8.zrow n) 50) = W
      have hszW : W.heap.size = G + 2 := by rw [← hW]; simp [hsz0]
      have HR1 := Lib.hid (show Li.Row W G (up n n) from by rw [← hW]; exact HROW.out.later (Gr.new wr _))
      have HR2 := Lib.hid (show L8.Row W (G + 1) (List.replicate n 0) from by rw [← hW, ← hsz0]; exact L8.Row.zeros wr n)
      have HGW := Lib.hid (show Gr w W from by rw [← hW]; exact HG.out.alloc _)
      have HSW := Lib.hid hszW
      clear hsz0 hszW
      clear hc hi
      obtain ⟨hG0, hg0⟩ : b < G ∧ g < G := HLT.out
      go_loopw [31] (fun x wr => ∃ (i q : Nat) (L O : List Int), x = .int .i64 (i : Nat) ∧ i ≤ h ∧ tern s n p i = some (L, O, q) ∧ Li.Row wr G L ∧ L8.Row wr (G + 1) O ∧ Sup wr b g c s q ∧ IsTk wr (.func (.func 56) #[] #[.pointer (some ⟨qq, 0, none⟩)]) b ∧ Ex b w wr) (fun x _ => h - (intOf x).toNat)
      case atStart =>
        refine ⟨0, p, up n n, List.replicate n 0, rfl, by omega, by rw [up_full]; rfl, HR1.out, HR2.out, H.out.later HGW.out, HT.out.ex (Ex.of HGW.out b), Ex.of HGW.out b⟩
      case round =>
        obtain ⟨i, q, L, O, rfl, hi, hm, hL, hO, hs, htk, hx⟩ := hrel
        have TI := Lib.hid (ternI HPL.out (show i ≤ n by omega) hm)
        have HM := Lib.hid hm
        have HL := Lib.hid hL
        have HO := Lib.hid hO
        have HS := Lib.hid hs
        have HTK := Lib.hid htk
        have HX := Lib.hid hx
        clear hm hL hO hs htk hx
        have hcase : i < h ∨ ¬ i < h := Classical.em _
        rcases hcase with hc | hc
        · have hci : (i : Int) < (h : Int) := by omega
          obtain ⟨m, hm⟩ : ∃ m, m = n - i := ⟨_, rfl⟩
          have hmi : (n : Int) - (i : Int) = (m : Int) := by omega
          have HMM := Lib.hid hm
          have hm1 : 1 ≤ m ∧ m ≤ 4096 := by omega
          clear hm
          have HB := Lib.hid (below_any b g c _ s m q wr HS.out HTK.out ⟨hm1.1, by omega⟩)
          have hbc : (∃ v q', bel s m q = some (v, q') ∧ q' < nbits s) ∨ (∃ v q', bel s m q = some (v, q') ∧ nbits s ≤ q') ∨ bel s m q = none := by
            cases hh : bel s m q with
            | none => exact .inr (.inr rfl)
            | some x =>
              rcases Nat.lt_or_ge x.2 (nbits s) with h1 | h1
              · exact .inl ⟨x.1, x.2, rfl, h1⟩
              · exact .inr (.inl ⟨x.1, x.2, rfl, h1⟩)
          rcases hbc with ⟨v, q', hbel, hq'⟩ | ⟨v, q', hbel, hq'⟩ | hbel
          rotate_left 2
          · have HBEL := Lib.hid hbel
            clear hbel
            go_wp2_with (go_at_call 34; refine HB.out.mono ?_; rintro e w2 (⟨v2, q2, hb2, _⟩ | ⟨h0, rfl, hs2, hx2⟩); (exfalso; have := HBEL.out; rw [hb2] at this; cases this))
            go_ret2
            exact Or.inr ⟨tern_none (show i + 1 ≤ h from by omega) (tern_stop HM.out (by rw [← HMM.out]; exact HBEL.out)), rfl, hs2, HX.out.trans hx2⟩
          all_goals
            have HBEL := Lib.hid hbel
            have hvm := (bel_some hbel).1
            have HQ' := Lib.hid hq'
            obtain ⟨o, ho⟩ : ∃ o, o = i + v := ⟨_, rfl⟩
            have hon : o < n := by have := HMM.out; omega
            have hio : (i : Int) + (v : Int) = (o : Int) := by omega
            have HOO := Lib.hid ho
            have HVM := Lib.hid hvm
            have rx := TI.out.rng i (by omega)
            have ry := TI.out.rng o hon
            obtain ⟨x, hx⟩ : ∃ x : Nat, Op.cf L i = (x : Int) := ⟨(Op.cf L i).toNat, by omega⟩
            obtain ⟨y, hy⟩ : ∃ y : Nat, Op.cf L o = (y : Int) := ⟨(Op.cf L o).toNat, by omega⟩
            rw [hx] at rx
            rw [hy] at ry
            have hxn : x < n := by omega
            have hyn : y < n := by omega
            have HXX := Lib.hid hx
            have HYY := Lib.hid hy
            have HLL := Lib.hid (TI.out.ll)
            have HLO := Lib.hid (TI.out.lo)
            clear hbel hvm hq' ho hx hy rx ry
            obtain ⟨SW, hSW⟩ : ∃ SW, SW = sw L i o := ⟨_, rfl⟩
            have HSW2 := Lib.hid hSW
            clear hSW
          · go_wp2_with (first | (go_at_call 34; refine HB.out.mono ?_; rintro e w2 (⟨v2, q2, hb2, rfl, hs2, hx2⟩ | ⟨h0, _⟩); rotate_left; (exfalso; have := HBEL.out; rw [h0] at this; cases this); (have hb3 := hb2.symm.trans HBEL.out; cases hb3; clear hb2); (have HS2 := Lib.hid hs2; have HX2 := Lib.hid hx2); (have HL2 := Lib.hid (HL.out.same (hx2.block _ HL.out.lt (by omega)))); (have HO2 := Lib.hid (HO.out.same (hx2.block _ HO.out.lt (by omega)))); (have c1 := (HL2.out.cell (j := i) (by rw [HLL.out]; omega)).trans (by rw [HXX.out])); (have c2 := (HL2.out.cell (j := o) (by rw [HLL.out]; omega)).trans (by rw [HYY.out])); (have f1 := HL2.out.frozen i; have f2 := HL2.out.frozen o); clear hs2 hx2))
            have hcs : i = o ∨ (¬ i = o ∧ ¬ o = i) := by omega
            rcases hcs with he | ⟨he1, he2⟩
            · subst he
              go_region
              have HL3 := Lib.hid (show Li.Row (((w2.setCell ⟨G, i, none⟩ (.int .i64 (x : Nat))).setCell ⟨G, i, none⟩ (.int .i64 (x : Nat))).drew) G SW from by
                have h1 := (HL2.out.setAt (k := i) (x := (x : Nat)) (by rw [HLL.out]; omega) (by omega)).setAt (k := i) (x := (x : Nat)) (by rw [List.length_set, HLL.out]; omega) (by omega)
                have e : SW = (L.set i (x : Nat)).set i (x : Nat) := by rw [HSW2.out, sw, HXX.out]
                rw [e]; exact h1.later ((Gr.refl _).drewN 1))
              have HO3 := Lib.hid (show L8.Row (((w2.setCell ⟨G, i, none⟩ (.int .i64 (x : Nat))).setCell ⟨G, i, none⟩ (.int .i64 (x : Nat))).drew) (G + 1) O from HO2.out.same (by
                show ((w2.setCell ⟨G, i, none⟩ (.int .i64 (x : Nat))).setCell ⟨G, i, none⟩ (.int .i64 (x : Nat))).heap[G + 1]? = _
                rw [Below.heap_setCell _ _ _ _ (by simp), Below.heap_setCell _ _ _ _ (by simp)]))
              have HS3 := Lib.hid (show Sup (((w2.setCell ⟨G, i, none⟩ (.int .i64 (x : Nat))).setCell ⟨G, i, none⟩ (.int .i64 (x : Nat))).drew) b g c s q' from Sup.later ((HS2.out.other (a := ⟨G, i, none⟩) (by simp; omega) (by simp; omega) _).other (a := ⟨G, i, none⟩) (by simp; omega) (by simp; omega) _) ((Gr.refl _).drewN 1))
              have HX3 := Lib.hid (show Ex b w (((w2.setCell ⟨G, i, none⟩ (.int .i64 (x : Nat))).setCell ⟨G, i, none⟩ (.int .i64 (x : Nat))).drew) from (((HX.out.trans HX2.out).setCell (p := ⟨G, i, none⟩) (.inr (by simp [HGG.out])) _).setCell (p := ⟨G, i, none⟩) (.inr (by simp [HGG.out])) _).drewN 1)
              have HY3 := Lib.hid (show Op.cf SW i = (x : Nat) from by
                rw [HSW2.out, sw_at L i i (by rw [HLL.out]; omega) (by rw [HLL.out]; omega)]
                rw [if_pos rfl]; exact HXX.out)
              generalize ((w2.setCell ⟨G, i, none⟩ (.int .i64 (x : Nat))).setCell ⟨G, i, none⟩ (.int .i64 (x : Nat))).drew = W3 at HL3 HO3 HS3 HX3 ⊢
              clear f1 f2 c1 c2
              have hcq3 := HX3.out.keeps HCQ.out HQQ.out
              have HT1 := Lib.hid (show Calls Try.prog 56 #[.int .i64 1, .pointer (some ⟨qq, 0, none⟩)] W3 (TkP b g c s q' 1 W3) from taker_any b g c qq s q' 1 W3 HS3.out HQQ.out (by omega) hcq3)
              clear hcq3
              obtain ⟨z, hz⟩ : ∃ z, z = bit s q' := ⟨_, rfl⟩
              have hz2 : z < 2 := by rw [hz]; exact bit_lt s q'
              have hz3 : (z : Int) ≤ 1 := by omega
              have HZ := Lib.hid hz
              clear hz
              go_wp2_with (go_at_call 56; refine HT1.out.mono ?_; rintro e w4 (⟨_, rfl, hs4, hx4⟩ | ⟨h0, _⟩); rotate_left; (exfalso; have := HQ'.out; omega); rw [num_one, ← HZ.out]; (have HS4 := Lib.hid hs4; have HX4 := Lib.hid hx4); (have HL4 := Lib.hid (HL3.out.same (hx4.block _ HL3.out.lt (by omega)))); (have HO4 := Lib.hid (HO3.out.same (hx4.block _ HO3.out.lt (by omega)))); (have c1 := (HL4.out.cell (j := i) (by rw [HSW2.out, sw_len, HLL.out]; omega)).trans (by rw [HY3.out])); (have c2 := HO4.out.cell (j := x) (by rw [HLO.out]; omega)); (have f2 := HO4.out.frozen x); clear hs4 hx4)
              go_roundw
              case rel =>
                have hst := tern_step HM.out (by rw [← HMM.out]; exact HBEL.out) HQ'.out
                rw [← HOO.out, ← HSW2.out, HY3.out, Int.toNat_natCast, ← HZ.out] at hst
                refine ⟨i + 1, q' + 1, SW, _, by simp, by omega, hst, ?_, ?_, ?_, ⟨qq, rfl, HQQ.out, ?_⟩, ?_⟩
                · exact HL4.out.same (Below.heap_setCell _ _ _ _ (by simp))
                · exact HO4.out.setAt (by rw [HLO.out]; omega) (by omega)
                · exact HS4.out.other (by simp; omega) (by simp; omega) _
                · exact ((HX3.out.trans HX4.out).setCell (.inr (by simp; have := HGG.out; omega)) _).keeps HCQ.out HQQ.out
                · exact (HX3.out.trans HX4.out).setCell (.inr (by simp; have := HGG.out; omega)) _
              case measure => simp [intOf]; omega
            · go_region
              have HL3 := Lib.hid (show Li.Row (((w2.setCell ⟨G, i, none⟩ (.int .i64 (y : Nat))).setCell ⟨G, o, none⟩ (.int .i64 (x : Nat))).drew) G SW from by
                have h1 := (HL2.out.setAt (k := i) (x := (y : Nat)) (by rw [HLL.out]; omega) (by omega)).setAt (k := o) (x := (x : Nat)) (by rw [List.length_set, HLL.out]; omega) (by omega)
                have e : SW = (L.set i (y : Nat)).set o (x : Nat) := by rw [HSW2.out, sw, HXX.out, HYY.out]
                rw [e]; exact h1.later ((Gr.refl _).drewN 1))
              have HO3 := Lib.hid (show L8.Row (((w2.setCell ⟨G, i, none⟩ (.int .i64 (y : Nat))).setCell ⟨G, o, none⟩ (.int .i64 (x : Nat))).drew) (G + 1) O from HO2.out.same (by
                show ((w2.setCell ⟨G, i, none⟩ (.int .i64 (y : Nat))).setCell ⟨G, o, none⟩ (.int .i64 (x : Nat))).heap[G + 1]? = _
                rw [Below.heap_setCell _ _ _ _ (by simp), Below.heap_setCell _ _ _ _ (by simp)]))
              have HS3 := Lib.hid (show Sup (((w2.setCell ⟨G, i, none⟩ (.int .i64 (y : Nat))).setCell ⟨G, o, none⟩ (.int .i64 (x : Nat))).drew) b g c s q' from Sup.later ((HS2.out.other (a := ⟨G, i, none⟩) (by simp; omega) (by simp; omega) _).other (a := ⟨G, o, none⟩) (by simp; omega) (by simp; omega) _) ((Gr.refl _).drewN 1))
              have HX3 := Lib.hid (show Ex b w (((w2.setCell ⟨G, i, none⟩ (.int .i64 (y : Nat))).setCell ⟨G, o, none⟩ (.int .i64 (x : Nat))).drew) from (((HX.out.trans HX2.out).setCell (p := ⟨G, i, none⟩) (.inr (by simp [HGG.out])) _).setCell (p := ⟨G, o, none⟩) (.inr (by simp [HGG.out])) _).drewN 1)
              have HY3 := Lib.hid (show Op.cf SW i = (y : Nat) from by
                rw [HSW2.out, sw_at L i o (by rw [HLL.out]; omega) (by rw [HLL.out]; omega)]
                rw [if_neg he1, if_pos rfl]; exact HYY.out)
              generalize ((w2.setCell ⟨G, i, none⟩ (.int .i64 (y : Nat))).setCell ⟨G, o, none⟩ (.int .i64 (x : Nat))).drew = W3 at HL3 HO3 HS3 HX3 ⊢
              clear f1 f2 c1 c2
              have hcq3 := HX3.out.keeps HCQ.out HQQ.out
              have HT1 := Lib.hid (show Calls Try.prog 56 #[.int .i64 1, .pointer (some ⟨qq, 0, none⟩)] W3 (TkP b g c s q' 1 W3) from taker_any b g c qq s q' 1 W3 HS3.out HQQ.out (by omega) hcq3)
              clear hcq3
              obtain ⟨z, hz⟩ : ∃ z, z = bit s q' := ⟨_, rfl⟩
              have hz2 : z < 2 := by rw [hz]; exact bit_lt s q'
              have hz3 : (z : Int) ≤ 1 := by omega
              have HZ := Lib.hid hz
              clear hz
              go_wp2_with (go_at_call 56; refine HT1.out.mono ?_; rintro e w4 (⟨_, rfl, hs4, hx4⟩ | ⟨h0, _⟩); rotate_left; (exfalso; have := HQ'.out; omega); rw [num_one, ← HZ.out]; (have HS4 := Lib.hid hs4; have HX4 := Lib.hid hx4); (have HL4 := Lib.hid (HL3.out.same (hx4.block _ HL3.out.lt (by omega)))); (have HO4 := Lib.hid (HO3.out.same (hx4.block _ HO3.out.lt (by omega)))); (have c1 := (HL4.out.cell (j := i) (by rw [HSW2.out, sw_len, HLL.out]; omega)).trans (by rw [HY3.out])); (have c2 := HO4.out.cell (j := y) (by rw [HLO.out]; omega)); (have f2 := HO4.out.frozen y); clear hs4 hx4)
              go_roundw
              case rel =>
                have hst := tern_step HM.out (by rw [← HMM.out]; exact HBEL.out) HQ'.out
                rw [← HOO.out, ← HSW2.out, HY3.out, Int.toNat_natCast, ← HZ.out] at hst
                refine ⟨i + 1, q' + 1, SW, _, by simp, by omega, hst, ?_, ?_, ?_, ⟨qq, rfl, HQQ.out, ?_⟩, ?_⟩
                · exact HL4.out.same (Below.heap_setCell _ _ _ _ (by simp))
                · exact HO4.out.setAt (by rw [HLO.out]; omega) (by omega)
                · exact HS4.out.other (by simp; omega) (by simp; omega) _
                · exact ((HX3.out.trans HX4.out).setCell (.inr (by simp; have := HGG.out; omega)) _).keeps HCQ.out HQQ.out
                · exact (HX3.out.trans HX4.out).setCell (.inr (by simp; have := HGG.out; omega)) _
              case measure => simp [intOf]; omega
          · go_wp2_with (first | (go_at_call 34; refine HB.out.mono ?_; rintro e w2 (⟨v2, q2, hb2, rfl, hs2, hx2⟩ | ⟨h0, _⟩); rotate_left; (exfalso; have := HBEL.out; rw [h0] at this; cases this); (have hb3 := hb2.symm.trans HBEL.out; cases hb3; clear hb2); (have HS2 := Lib.hid hs2; have HX2 := Lib.hid hx2); (have HL2 := Lib.hid (HL.out.same (hx2.block _ HL.out.lt (by omega)))); (have HO2 := Lib.hid (HO.out.same (hx2.block _ HO.out.lt (by omega)))); (have c1 := (HL2.out.cell (j := i) (by rw [HLL.out]; omega)).trans (by rw [HXX.out])); (have c2 := (HL2.out.cell (j := o) (by rw [HLL.out]; omega)).trans (by rw [HYY.out])); (have f1 := HL2.out.frozen i; have f2 := HL2.out.frozen o); clear hs2 hx2))
            have hcs : i = o ∨ (¬ i = o ∧ ¬ o = i) := by omega
            rcases hcs with he | ⟨he1, he2⟩
            · subst he
              go_region
              have HL3 := Lib.hid (show Li.Row (((w2.setCell ⟨G, i, none⟩ (.int .i64 (x : Nat))).setCell ⟨G, i, none⟩ (.int .i64 (x : Nat))).drew) G SW from by
                have h1 := (HL2.out.setAt (k := i) (x := (x : Nat)) (by rw [HLL.out]; omega) (by omega)).setAt (k := i) (x := (x : Nat)) (by rw [List.length_set, HLL.out]; omega) (by omega)
                have e : SW = (L.set i (x : Nat)).set i (x : Nat) := by rw [HSW2.out, sw, HXX.out]
                rw [e]; exact h1.later ((Gr.refl _).drewN 1))
              have HO3 := Lib.hid (show L8.Row (((w2.setCell ⟨G, i, none⟩ (.int .i64 (x : Nat))).setCell ⟨G, i, none⟩ (.int .i64 (x : Nat))).drew) (G + 1) O from HO2.out.same (by
                show ((w2.setCell ⟨G, i, none⟩ (.int .i64 (x : Nat))).setCell ⟨G, i, none⟩ (.int .i64 (x : Nat))).heap[G + 1]? = _
                rw [Below.heap_setCell _ _ _ _ (by simp), Below.heap_setCell _ _ _ _ (by simp)]))
              have HS3 := Lib.hid (show Sup (((w2.setCell ⟨G, i, none⟩ (.int .i64 (x : Nat))).setCell ⟨G, i, none⟩ (.int .i64 (x : Nat))).drew) b g c s q' from Sup.later ((HS2.out.other (a := ⟨G, i, none⟩) (by simp; omega) (by simp; omega) _).other (a := ⟨G, i, none⟩) (by simp; omega) (by simp; omega) _) ((Gr.refl _).drewN 1))
              have HX3 := Lib.hid (show Ex b w (((w2.setCell ⟨G, i, none⟩ (.int .i64 (x : Nat))).setCell ⟨G, i, none⟩ (.int .i64 (x : Nat))).drew) from (((HX.out.trans HX2.out).setCell (p := ⟨G, i, none⟩) (.inr (by simp [HGG.out])) _).setCell (p := ⟨G, i, none⟩) (.inr (by simp [HGG.out])) _).drewN 1)
              have HY3 := Lib.hid (show Op.cf SW i = (x : Nat) from by
                rw [HSW2.out, sw_at L i i (by rw [HLL.out]; omega) (by rw [HLL.out]; omega)]
                rw [if_pos rfl]; exact HXX.out)
              generalize ((w2.setCell ⟨G, i, none⟩ (.int .i64 (x : Nat))).setCell ⟨G, i, none⟩ (.int .i64 (x : Nat))).drew = W3 at HL3 HO3 HS3 HX3 ⊢
              clear f1 f2 c1 c2
              have hcq3 := HX3.out.keeps HCQ.out HQQ.out
              have HT1 := Lib.hid (show Calls Try.prog 56 #[.int .i64 1, .pointer (some ⟨qq, 0, none⟩)] W3 (TkP b g c s q' 1 W3) from taker_any b g c qq s q' 1 W3 HS3.out HQQ.out (by omega) hcq3)
              clear hcq3
              go_wp2_with (go_at_call 56; refine HT1.out.mono ?_; rintro e w4 (⟨h0, _⟩ | ⟨_, rfl, hs4, hx4⟩); (exfalso; have := HQ'.out; omega))
              go_ret2
              exact Or.inr ⟨tern_none (show i + 1 ≤ h from by omega) (tern_end HM.out (by rw [← HMM.out]; exact HBEL.out) HQ'.out), rfl, ⟨_, hs4⟩, HX3.out.trans hx4⟩
            · go_region
              have HL3 := Lib.hid (show Li.Row (((w2.setCell ⟨G, i, none⟩ (.int .i64 (y : Nat))).setCell ⟨G, o, none⟩ (.int .i64 (x : Nat))).drew) G SW from by
                have h1 := (HL2.out.setAt (k := i) (x := (y : Nat)) (by rw [HLL.out]; omega) (by omega)).setAt (k := o) (x := (x : Nat)) (by rw [List.length_set, HLL.out]; omega) (by omega)
                have e : SW = (L.set i (y : Nat)).set o (x : Nat) := by rw [HSW2.out, sw, HXX.out, HYY.out]
                rw [e]; exact h1.later ((Gr.refl _).drewN 1))
              have HO3 := Lib.hid (show L8.Row (((w2.setCell ⟨G, i, none⟩ (.int .i64 (y : Nat))).setCell ⟨G, o, none⟩ (.int .i64 (x : Nat))).drew) (G + 1) O from HO2.out.same (by
                show ((w2.setCell ⟨G, i, none⟩ (.int .i64 (y : Nat))).setCell ⟨G, o, none⟩ (.int .i64 (x : Nat))).heap[G + 1]? = _
                rw [Below.heap_setCell _ _ _ _ (by simp), Below.heap_setCell _ _ _ _ (by simp)]))
              have HS3 := Lib.hid (show Sup (((w2.setCell ⟨G, i, none⟩ (.int .i64 (y : Nat))).setCell ⟨G, o, none⟩ (.int .i64 (x : Nat))).drew) b g c s q' from Sup.later ((HS2.out.other (a := ⟨G, i, none⟩) (by simp; omega) (by simp; omega) _).other (a := ⟨G, o, none⟩) (by simp; omega) (by simp; omega) _) ((Gr.refl _).drewN 1))
              have HX3 := Lib.hid (show Ex b w (((w2.setCell ⟨G, i, none⟩ (.int .i64 (y : Nat))).setCell ⟨G, o, none⟩ (.int .i64 (x : Nat))).drew) from (((HX.out.trans HX2.out).setCell (p := ⟨G, i, none⟩) (.inr (by simp [HGG.out])) _).setCell (p := ⟨G, o, none⟩) (.inr (by simp [HGG.out])) _).drewN 1)
              have HY3 := Lib.hid (show Op.cf SW i = (y : Nat) from by
                rw [HSW2.out, sw_at L i o (by rw [HLL.out]; omega) (by rw [HLL.out]; omega)]
                rw [if_neg he1, if_pos rfl]; exact HYY.out)
              generalize ((w2.setCell ⟨G, i, none⟩ (.int .i64 (y : Nat))).setCell ⟨G, o, none⟩ (.int .i64 (x : Nat))).drew = W3 at HL3 HO3 HS3 HX3 ⊢
              clear f1 f2 c1 c2
              have hcq3 := HX3.out.keeps HCQ.out HQQ.out
              have HT1 := Lib.hid (show Calls Try.prog 56 #[.int .i64 1, .pointer (some ⟨qq, 0, none⟩)] W3 (TkP b g c s q' 1 W3) from taker_any b g c qq s q' 1 W3 HS3.out HQQ.out (by omega) hcq3)
              clear hcq3
              go_wp2_with (go_at_call 56; refine HT1.out.mono ?_; rintro e w4 (⟨h0, _⟩ | ⟨_, rfl, hs4, hx4⟩); (exfalso; have := HQ'.out; omega))
              go_ret2
              exact Or.inr ⟨tern_none (show i + 1 ≤ h from by omega) (tern_end HM.out (by rw [← HMM.out]; exact HBEL.out) HQ'.out), rfl, ⟨_, hs4⟩, HX3.out.trans hx4⟩
        · obtain rfl : h = i := by omega
          go_wp2_with fail
          go_ret2
          have hq := HO.out.hasQ (cap := n) (by rw [TI.out.lo]; omega) (by omega)
          rw [TI.out.lo] at hq
          exact Or.inl ⟨L, O, q, _, _, _, HM.out, rfl, hq, fun x hx => by cases hx; simp; have := HGG.out; omega, HS.out, HX.out⟩
end Go.Proofs.Ytmankcmmlcfbaaa
