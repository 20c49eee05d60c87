/- The reference: Of. -/
import Derived.Test.YtgalgldnhdiggaaDoorPGo
namespace Oh
theorem of_more {M k : Nat} (h : M / 65536 ^ k ≠ 0) (h2 : M < 18446744073709551616) : k < 4 := by
  apply Classical.byContradiction; intro hn
  apply h
  apply Nat.div_eq_of_lt
  have e : (65536 : Nat) ^ 4 = 18446744073709551616 := by decide
  have h4 : (65536 : Nat) ^ 4 ≤ 65536 ^ k := Nat.pow_le_pow_right (by omega) (by omega)
  omega
theorem of_next {M k : Nat} (h : M / 65536 ^ k ≠ 0) : 65536 ^ k ≤ M := Nat.le_of_not_lt fun hh => h (Nat.div_eq_of_lt hh)
theorem of_done {M k : Nat} (h : M / 65536 ^ k = 0) : M < 65536 ^ k := by
  apply Classical.byContradiction; intro hn
  have := (Nat.one_le_div_iff (Nat.pow_pos (n := k) (show 0 < 65536 by omega))).2 (Nat.le_of_not_lt hn)
  omega
end Oh
namespace Go.Proofs.YtgalgldnhdiggaaDoor
open Go.RowKit
set_option linter.unusedVariables false

set_option maxRecDepth 100000 in
set_option maxHeartbeats 4000000 in
theorem rof_any (n : Int) (w : World) (h1 : -9223372036854775808 ≤ n) (h2 : n ≤ 9223372036854775807) :
    Calls Tryd.prog 15 #[.int .i64 n] w (One (decide (n < 0)) (bstr n.natAbs) w) := by
  have HR := Lib.hid (small_R h1 h2)
  obtain ⟨M, hM⟩ : ∃ M : Nat, M = n.natAbs := ⟨_, rfl⟩
  have hM2 : M < 18446744073709551616 := by omega
  have key : (decide (n < 0) = true ∧ IntKind.u64.wrap (-IntKind.u64.wrap n) = (M : Int)) ∨ (decide (n < 0) = false ∧ IntKind.u64.wrap n = (M : Int)) := by
    by_cases hn : n < 0
    · left
      refine ⟨by simp [hn], ?_⟩
      rw [wrap_u64, wrap_u64]; omega
    · right
      refine ⟨by simp [hn], ?_⟩
      rw [wrap_u64]; omega
  have HM := Lib.hid hM
  have HM2 := Lib.hid hM2
  rw [← hM]
  clear hM hM2
  rcases key with ⟨t1, hw⟩ | ⟨t1, hw⟩
  · have HT1 := Lib.hid t1
    rw [t1]
    go_enter Tryd.func15, Tryd.ntmps15
    go_wp2_with fail
    clear hw t1
    obtain ⟨W, hW⟩ : ∃ W : World, W = ((w.alloc (.cells #[.bool false, .string ⟨#[]⟩] 23)).alloc (.cells #[.bool true, .slice none 0 0] 61)) := ⟨_, rfl⟩
    rw [← hW]
    have g1 : Gr w W := by rw [hW]; exact (((Gr.refl _).alloc _).alloc _)
    have r0 : W.cell? ⟨w.heap.size, 0, none⟩ = some (.bool false) := by rw [hW]; simp [go_sem]
    have er0 : W.frozen? ⟨w.heap.size, 0, none⟩ = false := by rw [hW]; simp [go_sem]
    have r1 : W.cell? ⟨w.heap.size, 1, none⟩ = some (.string ⟨#[]⟩) := by rw [hW]; simp [go_sem]
    have er1 : W.frozen? ⟨w.heap.size, 1, none⟩ = false := by rw [hW]; simp [go_sem]
    have a0 : W.cell? ⟨w.heap.size + 1, 0, none⟩ = some (.bool true) := by rw [hW]; simp [go_sem]
    have ea0 : W.frozen? ⟨w.heap.size + 1, 0, none⟩ = false := by rw [hW]; simp [go_sem]
    have a1 : W.cell? ⟨w.heap.size + 1, 1, none⟩ = some (.slice none 0 0) := by rw [hW]; simp [go_sem]
    have ea1 : W.frozen? ⟨w.heap.size + 1, 1, none⟩ = false := by rw [hW]; simp [go_sem]
    have hsz : W.heap.size = w.heap.size + 1 + 1 := by rw [hW]; simp
    have HG := Lib.hid g1
    have HSZ := Lib.hid hsz
    clear hW g1 hsz
    have Hr0 := Lib.hid r0
    have Her0 := Lib.hid er0
    have Hr1 := Lib.hid r1
    have Her1 := Lib.hid er1
    have Ha0 := Lib.hid a0
    have Hea0 := Lib.hid ea0
    have Ha1 := Lib.hid a1
    have Hea1 := Lib.hid ea1
    clear r0 er0 r1 er1 a0 ea0 a1 ea1
    go_loopw [4] (fun x wr => ∃ (k : Nat) (a : Option Addr) (cap : Nat), x = .int .u64 ((M / 65536 ^ k : Nat) : Int) ∧ k ≤ 4 ∧ (k = 0 ∨ 65536 ^ (k - 1) ≤ M) ∧ wr.cell? ⟨w.heap.size + 1, 1, none⟩ = some (.slice a k cap) ∧ Own1 wr (w.heap.size + 1 + 1) (.slice a k cap) (Oh.digs k M) ∧ wr.frozen? ⟨w.heap.size + 1, 1, none⟩ = false ∧ Below (w.heap.size + 1) W wr ∧ wr.cell? ⟨w.heap.size + 1, 0, none⟩ = some (.bool true) ∧ w.heap.size + 1 + 1 ≤ wr.heap.size) (fun x _ => (intOf x).toNat)
    case atStart => exact ⟨0, none, 0, by simp, by omega, .inl rfl, Ha1.out, Own1.nil _ _, Hea1.out, Below.refl _ _, Ha0.out, by rw [HSZ.out]; omega⟩
    case round =>
      obtain ⟨wo, rfl⟩ : ∃ wo : World, wo = wr := ⟨_, rfl⟩
      obtain ⟨k, a, cap, rfl, hk, hkM, hc, hown, hfr, hbel, hc0, hsz⟩ := hrel
      have HKM := Lib.hid hkM
      have HOWN := Lib.hid hown
      have HBEL := Lib.hid hbel
      have HC0 := Lib.hid hc0
      obtain ⟨X, hX⟩ : ∃ X, X = M / 65536 ^ k := ⟨_, rfl⟩
      rw [← hX]
      have hXb : X < 18446744073709551616 := by rw [hX]; exact Nat.lt_of_le_of_lt (Nat.div_le_self _ _) HM2.out
      have HX := Lib.hid hX
      clear hkM hown hbel hc0 hX
      by_cases hpos : 0 < X
      · have hk4 := Oh.of_more (M := M) (k := k) (by rw [← HX.out]; omega) HM2.out
        have hnx := Lib.hid (Oh.of_next (M := M) (k := k) (by rw [← HX.out]; omega))
        have HDV := Lib.hid (show X / 65536 = M / 65536 ^ (k + 1) by rw [HX.out, Nat.div_div_eq_div_mul, Nat.pow_succ])
        have HMD := Lib.hid (show X % 65536 = M / 65536 ^ k % 65536 by rw [HX.out])
        have t2 : decide ((0 : Int) < (X : Int)) = true := by simp; omega
        have t2' : decide (0 < X) = true := by simp; omega
        go_wp2_with (at_builtin; refine wpList_app rfl _ _ rfl rfl (w.heap.size + 1 + 1) _ (Oh.digs k M) rfl (HOWN.out.alloc _) _ [X % 65536] rfl (HasD.one _ _ _ (by omega) (by omega)) (by rw [Oh.digs_len]; simp; omega) (by rw [World.size_alloc]; omega) ?_; intro v' w1 hown' hgrow; (have hbl := grown_below HOWN.out hgrow hsz); (obtain ⟨a', cap', rfl⟩ := hown'.slice (n := k + 1) (by rw [List.length_append, Oh.digs_len]; rfl)); (have hc1 := below_keeps hbl (show w.heap.size + 1 < w.heap.size + 1 + 1 by omega) hc); (have hf1 := below_frozen hbl (show w.heap.size + 1 < w.heap.size + 1 + 1 by omega) hfr); have HOWN2 := Lib.hid hown'; have HBL := Lib.hid hbl; clear hown' hgrow hbl)
        refine ⟨⟨k + 1, a', cap', by rw [← HDV.out]; simp, by omega, .inr hnx.out, World.cell?_setCell_same w1 _ _ hc1, ?_, by rw [frozen_set]; exact hf1, (HBEL.out.trans (HBL.out.mono (by omega))).setCell (Nat.le_refl _) _, (cell_other (by simp) _).trans (below_keeps HBL.out (show w.heap.size + 1 < w.heap.size + 1 + 1 by omega) HC0.out), by have := HBL.out.size; simp; omega⟩, by simp [intOf]; omega⟩
        have h := HOWN2.out.setCell (p := ⟨w.heap.size + 1, 1, none⟩) (show w.heap.size + 1 < w.heap.size + 1 + 1 by omega) (.slice a' (k + 1) cap')
        rw [HMD.out] at h
        exact h
      · obtain rfl : X = 0 := by omega
        have hMk := Oh.of_done HX.out.symm
        have hJ : HasJ 4 wo (.agg #[.bool true, .slice a k cap]) n := ⟨_, Oh.digs k M, by rw [HT1.out], HOWN.out.hasD, Oh.digs_nm hMk HKM.out, by rw [Oh.digs_all hMk, HM.out], by rw [Oh.digs_len]; exact hk⟩
        have HJ := Lib.hid hJ
        have R0 := Lib.hid (below_keeps HBEL.out (show w.heap.size < w.heap.size + 1 by omega) Hr0.out)
        have R1 := Lib.hid (below_keeps HBEL.out (show w.heap.size < w.heap.size + 1 by omega) Hr1.out)
        have F0 := Lib.hid (below_frozen HBEL.out (show w.heap.size < w.heap.size + 1 by omega) Her0.out)
        have F1 := Lib.hid (below_frozen HBEL.out (show w.heap.size < w.heap.size + 1 by omega) Her1.out)
        have HGG := Lib.hid (show Gr w wo from Below.trans HG.out (HBEL.out.mono (by omega)))
        have c0 := HC0.out
        clear hMk hJ
        go_wp2_with fail
        refine (rout_any 4 n _ _ HJ.out (by omega)).mono ?_
        rintro e w3 ⟨rfl, g⟩
        have r0 := g.keeps R0.out
        have r1 := g.keeps R1.out
        have e0 := g.frozen R0.out F0.out
        have e1 := g.frozen R1.out F1.out
        have HGG := Lib.hid (HGG.out.trans g)
        clear g
        obtain ⟨fn, hfn⟩ : ∃ b, b = fNeg n := ⟨_, rfl⟩
        obtain ⟨fs, hfs⟩ : ∃ b, b = fStr n := ⟨_, rfl⟩
        rw [← hfn, ← hfs]
        have HFN := Lib.hid (show fn = true by rw [hfn, fNeg_in HR.out, HT1.out])
        have HFS := Lib.hid (show fs = bstr M by rw [hfs, fStr_in HR.out, HM.out])
        clear hfn hfs
        have q0 := (Gr.new w3 (.cells #[.bool fn, .string fs] 23)).keeps r0
        have q1 := (Gr.new w3 (.cells #[.bool fn, .string fs] 23)).keeps r1
        have z0 := (Gr.new w3 (.cells #[.bool fn, .string fs] 23)).frozen r0 e0
        have z1 := (Gr.new w3 (.cells #[.bool fn, .string fs] 23)).frozen r1 e1
        have m1 : ¬ (w.heap.size = w3.heap.size) := ne_of_cell r0
        have m2 : ¬ (w3.heap.size = w.heap.size) := fun e => m1 e.symm
        go_wp2_with fail
        refine bodyPost_ret (v := .agg #[.bool fn, .string fs]) (by simp [results, Tryd.results15, go_sem, q0, q1]) rfl ?_
        exact ⟨by rw [HFN.out, HFS.out], (HGG.out.alloc _).put2 (Nat.le_refl _) _ _⟩
  · have HT1 := Lib.hid t1
    rw [t1]
    go_enter Tryd.func15, Tryd.ntmps15
    go_wp2_with fail
    clear hw t1
    obtain ⟨W, hW⟩ : ∃ W : World, W = ((w.alloc (.cells #[.bool false, .string ⟨#[]⟩] 23)).alloc (.cells #[.bool false, .slice none 0 0] 61)) := ⟨_, rfl⟩
    rw [← hW]
    have g1 : Gr w W := by rw [hW]; exact (((Gr.refl _).alloc _).alloc _)
    have r0 : W.cell? ⟨w.heap.size, 0, none⟩ = some (.bool false) := by rw [hW]; simp [go_sem]
    have er0 : W.frozen? ⟨w.heap.size, 0, none⟩ = false := by rw [hW]; simp [go_sem]
    have r1 : W.cell? ⟨w.heap.size, 1, none⟩ = some (.string ⟨#[]⟩) := by rw [hW]; simp [go_sem]
    have er1 : W.frozen? ⟨w.heap.size, 1, none⟩ = false := by rw [hW]; simp [go_sem]
    have a0 : W.cell? ⟨w.heap.size + 1, 0, none⟩ = some (.bool false) := by rw [hW]; simp [go_sem]
    have ea0 : W.frozen? ⟨w.heap.size + 1, 0, none⟩ = false := by rw [hW]; simp [go_sem]
    have a1 : W.cell? ⟨w.heap.size + 1, 1, none⟩ = some (.slice none 0 0) := by rw [hW]; simp [go_sem]
    have ea1 : W.frozen? ⟨w.heap.size + 1, 1, none⟩ = false := by rw [hW]; simp [go_sem]
    have hsz : W.heap.size = w.heap.size + 1 + 1 := by rw [hW]; simp
    have HG := Lib.hid g1
    have HSZ := Lib.hid hsz
    clear hW g1 hsz
    have Hr0 := Lib.hid r0
    have Her0 := Lib.hid er0
    have Hr1 := Lib.hid r1
    have Her1 := Lib.hid er1
    have Ha0 := Lib.hid a0
    have Hea0 := Lib.hid ea0
    have Ha1 := Lib.hid a1
    have Hea1 := Lib.hid ea1
    clear r0 er0 r1 er1 a0 ea0 a1 ea1
    go_loopw [4] (fun x wr => ∃ (k : Nat) (a : Option Addr) (cap : Nat), x = .int .u64 ((M / 65536 ^ k : Nat) : Int) ∧ k ≤ 4 ∧ (k = 0 ∨ 65536 ^ (k - 1) ≤ M) ∧ wr.cell? ⟨w.heap.size + 1, 1, none⟩ = some (.slice a k cap) ∧ Own1 wr (w.heap.size + 1 + 1) (.slice a k cap) (Oh.digs k M) ∧ wr.frozen? ⟨w.heap.size + 1, 1, none⟩ = false ∧ Below (w.heap.size + 1) W wr ∧ wr.cell? ⟨w.heap.size + 1, 0, none⟩ = some (.bool false) ∧ w.heap.size + 1 + 1 ≤ wr.heap.size) (fun x _ => (intOf x).toNat)
    case atStart => exact ⟨0, none, 0, by simp, by omega, .inl rfl, Ha1.out, Own1.nil _ _, Hea1.out, Below.refl _ _, Ha0.out, by rw [HSZ.out]; omega⟩
    case round =>
      obtain ⟨wo, rfl⟩ : ∃ wo : World, wo = wr := ⟨_, rfl⟩
      obtain ⟨k, a, cap, rfl, hk, hkM, hc, hown, hfr, hbel, hc0, hsz⟩ := hrel
      have HKM := Lib.hid hkM
      have HOWN := Lib.hid hown
      have HBEL := Lib.hid hbel
      have HC0 := Lib.hid hc0
      obtain ⟨X, hX⟩ : ∃ X, X = M / 65536 ^ k := ⟨_, rfl⟩
      rw [← hX]
      have hXb : X < 18446744073709551616 := by rw [hX]; exact Nat.lt_of_le_of_lt (Nat.div_le_self _ _) HM2.out
      have HX := Lib.hid hX
      clear hkM hown hbel hc0 hX
      by_cases hpos : 0 < X
      · have hk4 := Oh.of_more (M := M) (k := k) (by rw [← HX.out]; omega) HM2.out
        have hnx := Lib.hid (Oh.of_next (M := M) (k := k) (by rw [← HX.out]; omega))
        have HDV := Lib.hid (show X / 65536 = M / 65536 ^ (k + 1) by rw [HX.out, Nat.div_div_eq_div_mul, Nat.pow_succ])
        have HMD := Lib.hid (show X % 65536 = M / 65536 ^ k % 65536 by rw [HX.out])
        have t2 : decide ((0 : Int) < (X : Int)) = true := by simp; omega
        have t2' : decide (0 < X) = true := by simp; omega
        go_wp2_with (at_builtin; refine wpList_app rfl _ _ rfl rfl (w.heap.size + 1 + 1) _ (Oh.digs k M) rfl (HOWN.out.alloc _) _ [X % 65536] rfl (HasD.one _ _ _ (by omega) (by omega)) (by rw [Oh.digs_len]; simp; omega) (by rw [World.size_alloc]; omega) ?_; intro v' w1 hown' hgrow; (have hbl := grown_below HOWN.out hgrow hsz); (obtain ⟨a', cap', rfl⟩ := hown'.slice (n := k + 1) (by rw [List.length_append, Oh.digs_len]; rfl)); (have hc1 := below_keeps hbl (show w.heap.size + 1 < w.heap.size + 1 + 1 by omega) hc); (have hf1 := below_frozen hbl (show w.heap.size + 1 < w.heap.size + 1 + 1 by omega) hfr); have HOWN2 := Lib.hid hown'; have HBL := Lib.hid hbl; clear hown' hgrow hbl)
        refine ⟨⟨k + 1, a', cap', by rw [← HDV.out]; simp, by omega, .inr hnx.out, World.cell?_setCell_same w1 _ _ hc1, ?_, by rw [frozen_set]; exact hf1, (HBEL.out.trans (HBL.out.mono (by omega))).setCell (Nat.le_refl _) _, (cell_other (by simp) _).trans (below_keeps HBL.out (show w.heap.size + 1 < w.heap.size + 1 + 1 by omega) HC0.out), by have := HBL.out.size; simp; omega⟩, by simp [intOf]; omega⟩
        have h := HOWN2.out.setCell (p := ⟨w.heap.size + 1, 1, none⟩) (show w.heap.size + 1 < w.heap.size + 1 + 1 by omega) (.slice a' (k + 1) cap')
        rw [HMD.out] at h
        exact h
      · obtain rfl : X = 0 := by omega
        have hMk := Oh.of_done HX.out.symm
        have hJ : HasJ 4 wo (.agg #[.bool false, .slice a k cap]) n := ⟨_, Oh.digs k M, by rw [HT1.out], HOWN.out.hasD, Oh.digs_nm hMk HKM.out, by rw [Oh.digs_all hMk, HM.out], by rw [Oh.digs_len]; exact hk⟩
        have HJ := Lib.hid hJ
        have R0 := Lib.hid (below_keeps HBEL.out (show w.heap.size < w.heap.size + 1 by omega) Hr0.out)
        have R1 := Lib.hid (below_keeps HBEL.out (show w.heap.size < w.heap.size + 1 by omega) Hr1.out)
        have F0 := Lib.hid (below_frozen HBEL.out (show w.heap.size < w.heap.size + 1 by omega) Her0.out)
        have F1 := Lib.hid (below_frozen HBEL.out (show w.heap.size < w.heap.size + 1 by omega) Her1.out)
        have HGG := Lib.hid (show Gr w wo from Below.trans HG.out (HBEL.out.mono (by omega)))
        have c0 := HC0.out
        clear hMk hJ
        go_wp2_with fail
        refine (rout_any 4 n _ _ HJ.out (by omega)).mono ?_
        rintro e w3 ⟨rfl, g⟩
        have r0 := g.keeps R0.out
        have r1 := g.keeps R1.out
        have e0 := g.frozen R0.out F0.out
        have e1 := g.frozen R1.out F1.out
        have HGG := Lib.hid (HGG.out.trans g)
        clear g
        obtain ⟨fn, hfn⟩ : ∃ b, b = fNeg n := ⟨_, rfl⟩
        obtain ⟨fs, hfs⟩ : ∃ b, b = fStr n := ⟨_, rfl⟩
        rw [← hfn, ← hfs]
        have HFN := Lib.hid (show fn = false by rw [hfn, fNeg_in HR.out, HT1.out])
        have HFS := Lib.hid (show fs = bstr M by rw [hfs, fStr_in HR.out, HM.out])
        clear hfn hfs
        have q0 := (Gr.new w3 (.cells #[.bool fn, .string fs] 23)).keeps r0
        have q1 := (Gr.new w3 (.cells #[.bool fn, .string fs] 23)).keeps r1
        have z0 := (Gr.new w3 (.cells #[.bool fn, .string fs] 23)).frozen r0 e0
        have z1 := (Gr.new w3 (.cells #[.bool fn, .string fs] 23)).frozen r1 e1
        have m1 : ¬ (w.heap.size = w3.heap.size) := ne_of_cell r0
        have m2 : ¬ (w3.heap.size = w.heap.size) := fun e => m1 e.symm
        go_wp2_with fail
        refine bodyPost_ret (v := .agg #[.bool fn, .string fs]) (by simp [results, Tryd.results15, go_sem, q0, q1]) rfl ?_
        exact ⟨by rw [HFN.out, HFS.out], (HGG.out.alloc _).put2 (Nat.le_refl _) _ _⟩
end Go.Proofs.YtgalgldnhdiggaaDoor

