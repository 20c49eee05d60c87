/- The permutation, of the program. -/
import Derived.Test.YtblaimkcdhcclaaDoorWt
import Derived.Test.YtblaimkcdhcclaaDoorWz
namespace Go.Proofs.YtblaimkcdhcclaaDoor
open Go.RowKit Oz
set_option linter.unusedVariables false
set_option linter.unusedSimpArgs false
theorem Arr.c {w : World} {g : Nat} {s : St} (h : ArrS w g s) : w.cell? ⟨g, 0, none⟩ = some (.int .u64 (nv s.a)) ∧ w.cell? ⟨g, 1, none⟩ = some (.int .u64 (nv s.b)) ∧ w.cell? ⟨g, 2, none⟩ = some (.int .u64 (nv s.c)) ∧ w.cell? ⟨g, 3, none⟩ = some (.int .u64 (nv s.d)) ∧ w.cell? ⟨g, 4, none⟩ = some (.int .u64 (nv s.e)) := ⟨h.c0, h.c1, h.c2, h.c3, h.c4⟩
set_option maxRecDepth 100000 in
set_option maxHeartbeats 4000000 in
theorem permuted_any (s : St) (n : Nat) (hn : n ≤ 12) (w : World) (htab : Tab w) : Calls Tryd.prog 21 #[stv s, .int .i64 (n : Nat)] w (fun y w' => y = .returned (stv (perm s n)) ∧ Gr w w') := by
  obtain ⟨m, hm⟩ : ∃ m, m = 12 - n := ⟨_, rfl⟩
  have hmi : (12 : Int) - (n : Int) = (m : Int) := by omega
  have hmn : m + n = 12 := by omega
  have HMN := Lib.hid hmn
  have HP := Lib.hid (show perm s n = prm s m n from by rw [hm]; rfl)
  have HT := Lib.hid htab
  clear hm htab
  obtain ⟨g, hg⟩ : ∃ g, g = w.heap.size := ⟨_, rfl⟩
  unfold stv
  go_enter Tryd.func21, Tryd.ntmps21
  go_wp2_with fail
  rw [← hg]
  obtain ⟨W, hW⟩ : ∃ W, W = ((w.alloc (.cells #[.int .u64 (nv s.a), .int .u64 (nv s.b), .int .u64 (nv s.c), .int .u64 (nv s.d), .int .u64 (nv s.e)] 23)).alloc (.cells #[.int .u64 0, .int .u64 0, .int .u64 0, .int .u64 0, .int .u64 0] 23)) := ⟨_, rfl⟩
  rw [← hW]
  have HX := Lib.hid (show ArrS W g s from by rw [hW]; exact (Arr.new hg).later (Gr.new _ _))
  have HR := Lib.hid (show ArrS W (g + 1) ⟨0, 0, 0, 0, 0⟩ from by rw [hW]; exact ArrS.new0 (W := w.alloc _) (by simp; omega))
  have HG := Lib.hid (show Gr w W ∧ w.heap.size = g from ⟨by rw [hW]; exact ((Gr.refl w).alloc _).alloc _, hg.symm⟩)
  clear hW hg
  go_loopw [5] (fun x wr => ∃ k : Nat, x = .int .i64 ((m + k : Nat) : Int) ∧ k ≤ n ∧ ArrS wr g (prm s m k) ∧ ArrS wr (g + 1) ⟨0, 0, 0, 0, 0⟩ ∧ Gr w wr) (fun x _ => 12 - (intOf x).toNat)
  case atStart => exact ⟨0, rfl, by omega, HX.out, HR.out, HG.out.1⟩
  case round =>
    obtain ⟨k, rfl, hk, hx, hr, hgr⟩ := hrel
    have HX1 := Lib.hid hx
    have HR1 := Lib.hid hr
    have HG1 := Lib.hid hgr
    obtain ⟨p, hp⟩ : ∃ p, p = prm s m k := ⟨_, rfl⟩
    have HX2 := Lib.hid (show ArrS wr g p from by rw [hp]; exact hx)
    have HPE := Lib.hid hp
    obtain ⟨j, hj⟩ : ∃ j, j = m + k := ⟨_, rfl⟩
    rw [← hj]
    have HJ := Lib.hid hj
    have hcase : k < n ∨ ¬ k < n := Classical.em _
    rcases hcase with hc | hc
    · have hji : (j : Int) < 12 := by omega
      have hj11 : j ≤ 11 := by omega
      have hcn : nv (cst j) = 240 - 15 * (j : Int) := cst_nv j hj11
      obtain ⟨t, ht⟩ : ∃ t, t = rnd p (cst j) := ⟨_, rfl⟩
      have HC := Lib.hid (fun w => show Calls Tryd.prog 30 #[.agg #[.int .u64 (nv p.a), .int .u64 (nv p.b), .int .u64 (nv p.c), .int .u64 (nv p.d), .int .u64 (nv p.e)], .int .u64 (nv (cst j))] w (fun y w' => y = .returned (.agg #[.int .u64 (nv t.a), .int .u64 (nv t.b), .int .u64 (nv t.c), .int .u64 (nv t.d), .int .u64 (nv t.e)]) ∧ Gr w w') from by rw [ht]; exact round_any p (cst j) w)
      have HN := Lib.hid (show prm s m (k + 1) = t from by rw [ht, HPE.out, HJ.out]; rfl)
      have HKT := Lib.hid (fun wz (hz : Gr w wz) => show wz.cell? ⟨0, j, none⟩ = some (.int .u64 (nv (cst j))) from by rw [hcn]; exact (HT.out.later hz).block.2 j (by omega))
      have HKX := Lib.hid (fun wz (hz : Gr wr wz) => show ArrS wz g p from HX2.out.later hz)
      clear hx hr hgr hp hj hcn ht
      go_wp2_with fail
      refine Oy.region_but (fun wz => ArrS wz g p ∧ wz.cell? ⟨0, j, none⟩ = some (.int .u64 (nv (cst j)))) 5 (by kernel_rfl) ?_
      have hHeld : (fun wz : World => ArrS wz g p ∧ wz.cell? ⟨0, j, none⟩ = some (.int .u64 (nv (cst j)))) _ := ⟨HKX.out _ ((Gr.refl wr).drewN 1), HKT.out _ (HG1.out.drewN 1)⟩
      show Oy.AnyBut _ _ _ _ _ _ 6 #[false, false, false, false, false, false] _ _
      refine Oy.AnyBut.take (i := 0) (v := ?_) rfl (by kernel_rfl) (by kernel_rfl) (fun _ _ _ h => h) (by kernel_rfl) (by kernel_rfl) (_root_.Or.inl ⟨by kernel_rfl, ?_⟩) hHeld ?_
      rotate_left
      · intro w0 hSw; (try dsimp only at hSw); obtain ⟨hsx, hsc⟩ := hSw; obtain ⟨c0, c1, c2, c3, c4⟩ := Arr.c hsx; go_simp; try with_reducible rfl
      try simp only [Act.put, List.setIfInBounds_toArray, List.set_cons_zero, List.set_cons_succ]
      refine Oy.AnyBut.take (i := 1) (v := ?_) rfl (by kernel_rfl) (by kernel_rfl) (fun _ _ _ h => h) (by kernel_rfl) (by kernel_rfl) (_root_.Or.inl ⟨by kernel_rfl, ?_⟩) hHeld ?_
      rotate_left
      · intro w0 hSw; (try dsimp only at hSw); go_simp; try with_reducible rfl
      try simp only [Act.put, List.setIfInBounds_toArray, List.set_cons_zero, List.set_cons_succ]
      refine Oy.AnyBut.take (i := 2) (v := ?_) rfl (by kernel_rfl) (by kernel_rfl) (fun _ _ _ h => h) (by kernel_rfl) (by kernel_rfl) (_root_.Or.inl ⟨by kernel_rfl, ?_⟩) hHeld ?_
      rotate_left
      · intro w0 hSw; (try dsimp only at hSw); go_simp; try with_reducible rfl
      try simp only [Act.put, List.setIfInBounds_toArray, List.set_cons_zero, List.set_cons_succ]
      refine Oy.AnyBut.take (i := 3) (v := ?_) rfl (by kernel_rfl) (by kernel_rfl) (fun _ _ _ h => h) (by kernel_rfl) (by kernel_rfl) (_root_.Or.inl ⟨by kernel_rfl, ?_⟩) hHeld ?_
      rotate_left
      · intro w0 hSw; (try dsimp only at hSw); obtain ⟨hsx, hsc⟩ := hSw; obtain ⟨c0, c1, c2, c3, c4⟩ := Arr.c hsx; go_simp; try with_reducible rfl
      try simp only [Act.put, List.setIfInBounds_toArray, List.set_cons_zero, List.set_cons_succ]
      refine Oy.AnyBut.ready (rs := [4]) (by kernel_rfl) (by simp) ?_
      refine Oy.ReadyBut.cons rfl (fun K hK => ?_) ?_
      · go_simp
        go_at_call 30
        refine (HC.out _).mono ?_
        rintro y w8 ⟨rfl, hg8⟩
        have HD8 := Lib.hid (Gr.trans ((Gr.refl wr).drewN 1) hg8)
        have HX8 := Lib.hid (HX1.out.later HD8.out)
        have HR8 := Lib.hid (HR1.out.later HD8.out)
        have HG8 := Lib.hid (Gr.trans HG1.out HD8.out)
        clear hg8
        have c0 := HX8.out.c0
        have c1 := HX8.out.c1
        have c2 := HX8.out.c2
        have c3 := HX8.out.c3
        have c4 := HX8.out.c4
        have f0 := HX8.out.fz 0
        have f1 := HX8.out.fz 1
        have f2 := HX8.out.fz 2
        have f3 := HX8.out.fz 3
        have f4 := HX8.out.fz 4
        go_wp2_with fail
        refine hK.out _ _ ⟨HKX.out _ HD8.out, HKT.out _ HG8.out⟩ ?_
        replace hHeld : (fun wz : World => ArrS wz g p ∧ wz.cell? ⟨0, j, none⟩ = some (.int .u64 (nv (cst j)))) _ := ⟨HKX.out _ HD8.out, HKT.out _ HG8.out⟩
        clear hK K
        try simp only [Act.put, List.setIfInBounds_toArray, List.set_cons_zero, List.set_cons_succ]
        refine Oy.AnyBut.ready (rs := [5]) (by kernel_rfl) (by simp) ?_
        refine Oy.ReadyBut.last rfl (fun K hK => ?_)
        go_simp
        refine hK.out _ _ ?_
        clear hK K
        try simp only [Act.put, List.setIfInBounds_toArray, List.set_cons_zero, List.set_cons_succ]
        refine Oy.AnyBut.done (by kernel_rfl) ?_ _
        clear hHeld
        go_wp2_with fail
        go_roundw
        case rel => exact ⟨k + 1, by rw [HJ.out]; simp; omega, by omega, by rw [HN.out]; exact HX8.out.put t, HR8.out.other5 (by omega) t, HG8.out.put5 (by have := HG.out.2; omega) t⟩
        case measure => have := HJ.out; simp [intOf]; omega
      exact Oy.ReadyBut.nil
    · obtain rfl : k = n := by omega
      have hji : ¬ (j : Int) < 12 := by have := HMN.out; omega
      rw [← hp] at hx
      have c0 := hx.c0
      have c1 := hx.c1
      have c2 := hx.c2
      have c3 := hx.c3
      have c4 := hx.c4
      have r0 := hr.c0
      have r1 := hr.c1
      have r2 := hr.c2
      have r3 := hr.c3
      have r4 := hr.c4
      have rf0 := hr.fz 0
      have rf1 := hr.fz 1
      have rf2 := hr.fz 2
      have rf3 := hr.fz 3
      have rf4 := hr.fz 4
      clear hx hr hgr hp hj
      go_wp2_with fail
      have HGF := Lib.hid (HG1.out.put5 (g := g + 1) (by have := HG.out.2; omega) p)
      have hz := HR1.out.put p
      have HE := Lib.hid (show stv (perm s k) = .agg #[.int .u64 (nv p.a), .int .u64 (nv p.b), .int .u64 (nv p.c), .int .u64 (nv p.d), .int .u64 (nv p.e)] from by rw [HP.out, ← HPE.out]; rfl)
      unfold put5 at HGF hz
      generalize (((((wr.setCell ⟨g + 1, 0, none⟩ (.int .u64 (nv p.a))).setCell ⟨g + 1, 1, none⟩ (.int .u64 (nv p.b))).setCell ⟨g + 1, 2, none⟩ (.int .u64 (nv p.c))).setCell ⟨g + 1, 3, none⟩ (.int .u64 (nv p.d))).setCell ⟨g + 1, 4, none⟩ (.int .u64 (nv p.e))) = WF at HGF hz ⊢
      have z0 := hz.c0
      have z1 := hz.c1
      have z2 := hz.c2
      have z3 := hz.c3
      have z4 := hz.c4
      refine bodyPost_ret (v := .agg #[.int .u64 (nv p.a), .int .u64 (nv p.b), .int .u64 (nv p.c), .int .u64 (nv p.d), .int .u64 (nv p.e)]) (by simp [results, Tryd.results21, z0, z1, z2, z3, z4, go_sem]) rfl ⟨congrArg Ending.returned HE.out.symm, HGF.out⟩
set_option maxRecDepth 100000 in
set_option maxHeartbeats 4000000 in
theorem pPermute_any (s : St) (n : Int) (w : World) (htab : Tab w) : Calls Tryd.prog 7 #[stv s, .int .i64 n] w (fun y w' => y = .returned (.tuple #[stv (if 1 ≤ n ∧ n ≤ 12 then perm s n.toNat else ⟨0, 0, 0, 0, 0⟩), .int .i64 (if 1 ≤ n ∧ n ≤ 12 then 0 else 2)]) ∧ Gr w w') := by
  have hcs : (n < 1 ∨ (¬ n < 1 ∧ 12 < n)) ∨ (1 ≤ n ∧ n ≤ 12) := by omega
  rcases hcs with hb | hb
  · rw [if_neg (by omega), if_neg (by omega), stv0]
    unfold stv
    rcases hb with h1 | ⟨h1, h2⟩
    · go_enter Tryd.func7, Tryd.ntmps7
      go_wp2_with fail
      obtain ⟨W, hW⟩ : ∃ W, W = ((w.alloc (.cells #[.int .u64 (nv s.a), .int .u64 (nv s.b), .int .u64 (nv s.c), .int .u64 (nv s.d), .int .u64 (nv s.e)] 23)).alloc (.cells #[.int .u64 0, .int .u64 0, .int .u64 0, .int .u64 0, .int .u64 0] 23)) := ⟨_, rfl⟩
      rw [← hW]
      have hz : ArrS W (w.heap.size + 1) ⟨0, 0, 0, 0, 0⟩ := by rw [hW]; exact ArrS.new0 (W := w.alloc _) (by simp)
      have hg : Gr w W := by rw [hW]; exact ((Gr.refl w).alloc _).alloc _
      have z0 := hz.c0
      have z1 := hz.c1
      have z2 := hz.c2
      have z3 := hz.c3
      have z4 := hz.c4
      rw [← zero_nv] at z0 z1 z2 z3 z4
      refine bodyPost_ret (v := .tuple #[.agg #[.int .u64 0, .int .u64 0, .int .u64 0, .int .u64 0, .int .u64 0], .int .i64 2]) (by simp [results, Tryd.results7, z0, z1, z2, z3, z4, go_sem]) rfl ⟨rfl, hg⟩
    · go_enter Tryd.func7, Tryd.ntmps7
      go_wp2_with fail
      obtain ⟨W, hW⟩ : ∃ W, W = ((w.alloc (.cells #[.int .u64 (nv s.a), .int .u64 (nv s.b), .int .u64 (nv s.c), .int .u64 (nv s.d), .int .u64 (nv s.e)] 23)).alloc (.cells #[.int .u64 0, .int .u64 0, .int .u64 0, .int .u64 0, .int .u64 0] 23)) := ⟨_, rfl⟩
      rw [← hW]
      have hz : ArrS W (w.heap.size + 1) ⟨0, 0, 0, 0, 0⟩ := by rw [hW]; exact ArrS.new0 (W := w.alloc _) (by simp)
      have hg : Gr w W := by rw [hW]; exact ((Gr.refl w).alloc _).alloc _
      have z0 := hz.c0
      have z1 := hz.c1
      have z2 := hz.c2
      have z3 := hz.c3
      have z4 := hz.c4
      rw [← zero_nv] at z0 z1 z2 z3 z4
      refine bodyPost_ret (v := .tuple #[.agg #[.int .u64 0, .int .u64 0, .int .u64 0, .int .u64 0, .int .u64 0], .int .i64 2]) (by simp [results, Tryd.results7, z0, z1, z2, z3, z4, go_sem]) rfl ⟨rfl, hg⟩
  · rw [if_pos hb, if_pos hb]
    obtain ⟨m, rfl⟩ := Int.eq_ofNat_of_zero_le (show 0 ≤ n by omega)
    have hb1 : ¬ (m : Int) < 1 := by omega
    have hb2 : ¬ 12 < (m : Int) := by omega
    obtain ⟨t, ht⟩ : ∃ t, t = perm s m := ⟨_, rfl⟩
    have htn : perm s (m : Int).toNat = t := by rw [ht]; rfl
    rw [htn]
    have HC := Lib.hid (fun wz (hz : Gr w wz) => show Calls Tryd.prog 21 #[.agg #[.int .u64 (nv s.a), .int .u64 (nv s.b), .int .u64 (nv s.c), .int .u64 (nv s.d), .int .u64 (nv s.e)], .int .i64 (m : Nat)] wz (fun y w' => y = .returned (.agg #[.int .u64 (nv t.a), .int .u64 (nv t.b), .int .u64 (nv t.c), .int .u64 (nv t.d), .int .u64 (nv t.e)]) ∧ Gr wz w') from by rw [ht]; exact permuted_any s m (by omega) wz (htab.later hz))
    clear ht htn hb htab
    obtain ⟨g, hg⟩ : ∃ g, g = w.heap.size := ⟨_, rfl⟩
    unfold stv
    go_enter Tryd.func7, Tryd.ntmps7
    go_wp2_with fail
    rw [← hg]
    obtain ⟨W, hW⟩ : ∃ W, W = ((w.alloc (.cells #[.int .u64 (nv s.a), .int .u64 (nv s.b), .int .u64 (nv s.c), .int .u64 (nv s.d), .int .u64 (nv s.e)] 23)).alloc (.cells #[.int .u64 0, .int .u64 0, .int .u64 0, .int .u64 0, .int .u64 0] 23)) := ⟨_, rfl⟩
    rw [← hW]
    have HR := Lib.hid (show ArrS W (g + 1) ⟨0, 0, 0, 0, 0⟩ from by rw [hW]; exact ArrS.new0 (W := w.alloc _) (by simp; omega))
    have HG := Lib.hid (show Gr w W ∧ w.heap.size = g from ⟨by rw [hW]; exact ((Gr.refl w).alloc _).alloc _, hg.symm⟩)
    clear hW hg
    refine (HC.out _ HG.out.1).mono ?_
    rintro y w8 ⟨rfl, hg8⟩
    have HR8 := Lib.hid (HR.out.later hg8)
    have HG8 := Lib.hid (Gr.trans HG.out.1 hg8)
    clear hg8
    have c0 := HR8.out.c0
    have f0 := HR8.out.fz 0
    have c1 := HR8.out.c1
    have f1 := HR8.out.fz 1
    have c2 := HR8.out.c2
    have f2 := HR8.out.fz 2
    have c3 := HR8.out.c3
    have f3 := HR8.out.fz 3
    have c4 := HR8.out.c4
    have f4 := HR8.out.fz 4
    go_wp2_with fail
    have HGF := Lib.hid (HG8.out.put5 (g := g + 1) (by have := HG.out.2; omega) t)
    have hz := HR8.out.put t
    unfold put5 at HGF hz
    generalize (((((w8.setCell ⟨g + 1, 0, none⟩ (.int .u64 (nv t.a))).setCell ⟨g + 1, 1, none⟩ (.int .u64 (nv t.b))).setCell ⟨g + 1, 2, none⟩ (.int .u64 (nv t.c))).setCell ⟨g + 1, 3, none⟩ (.int .u64 (nv t.d))).setCell ⟨g + 1, 4, none⟩ (.int .u64 (nv t.e))) = WF at HGF hz ⊢
    have z0 := hz.c0
    have z1 := hz.c1
    have z2 := hz.c2
    have z3 := hz.c3
    have z4 := hz.c4
    refine bodyPost_ret (v := .tuple #[.agg #[.int .u64 (nv t.a), .int .u64 (nv t.b), .int .u64 (nv t.c), .int .u64 (nv t.d), .int .u64 (nv t.e)], .int .i64 0]) (by simp [results, Tryd.results7, z0, z1, z2, z3, z4, go_sem]) rfl ⟨rfl, HGF.out⟩
end Go.Proofs.YtblaimkcdhcclaaDoor
