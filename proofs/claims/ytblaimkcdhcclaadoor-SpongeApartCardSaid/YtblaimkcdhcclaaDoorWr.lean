/- The law SpongeApart. -/
import Derived.Test.YtblaimkcdhcclaaDoorWo
import Derived.Deep.QuietTactic
import Derived.BigQuiet
import Derived.Test.YtblaimkcdhcclaaDoorWz
import Derived.Deep.DeepCutAuto
namespace Go.Proofs.YtblaimkcdhcclaaDoor
open Go.RowKit Oz
set_option linter.unusedVariables false
set_option linter.unusedSimpArgs false
theorem exec_slice {P : Program} {f : Operand → Value} {o : Oper} {t : TypeId} {x h : Operand} {v X H : Value} {w : World} (ht : P.underlying t = some .string) (ho : o.op = .slice t x none (some h) none) (hx : f x = X) (hh : f h = H) (hr : (Instr.slice t X none (some H) none).run P w = .ok v w) : (execOp f o).run P w = .ok (.value v) w := by
  subst hx hh
  unfold execOp
  simp [ho, run_sliceAt_string _ _ _ _ _ _ ht, hr]
/-- Two blocks with two states, and the other variables. -/
def TwoS (w : World) (x y : St) (p q u v z : Value) (r n : Int) (s : ByteArray) (wx : World) : Prop := ∃ g h, p = .pointer (some ⟨g, 0, none⟩) ∧ q = .pointer (some ⟨h, 0, none⟩) ∧ ArrS wx g x ∧ ArrS wx h y ∧ u = .int .i64 r ∧ v = .string s ∧ z = .int .i64 n ∧ Gr w wx
set_option maxRecDepth 100000 in
set_option maxHeartbeats 8000000 in
theorem apart_law (hP : PermOK) (hS : StrmOK) (hD : DigOK) (hT : ShrtOK) (x y : St) (r n : Int) (s : ByteArray) (w : World) (hr : -9223372036854775808 ≤ r ∧ r ≤ 9223372036854775807) (hn : -9223372036854775808 ≤ n ∧ n ≤ 9223372036854775807) (hs : s.size ≤ 9223372036854775807) (htab : Tab w) :
    Calls Tryd.prog 5 #[.agg #[.int .u64 (nv x.a), .int .u64 (nv x.b), .int .u64 (nv x.c), .int .u64 (nv x.d), .int .u64 (nv x.e), .int .u64 (nv y.a), .int .u64 (nv y.b), .int .u64 (nv y.c), .int .u64 (nv y.d), .int .u64 (nv y.e), .int .i64 r, .int .i64 n, .string s]] w (Truth w) := by
  have HTB := Lib.hid htab
  clear htab
  have HSH := Lib.hid (shown_any hP hS hD hT)
  have HRN := Lib.hid (And.intro hr hn)
  obtain ⟨L, hL⟩ : ∃ L, L = s.size := ⟨_, rfl⟩
  have hLi : (s.size : Int) = (L : Int) := by omega
  have hL9 : (L : Int) ≤ 9223372036854775807 := by omega
  have HL := Lib.hid hL
  clear hr hn hs hL
  go_enter Tryd.func5, Tryd.ntmps5
  go_upto_region 1 with (fail)
  go_cut [3, 4, 5, 6, 7] (fun p q u v z wx => TwoS w x y p q u v z r n s wx)
  case first =>
      go_wp2_with fail
      obtain ⟨W0, hW0⟩ : ∃ W0, W0 = w.alloc (.cells #[.int .u64 (nv x.a), .int .u64 (nv x.b), .int .u64 (nv x.c), .int .u64 (nv x.d), .int .u64 (nv x.e), .int .u64 (nv y.a), .int .u64 (nv y.b), .int .u64 (nv y.c), .int .u64 (nv y.d), .int .u64 (nv y.e), .int .i64 r, .int .i64 n, .string s] 38) := ⟨_, rfl⟩
      rw [← hW0]
      have k0 : W0.cell? ⟨w.heap.size, 0, none⟩ = some (.int .u64 (nv x.a)) := by rw [hW0]; exact cl_new w _ _ 0
      have k1 : W0.cell? ⟨w.heap.size, 1, none⟩ = some (.int .u64 (nv x.b)) := by rw [hW0]; exact cl_new w _ _ 1
      have k2 : W0.cell? ⟨w.heap.size, 2, none⟩ = some (.int .u64 (nv x.c)) := by rw [hW0]; exact cl_new w _ _ 2
      have k3 : W0.cell? ⟨w.heap.size, 3, none⟩ = some (.int .u64 (nv x.d)) := by rw [hW0]; exact cl_new w _ _ 3
      have k4 : W0.cell? ⟨w.heap.size, 4, none⟩ = some (.int .u64 (nv x.e)) := by rw [hW0]; exact cl_new w _ _ 4
      have k5 : W0.cell? ⟨w.heap.size, 5, none⟩ = some (.int .u64 (nv y.a)) := by rw [hW0]; exact cl_new w _ _ 5
      have k6 : W0.cell? ⟨w.heap.size, 6, none⟩ = some (.int .u64 (nv y.b)) := by rw [hW0]; exact cl_new w _ _ 6
      have k7 : W0.cell? ⟨w.heap.size, 7, none⟩ = some (.int .u64 (nv y.c)) := by rw [hW0]; exact cl_new w _ _ 7
      have k8 : W0.cell? ⟨w.heap.size, 8, none⟩ = some (.int .u64 (nv y.d)) := by rw [hW0]; exact cl_new w _ _ 8
      have k9 : W0.cell? ⟨w.heap.size, 9, none⟩ = some (.int .u64 (nv y.e)) := by rw [hW0]; exact cl_new w _ _ 9
      have k10 : W0.cell? ⟨w.heap.size, 10, none⟩ = some (.int .i64 r) := by rw [hW0]; exact cl_new w _ _ 10
      have k11 : W0.cell? ⟨w.heap.size, 11, none⟩ = some (.int .i64 n) := by rw [hW0]; exact cl_new w _ _ 11
      have k12 : W0.cell? ⟨w.heap.size, 12, none⟩ = some (.string s) := by rw [hW0]; exact cl_new w _ _ 12
      have HKEEP := Lib.hid (show ∀ wz, Gr W0 wz → (wz.cell? ⟨w.heap.size, 0, none⟩ = some (.int .u64 (nv x.a)) ∧ wz.cell? ⟨w.heap.size, 1, none⟩ = some (.int .u64 (nv x.b)) ∧ wz.cell? ⟨w.heap.size, 2, none⟩ = some (.int .u64 (nv x.c)) ∧ wz.cell? ⟨w.heap.size, 3, none⟩ = some (.int .u64 (nv x.d)) ∧ wz.cell? ⟨w.heap.size, 4, none⟩ = some (.int .u64 (nv x.e)) ∧ wz.cell? ⟨w.heap.size, 5, none⟩ = some (.int .u64 (nv y.a)) ∧ wz.cell? ⟨w.heap.size, 6, none⟩ = some (.int .u64 (nv y.b)) ∧ wz.cell? ⟨w.heap.size, 7, none⟩ = some (.int .u64 (nv y.c)) ∧ wz.cell? ⟨w.heap.size, 8, none⟩ = some (.int .u64 (nv y.d)) ∧ wz.cell? ⟨w.heap.size, 9, none⟩ = some (.int .u64 (nv y.e)) ∧ wz.cell? ⟨w.heap.size, 10, none⟩ = some (.int .i64 r) ∧ wz.cell? ⟨w.heap.size, 11, none⟩ = some (.int .i64 n) ∧ wz.cell? ⟨w.heap.size, 12, none⟩ = some (.string s)) from fun wz g => ⟨g.keeps k0, g.keeps k1, g.keeps k2, g.keeps k3, g.keeps k4, g.keeps k5, g.keeps k6, g.keeps k7, g.keeps k8, g.keeps k9, g.keeps k10, g.keeps k11, g.keeps k12⟩)
      have HG0 := Lib.hid (show Gr w W0 ∧ W0.heap.size = w.heap.size + 1 from ⟨by rw [hW0]; exact Gr.new _ _, by rw [hW0]; simp⟩)
      clear hW0
      go_region_held3 (fun wz => wz.cell? ⟨w.heap.size, 0, none⟩ = some (.int .u64 (nv x.a)) ∧ wz.cell? ⟨w.heap.size, 1, none⟩ = some (.int .u64 (nv x.b)) ∧ wz.cell? ⟨w.heap.size, 2, none⟩ = some (.int .u64 (nv x.c)) ∧ wz.cell? ⟨w.heap.size, 3, none⟩ = some (.int .u64 (nv x.d)) ∧ wz.cell? ⟨w.heap.size, 4, none⟩ = some (.int .u64 (nv x.e)) ∧ wz.cell? ⟨w.heap.size, 5, none⟩ = some (.int .u64 (nv y.a)) ∧ wz.cell? ⟨w.heap.size, 6, none⟩ = some (.int .u64 (nv y.b)) ∧ wz.cell? ⟨w.heap.size, 7, none⟩ = some (.int .u64 (nv y.c)) ∧ wz.cell? ⟨w.heap.size, 8, none⟩ = some (.int .u64 (nv y.d)) ∧ wz.cell? ⟨w.heap.size, 9, none⟩ = some (.int .u64 (nv y.e)) ∧ wz.cell? ⟨w.heap.size, 10, none⟩ = some (.int .i64 r) ∧ wz.cell? ⟨w.heap.size, 11, none⟩ = some (.int .i64 n) ∧ wz.cell? ⟨w.heap.size, 12, none⟩ = some (.string s)) ((refine HKEEP.out _ ?_; repeat (first | exact Gr.refl _ | refine Below.drew ?_ | refine Gr.setCell ?_ (by first | (simp; done) | (simp; omega)) _ | refine Gr.alloc ?_ _))) (fail)
      all_goals go_wp2_with fail
      all_goals go_meet
      · exact ⟨W0.heap.size, W0.heap.size + 1, rfl, rfl, Arr.later (Arr.new rfl) ((Gr.new _ (.cells #[.int .u64 (nv y.a), .int .u64 (nv y.b), .int .u64 (nv y.c), .int .u64 (nv y.d), .int .u64 (nv y.e)] 23)).drewN 1), Arr.later (Arr.new (W := W0.alloc (.cells #[.int .u64 (nv x.a), .int .u64 (nv x.b), .int .u64 (nv x.c), .int .u64 (nv x.d), .int .u64 (nv x.e)] 23)) (by simp)) ((Gr.refl _).drewN 1), rfl, rfl, rfl, ((HG0.out.1.alloc (.cells #[.int .u64 (nv x.a), .int .u64 (nv x.b), .int .u64 (nv x.c), .int .u64 (nv x.d), .int .u64 (nv x.e)] 23)).alloc (.cells #[.int .u64 (nv y.a), .int .u64 (nv y.b), .int .u64 (nv y.c), .int .u64 (nv y.d), .int .u64 (nv y.e)] 23)).drewN 1⟩
      · exact ⟨W0.heap.size + 1, W0.heap.size, rfl, rfl, Arr.later (Arr.new (W := W0.alloc (.cells #[.int .u64 (nv y.a), .int .u64 (nv y.b), .int .u64 (nv y.c), .int .u64 (nv y.d), .int .u64 (nv y.e)] 23)) (by simp)) ((Gr.refl _).drewN 1), Arr.later (Arr.new rfl) ((Gr.new _ (.cells #[.int .u64 (nv x.a), .int .u64 (nv x.b), .int .u64 (nv x.c), .int .u64 (nv x.d), .int .u64 (nv x.e)] 23)).drewN 1), rfl, rfl, rfl, ((HG0.out.1.alloc (.cells #[.int .u64 (nv y.a), .int .u64 (nv y.b), .int .u64 (nv y.c), .int .u64 (nv y.d), .int .u64 (nv y.e)] 23)).alloc (.cells #[.int .u64 (nv x.a), .int .u64 (nv x.b), .int .u64 (nv x.c), .int .u64 (nv x.d), .int .u64 (nv x.e)] 23)).drewN 1⟩
  case rest =>
      obtain ⟨g, h, rfl, rfl, hx, hy, rfl, rfl, rfl, hg⟩ := hcut
      have HX := Lib.hid hx
      have HY := Lib.hid hy
      have HG := Lib.hid hg
      clear hx hy hg
      have hcase : 5000 < L ∨ ¬ 5000 < L := Classical.em _
      rcases hcase with hc | hc
      · have hci : (5000 : Int) < (L : Int) := by omega
        go_wp2_with (go_at_call 9; refine (HSH.out _ (HTB.out.later HG.out)).mono ?_; rintro e w2 ⟨rfl, hg2⟩)
        go_ret
        exact ⟨rfl, Gr.trans HG.out hg2⟩
      · have hci : ¬ (5000 : Int) < (L : Int) := by omega
        have hs2 : s.size ≤ 200000 := by have := HL.out; omega
        go_wp2_with fail
        refine (pick_any r 12 _ (by omega) HRN.out.1).mono ?_
        rintro e w0 ⟨⟨k0, rfl, hk0⟩, hw⟩
        subst hw
        obtain ⟨k, hk⟩ : ∃ k, k = 1 + k0 := ⟨_, rfl⟩
        have hki : (1 : Int) + (k0 : Int) = (k : Int) := by omega
        have hk1 : (1 : Int) ≤ (k : Int) ∧ (k : Int) ≤ 12 := by omega
        have hk9 : k < 9223372036854775808 := by omega
        obtain ⟨a, ha⟩ : ∃ a, a = perm x k := ⟨_, rfl⟩
        obtain ⟨b, hb⟩ : ∃ b, b = perm y k := ⟨_, rfl⟩
        obtain ⟨E, hE⟩ : ∃ E, E = eq5 x y := ⟨_, rfl⟩
        have hEab : eq5 a b = E := by
          rw [hE, ha, hb]
          cases h1 : eq5 x y with
          | true => rw [eq5_true h1]; exact eq5_refl _
          | false =>
            cases h2 : eq5 (perm x k) (perm y k) with
            | false => rfl
            | true =>
              have := perm_inj (eq5_true h2)
              rw [this, eq5_refl] at h1
              cases h1
        have HPX := Lib.hid (fun w (ht : Tab w) => by have := hP x k w ht; rw [show permA x k = a from by unfold permA; rw [if_pos hk1, ha]; rfl, show permE k = 0 from by unfold permE; rw [if_pos hk1]] at this; exact this)
        have HPY := Lib.hid (fun w (ht : Tab w) => by have := hP y k w ht; rw [show permA y k = b from by unfold permA; rw [if_pos hk1, hb]; rfl, show permE k = 0 from by unfold permE; rw [if_pos hk1]] at this; exact this)
        have he1 := fun w => arr_eql w a b
        have he2 := fun w => arr_eql w x y
        rw [hEab] at he1
        rw [← hE] at he2
        have HE := Lib.hid (And.intro he1 he2)
        have HS2 := Lib.hid hs2
        have HK := Lib.hid hki
        unfold stv at HPX HPY HE
        have c0 := HX.out.c0
        have c1 := HX.out.c1
        have c2 := HX.out.c2
        have c3 := HX.out.c3
        have c4 := HX.out.c4
        clear hP ha hb hE hEab he1 he2 hs2 hk hk1 hk0
        have ek : wrap64 (k : Int) = (k : Int) := wrap_nat rfl hk9
        have ek2 : IntKind.i64.wrap (k : Int) = (k : Int) := iwrap_nat rfl hk9
        go_wp2_with (first
          | (go_at_call 7; (with_reducible refine (HPX.out _ (HTB.out.later HG.out)).mono ?_); rintro e w1 ⟨rfl, hg1⟩; clear c0 c1 c2 c3 c4; (have HG1 := Lib.hid ((Gr.trans HG.out hg1).alloc (.cells #[.int .u64 (nv a.a), .int .u64 (nv a.b), .int .u64 (nv a.c), .int .u64 (nv a.d), .int .u64 (nv a.e)] 23))); (have HX1 := Lib.hid ((HX.out.later hg1).later (Gr.new w1 (.cells #[.int .u64 (nv a.a), .int .u64 (nv a.b), .int .u64 (nv a.c), .int .u64 (nv a.d), .int .u64 (nv a.e)] 23)))); (have HY1 := Lib.hid ((HY.out.later hg1).later (Gr.new w1 (.cells #[.int .u64 (nv a.a), .int .u64 (nv a.b), .int .u64 (nv a.c), .int .u64 (nv a.d), .int .u64 (nv a.e)] 23)))); (have HA1 := Lib.hid (show ArrS (w1.alloc (.cells #[.int .u64 (nv a.a), .int .u64 (nv a.b), .int .u64 (nv a.c), .int .u64 (nv a.d), .int .u64 (nv a.e)] 23)) w1.heap.size a from Arr.new rfl)); (have d0 := HY1.out.c0); (have d1 := HY1.out.c1); (have d2 := HY1.out.c2); (have d3 := HY1.out.c3); (have d4 := HY1.out.c4); clear hg1)
          | (go_at_call 7; (with_reducible refine (HPY.out _ (HTB.out.later HG1.out)).mono ?_); rintro e w2 ⟨rfl, hg2⟩; clear d0 d1 d2 d3 d4 ek ek2; (have HG2 := Lib.hid ((Gr.trans HG1.out hg2).alloc (.cells #[.int .u64 (nv b.a), .int .u64 (nv b.b), .int .u64 (nv b.c), .int .u64 (nv b.d), .int .u64 (nv b.e)] 23))); (have HX2 := Lib.hid ((HX1.out.later hg2).later (Gr.new w2 (.cells #[.int .u64 (nv b.a), .int .u64 (nv b.b), .int .u64 (nv b.c), .int .u64 (nv b.d), .int .u64 (nv b.e)] 23)))); (have HY2 := Lib.hid ((HY1.out.later hg2).later (Gr.new w2 (.cells #[.int .u64 (nv b.a), .int .u64 (nv b.b), .int .u64 (nv b.c), .int .u64 (nv b.d), .int .u64 (nv b.e)] 23)))); (have HA2 := Lib.hid ((HA1.out.later hg2).later (Gr.new w2 (.cells #[.int .u64 (nv b.a), .int .u64 (nv b.b), .int .u64 (nv b.c), .int .u64 (nv b.d), .int .u64 (nv b.e)] 23)))); (have HB2 := Lib.hid (show ArrS (w2.alloc (.cells #[.int .u64 (nv b.a), .int .u64 (nv b.b), .int .u64 (nv b.c), .int .u64 (nv b.d), .int .u64 (nv b.e)] 23)) w2.heap.size b from Arr.new rfl)); clear hg2))
        obtain ⟨W, hW⟩ : ∃ W, W = w2.alloc (.cells #[.int .u64 (nv b.a), .int .u64 (nv b.b), .int .u64 (nv b.c), .int .u64 (nv b.d), .int .u64 (nv b.e)] 23) := ⟨_, rfl⟩
        rw [← hW] at HG2 HX2 HY2 HA2 HB2 ⊢
        clear hW
        have xx0 := HX2.out.c0
        have xx1 := HX2.out.c1
        have xx2 := HX2.out.c2
        have xx3 := HX2.out.c3
        have xx4 := HX2.out.c4
        have yy0 := HY2.out.c0
        have yy1 := HY2.out.c1
        have yy2 := HY2.out.c2
        have yy3 := HY2.out.c3
        have yy4 := HY2.out.c4
        have aa0 := HA2.out.c0
        have aa1 := HA2.out.c1
        have aa2 := HA2.out.c2
        have aa3 := HA2.out.c3
        have aa4 := HA2.out.c4
        have bb0 := HB2.out.c0
        have bb1 := HB2.out.c1
        have bb2 := HB2.out.c2
        have bb3 := HB2.out.c3
        have bb4 := HB2.out.c4
        have he1 := HE.out.1
        have he2 := HE.out.2
        have hEE : (E != E) = false := by simp
        go_quiet (fail)
        clear xx0 xx1 xx2 xx3 xx4 yy0 yy1 yy2 yy3 yy4 aa0 aa1 aa2 aa3 aa4 bb0 bb1 bb2 bb3 bb4 he1 he2 hEE
        have HGQ := Lib.hid (HG2.out.drewN nq)
        generalize W.drewN nq = W3 at HGQ ⊢
        go_wp2_with fail
        refine (pick_any n 2000 _ (by omega) HRN.out.2).mono ?_
        rintro e w4 ⟨⟨m, rfl, hm⟩, hw⟩
        subst hw
        obtain ⟨j, hj⟩ : ∃ j, j = m / 2 := ⟨_, rfl⟩
        have hji : (m : Int).tdiv 2 = (j : Int) := by rw [Int.tdiv_eq_ediv_of_nonneg (by omega)]; omega
        have hj9 : j < 9223372036854775808 := by omega
        obtain ⟨T, hT1⟩ : ∃ T, T = spS s 1 m := ⟨_, rfl⟩
        obtain ⟨U, hU1⟩ : ∃ U, U = spS s 1 j := ⟨_, rfl⟩
        obtain ⟨D, hD1⟩ : ∃ D, D = spS s 0 32 := ⟨_, rfl⟩
        obtain ⟨V8, hV1⟩ : ∃ V8, V8 = spS s 0 8 := ⟨_, rfl⟩
        have hTs : T.size = m := by rw [hT1]; exact spS_size _ _ _
        have hDs : D.size = 32 := by rw [hD1]; exact spS_size _ _ _
        have hTU : T.extract 0 j = U := by rw [hT1, hU1]; exact spS_pre s 1 (by omega)
        have hDV : D.extract 0 8 = V8 := by rw [hD1, hV1]; exact spS_pre s 0 (by omega)
        have HSL1 := Lib.hid (fun (w : World) => show (Instr.slice 9 (.string T) none (some (.int .i64 (j : Int))) none).run Tryd.prog w = .ok (.string U) w from by
          rw [run_slice_string_h w 9 T Tryd.underlying9 .i64 (j : Int) (by omega) (by omega), Int.toNat_natCast, hTU])
        have HSL2 := Lib.hid (fun (w : World) => show (Instr.slice 9 (.string D) none (some (.int .i64 8)) none).run Tryd.prog w = .ok (.string V8) w from by
          rw [run_slice_string_h w 9 D Tryd.underlying9 .i64 8 (by omega) (by omega), show (8 : Int).toNat = 8 from rfl, hDV])
        have HS1 := Lib.hid (fun w (ht : Tab w) => by
          have := hS s (m : Int) w ht HS2.out (by omega)
          rw [show strmS s (m : Int) = T from by unfold strmS; rw [if_pos (by omega), Int.toNat_natCast, hT1], show strmE (m : Int) = 0 from by unfold strmE; rw [if_pos (by omega)]] at this
          exact this)
        have HS3 := Lib.hid (fun w (ht : Tab w) => by
          have := hS s (j : Int) w ht HS2.out (by omega)
          rw [show strmS s (j : Int) = U from by unfold strmS; rw [if_pos (by omega), Int.toNat_natCast, hU1], show strmE (j : Int) = 0 from by unfold strmE; rw [if_pos (by omega)]] at this
          exact this)
        have HD1 := Lib.hid (fun w (ht : Tab w) => by have := hD s w ht HS2.out; rw [← hD1] at this; exact this)
        have HT1 := Lib.hid (fun w (ht : Tab w) => by have := hT s w ht HS2.out; rw [← hV1] at this; exact this)
        clear hS hD hT hT1 hU1 hD1 hV1 hTU hDV hj hm
        have ek : wrap64 (j : Int) = (j : Int) := wrap_nat rfl hj9
        have ek2 : IntKind.i64.wrap (j : Int) = (j : Int) := iwrap_nat rfl hj9
        go_wp2_with (first
          | (go_at_call 11; (with_reducible refine (HS1.out _ (HTB.out.later HGQ.out)).mono ?_); rintro e w5 ⟨rfl, hg5⟩; (have HG5 := Lib.hid (Gr.trans HGQ.out hg5)); clear hg5)
          | (go_at_call 11; (with_reducible refine (HS3.out _ (HTB.out.later HG5.out)).mono ?_); rintro e w6 ⟨rfl, hg6⟩; (have HG6 := Lib.hid (Gr.trans HG5.out hg6)); clear hg6)
          | (go_at_call 13; refine (HD1.out _ (HTB.out.later HG6.out)).mono ?_; rintro e w7 ⟨rfl, hg7⟩; (have HG7 := Lib.hid (Gr.trans HG6.out hg7)); clear hg7))
        refine Oy.region_but (fun wz => Gr w wz) 35 (by kernel_rfl) ?_
        have hHeld : (fun wz : World => Gr w wz) _ := (HG7.out.drewN 1)
        show Oy.AnyBut _ _ _ _ _ _ 36 #[false, false, false, false, false, false, false, false, false, false, false, false, false, false, false, false, false, false, false, false, false, false, false, false, false, false, false, false, false, false, false, false, false, false, false, false] _ _
        refine Oy.AnyBut.take (i := 0) (v := ?_) rfl (by kernel_rfl) (by kernel_rfl) (fun _ _ _ h => h) (by kernel_rfl) (by kernel_rfl) (_root_.Or.inl ⟨by kernel_rfl, ?_⟩) hHeld ?_
        rotate_left
        · intro w0 hSw; (try dsimp only at hSw); go_simp; try with_reducible rfl
        try simp only [Act.put, List.setIfInBounds_toArray, List.set_cons_zero, List.set_cons_succ]
        refine Oy.AnyBut.take (i := 1) (v := ?_) rfl (by kernel_rfl) (by kernel_rfl) (fun _ _ _ h => h) (by kernel_rfl) (by kernel_rfl) (_root_.Or.inl ⟨by kernel_rfl, ?_⟩) hHeld ?_
        rotate_left
        · intro w0 hSw; (try dsimp only at hSw); go_simp; try with_reducible rfl
        try simp only [Act.put, List.setIfInBounds_toArray, List.set_cons_zero, List.set_cons_succ]
        refine Oy.AnyBut.take (i := 2) (v := ?_) rfl (by kernel_rfl) (by kernel_rfl) (fun _ _ _ h => h) (by kernel_rfl) (by kernel_rfl) (_root_.Or.inl ⟨by kernel_rfl, ?_⟩) hHeld ?_
        rotate_left
        · intro w0 hSw; (try dsimp only at hSw); go_simp; try with_reducible rfl
        try simp only [Act.put, List.setIfInBounds_toArray, List.set_cons_zero, List.set_cons_succ]
        refine Oy.AnyBut.take (i := 3) (v := ?_) rfl (by kernel_rfl) (by kernel_rfl) (fun _ _ _ h => h) (by kernel_rfl) (by kernel_rfl) (_root_.Or.inl ⟨by kernel_rfl, ?_⟩) hHeld ?_
        rotate_left
        · intro w0 hSw; (try dsimp only at hSw); go_simp; try with_reducible rfl
        try simp only [Act.put, List.setIfInBounds_toArray, List.set_cons_zero, List.set_cons_succ]
        refine Oy.AnyBut.take (i := 4) (v := ?_) rfl (by kernel_rfl) (by kernel_rfl) (fun _ _ _ h => h) (by kernel_rfl) (by kernel_rfl) (_root_.Or.inl ⟨by kernel_rfl, ?_⟩) hHeld ?_
        rotate_left
        · intro w0 hSw; (try dsimp only at hSw); go_simp; try with_reducible rfl
        try simp only [Act.put, List.setIfInBounds_toArray, List.set_cons_zero, List.set_cons_succ]
        refine Oy.AnyBut.take (i := 5) (v := ?_) rfl (by kernel_rfl) (by kernel_rfl) (fun _ _ _ h => h) (by kernel_rfl) (by kernel_rfl) (_root_.Or.inl ⟨by kernel_rfl, ?_⟩) hHeld ?_
        rotate_left
        · intro w0 hSw; (try dsimp only at hSw); go_simp; try with_reducible rfl
        try simp only [Act.put, List.setIfInBounds_toArray, List.set_cons_zero, List.set_cons_succ]
        refine Oy.AnyBut.take (i := 6) (v := ?_) rfl (by kernel_rfl) (by kernel_rfl) (fun _ _ _ h => h) (by kernel_rfl) (by kernel_rfl) (_root_.Or.inl ⟨by kernel_rfl, ?_⟩) hHeld ?_
        rotate_left
        · intro w0 hSw; (try dsimp only at hSw); go_simp; try with_reducible rfl
        try simp only [Act.put, List.setIfInBounds_toArray, List.set_cons_zero, List.set_cons_succ]
        refine Oy.AnyBut.take (i := 7) (v := ?_) rfl (by kernel_rfl) (by kernel_rfl) (fun _ _ _ h => h) (by kernel_rfl) (by kernel_rfl) (_root_.Or.inl ⟨by kernel_rfl, ?_⟩) hHeld ?_
        rotate_left
        · intro w0 hSw; (try dsimp only at hSw); go_simp; try with_reducible rfl
        try simp only [Act.put, List.setIfInBounds_toArray, List.set_cons_zero, List.set_cons_succ]
        refine Oy.AnyBut.take (i := 8) (v := ?_) rfl (by kernel_rfl) (by kernel_rfl) (fun _ _ _ h => h) (by kernel_rfl) (by kernel_rfl) (_root_.Or.inl ⟨by kernel_rfl, ?_⟩) hHeld ?_
        rotate_left
        · intro w0 hSw; (try dsimp only at hSw); go_simp; try with_reducible rfl
        try simp only [Act.put, List.setIfInBounds_toArray, List.set_cons_zero, List.set_cons_succ]
        refine Oy.AnyBut.take (i := 9) (v := ?_) rfl (by kernel_rfl) (by kernel_rfl) (fun _ _ _ h => h) (by kernel_rfl) (by kernel_rfl) (_root_.Or.inl ⟨by kernel_rfl, ?_⟩) hHeld ?_
        rotate_left
        · intro w0 hSw; (try dsimp only at hSw); go_simp; try with_reducible rfl
        try simp only [Act.put, List.setIfInBounds_toArray, List.set_cons_zero, List.set_cons_succ]
        refine Oy.AnyBut.take (i := 10) (v := ?_) rfl (by kernel_rfl) (by kernel_rfl) (fun _ _ _ h => h) (by kernel_rfl) (by kernel_rfl) (_root_.Or.inl ⟨by kernel_rfl, ?_⟩) hHeld ?_
        rotate_left
        · intro w0 hSw; (try dsimp only at hSw); go_simp; try with_reducible rfl
        try simp only [Act.put, List.setIfInBounds_toArray, List.set_cons_zero, List.set_cons_succ]
        refine Oy.AnyBut.take (i := 11) (v := ?_) rfl (by kernel_rfl) (by kernel_rfl) (fun _ _ _ h => h) (by kernel_rfl) (by kernel_rfl) (_root_.Or.inl ⟨by kernel_rfl, ?_⟩) hHeld ?_
        rotate_left
        · intro w0 hSw; (try dsimp only at hSw); go_simp; try with_reducible rfl
        try simp only [Act.put, List.setIfInBounds_toArray, List.set_cons_zero, List.set_cons_succ]
        refine Oy.AnyBut.take (i := 12) (v := ?_) rfl (by kernel_rfl) (by kernel_rfl) (fun _ _ _ h => h) (by kernel_rfl) (by kernel_rfl) (_root_.Or.inl ⟨by kernel_rfl, ?_⟩) hHeld ?_
        rotate_left
        · intro w0 hSw; (try dsimp only at hSw); go_simp; try with_reducible rfl
        try simp only [Act.put, List.setIfInBounds_toArray, List.set_cons_zero, List.set_cons_succ]
        refine Oy.AnyBut.take (i := 13) (v := ?_) rfl (by kernel_rfl) (by kernel_rfl) (fun _ _ _ h => h) (by kernel_rfl) (by kernel_rfl) (_root_.Or.inl ⟨by kernel_rfl, ?_⟩) hHeld ?_
        rotate_left
        · intro w0 hSw; (try dsimp only at hSw); go_simp; try with_reducible rfl
        try simp only [Act.put, List.setIfInBounds_toArray, List.set_cons_zero, List.set_cons_succ]
        refine Oy.AnyBut.take (i := 14) (v := ?_) rfl (by kernel_rfl) (by kernel_rfl) (fun _ _ _ h => h) (by kernel_rfl) (by kernel_rfl) (_root_.Or.inl ⟨by kernel_rfl, ?_⟩) hHeld ?_
        rotate_left
        · intro w0 hSw; (try dsimp only at hSw); go_simp; try with_reducible rfl
        try simp only [Act.put, List.setIfInBounds_toArray, List.set_cons_zero, List.set_cons_succ]
        refine Oy.AnyBut.take (i := 15) (v := ?_) rfl (by kernel_rfl) (by kernel_rfl) (fun _ _ _ h => h) (by kernel_rfl) (by kernel_rfl) (_root_.Or.inl ⟨by kernel_rfl, ?_⟩) hHeld ?_
        rotate_left
        · intro w0 hSw; (try dsimp only at hSw); go_simp; try with_reducible rfl
        try simp only [Act.put, List.setIfInBounds_toArray, List.set_cons_zero, List.set_cons_succ]
        refine Oy.AnyBut.take (i := 16) (v := .string U) rfl (by kernel_rfl) (by kernel_rfl) (fun _ _ _ h => h) (by kernel_rfl) (by kernel_rfl) (_root_.Or.inl ⟨by kernel_rfl, ?_⟩) hHeld ?_
        · intro w0 hSw; refine exec_slice Tryd.underlying9 rfl ?_ ?_ (HSL1.out w0) <;> simp [go_sem]
        try simp only [Act.put, List.setIfInBounds_toArray, List.set_cons_zero, List.set_cons_succ]
        refine Oy.AnyBut.take (i := 17) (v := ?_) rfl (by kernel_rfl) (by kernel_rfl) (fun _ _ _ h => h) (by kernel_rfl) (by kernel_rfl) (_root_.Or.inl ⟨by kernel_rfl, ?_⟩) hHeld ?_
        rotate_left
        · intro w0 hSw; (try dsimp only at hSw); go_simp; try with_reducible rfl
        try simp only [Act.put, List.setIfInBounds_toArray, List.set_cons_zero, List.set_cons_succ]
        refine Oy.AnyBut.take (i := 18) (v := ?_) rfl (by kernel_rfl) (by kernel_rfl) (fun _ _ _ h => h) (by kernel_rfl) (by kernel_rfl) (_root_.Or.inl ⟨by kernel_rfl, ?_⟩) hHeld ?_
        rotate_left
        · intro w0 hSw; (try dsimp only at hSw); go_simp; try with_reducible rfl
        try simp only [Act.put, List.setIfInBounds_toArray, List.set_cons_zero, List.set_cons_succ]
        refine Oy.AnyBut.take (i := 19) (v := ?_) rfl (by kernel_rfl) (by kernel_rfl) (fun _ _ _ h => h) (by kernel_rfl) (by kernel_rfl) (_root_.Or.inl ⟨by kernel_rfl, ?_⟩) hHeld ?_
        rotate_left
        · intro w0 hSw; (try dsimp only at hSw); go_simp; try with_reducible rfl
        try simp only [Act.put, List.setIfInBounds_toArray, List.set_cons_zero, List.set_cons_succ]
        refine Oy.AnyBut.take (i := 20) (v := ?_) rfl (by kernel_rfl) (by kernel_rfl) (fun _ _ _ h => h) (by kernel_rfl) (by kernel_rfl) (_root_.Or.inl ⟨by kernel_rfl, ?_⟩) hHeld ?_
        rotate_left
        · intro w0 hSw; (try dsimp only at hSw); go_simp; try with_reducible rfl
        try simp only [Act.put, List.setIfInBounds_toArray, List.set_cons_zero, List.set_cons_succ]
        refine Oy.AnyBut.take (i := 21) (v := ?_) rfl (by kernel_rfl) (by kernel_rfl) (fun _ _ _ h => h) (by kernel_rfl) (by kernel_rfl) (_root_.Or.inl ⟨by kernel_rfl, ?_⟩) hHeld ?_
        rotate_left
        · intro w0 hSw; (try dsimp only at hSw); go_simp; try with_reducible rfl
        try simp only [Act.put, List.setIfInBounds_toArray, List.set_cons_zero, List.set_cons_succ]
        refine Oy.AnyBut.take (i := 22) (v := ?_) rfl (by kernel_rfl) (by kernel_rfl) (fun _ _ _ h => h) (by kernel_rfl) (by kernel_rfl) (_root_.Or.inl ⟨by kernel_rfl, ?_⟩) hHeld ?_
        rotate_left
        · intro w0 hSw; (try dsimp only at hSw); go_simp; try with_reducible rfl
        try simp only [Act.put, List.setIfInBounds_toArray, List.set_cons_zero, List.set_cons_succ]
        refine Oy.AnyBut.take (i := 23) (v := ?_) rfl (by kernel_rfl) (by kernel_rfl) (fun _ _ _ h => h) (by kernel_rfl) (by kernel_rfl) (_root_.Or.inl ⟨by kernel_rfl, ?_⟩) hHeld ?_
        rotate_left
        · intro w0 hSw; (try dsimp only at hSw); go_simp; try with_reducible rfl
        try simp only [Act.put, List.setIfInBounds_toArray, List.set_cons_zero, List.set_cons_succ]
        refine Oy.AnyBut.take (i := 24) (v := ?_) rfl (by kernel_rfl) (by kernel_rfl) (fun _ _ _ h => h) (by kernel_rfl) (by kernel_rfl) (_root_.Or.inl ⟨by kernel_rfl, ?_⟩) hHeld ?_
        rotate_left
        · intro w0 hSw; (try dsimp only at hSw); go_simp; try with_reducible rfl
        try simp only [Act.put, List.setIfInBounds_toArray, List.set_cons_zero, List.set_cons_succ]
        refine Oy.AnyBut.take (i := 25) (v := ?_) rfl (by kernel_rfl) (by kernel_rfl) (fun _ _ _ h => h) (by kernel_rfl) (by kernel_rfl) (_root_.Or.inl ⟨by kernel_rfl, ?_⟩) hHeld ?_
        rotate_left
        · intro w0 hSw; (try dsimp only at hSw); go_simp; try with_reducible rfl
        try simp only [Act.put, List.setIfInBounds_toArray, List.set_cons_zero, List.set_cons_succ]
        refine Oy.AnyBut.take (i := 26) (v := ?_) rfl (by kernel_rfl) (by kernel_rfl) (fun _ _ _ h => h) (by kernel_rfl) (by kernel_rfl) (_root_.Or.inl ⟨by kernel_rfl, ?_⟩) hHeld ?_
        rotate_left
        · intro w0 hSw; (try dsimp only at hSw); go_simp; try with_reducible rfl
        try simp only [Act.put, List.setIfInBounds_toArray, List.set_cons_zero, List.set_cons_succ]
        refine Oy.AnyBut.take (i := 27) (v := .string V8) rfl (by kernel_rfl) (by kernel_rfl) (fun _ _ _ h => h) (by kernel_rfl) (by kernel_rfl) (_root_.Or.inl ⟨by kernel_rfl, ?_⟩) hHeld ?_
        · intro w0 hSw; refine exec_slice Tryd.underlying9 rfl ?_ ?_ (HSL2.out w0) <;> simp [go_sem]
        try simp only [Act.put, List.setIfInBounds_toArray, List.set_cons_zero, List.set_cons_succ]
        refine Oy.AnyBut.take (i := 28) (v := ?_) rfl (by kernel_rfl) (by kernel_rfl) (fun _ _ _ h => h) (by kernel_rfl) (by kernel_rfl) (_root_.Or.inl ⟨by kernel_rfl, ?_⟩) hHeld ?_
        rotate_left
        · intro w0 hSw; (try dsimp only at hSw); go_simp; try with_reducible rfl
        try simp only [Act.put, List.setIfInBounds_toArray, List.set_cons_zero, List.set_cons_succ]
        refine Oy.AnyBut.ready (rs := [29]) (by kernel_rfl) (by simp) ?_
        refine Oy.ReadyBut.cons rfl (fun K hK => ?_) ?_
        · go_simp
          go_at_call 15
          refine (HT1.out _ (HTB.out.later (HG7.out.drewN 1))).mono ?_
          rintro y8 w8 ⟨rfl, hg8⟩
          have HG8 := Lib.hid (Gr.trans (HG7.out.drewN 1) hg8)
          clear hg8
          go_wp2_with fail
          refine hK.out _ _ HG8.out ?_
          replace hHeld : (fun wz : World => Gr w wz) _ := HG8.out
          clear hK K
          try simp only [Act.put, List.setIfInBounds_toArray, List.set_cons_zero, List.set_cons_succ]
          refine Oy.AnyBut.take (i := 30) (v := ?_) rfl (by kernel_rfl) (by kernel_rfl) (fun _ _ _ h => h) (by kernel_rfl) (by kernel_rfl) (_root_.Or.inl ⟨by kernel_rfl, ?_⟩) hHeld ?_
          rotate_left
          · intro w0 hSw; (try dsimp only at hSw); go_simp; try with_reducible rfl
          try simp only [Act.put, List.setIfInBounds_toArray, List.set_cons_zero, List.set_cons_succ]
          refine Oy.AnyBut.take (i := 31) (v := ?_) rfl (by kernel_rfl) (by kernel_rfl) (fun _ _ _ h => h) (by kernel_rfl) (by kernel_rfl) (_root_.Or.inl ⟨by kernel_rfl, ?_⟩) hHeld ?_
          rotate_left
          · intro w0 hSw; (try dsimp only at hSw); go_simp; try with_reducible rfl
          try simp only [Act.put, List.setIfInBounds_toArray, List.set_cons_zero, List.set_cons_succ]
          refine Oy.AnyBut.take (i := 32) (v := ?_) rfl (by kernel_rfl) (by kernel_rfl) (fun _ _ _ h => h) (by kernel_rfl) (by kernel_rfl) (_root_.Or.inl ⟨by kernel_rfl, ?_⟩) hHeld ?_
          rotate_left
          · intro w0 hSw; (try dsimp only at hSw); go_simp; try with_reducible rfl
          try simp only [Act.put, List.setIfInBounds_toArray, List.set_cons_zero, List.set_cons_succ]
          refine Oy.AnyBut.ready (rs := [33]) (by kernel_rfl) (by simp) ?_
          refine Oy.ReadyBut.cons rfl (fun K hK => ?_) ?_
          · go_simp
            go_at_call 9
            refine (HSH.out _ (HTB.out.later HG8.out)).mono ?_
            rintro y9 w9 ⟨rfl, hg9⟩
            have HG9 := Lib.hid (Gr.trans HG8.out hg9)
            clear hg9
            go_wp2_with fail
            refine hK.out _ _ HG9.out ?_
            replace hHeld : (fun wz : World => Gr w wz) _ := HG9.out
            clear hK K
            try simp only [Act.put, List.setIfInBounds_toArray, List.set_cons_zero, List.set_cons_succ]
            refine Oy.AnyBut.take (i := 34) (v := ?_) rfl (by kernel_rfl) (by kernel_rfl) (fun _ _ _ h => h) (by kernel_rfl) (by kernel_rfl) (_root_.Or.inl ⟨by kernel_rfl, ?_⟩) hHeld ?_
            rotate_left
            · intro w0 hSw; (try dsimp only at hSw); go_simp; try with_reducible rfl
            try simp only [Act.put, List.setIfInBounds_toArray, List.set_cons_zero, List.set_cons_succ]
            refine Oy.AnyBut.ready (rs := [35]) (by kernel_rfl) (by simp) ?_
            refine Oy.ReadyBut.last rfl (fun K hK => ?_)
            go_simp
            refine hK.out _ _ ?_
            clear hK K
            try simp only [Act.put, List.setIfInBounds_toArray, List.set_cons_zero, List.set_cons_succ]
            refine Oy.AnyBut.done (by kernel_rfl) ?_ _
            clear hHeld
            go_wp2_with fail
            go_ret
            exact ⟨rfl, HG9.out⟩
          exact Oy.ReadyBut.nil
        exact Oy.ReadyBut.nil
end Go.Proofs.YtblaimkcdhcclaaDoor
