import Derived.Test.YtlfiakpmnkhcdaaGreatLLong
namespace Go.Proofs.YtlfiakpmnkhcdaaGreat
open Go.RowKit
set_option linter.unusedVariables false
def DivJ (N : Nat) (x y : Int) (w : World) (e : Ending) (w' : World) : Prop := ∃ (qn : Bool) (qa : Option Addr) (qk qc : Nat) (rn : Bool) (ra : Option Addr) (rk rc : Nat), e = .returned (.tuple #[.agg #[.bool qn, .slice qa qk qc], .agg #[.bool rn, .slice ra rk rc]]) ∧ HasJ (N + 1) w' (.agg #[.bool qn, .slice qa qk qc]) (x / y) ∧ HasJ N w' (.agg #[.bool rn, .slice ra rk rc]) (x % y) ∧ Gr w w'
theorem Boxedj.one (w : World) (b : Bool) (s : Value) : (w.alloc (.cells #[.bool b, s] 101)).cell? ⟨w.heap.size, 0, none⟩ = some (.bool b) ∧ (w.alloc (.cells #[.bool b, s] 101)).cell? ⟨w.heap.size, 1, none⟩ = some s := two_cells _ _ _ _
theorem sg_more (b : Bool) (n : Nat) : sg b n + sg b 1 = sg b (n + 1) := by
 cases b <;> simp [sg] <;> omega
theorem hasj_of {N : Nat} {W : World} {n : Bool} {s : Value} {l : List Nat} {z : Int} (h1 : n = decide (z < 0)) (h2 : HasD W s l) (h3 : Oh.Nm l) (h4 : Oh.val l = z.natAbs) (h5 : l.length ≤ N) : HasJ N W (.agg #[.bool n, s]) z :=
 ⟨s, l, by rw [h1], h2, h3, h4, h5⟩
theorem HasD.set4 {W : World} {v : Value} {l : List Nat} (h : HasD W v l) {B C : Nat} {b0 b1 c0 c1 : Value} (hBC : B ≠ C) (k0 : W.cell? ⟨B, 0, none⟩ = some b0) (k1 : W.cell? ⟨B, 1, none⟩ = some b1) (k2 : W.cell? ⟨C, 0, none⟩ = some c0) (k3 : W.cell? ⟨C, 1, none⟩ = some c1)
  (n0 : ∀ n, b0 ≠ .int .u32 n) (n1 : ∀ n, b1 ≠ .int .u32 n) (n2 : ∀ n, c0 ≠ .int .u32 n) (n3 : ∀ n, c1 ≠ .int .u32 n) (a b c d : Value) :
  HasD ((((W.setCell ⟨B, 0, none⟩ a).setCell ⟨B, 1, none⟩ b).setCell ⟨C, 0, none⟩ c).setCell ⟨C, 1, none⟩ d) v l := by
 refine (((h.setAt k0 n0 a).setAt ?_ n1 b).setAt ?_ n2 c).setAt ?_ n3 d
 ·rw [cell_other (by simp)]; exact k1
 ·rw [cell_other (fun e => hBC (congrArg Addr.block e)), cell_other (fun e => hBC (congrArg Addr.block e))]; exact k2
 ·rw [cell_other (by simp), cell_other (fun e => hBC (congrArg Addr.block e)), cell_other (fun e => hBC (congrArg Addr.block e))]; exact k3
theorem Gr.set4 {a b : World} (h : Gr a b) {B C : Nat} (hB : a.heap.size ≤ B) (hC : a.heap.size ≤ C) (x y z t : Value) : Gr a ((((b.setCell ⟨B, 0, none⟩ x).setCell ⟨B, 1, none⟩ y).setCell ⟨C, 0, none⟩ z).setCell ⟨C, 1, none⟩ t) :=
 (((h.setCell (p := ⟨B, 0, none⟩) hB _).setCell (p := ⟨B, 1, none⟩) hB _).setCell (p := ⟨C, 0, none⟩) hC _).setCell (p := ⟨C, 1, none⟩) hC _
set_option maxRecDepth 100000 in
set_option maxHeartbeats 8000000 in
theorem rdiv_num (N : Nat) (x y : Int) (u v : Value) (w : World) (hu : HasJ N w u x) (hv : HasJ N w v y) (hy : y ≠ 0) (hN : N ≤ 80000) :
  Calls Tryz.prog 150 #[u, v] w (DivJ N x y w) := by
 obtain ⟨xn, xa, xk, xc, xl, rfl, x1, x2, x3, x4, x5⟩ := hu.parts
 have X1 := Lib.hid x1
 have X2 := Lib.hid x2
 have X3 := Lib.hid x3
 have X4 := Lib.hid x4
 have X5 := Lib.hid x5
 clear x1 x2 x3 x4 x5 hu
 obtain ⟨yn, ya, yk, yc, yl, rfl, y1, y2, y3, y4, y5⟩ := hv.parts
 have Y1 := Lib.hid y1
 have Y2 := Lib.hid y2
 have Y3 := Lib.hid y3
 have Y4 := Lib.hid y4
 have Y5 := Lib.hid y5
 have HYL := Lib.hid (show 1 ≤ yl.length from by
  rcases Nat.eq_zero_or_pos yl.length with h | h
  ·rw [List.length_eq_zero_iff.1 h] at y4
   simp [Oh.val] at y4
   exact absurd y4.symm (by omega)
  ·exact h)
 have HY0 := Lib.hid hy
 clear y1 y2 y3 y4 y5 hv hy
 go_enter Tryz.func150, Tryz.ntmps150
 go_wp2_with fail
 obtain ⟨W, hW⟩ : ∃ W : World, W = (((w.alloc (.cells #[.bool xn, .slice xa xk xc] 101)).alloc (.cells #[.bool yn, .slice ya yk yc] 101)).alloc (.cells #[.bool false, .slice none 0 0] 101)).alloc (.cells #[.bool false, .slice none 0 0] 101) := ⟨_, rfl⟩
 rw [← hW]
 have g1 : Gr w W := by rw [hW]; exact ((((Gr.refl _).alloc _).alloc _).alloc _).alloc _
 have x0 : W.cell? ⟨w.heap.size, 0, none⟩ = some (.bool xn) := by rw [hW]; simp [go_sem]
 have x1 : W.cell? ⟨w.heap.size, 1, none⟩ = some (.slice xa xk xc) := by rw [hW]; simp [go_sem]
 have y0 : W.cell? ⟨w.heap.size + 1, 0, none⟩ = some (.bool yn) := by rw [hW]; simp [go_sem]
 have y1 : W.cell? ⟨w.heap.size + 1, 1, none⟩ = some (.slice ya yk yc) := by rw [hW]; simp [go_sem]
 have C0 := Lib.hid (show W.cell? ⟨w.heap.size + 1 + 1, 0, none⟩ = some (.bool false) by rw [hW]; simp [go_sem])
 have C1 := Lib.hid (show W.cell? ⟨w.heap.size + 1 + 1, 1, none⟩ = some (.slice none 0 0) by rw [hW]; simp [go_sem])
 have D0 := Lib.hid (show W.cell? ⟨w.heap.size + 1 + 1 + 1, 0, none⟩ = some (.bool false) by rw [hW]; simp [go_sem])
 have D1 := Lib.hid (show W.cell? ⟨w.heap.size + 1 + 1 + 1, 1, none⟩ = some (.slice none 0 0) by rw [hW]; simp [go_sem])
 have FC0 := Lib.hid (show W.frozen? ⟨w.heap.size + 1 + 1, 0, none⟩ = false by rw [hW]; simp [go_sem])
 have FC1 := Lib.hid (show W.frozen? ⟨w.heap.size + 1 + 1, 1, none⟩ = false by rw [hW]; simp [go_sem])
 have FD0 := Lib.hid (show W.frozen? ⟨w.heap.size + 1 + 1 + 1, 0, none⟩ = false by rw [hW]; simp [go_sem])
 have FD1 := Lib.hid (show W.frozen? ⟨w.heap.size + 1 + 1 + 1, 1, none⟩ = false by rw [hW]; simp [go_sem])
 have hsz : W.heap.size = w.heap.size + 1 + 1 + 1 + 1 := by rw [hW]; simp
 have HG := Lib.hid g1
 have HSZ := Lib.hid hsz
 clear hW g1 hsz
 refine (rlong_any xl yl _ _ _ (X2.out.later HG.out) (Y2.out.later HG.out) X3.out.1 Y3.out HYL.out N N X5.out (by omega) Y5.out (by omega)).mono ?_
 rintro e w1 ⟨qa, qk, qc, ra, rk, rc, q, r, rfl, q1, q2, q3, q4, r1, r2, r3, r4, g⟩
 have Q1 := Lib.hid q1
 have Q2 := Lib.hid q2
 have Q3 := Lib.hid q3
 have Q4 := Lib.hid q4
 have R1 := Lib.hid r1
 have R2 := Lib.hid r2
 have R3 := Lib.hid r3
 have R4 := Lib.hid r4
 have x0 := g.keeps x0
 have x1 := g.keeps x1
 have y0 := g.keeps y0
 have y1 := g.keeps y1
 have FC0 := Lib.hid (g.frozen C0.out FC0.out)
 have C0 := Lib.hid (g.keeps C0.out)
 have FC1 := Lib.hid (g.frozen C1.out FC1.out)
 have C1 := Lib.hid (g.keeps C1.out)
 have FD0 := Lib.hid (g.frozen D0.out FD0.out)
 have D0 := Lib.hid (g.keeps D0.out)
 have FD1 := Lib.hid (g.frozen D1.out FD1.out)
 have D1 := Lib.hid (g.keeps D1.out)
 have HSZ1 := Lib.hid (show w.heap.size + 1 + 1 + 1 + 1 ≤ w1.heap.size from by have := g.size; rw [HSZ.out] at this; exact this)
 have HG := Lib.hid (HG.out.trans g)
 clear q1 q2 q3 q4 r1 r2 r3 r4 g
 go_wp2_with fail
 refine (rtrim_any false r _ _ R1.out R2.out (Nat.le_trans R4.out (by omega))).mono ?_
 rintro e w2 ⟨z, rfl, hz, g⟩
 obtain ⟨rn, ta, tk, tc, tl, rfl, t1, t2, t3, t4, t5⟩ := hz.parts
 have T1 := Lib.hid t1
 have T2 := Lib.hid t2
 have T3 := Lib.hid t3
 have T4 := Lib.hid t4
 have T5 := Lib.hid t5
 have Q1 := Lib.hid (Q1.out.later g)
 have x0 := g.keeps x0
 have x1 := g.keeps x1
 have y0 := g.keeps y0
 have y1 := g.keeps y1
 have FC0 := Lib.hid (g.frozen C0.out FC0.out)
 have C0 := Lib.hid (g.keeps C0.out)
 have FC1 := Lib.hid (g.frozen C1.out FC1.out)
 have C1 := Lib.hid (g.keeps C1.out)
 have FD0 := Lib.hid (g.frozen D0.out FD0.out)
 have D0 := Lib.hid (g.keeps D0.out)
 have FD1 := Lib.hid (g.frozen D1.out FD1.out)
 have D1 := Lib.hid (g.keeps D1.out)
 have HSZ2 := Lib.hid (Nat.le_trans HSZ1.out g.size)
 have HG := Lib.hid (HG.out.trans g)
 have n2 : ¬ (w2.heap.size = w.heap.size) := by have := HSZ2.out; omega
 have n3 : ¬ (w.heap.size = w2.heap.size) := by have := HSZ2.out; omega
 have n4 : ¬ (w2.heap.size = w.heap.size + 1) := by have := HSZ2.out; omega
 have n5 : ¬ (w.heap.size + 1 = w2.heap.size) := by have := HSZ2.out; omega
 clear hz t1 t2 t3 t4 t5 g
 have gn := Gr.new w2 (.cells #[.bool rn, .slice ta tk tc] 101)
 have e0 := Boxedj.one (w2) rn (.slice ta tk tc)
 have x0 := gn.keeps x0
 have x1 := gn.keeps x1
 have y0 := gn.keeps y0
 have y1 := gn.keeps y1
 have FC0 := Lib.hid (gn.frozen C0.out FC0.out)
 have C0 := Lib.hid (gn.keeps C0.out)
 have FC1 := Lib.hid (gn.frozen C1.out FC1.out)
 have C1 := Lib.hid (gn.keeps C1.out)
 have FD0 := Lib.hid (gn.frozen D0.out FD0.out)
 have D0 := Lib.hid (gn.keeps D0.out)
 have FD1 := Lib.hid (gn.frozen D1.out FD1.out)
 have D1 := Lib.hid (gn.keeps D1.out)
 obtain ⟨e0, e1⟩ := e0
 clear gn
 obtain ⟨sn, hsn⟩ : ∃ b, b = (!(xn == yn)) := ⟨_, rfl⟩
 have HSN := Lib.hid hsn
 clear hsn
 go_wp2_with fail
 rw [← HSN.out]
 have gn := Gr.new w2 (.cells #[.bool rn, .slice ta tk tc] 101)
 have Q1 := Lib.hid (Q1.out.later gn)
 have T2 := Lib.hid (T2.out.later gn)
 have HG := Lib.hid (HG.out.trans gn)
 have hE3 : w.heap.size + 1 + 1 + 1 + 1 ≤ w2.heap.size := HSZ2.out
 have HS3 := Lib.hid (show w2.heap.size < (w2.alloc (.cells #[.bool rn, .slice ta tk tc] 101)).heap.size from by rw [World.size_alloc]; omega)
 clear gn n2 n3 n4 n5 HSZ2
 generalize w2.alloc (.cells #[.bool rn, .slice ta tk tc] 101) = W3 at *
 generalize w2.heap.size = E at *
 refine (rtrim_any sn q _ _ Q1.out Q2.out (Nat.le_trans Q4.out (by omega))).mono ?_
 rintro e w3 ⟨z, rfl, hz, g⟩
 obtain ⟨qn, pa, pk, pc, pl, rfl, p1, p2, p3, p4, p5⟩ := hz.parts
 have P1 := Lib.hid p1
 have P2 := Lib.hid p2
 have P3 := Lib.hid p3
 have P4 := Lib.hid p4
 have P5 := Lib.hid p5
 have T2 := Lib.hid (T2.out.later g)
 have x0 := g.keeps x0
 have x1 := g.keeps x1
 have y0 := g.keeps y0
 have y1 := g.keeps y1
 have e0 := g.keeps e0
 have e1 := g.keeps e1
 have FC0 := Lib.hid (g.frozen C0.out FC0.out)
 have C0 := Lib.hid (g.keeps C0.out)
 have FC1 := Lib.hid (g.frozen C1.out FC1.out)
 have C1 := Lib.hid (g.keeps C1.out)
 have FD0 := Lib.hid (g.frozen D0.out FD0.out)
 have D0 := Lib.hid (g.keeps D0.out)
 have FD1 := Lib.hid (g.frozen D1.out FD1.out)
 have D1 := Lib.hid (g.keeps D1.out)
 have HS4 := Lib.hid (Nat.lt_of_lt_of_le HS3.out g.size)
 have HG := Lib.hid (HG.out.trans g)
 clear hz p1 p2 p3 p4 p5 g
 have gn := Gr.new w3 (.cells #[.bool qn, .slice pa pk pc] 101)
 have f0 := Boxedj.one w3 qn (.slice pa pk pc)
 have x0 := gn.keeps x0
 have x1 := gn.keeps x1
 have y0 := gn.keeps y0
 have y1 := gn.keeps y1
 have e0 := gn.keeps e0
 have e1 := gn.keeps e1
 have FC0 := Lib.hid (gn.frozen C0.out FC0.out)
 have C0 := Lib.hid (gn.keeps C0.out)
 have FC1 := Lib.hid (gn.frozen C1.out FC1.out)
 have C1 := Lib.hid (gn.keeps C1.out)
 have FD0 := Lib.hid (gn.frozen D0.out FD0.out)
 have D0 := Lib.hid (gn.keeps D0.out)
 have FD1 := Lib.hid (gn.frozen D1.out FD1.out)
 have D1 := Lib.hid (gn.keeps D1.out)
 obtain ⟨f0, f1⟩ := f0
 have P2 := Lib.hid (P2.out.later gn)
 have T2 := Lib.hid (T2.out.later gn)
 have HG := Lib.hid (HG.out.trans gn)
 clear gn
 have HVR := Lib.hid (show Oh.val tl = x.natAbs % y.natAbs from by rw [T4.out, R3.out, X4.out, Y4.out]; simp [sg]; omega)
 have HVQ := Lib.hid (show sg sn (Oh.val q) = sg sn (x.natAbs / y.natAbs) from by rw [Q3.out, X4.out, Y4.out])
 have HVQ3 := Lib.hid (show Oh.val q = x.natAbs / y.natAbs from by rw [Q3.out, X4.out, Y4.out])
 have htk : tk = tl.length := T2.out.len.1
 have HTK := Lib.hid htk
 have HPOS := Lib.hid (show 0 < tl.length ↔ 0 < Oh.val tl from by
  have := Oh.tr_pos T3.out.1
  rw [T3.out.2] at this
  exact this)
 have hplain : (¬ (x < 0 ∧ 0 < x.natAbs % y.natAbs)) ∨ (x < 0 ∧ 0 < x.natAbs % y.natAbs) := by
  rcases Classical.em (x < 0 ∧ 0 < x.natAbs % y.natAbs) with h | h
  ·exact .inr h
  ·exact .inl h
 clear htk
 rcases hplain with hp | hp
 ·have HDP := Lib.hid (div_plain HY0.out hp)
  have HZ1 := Lib.hid (show sg sn (Oh.val q) = x / y from by rw [HVQ.out, HSN.out, X1.out, Y1.out]; exact HDP.out.1)
  have HZ2 := Lib.hid (show sg false (Oh.val r) = x % y from by rw [R3.out, X4.out, Y4.out]; exact HDP.out.2)
  have hcond : xn = false ∨ (xn = true ∧ tk = 0) := by
   rcases Bool.eq_false_or_eq_true xn with h | h
   ·refine .inr ⟨h, ?_⟩
    rw [HTK.out]
    apply Nat.eq_zero_of_not_pos
    intro h0
    have h1 := HPOS.out.1 h0
    rw [HVR.out] at h1
    have h2 := X1.out
    rw [h] at h2
    exact hp ⟨by simpa using h2.symm, h1⟩
   ·exact .inl h
  clear hp
  have c0 := C0.out
  have c1 := C1.out
  have d0 := D0.out
  have d1 := D1.out
  have fc0 := FC0.out
  have fc1 := FC1.out
  have fd0 := FD0.out
  have fd1 := FD1.out
  have m1 : ¬ (w3.heap.size = w.heap.size + 1 + 1) := by have := HS4.out; omega
  have m2 : ¬ (w.heap.size + 1 + 1 = w3.heap.size) := by have := HS4.out; omega
  have m3 : ¬ (w3.heap.size = w.heap.size + 1 + 1 + 1) := by have := HS4.out; omega
  have m4 : ¬ (w.heap.size + 1 + 1 + 1 = w3.heap.size) := by have := HS4.out; omega
  have m5 : ¬ (E = w.heap.size + 1 + 1) := by omega
  have m6 : ¬ (w.heap.size + 1 + 1 = E) := by omega
  have m7 : ¬ (E = w.heap.size + 1 + 1 + 1) := by omega
  have m8 : ¬ (w.heap.size + 1 + 1 + 1 = E) := by omega
  rcases hcond with rfl | ⟨rfl, rfl⟩
  ·go_wp2_with fail
   generalize (w3.alloc (.cells #[.bool qn, .slice pa pk pc] 101)) = W4 at *
   generalize w3.heap.size = F at *
   go_region
   go_wp2_with fail
   refine bodyPost_ret (v := .tuple #[.agg #[.bool qn, .slice pa pk pc], .agg #[.bool rn, .slice ta tk tc]]) (by simp [results, Tryz.results150, go_sem, c0, c1, d0, d1]) rfl ?_
   refine ⟨qn, pa, pk, pc, rn, ta, tk, tc, rfl, hasj_of (by rw [← HZ1.out]; exact P1.out) (HasD.later (P2.out.set4 (by omega) c0 c1 d0 d1 (by simp) (by simp) (by simp) (by simp) _ _ _ _) (Gr.drw (Gr.refl _))) P3.out (by rw [← HZ1.out]; exact P4.out) (Nat.le_trans P5.out (Nat.le_trans Q4.out (Nat.le_succ _))), hasj_of (by rw [← HZ2.out]; exact T1.out) (HasD.later (T2.out.set4 (by omega) c0 c1 d0 d1 (by simp) (by simp) (by simp) (by simp) _ _ _ _) (Gr.drw (Gr.refl _))) T3.out (by rw [← HZ2.out]; exact T4.out) (Nat.le_trans T5.out R4.out), Gr.drw (HG.out.set4 (by omega) (by omega) _ _ _ _)⟩
  ·go_wp2_with fail
   generalize (w3.alloc (.cells #[.bool qn, .slice pa pk pc] 101)) = W4 at *
   generalize w3.heap.size = F at *
   go_region
   go_wp2_with fail
   refine bodyPost_ret (v := .tuple #[.agg #[.bool qn, .slice pa pk pc], .agg #[.bool rn, .slice ta 0 tc]]) (by simp [results, Tryz.results150, go_sem, c0, c1, d0, d1]) rfl ?_
   refine ⟨qn, pa, pk, pc, rn, ta, 0, tc, rfl, hasj_of (by rw [← HZ1.out]; exact P1.out) (HasD.later (P2.out.set4 (by omega) c0 c1 d0 d1 (by simp) (by simp) (by simp) (by simp) _ _ _ _) (Gr.drw (Gr.refl _))) P3.out (by rw [← HZ1.out]; exact P4.out) (Nat.le_trans P5.out (Nat.le_trans Q4.out (Nat.le_succ _))), hasj_of (by rw [← HZ2.out]; exact T1.out) (HasD.later (T2.out.set4 (by omega) c0 c1 d0 d1 (by simp) (by simp) (by simp) (by simp) _ _ _ _) (Gr.drw (Gr.refl _))) T3.out (by rw [← HZ2.out]; exact T4.out) (Nat.le_trans T5.out R4.out), Gr.drw (HG.out.set4 (by omega) (by omega) _ _ _ _)⟩
 ·have HDX := Lib.hid (div_fix HY0.out hp.1 hp.2)
  have hxn : xn = true := by rw [X1.out]; simpa using hp.1
  have htl : 0 < tl.length := HPOS.out.2 (by rw [HVR.out]; exact hp.2)
  have HX1 := X1
  have HLE := Lib.hid (show Oh.val tl ≤ Oh.val yl from by rw [HVR.out, Y4.out]; exact Nat.le_of_lt (Nat.mod_lt _ (by have := HY0.out; omega)))
  have HML := Lib.hid (show tl.length ≤ yl.length from Oh.nm_len T3.out (Nat.lt_of_le_of_lt HLE.out (Oh.val_lt yl Y3.out.1)))
  have htk0 : ¬ (tk = 0) := by rw [HTK.out]; omega
  have htk1 : ((tk : Int) == 0) = false := by simp; omega
  have htk2 : ¬ ((tk : Int) = 0) := by omega
  clear hp htl
  subst hxn
  go_wp2_with fail
  generalize (w3.alloc (.cells #[.bool qn, .slice pa pk pc] 101)) = W4 at *
  generalize w3.heap.size = F at *
  have hEF : E < F := HS4.out
  have HFS := Lib.hid (show F < W4.heap.size from World.block_lt_of_cell? W4 _ f0)
  refine (rword_any 1 _ (by omega)).mono ?_
  rintro e w5 ⟨o, rfl, ho, g⟩
  obtain ⟨on, oa, ok, oc, ol, rfl, o1, o2, o3, o4, o5⟩ := ho.parts
  have O2 := Lib.hid o2
  have O3 := Lib.hid o3
  have O4 := Lib.hid o4
  have P2 := Lib.hid (P2.out.later g)
  have T2 := Lib.hid (T2.out.later g)
  have x0 := g.keeps x0
  have x1 := g.keeps x1
  have y0 := g.keeps y0
  have y1 := g.keeps y1
  have e0 := g.keeps e0
  have e1 := g.keeps e1
  have f0 := g.keeps f0
  have f1 := g.keeps f1
  have FC0 := Lib.hid (g.frozen C0.out FC0.out)
  have C0 := Lib.hid (g.keeps C0.out)
  have FC1 := Lib.hid (g.frozen C1.out FC1.out)
  have C1 := Lib.hid (g.keeps C1.out)
  have FD0 := Lib.hid (g.frozen D0.out FD0.out)
  have D0 := Lib.hid (g.keeps D0.out)
  have FD1 := Lib.hid (g.frozen D1.out FD1.out)
  have D1 := Lib.hid (g.keeps D1.out)
  have HFS := Lib.hid (Nat.lt_of_lt_of_le HFS.out g.size)
  have HG := Lib.hid (HG.out.trans g)
  clear ho o1 o2 o3 o4 o5 g
  have KY1 := Lib.hid y1
  have KE1 := Lib.hid e1
  have KF0 := Lib.hid f0
  have KF1 := Lib.hid f1
  have KP2 := P2
  have KO2 := O2
  have KT2 := T2
  have KG := HG
  have KC0 := C0
  have KC1 := C1
  have KD0 := D0
  have KD1 := D1
  have KFC0 := FC0
  have KFC1 := FC1
  have KFD0 := FD0
  have KFD1 := FD1
  clear C0 C1 D0 D1 FC0 FC1 FD0 FD1 P2 O2 T2 HG
  have gn := Gr.new w5 (.cells #[.bool on, .slice oa ok oc] 101)
  have g0 := Boxedj.one w5 on (.slice oa ok oc)
  have x0 := gn.keeps x0
  have x1 := gn.keeps x1
  have y0 := gn.keeps y0
  have y1 := gn.keeps y1
  have e0 := gn.keeps e0
  have e1 := gn.keeps e1
  have f0 := gn.keeps f0
  have f1 := gn.keeps f1
  obtain ⟨g0, g1⟩ := g0
  have fg0 : (w5.alloc (.cells #[.bool on, .slice oa ok oc] 101)).frozen? ⟨w5.heap.size, 0, none⟩ = false := froz0 _ _ _ _
  clear gn
  go_wp2_with fail
  clear x0 x1 y0 y1 e0 e1 f0 f1 g0 g1 fg0
  have gn := Gr.new w5 (.cells #[.bool !yn, .slice oa ok oc] 101)
  have g0 := Boxedj.one w5 (!yn) (.slice oa ok oc)
  obtain ⟨g0, g1⟩ := g0
  have y1 := gn.keeps KY1.out
  have e1 := gn.keeps KE1.out
  have f0 := gn.keeps KF0.out
  have f1 := gn.keeps KF1.out
  have FC0 := Lib.hid (gn.frozen KC0.out KFC0.out)
  have FC1 := Lib.hid (gn.frozen KC1.out KFC1.out)
  have FD0 := Lib.hid (gn.frozen KD0.out KFD0.out)
  have FD1 := Lib.hid (gn.frozen KD1.out KFD1.out)
  have C0 := Lib.hid (gn.keeps KC0.out)
  have C1 := Lib.hid (gn.keeps KC1.out)
  have D0 := Lib.hid (gn.keeps KD0.out)
  have D1 := Lib.hid (gn.keeps KD1.out)
  have P2 := KP2.out.later gn
  have O2 := KO2.out.later gn
  have HT := Lib.hid (KT2.out.later gn)
  have HG := Lib.hid (KG.out.trans gn)
  have hFG : F < w5.heap.size := HFS.out
  clear gn KY1 KE1 KF0 KF1 KC0 KC1 KD0 KD1 KFC0 KFC1 KFD0 KFD1 KP2 KO2 KT2 KG HFS HS4 HS3
  generalize w5.alloc (.cells #[.bool !yn, .slice oa ok oc] 101) = W6 at *
  generalize w5.heap.size = G at *
  have hsn2 : sn = !yn := by rw [HSN.out]; cases yn <;> rfl
  obtain ⟨Z1, hZ1⟩ : ∃ Z1, Z1 = sg sn (Oh.val q) := ⟨_, rfl⟩
  obtain ⟨Z2, hZ2⟩ : ∃ Z2, Z2 = sg sn 1 := ⟨_, rfl⟩
  have HZ1 := Lib.hid (show Z1 + Z2 = x / y from by
   rw [hZ1, hZ2, sg_more, HVQ3.out, HSN.out, Y1.out, HX1.out]
   exact HDX.out.1)
  have HZ2 := Lib.hid (show sg false (Oh.val yl - Oh.val tl) = x % y from by rw [Y4.out, HVR.out]; exact HDX.out.2)
  have hN1 : 1 ≤ N := Nat.le_trans HYL.out Y5.out
  have HQJ := Lib.hid (show HasJ N W6.drew (.agg #[.bool qn, .slice pa pk pc]) Z1 from hasj_of (by rw [hZ1]; exact P1.out) P2 P3.out (by rw [hZ1]; exact P4.out) (Nat.le_trans P5.out Q4.out))
  have HOJ := Lib.hid (show HasJ N W6.drew (.agg #[.bool !yn, .slice oa ok oc]) Z2 from hasj_of (by rw [hZ2, sg_neg, hsn2]; simp) O2 O3.out (by rw [hZ2, O4.out]; unfold sg; cases sn <;> rfl) (Nat.le_trans (Oh.nm_len O3.out (N := 1) (by rw [O4.out]; decide)) hN1))
  have HY2 := Lib.hid (Y2.out.later HG.out)
  have hN9 : N ≤ 90000 := by omega
  have hN10 : N ≤ 100000 := by omega
  have YD := Lib.hid Y3.out.1
  have TD := Lib.hid T3.out.1
  have m1 : ¬ (F = w.heap.size + 1 + 1) := by omega
  have m2 : ¬ (w.heap.size + 1 + 1 = F) := by omega
  have m3 : ¬ (F = w.heap.size + 1 + 1 + 1) := by omega
  have m4 : ¬ (w.heap.size + 1 + 1 + 1 = F) := by omega
  have m5 : ¬ (E = w.heap.size + 1 + 1) := by omega
  have m6 : ¬ (w.heap.size + 1 + 1 = E) := by omega
  have m7 : ¬ (E = w.heap.size + 1 + 1 + 1) := by omega
  have m8 : ¬ (w.heap.size + 1 + 1 + 1 = E) := by omega
  have m9 : ¬ (G = w.heap.size + 1 + 1) := by omega
  have m10 : ¬ (w.heap.size + 1 + 1 = G) := by omega
  have m11 : ¬ (G = w.heap.size + 1 + 1 + 1) := by omega
  have m12 : ¬ (w.heap.size + 1 + 1 + 1 = G) := by omega
  have m13 : ¬ (w.heap.size + 1 = w.heap.size + 1 + 1) := by omega
  have m14 : ¬ (w.heap.size + 1 + 1 = w.heap.size + 1) := by omega
  have m15 : ¬ (w.heap.size + 1 = w.heap.size + 1 + 1 + 1) := by omega
  have m16 : ¬ (w.heap.size + 1 + 1 + 1 = w.heap.size + 1) := by omega
  have m17 : ¬ (w.heap.size + 1 + 1 = w.heap.size + 1 + 1 + 1) := by omega
  have m18 : ¬ (w.heap.size + 1 + 1 + 1 = w.heap.size + 1 + 1) := by omega
  have hwC : w.heap.size ≤ w.heap.size + 1 + 1 := by omega
  have hwD : w.heap.size ≤ w.heap.size + 1 + 1 + 1 := by omega
  clear hZ1 hZ2 hsn2 P2 O2 hFG hEF hE3 HSZ1 HSZ
  generalize w.heap.size + 1 + 1 + 1 = D at *
  generalize w.heap.size + 1 + 1 = C at *
  generalize w.heap.size + 1 = B at *
  go_region_held3 (fun w' => w'.cell? ⟨B, 1, none⟩ = some (.slice ya yk yc) ∧ w'.cell? ⟨E, 1, none⟩ = some (.slice ta tk tc) ∧ w'.cell? ⟨F, 0, none⟩ = some (.bool qn) ∧ w'.cell? ⟨F, 1, none⟩ = some (.slice pa pk pc) ∧ w'.cell? ⟨G, 0, none⟩ = some (.bool !yn) ∧ w'.cell? ⟨G, 1, none⟩ = some (.slice oa ok oc)) (first | exact ⟨y1, e1, f0, f1, g0, g1⟩ | go_keep)
   (first
    | (go_at_call 88; (with_reducible refine (radd_any N Z1 Z2 _ _ _ HQJ.out HOJ.out hN9).mono ?_); rintro e w' ⟨p, rfl, hp, g⟩; have g := Gr.trans (show Gr W6 W6.drew from Below.drew (Gr.refl W6)) g; have y1 := g.keeps y1; have e1 := g.keeps e1; have f0 := g.keeps f0; have f1 := g.keeps f1; have g0 := g.keeps g0; have g1 := g.keeps g1; have FC0 := Lib.hid (g.frozen C0.out FC0.out); have C0 := Lib.hid (g.keeps C0.out); have FC1 := Lib.hid (g.frozen C1.out FC1.out); have C1 := Lib.hid (g.keeps C1.out); have FD0 := Lib.hid (g.frozen D0.out FD0.out); have D0 := Lib.hid (g.keeps D0.out); have FD1 := Lib.hid (g.frozen D1.out FD1.out); have D1 := Lib.hid (g.keeps D1.out); have HY2 := Lib.hid (HY2.out.later g); have HT := Lib.hid (HT.out.later g); have HG := Lib.hid (HG.out.trans g); obtain ⟨an, aa, ak, ac, al, rfl, a1, a2, a3, a4, a5⟩ := hp.parts; have A1 := Lib.hid a1; have A2 := Lib.hid a2; have A3 := Lib.hid a3; have A4 := Lib.hid a4; have A5 := Lib.hid a5; clear hp a1 a2 a3 a4 a5 g)
    | (go_at_call 125; (with_reducible refine (rminus_any yl tl _ _ _ HY2.out HT.out YD.out TD.out N Y5.out hN10 HML.out HLE.out).mono ?_); rintro e w' ⟨p, ml, rfl, hm, hmd, hmv, hml, g⟩; have y1 := g.keeps y1; have e1 := g.keeps e1; have f0 := g.keeps f0; have f1 := g.keeps f1; have g0 := g.keeps g0; have g1 := g.keeps g1; have FC0 := Lib.hid (g.frozen C0.out FC0.out); have C0 := Lib.hid (g.keeps C0.out); have FC1 := Lib.hid (g.frozen C1.out FC1.out); have C1 := Lib.hid (g.keeps C1.out); have FD0 := Lib.hid (g.frozen D0.out FD0.out); have D0 := Lib.hid (g.keeps D0.out); have FD1 := Lib.hid (g.frozen D1.out FD1.out); have D1 := Lib.hid (g.keeps D1.out); have HY2 := Lib.hid (HY2.out.later g); have HT := Lib.hid (HT.out.later g); have HG := Lib.hid (HG.out.trans g); have A2 := Lib.hid (A2.out.later g); obtain ⟨-, ma, mc, rfl, -, -, -⟩ := id hm; have HM := Lib.hid hm; have HMD := Lib.hid hmd; have HMV := Lib.hid hmv; have HMLL := Lib.hid hml; have HML9 := Lib.hid (Nat.le_trans hml hN10); clear hm hmd hmv hml g)
    | (go_at_call 122; (with_reducible refine (rtrim_any false ml _ _ HM.out HMD.out HML9.out).mono ?_); rintro e w' ⟨p, rfl, hp, g⟩; have y1 := g.keeps y1; have e1 := g.keeps e1; have f0 := g.keeps f0; have f1 := g.keeps f1; have g0 := g.keeps g0; have g1 := g.keeps g1; have FC0 := Lib.hid (g.frozen C0.out FC0.out); have C0 := Lib.hid (g.keeps C0.out); have FC1 := Lib.hid (g.frozen C1.out FC1.out); have C1 := Lib.hid (g.keeps C1.out); have FD0 := Lib.hid (g.frozen D0.out FD0.out); have D0 := Lib.hid (g.keeps D0.out); have FD1 := Lib.hid (g.frozen D1.out FD1.out); have D1 := Lib.hid (g.keeps D1.out); have HY2 := Lib.hid (HY2.out.later g); have HT := Lib.hid (HT.out.later g); have HG := Lib.hid (HG.out.trans g); have A2 := Lib.hid (A2.out.later g); obtain ⟨bn, ba, bk, bc, bl, rfl, b1, b2, b3, b4, b5⟩ := hp.parts; have B1 := Lib.hid b1; have B2 := Lib.hid b2; have B3 := Lib.hid b3; have B4 := Lib.hid b4; have B5 := Lib.hid b5; have c0 := C0.out; have c1 := C1.out; have d0 := D0.out; have d1 := D1.out; have fc0 := FC0.out; have fc1 := FC1.out; have fd0 := FD0.out; have fd1 := FD1.out; clear hp b1 b2 b3 b4 b5 g))
  all_goals
   go_wp2_with fail
   refine bodyPost_ret (v := .tuple #[.agg #[.bool an, .slice aa ak ac], .agg #[.bool bn, .slice ba bk bc]]) (by simp [results, Tryz.results150, go_sem, c0, c1, d0, d1]) rfl ?_
   have hz2 : sg false (Oh.val ml) = x % y := by rw [HMV.out]; exact HZ2.out
   exact ⟨an, aa, ak, ac, bn, ba, bk, bc, rfl, hasj_of (by rw [← HZ1.out]; exact A1.out) (A2.out.set4 m17 c0 c1 d0 d1 (by simp) (by simp) (by simp) (by simp) _ _ _ _) A3.out (by rw [← HZ1.out]; exact A4.out) A5.out, hasj_of (by rw [← hz2]; exact B1.out) (B2.out.set4 m17 c0 c1 d0 d1 (by simp) (by simp) (by simp) (by simp) _ _ _ _) B3.out (by rw [← hz2]; exact B4.out) (Nat.le_trans B5.out HMLL.out), HG.out.set4 hwC hwD _ _ _ _⟩
end Go.Proofs.YtlfiakpmnkhcdaaGreat
