/- The program: nearest, Round. -/
import Derived.Test.YtnehcafmebokmaaGreatDoorPRnd
namespace Go.Proofs.YtnehcafmebokmaaGreatDoor
open Go.RowKit
set_option linter.unusedVariables false

/-- The nearest integer. -/
def near (x y : Int) : Int := if 0 ≤ sgn (x % y) (y + -(x % y)) then x / y + 1 else x / y
theorem Gr.drw2 {a b : World} (h : Gr a b) : Gr a b.drew := Below.drew h
theorem HasI.fields {N : Nat} {W : World} {b : Bool} {s : Value} {z : Int} (h : HasI N W (.agg #[.bool b, s]) z) : b = decide (z < 0) ∧ ∃ l, HasD W s l ∧ Ow.Nm l ∧ Ow.val l = z.natAbs ∧ l.length ≤ N := by
  obtain ⟨s', l, e, h⟩ := h
  simp only [Value.agg.injEq, Array.mk.injEq, List.cons.injEq, Value.bool.injEq, and_true] at e
  obtain ⟨rfl, rfl⟩ := e
  exact ⟨rfl, l, h⟩
theorem nine_sg : sg false (Ow.val [1]) = 1 := by simp [sg, Ow.val]

set_option maxRecDepth 100000 in
set_option maxHeartbeats 4000000 in
theorem nearest_any (x y : Int) (u v : Value) (w : World) (hu : HasI 64 w u x) (hv : HasI 64 w v y) (hy : 0 < y) (hyR : y.natAbs < 4294967296 ^ 64) (hxR : x.natAbs < 4294967296 ^ 64) :
    Calls Tryz.prog 28 #[u, v] w (IntZ 66 (near x y) w) := by
  have HX := Lib.hid hu
  have HY := Lib.hid hv
  obtain ⟨xn, xa, xk, xc, xl, rfl, -⟩ := hu.cut
  obtain ⟨yn, ya, yk, yc, yl, rfl, -⟩ := hv.cut
  obtain ⟨m, hm⟩ : ∃ m, m = near x y := ⟨_, rfl⟩
  rw [← hm]
  obtain ⟨q, hq⟩ : ∃ q, q = x / y := ⟨_, rfl⟩
  obtain ⟨r, hr⟩ : ∃ r, r = x % y := ⟨_, rfl⟩
  have hr0 : 0 ≤ r := by rw [hr]; exact Int.emod_nonneg _ (by omega)
  have hr1 : r < y := by rw [hr]; exact Int.emod_lt_of_pos _ hy
  have HM := Lib.hid (show m = if 0 ≤ sgn r (y + -r) then q + 1 else q by rw [hm, hq, hr]; rfl)
  have HQB := Lib.hid (show q.natAbs + (1 : Int).natAbs < 4294967296 ^ 66 by
    have h1 : q.natAbs ≤ x.natAbs := by
      rw [hq]
      have := Int.natAbs_ediv_le_natAbs x y
      exact this
    have h2 : 4294967296 ^ 64 < 4294967296 ^ 66 := Nat.pow_lt_pow_right (by omega) (by omega)
    have h3 : (1 : Int).natAbs = 1 := rfl
    rw [h3]
    generalize 4294967296 ^ 64 = P at *
    generalize 4294967296 ^ 66 = R at *
    omega)
  have HSN := Lib.hid (show y.natAbs + (-r).natAbs < 4294967296 ^ 65 by
    have h2 : (-r).natAbs ≤ y.natAbs := by omega
    rw [Nat.pow_succ]; generalize 4294967296 ^ 64 = P at *; omega)
  have HR := Lib.hid hr
  have HQQ := Lib.hid hq
  have hy0 : y ≠ 0 := by omega
  clear hu hv hm hq hr hyR hxR
  go_enter Tryz.func28, Tryz.ntmps28
  go_wp2_with fail
  obtain ⟨W, hW⟩ : ∃ W : World, W = (((w.alloc (.cells #[.bool xn, .slice xa xk xc] 44)).alloc (.cells #[.bool yn, .slice ya yk yc] 44)).alloc (.cells #[.bool false, .slice none 0 0] 44)) := ⟨_, rfl⟩
  rw [← hW]
  have g1 : Gr w W := by rw [hW]; exact ((((Gr.refl _).alloc _).alloc _).alloc _)
  have a0 : W.cell? ⟨w.heap.size, 0, none⟩ = some (.bool xn) := by rw [hW]; simp [go_sem]
  have a1 : W.cell? ⟨w.heap.size, 1, none⟩ = some (.slice xa xk xc) := by rw [hW]; simp [go_sem]
  have y0 : W.cell? ⟨w.heap.size + 1, 0, none⟩ = some (.bool yn) := by rw [hW]; simp [go_sem]
  have y1 : W.cell? ⟨w.heap.size + 1, 1, none⟩ = some (.slice ya yk yc) := by rw [hW]; simp [go_sem]
  have r0 : W.cell? ⟨w.heap.size + 1 + 1, 0, none⟩ = some (.bool false) := by rw [hW]; simp [go_sem]
  have er0 : W.frozen? ⟨w.heap.size + 1 + 1, 0, none⟩ = false := by rw [hW]; simp [go_sem]
  have r1 : W.cell? ⟨w.heap.size + 1 + 1, 1, none⟩ = some (.slice none 0 0) := by rw [hW]; simp [go_sem]
  have er1 : W.frozen? ⟨w.heap.size + 1 + 1, 1, none⟩ = false := by rw [hW]; simp [go_sem]
  have hsz : W.heap.size = w.heap.size + 1 + 1 + 1 := by rw [hW]; simp
  have HG := Lib.hid g1
  have HSZ := Lib.hid hsz
  clear hW g1 hsz
  have R0 := Lib.hid r0
  have R1 := Lib.hid r1
  have F0 := Lib.hid er0
  have F1 := Lib.hid er1
  clear r0 r1 er0 er1
  refine (divide_any x y _ _ _ (HX.out.later HG.out) (HY.out.later HG.out) hy0).mono ?_
  rintro e w1 ⟨uq, ur, rfl, hq, hr, g⟩
  rw [← HQQ.out] at hq
  rw [← HR.out] at hr
  have y0 := g.keeps y0
  have y1 := g.keeps y1
  have F0 := Lib.hid (g.frozen R0.out F0.out)
  have F1 := Lib.hid (g.frozen R1.out F1.out)
  have R0 := Lib.hid (g.keeps R0.out)
  have R1 := Lib.hid (g.keeps R1.out)
  have HG := Lib.hid (HG.out.trans g)
  obtain ⟨qn, qa, qk, qc, ql, rfl, -⟩ := hq.cut
  obtain ⟨rn, ra, rk, rc, rl, rfl, -⟩ := hr.cut
  have m1 : ¬ (w1.heap.size = w.heap.size + 1 + 1) := World.new_ne w1 _ R0.out
  have m2 : ¬ (w.heap.size + 1 + 1 = w1.heap.size) := fun e => m1 e.symm
  have HQ := Lib.hid hq
  have HRR := Lib.hid hr
  clear hq hr g a0 a1
  go_wp2_with fail
  obtain ⟨V, hV⟩ : ∃ V : World, V = (w1.alloc (.cells #[.bool qn, .slice qa qk qc] 44)).alloc (.cells #[.bool rn, .slice ra rk rc] 44) := ⟨_, rfl⟩
  rw [← hV]
  have gV : Gr w1 V := by rw [hV]; exact (Gr.new _ _).alloc _
  have p0 : V.cell? ⟨w1.heap.size, 0, none⟩ = some (.bool qn) := by rw [hV]; simp [go_sem]
  have p1 : V.cell? ⟨w1.heap.size, 1, none⟩ = some (.slice qa qk qc) := by rw [hV]; simp [go_sem]
  have z0 : V.cell? ⟨w1.heap.size + 1, 0, none⟩ = some (.bool rn) := by rw [hV]; simp [go_sem]
  have z1 : V.cell? ⟨w1.heap.size + 1, 1, none⟩ = some (.slice ra rk rc) := by rw [hV]; simp [go_sem]
  have g : Gr w1 V.drew := gV.drw2
  have y0 := g.keeps y0
  have y1 := g.keeps y1
  have F0 := Lib.hid (g.frozen R0.out F0.out)
  have F1 := Lib.hid (g.frozen R1.out F1.out)
  have R0 := Lib.hid (g.keeps R0.out)
  have R1 := Lib.hid (g.keeps R1.out)
  have HG := Lib.hid (HG.out.trans g)
  have HQ := Lib.hid (HQ.out.later g)
  have HRR := Lib.hid (HRR.out.later g)
  have HY := Lib.hid (HY.out.later HG.out)
  clear g gV hV
  have h64 : 64 ≤ 100000 := by omega
  have h65 : 65 ≤ 100000 := by omega
  have l65 : 64 ≤ 65 := by omega
  go_region_held3 (fun w' => w'.cell? ⟨w.heap.size + 1, 0, none⟩ = some (.bool yn) ∧ w'.cell? ⟨w.heap.size + 1, 1, none⟩ = some (.slice ya yk yc) ∧ w'.cell? ⟨w1.heap.size + 1, 0, none⟩ = some (.bool rn) ∧ w'.cell? ⟨w1.heap.size + 1, 1, none⟩ = some (.slice ra rk rc)) (first | exact ⟨y0, y1, z0, z1⟩ | go_keep)
    (first
      | (go_at_call 55; (with_reducible refine (negative_any 64 r _ _ HRR.out).mono ?_); rintro e w' ⟨vn, rfl, hn, g⟩; have HN := Lib.hid hn; have HRR := Lib.hid (HRR.out.later g); have HY := Lib.hid (HY.out.later g); have HQ := Lib.hid (HQ.out.later g); have y0 := g.keeps y0; have y1 := g.keeps y1; have z0 := g.keeps z0; have z1 := g.keeps z1; have p0 := g.keeps p0; have p1 := g.keeps p1; have F0 := Lib.hid (g.frozen R0.out F0.out); have F1 := Lib.hid (g.frozen R1.out F1.out); have R0 := Lib.hid (g.keeps R0.out); have R1 := Lib.hid (g.keeps R1.out); have HG := Lib.hid (HG.out.trans g); clear hn g)
      | (go_at_call 54; (with_reducible refine (sum_any 64 65 y (-r) _ _ _ HY.out HN.out h64 HSN.out).mono ?_); rintro e w' ⟨vs, rfl, hs, g⟩; have HS := Lib.hid hs; have HRR := Lib.hid (HRR.out.later g); have HQ := Lib.hid (HQ.out.later g); have y0 := g.keeps y0; have y1 := g.keeps y1; have z0 := g.keeps z0; have z1 := g.keeps z1; have p0 := g.keeps p0; have p1 := g.keeps p1; have F0 := Lib.hid (g.frozen R0.out F0.out); have F1 := Lib.hid (g.frozen R1.out F1.out); have R0 := Lib.hid (g.keeps R0.out); have R1 := Lib.hid (g.keeps R1.out); have HG := Lib.hid (HG.out.trans g); clear hs g)
      | (go_at_call 53; (with_reducible refine (order_any 65 r (y + -r) _ _ _ (HRR.out.wider l65) HS.out).mono ?_); rintro e w' ⟨rfl, g⟩; have HQ := Lib.hid (HQ.out.later g); have y0 := g.keeps y0; have y1 := g.keeps y1; have z0 := g.keeps z0; have z1 := g.keeps z1; have p0 := g.keeps p0; have p1 := g.keeps p1; have F0 := Lib.hid (g.frozen R0.out F0.out); have F1 := Lib.hid (g.frozen R1.out F1.out); have R0 := Lib.hid (g.keeps R0.out); have R1 := Lib.hid (g.keeps R1.out); have HG := Lib.hid (HG.out.trans g); clear g))
  obtain ⟨w5, rfl⟩ : ∃ w5 : World, w5 = w' := ⟨_, rfl⟩
  obtain ⟨sc, hsc⟩ : ∃ sc, sc = sgn r (y + -r) := ⟨_, rfl⟩
  rw [← hsc]
  rw [← hsc] at HM
  have HSC := Lib.hid hsc
  clear hsc
  by_cases hs : 0 ≤ sc
  · have d1 : decide (sc ≥ 0) = true := decide_eq_true hs
    have d2 : decide (0 ≤ sc) = true := decide_eq_true hs
    have HM := Lib.hid (show m = q + 1 by rw [HM.out, if_pos hs])
    go_wp2_with fail
    have gA : Gr w5 (w5.alloc (.cells #[.bool false] 4)).drew := (Gr.new w5 _).drw2
    have HGA := Lib.hid gA
    clear gA
    go_region_held3 (fun w' => w'.cell? ⟨w1.heap.size, 0, none⟩ = some (.bool qn) ∧ w'.cell? ⟨w1.heap.size, 1, none⟩ = some (.slice qa qk qc)) (first | exact ⟨p0, p1⟩ | go_keep)
      (first
        | (go_at_call 39; refine (signs_any _ _).mono ?_; rintro e w' ⟨rfl, rfl⟩)
        | (go_at_call 47; refine (unit_any _).mono ?_; rintro e wu ⟨vu, rfl, hu, g⟩; have cB := g.keeps (p := ⟨w5.heap.size, 0, none⟩) (v := .bool false) (by simp [go_sem]); have g := HGA.out.trans g; have HU := Lib.hid hu; have HQ := Lib.hid (HQ.out.later g); have p0 := g.keeps p0; have p1 := g.keeps p1; have F0 := Lib.hid (g.frozen R0.out F0.out); have F1 := Lib.hid (g.frozen R1.out F1.out); have R0 := Lib.hid (g.keeps R0.out); have R1 := Lib.hid (g.keeps R1.out); have HG := Lib.hid (HG.out.trans g); clear hu g)
        | (go_at_call 62; refine (signs1_int false [1] vu w5.heap.size 65 _ HU.out cB (Nat.le_trans (Ow.tr_len _) (by simp))).mono ?_; rintro e wv ⟨v1, rfl, h1, g⟩; rw [nine_sg] at h1; have H1 := Lib.hid h1; have HQ := Lib.hid (HQ.out.later g); have p0 := g.keeps p0; have p1 := g.keeps p1; have F0 := Lib.hid (g.frozen R0.out F0.out); have F1 := Lib.hid (g.frozen R1.out F1.out); have R0 := Lib.hid (g.keeps R0.out); have R1 := Lib.hid (g.keeps R1.out); have HG := Lib.hid (HG.out.trans g); clear h1 g)
        | (go_at_call 54; (with_reducible refine (sum_any 65 66 q 1 _ _ _ HQ.out H1.out h65 HQB.out).mono ?_); rintro e ww ⟨vs, rfl, hs2, g⟩; obtain ⟨sn, sa, sk, sc2, sl, rfl, s1, s2, s3, s4, s5⟩ := hs2.cut; have S1 := Lib.hid s1; have S2 := Lib.hid s2; have S3 := Lib.hid s3; have S4 := Lib.hid s4; have S5 := Lib.hid s5; have p0 := g.keeps p0; have p1 := g.keeps p1; have r0 := g.keeps R0.out; have r1 := g.keeps R1.out; have er0 := g.frozen R0.out F0.out; have er1 := g.frozen R1.out F1.out; have HG := Lib.hid (HG.out.trans g); clear g hs2 s1 s2 s3 s4 s5))
    all_goals
      go_wp2_with fail
      rw [HM.out]
      refine bodyPost_ret (v := .agg #[.bool sn, .slice sa sk sc2]) (by simp [results, Tryz.results28, go_sem, r0, r1]) rfl ?_
      exact intz_stored rfl S1.out S2.out S3.out S4.out S5.out HG.out (by omega) r0 r1 (by simp) (by simp)
  · have d1 : decide (sc ≥ 0) = false := decide_eq_false hs
    have d2 : decide (0 ≤ sc) = false := decide_eq_false hs
    have HM := Lib.hid (show m = q by rw [HM.out, if_neg hs])
    have r0 := R0.out
    have r1 := R1.out
    have er0 := F0.out
    have er1 := F1.out
    obtain ⟨e1, ll, s1, s2, s3, s4⟩ := HQ.out.fields
    have E1 := Lib.hid e1
    have S1 := Lib.hid s1
    have S2 := Lib.hid s2
    have S3 := Lib.hid s3
    have S4 := Lib.hid s4
    clear e1 s1 s2 s3 s4
    go_wp2_with fail
    rw [HM.out]
    refine bodyPost_ret (v := .agg #[.bool qn, .slice qa qk qc]) (by simp [results, Tryz.results28, go_sem, r0, r1]) rfl ?_
    exact intz_stored rfl E1.out S1.out S2.out S3.out (Nat.le_trans S4.out (by omega)) HG.out (by omega) r0 r1 (by simp) (by simp)
theorem rnd_ok (neg : Bool) (s : ByteArray) (neg' : Bool) (s' : ByteArray) (w : World) (h : Form neg s) (h' : Pos neg' s') (hs' : s'.size ≤ 9223372036854775807) :
    Calls Tryz.prog 8 #[.agg #[.bool neg, .string s], .agg #[.bool neg', .string s']] w (Res (fNeg (near (zOf neg s) (zOf neg' s'))) (fStr (near (zOf neg s) (zOf neg' s'))) (fErr (near (zOf neg s) (zOf neg' s'))) w) :=
  rndX_of neg s neg' s' _ _ _ w hs' h' fun W => binary_ok 28 66 #[] (near (zOf neg s) (zOf neg' s')) neg s neg' s' W h h'.1 (by omega) (enters_of Tryz.func28 (by kernel_rfl) (by kernel_rfl)) fun V u v _ hu hv => nearest_any _ _ u v V hu hv h'.2 (Ow.R_lt (form_range h'.1)) (Ow.R_lt (form_range h))
end Go.Proofs.YtnehcafmebokmaaGreatDoor

