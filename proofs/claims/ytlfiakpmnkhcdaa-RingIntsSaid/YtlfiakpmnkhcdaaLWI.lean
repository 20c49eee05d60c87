import Derived.Test.YtlfiakpmnkhcdaaLWH
import Derived.Test.YtlfiakpmnkhcdaaLWG
import Derived.Test.YtlfiakpmnkhcdaaLWL
namespace Go.Proofs.Ytlfiakpmnkhcdaa
open Go.RowKit
set_option linter.unusedVariables false
end Go.Proofs.Ytlfiakpmnkhcdaa
namespace Go.Proofs.Ytlfiakpmnkhcdaa
open Go.RowKit
set_option linter.unusedVariables false
end Go.Proofs.Ytlfiakpmnkhcdaa
namespace Ow
end Ow
namespace Go.Proofs.Ytlfiakpmnkhcdaa
open Go.RowKit
set_option linter.unusedVariables false
end Go.Proofs.Ytlfiakpmnkhcdaa
namespace Go.Proofs.Ytlfiakpmnkhcdaa
open Go.RowKit
set_option linter.unusedVariables false
set_option maxRecDepth 100000 in
set_option maxHeartbeats 1000000 in
theorem abs1_any (N : Nat) (z : Int) (v : Value) (w : World) (h : HasI N w v z) :
    Calls Try.prog 48 #[v] w (IntZ N (z.natAbs : Int) w) := by
  obtain ⟨s, l, rfl, hd, hn, hval, hN⟩ := h
  have HD := Lib.hid hd
  have HN := Lib.hid hn
  have HV := Lib.hid hval
  have HNN := Lib.hid (show (Ow.tr l).length ≤ N by rw [hn.2]; exact hN)
  clear hd hn hval hN
  obtain ⟨neg, hneg⟩ : ∃ neg, neg = decide (z < 0) := ⟨_, rfl⟩
  rw [← hneg]
  have HNEG := Lib.hid hneg
  clear hneg
  go_enter Try.func48, Try.ntmps48
  go_wp2_with fail
  obtain ⟨W, hW⟩ : ∃ W, W = (w.alloc (.cells #[.bool neg, s] 87)).alloc (.cells #[.bool false, .slice none 0 0] 87) := ⟨_, rfl⟩
  rw [← hW]
  have g1 : Gr w W := by rw [hW]; exact (Gr.new w _).alloc _
  have c0 : W.cell? ⟨w.heap.size, 0, none⟩ = some (.bool neg) := by rw [hW]; simp [go_sem]
  have c1 : W.cell? ⟨w.heap.size, 1, none⟩ = some s := by rw [hW]; simp [go_sem]
  have r0 : W.cell? ⟨w.heap.size + 1, 0, none⟩ = some (.bool false) := by rw [hW]; simp [go_sem]
  have r1 : W.cell? ⟨w.heap.size + 1, 1, none⟩ = some (.slice none 0 0) := by rw [hW]; simp [go_sem]
  have e0 : W.frozen? ⟨w.heap.size + 1, 0, none⟩ = false := by rw [hW]; simp [go_sem]
  have e1 : W.frozen? ⟨w.heap.size + 1, 1, none⟩ = false := by rw [hW]; simp [go_sem]
  clear hW
  have HG := Lib.hid g1
  clear g1
  go_region_held3 (fun w' => w'.cell? ⟨w.heap.size, 0, none⟩ = some (.bool neg) ∧ w'.cell? ⟨w.heap.size, 1, none⟩ = some s) (go_keep)
    (first
      | (go_at_call 46; refine (signs_any _ _).mono ?_; rintro e w' ⟨rfl, rfl⟩)
      | (go_at_call 67; have gA : Gr W (W.alloc (.cells #[.bool false] 4)).drew := Below.drew (Gr.new W _); refine (signs1_int false l s W.heap.size N _ (HD.out.later (HG.out.trans gA)) (by simp [go_sem]) HNN.out).mono ?_; rintro e w' ⟨v, rfl, ⟨s', l', rfl, hs, hnl, hvl, hln⟩, hG⟩; have k0 := (gA.trans hG).keeps c0; have k1 := (gA.trans hG).keeps c1; have j0 := (gA.trans hG).keeps r0; have j1 := (gA.trans hG).keeps r1; have f0 := (gA.trans hG).frozen r0 e0; have f1 := (gA.trans hG).frozen r1 e1; have HGG := Lib.hid (gA.trans hG); have hs2 := hs; obtain ⟨-, a', cap', rfl, -, -, -⟩ := hs2; have HS := Lib.hid hs; have HE := Lib.hid (And.intro hnl (And.intro hvl hln)); clear hs hnl hvl hln hG gA))
  go_wp2_with fail
  refine bodyPost_ret (v := .agg #[.bool (decide (sg false (Ow.val l) < 0)), .slice a' l'.length cap']) (by simp [results, Try.results48, go_sem, j0, j1]) rfl ?_
  exact intz_stored (by rw [HV.out]; simp [sg]) rfl HS.out HE.out.1 HE.out.2.1 HE.out.2.2 (HG.out.trans HGG.out) (by omega) j0 j1 (by simp) (by simp)
set_option maxRecDepth 100000 in
set_option maxHeartbeats 1000000 in
theorem abs_of (neg : Bool) (s : ByteArray) (A : Bool) (S : ByteArray) (C : Int) (w : World)
    (h : ∀ W, Calls Try.prog 47 #[.agg #[.bool neg, .string s], .func (.func 48) #[] #[]] W (Res A S C W)) :
    Calls Try.prog 26 #[.agg #[.bool neg, .string s]] w (Res A S C w) := by
  have H := Lib.hid h
  clear h
  go_enter Try.func26, Try.ntmps26
  go_wp2_with fail
  refine (H.out _).mono ?_
  rintro e w1 ⟨rfl, g1⟩
  have g0 : Gr w ((w.alloc (.cells #[.bool neg, .string s] 42)).alloc (.cells #[.bool false, .string ⟨#[]⟩] 42)) := (Gr.new w _).alloc _
  have r0 := g1.keeps (p := ⟨w.heap.size + 1, 0, none⟩) (v := .bool false) (by simp [go_sem])
  have r1 := g1.keeps (p := ⟨w.heap.size + 1, 1, none⟩) (v := .string ⟨#[]⟩) (by simp [go_sem])
  have f0 := g1.frozen (p := ⟨w.heap.size + 1, 0, none⟩) (v := .bool false) (by simp [go_sem]) (by simp [go_sem])
  have f1 := g1.frozen (p := ⟨w.heap.size + 1, 1, none⟩) (v := .string ⟨#[]⟩) (by simp [go_sem]) (by simp [go_sem])
  have HG := Lib.hid (g0.trans g1)
  clear g0 g1
  go_wp2_with fail
  refine bodyPost_ret (v := .tuple #[.agg #[.bool A, .string S], .int .i64 C]) (by simp [results, Try.results26, go_sem, r0, r1]) rfl ?_
  exact ⟨rfl, (HG.out.setCell (p := ⟨w.heap.size + 1, 0, none⟩) (by simp) _).setCell (p := ⟨w.heap.size + 1, 1, none⟩) (by simp) _⟩
theorem abs_ok (neg : Bool) (s : ByteArray) (w : World) (h : Form neg s) :
    Calls Try.prog 26 #[.agg #[.bool neg, .string s]] w (Res (fNeg ((zOf neg s).natAbs : Int)) (fStr ((zOf neg s).natAbs : Int)) (fErr ((zOf neg s).natAbs : Int)) w) :=
  abs_of neg s _ _ _ w fun W => unary_ok 48 64 #[] ((zOf neg s).natAbs : Int) neg s W h (by omega) (enters_of Try.func48 (by kernel_rfl) (by kernel_rfl)) fun V v _ hv => abs1_any 64 _ v V hv
set_option maxRecDepth 100000 in
set_option maxHeartbeats 1000000 in
theorem max_of (neg : Bool) (s : ByteArray) (neg' : Bool) (s' : ByteArray) (A : Bool) (S : ByteArray) (C : Int) (w : World)
    (h : ∀ W, Calls Try.prog 49 #[.agg #[.bool neg, .string s], .agg #[.bool neg', .string s'], .func (.func 50) #[] #[]] W (Res A S C W)) :
    Calls Try.prog 27 #[.agg #[.bool neg, .string s], .agg #[.bool neg', .string s']] w (Res A S C w) := by
  have H := Lib.hid h
  clear h
  go_enter Try.func27, Try.ntmps27
  go_wp2_with fail
  refine (H.out _).mono ?_
  rintro e w1 ⟨rfl, g1⟩
  have g0 : Gr w (((w.alloc (.cells #[.bool neg, .string s] 42)).alloc (.cells #[.bool neg', .string s'] 42)).alloc (.cells #[.bool false, .string ⟨#[]⟩] 42)) := ((Gr.new w _).alloc _).alloc _
  have r0 := g1.keeps (p := ⟨w.heap.size + 1 + 1, 0, none⟩) (v := .bool false) (by simp [go_sem])
  have r1 := g1.keeps (p := ⟨w.heap.size + 1 + 1, 1, none⟩) (v := .string ⟨#[]⟩) (by simp [go_sem])
  have f0 := g1.frozen (p := ⟨w.heap.size + 1 + 1, 0, none⟩) (v := .bool false) (by simp [go_sem]) (by simp [go_sem])
  have f1 := g1.frozen (p := ⟨w.heap.size + 1 + 1, 1, none⟩) (v := .string ⟨#[]⟩) (by simp [go_sem]) (by simp [go_sem])
  have HG := Lib.hid (g0.trans g1)
  clear g0 g1
  go_wp2_with fail
  refine bodyPost_ret (v := .tuple #[.agg #[.bool A, .string S], .int .i64 C]) (by simp [results, Try.results27, go_sem, r0, r1]) rfl ?_
  exact ⟨rfl, (HG.out.setCell (p := ⟨w.heap.size + 1 + 1, 0, none⟩) (by simp; omega) _).setCell (p := ⟨w.heap.size + 1 + 1, 1, none⟩) (by simp; omega) _⟩
theorem HasI.cut {N : Nat} {W : World} {v : Value} {z : Int} (h : HasI N W v z) : ∃ (neg : Bool) (a : Option Addr) (n c : Nat) (l : List Nat), v = .agg #[.bool neg, .slice a n c] ∧ neg = decide (z < 0) ∧ HasD W (.slice a n c) l ∧ Ow.Nm l ∧ Ow.val l = z.natAbs ∧ l.length ≤ N := by
  obtain ⟨s, l, rfl, hd, hn, hv, hl⟩ := h
  obtain ⟨-, a, cap, rfl, -⟩ := id hd
  exact ⟨_, a, _, cap, l, rfl, rfl, hd, hn, hv, hl⟩
set_option maxRecDepth 100000 in
set_option maxHeartbeats 2000000 in
theorem max1_any (N : Nat) (x y : Int) (u v : Value) (w : World) (hu : HasI N w u x) (hv : HasI N w v y) :
    Calls Try.prog 50 #[u, v] w (IntZ N (if sgn x y < 0 then y else x) w) := by
  have HX := Lib.hid hu
  have HY := Lib.hid hv
  obtain ⟨xn, xa, xk, xc, xl, rfl, x1, x2, x3, x4, x5⟩ := hu.cut
  obtain ⟨yn, ya, yk, yc, yl, rfl, y1, y2, y3, y4, y5⟩ := hv.cut
  have X1 := Lib.hid x1
  have X2 := Lib.hid x2
  have X3 := Lib.hid x3
  have X4 := Lib.hid x4
  have X5 := Lib.hid x5
  have Y1 := Lib.hid y1
  have Y2 := Lib.hid y2
  have Y3 := Lib.hid y3
  have Y4 := Lib.hid y4
  have Y5 := Lib.hid y5
  clear x1 x2 x3 x4 x5 y1 y2 y3 y4 y5 hu hv
  obtain ⟨m, hm⟩ : ∃ m, m = (if sgn x y < 0 then y else x) := ⟨_, rfl⟩
  rw [← hm]
  obtain ⟨sc, hsc⟩ : ∃ sc, sc = sgn x y := ⟨_, rfl⟩
  rw [← hsc] at hm
  have HSC := Lib.hid hsc
  have HM := Lib.hid hm
  clear hsc hm
  go_enter Try.func50, Try.ntmps50
  go_wp2_with fail
  obtain ⟨W, hW⟩ : ∃ W : World, W = (((w.alloc (.cells #[.bool xn, .slice xa xk xc] 87)).alloc (.cells #[.bool yn, .slice ya yk yc] 87)).alloc (.cells #[.bool false, .slice none 0 0] 87)) := ⟨_, rfl⟩
  rw [← hW]
  have g1 : Gr w W := by rw [hW]; exact ((((Gr.refl _).alloc _).alloc _).alloc _)
  have a0 : W.cell? ⟨w.heap.size, 0, none⟩ = some (.bool xn) := by rw [hW]; simp [go_sem]
  have a1 : W.cell? ⟨w.heap.size, 1, none⟩ = some (.slice xa xk xc) := by rw [hW]; simp [go_sem]
  have b0 : W.cell? ⟨w.heap.size + 1, 0, none⟩ = some (.bool yn) := by rw [hW]; simp [go_sem]
  have b1 : W.cell? ⟨w.heap.size + 1, 1, none⟩ = some (.slice ya yk yc) := by rw [hW]; simp [go_sem]
  have r0 : W.cell? ⟨w.heap.size + 1 + 1, 0, none⟩ = some (.bool false) := by rw [hW]; simp [go_sem]
  have er0 : W.frozen? ⟨w.heap.size + 1 + 1, 0, none⟩ = false := by rw [hW]; simp [go_sem]
  have r1 : W.cell? ⟨w.heap.size + 1 + 1, 1, none⟩ = some (.slice none 0 0) := by rw [hW]; simp [go_sem]
  have er1 : W.frozen? ⟨w.heap.size + 1 + 1, 1, none⟩ = false := by rw [hW]; simp [go_sem]
  have hsz : W.heap.size = w.heap.size + 1 + 1 + 1 := by rw [hW]; simp
  have HG := Lib.hid g1
  have HSZ := Lib.hid hsz
  clear hW g1 hsz
  refine (order_any N x y _ _ _ (HX.out.later HG.out) (HY.out.later HG.out)).mono ?_
  rintro e w1 ⟨rfl, g⟩
  rw [← HSC.out]
  have er0 := g.frozen r0 er0
  have er1 := g.frozen r1 er1
  have a0 := g.keeps a0
  have a1 := g.keeps a1
  have b0 := g.keeps b0
  have b1 := g.keeps b1
  have r0 := g.keeps r0
  have r1 := g.keeps r1
  have HG := Lib.hid (HG.out.trans g)
  clear g
  by_cases hs : sc < 0
  · have d1 : decide (sc < 0) = true := decide_eq_true hs
    have HM := Lib.hid (show m = y by rw [HM.out, if_pos hs])
    go_wp2_with fail
    refine bodyPost_ret (v := .agg #[.bool yn, .slice ya yk yc]) (by simp [results, Try.results50, go_sem, r0, r1]) rfl ?_
    rw [HM.out]
    exact intz_stored rfl Y1.out (Y2.out.later HG.out) Y3.out Y4.out Y5.out HG.out (by omega) r0 r1 (by simp) (by simp)
  · have d1 : decide (sc < 0) = false := decide_eq_false hs
    have HM := Lib.hid (show m = x by rw [HM.out, if_neg hs])
    go_wp2_with fail
    refine bodyPost_ret (v := .agg #[.bool xn, .slice xa xk xc]) (by simp [results, Try.results50, go_sem, r0, r1]) rfl ?_
    rw [HM.out]
    exact intz_stored rfl X1.out (X2.out.later HG.out) X3.out X4.out X5.out HG.out (by omega) r0 r1 (by simp) (by simp)
theorem max_ok (neg : Bool) (s : ByteArray) (neg' : Bool) (s' : ByteArray) (w : World) (h : Form neg s) (h' : Form neg' s') :
    Calls Try.prog 27 #[.agg #[.bool neg, .string s], .agg #[.bool neg', .string s']] w (Res (fNeg (if sgn (zOf neg s) (zOf neg' s') < 0 then zOf neg' s' else zOf neg s)) (fStr (if sgn (zOf neg s) (zOf neg' s') < 0 then zOf neg' s' else zOf neg s)) (fErr (if sgn (zOf neg s) (zOf neg' s') < 0 then zOf neg' s' else zOf neg s)) w) :=
  max_of neg s neg' s' _ _ _ w fun W => binary_ok 50 64 #[] _ neg s neg' s' W h h' (by omega) (enters_of Try.func50 (by kernel_rfl) (by kernel_rfl)) fun V u v _ hu hv => max1_any 64 _ _ u v V hu hv
end Go.Proofs.Ytlfiakpmnkhcdaa
