/- Add, Sub, Mul on forms. -/
import Derived.Test.YtgalgldnhdiggaaDoorProd
namespace Ow
set_option linter.unusedVariables false
theorem R_add {a b : Nat} (ha : a < R) (hb : b < R) : a + b < 4294967296 ^ 65 := by
  rw [R_digits] at ha hb
  rw [Nat.pow_succ]; omega
theorem R_mul {a b : Nat} (ha : a < R) (hb : b < R) : a * b < 4294967296 ^ 128 := by
  rw [R_digits] at ha hb
  rw [show (128 : Nat) = 64 + 64 from rfl, Nat.pow_add]
  exact Nat.mul_lt_mul'' ha hb
theorem R_lt {a : Nat} (ha : a < R) : a < 4294967296 ^ 64 := by rw [← R_digits]; exact ha
end Ow
namespace Go.Proofs.YtgalgldnhdiggaaDoor
open Go.RowKit
set_option linter.unusedVariables false

set_option maxRecDepth 100000 in
set_option maxHeartbeats 2000000 in
theorem sub1_any (M N : Nat) (x y : Int) (u v : Value) (w : World) (hu : HasI M w u x) (hv : HasI M w v y) (hM : M ≤ 100000) (hN : x.natAbs + y.natAbs < 4294967296 ^ N) :
    Calls Tryd.prog 49 #[u, v] w (IntZ N (x - y) w) := by
  obtain ⟨s, l, rfl, hd, hh⟩ := hu
  obtain ⟨t, m, rfl, hd', hh'⟩ := hv
  have HX := Lib.hid (show HasI M w _ x from ⟨s, l, rfl, hd, hh⟩)
  have HY := Lib.hid (show HasI M w _ y from ⟨t, m, rfl, hd', hh'⟩)
  have HN := Lib.hid hN
  obtain ⟨-, a, cap, rfl, -, -, -⟩ := hd
  obtain ⟨-, a', cap', rfl, -, -, -⟩ := hd'
  obtain ⟨nx, hnx⟩ : ∃ nx, nx = decide (x < 0) := ⟨_, rfl⟩
  obtain ⟨ny, hny⟩ : ∃ ny, ny = decide (y < 0) := ⟨_, rfl⟩
  rw [← hnx] at HX
  rw [← hny] at HY
  rw [← hnx, ← hny]
  clear hh hh' hN hnx hny
  go_enter Tryd.func49, Tryd.ntmps49
  go_wp2_with fail
  obtain ⟨W, hW⟩ : ∃ W : World, W = ((w.alloc (.cells #[.bool nx, .slice a l.length cap] 56)).alloc (.cells #[.bool ny, .slice a' m.length cap'] 56)).alloc (.cells #[.bool false, .slice none 0 0] 56) := ⟨_, rfl⟩
  rw [← hW]
  have g1 : Gr w W := by rw [hW]; exact ((Gr.new w _).alloc _).alloc _
  have x0 : W.drew.cell? ⟨w.heap.size, 0, none⟩ = some (.bool nx) := by rw [hW]; simp [go_sem]
  have x1 : W.drew.cell? ⟨w.heap.size, 1, none⟩ = some (.slice a l.length cap) := by rw [hW]; simp [go_sem]
  have y0 : W.drew.cell? ⟨w.heap.size + 1, 0, none⟩ = some (.bool ny) := by rw [hW]; simp [go_sem]
  have y1 : W.drew.cell? ⟨w.heap.size + 1, 1, none⟩ = some (.slice a' m.length cap') := by rw [hW]; simp [go_sem]
  have r0 : W.drew.cell? ⟨w.heap.size + 1 + 1, 0, none⟩ = some (.bool false) := by rw [hW]; simp [go_sem]
  have r1 : W.drew.cell? ⟨w.heap.size + 1 + 1, 1, none⟩ = some (.slice none 0 0) := by rw [hW]; simp [go_sem]
  have e0 : W.drew.frozen? ⟨w.heap.size + 1 + 1, 0, none⟩ = false := by rw [hW]; simp [go_sem]
  have e1 : W.drew.frozen? ⟨w.heap.size + 1 + 1, 1, none⟩ = false := by rw [hW]; simp [go_sem]
  clear hW
  have R0 := Lib.hid r0
  have R1 := Lib.hid r1
  have F0 := Lib.hid e0
  have F1 := Lib.hid e1
  have HG := Lib.hid (show Gr w W.drew from Below.drew g1)
  have n1 : ¬ (w.heap.size = w.heap.size + 1 + 1) := by omega
  have n2 : ¬ (w.heap.size + 1 + 1 = w.heap.size) := by omega
  clear g1 r0 r1 e0 e1
  go_region_held3 (fun w' => w'.cell? ⟨w.heap.size, 0, none⟩ = some (.bool nx) ∧ w'.cell? ⟨w.heap.size, 1, none⟩ = some (.slice a l.length cap) ∧ w'.cell? ⟨w.heap.size + 1, 0, none⟩ = some (.bool ny) ∧ w'.cell? ⟨w.heap.size + 1, 1, none⟩ = some (.slice a' m.length cap')) (first | exact ⟨x0, x1, y0, y1⟩ | go_keep)
    (first
      | (go_at_call 50; (with_reducible refine (negative_any M y _ _ (HY.out.later HG.out)).mono ?_); rintro e w' ⟨q, rfl, hq, g⟩; have x0 := g.keeps x0; have x1 := g.keeps x1; have y0 := g.keeps y0; have y1 := g.keeps y1; have HQ := Lib.hid hq; have F0 := Lib.hid (g.frozen R0.out F0.out); have F1 := Lib.hid (g.frozen R1.out F1.out); have R0 := Lib.hid (g.keeps R0.out); have R1 := Lib.hid (g.keeps R1.out); have HG := Lib.hid (HG.out.trans g); clear hq g)
      | (go_at_call 48; (with_reducible refine (sum_any M N x (-y) _ _ _ (HX.out.later HG.out) HQ.out hM (by rw [Int.natAbs_neg]; exact HN.out)).mono ?_); rintro e w' ⟨t, rfl, ⟨s', l', rfl, hs, hnl, hvl, hln⟩, g⟩; have x0 := g.keeps x0; have x1 := g.keeps x1; have y0 := g.keeps y0; have y1 := g.keeps y1; have f0 := g.frozen R0.out F0.out; have f1 := g.frozen R1.out F1.out; have r0 := g.keeps R0.out; have r1 := g.keeps R1.out; have HGG := Lib.hid (HG.out.trans g); obtain ⟨nz, hnz⟩ : ∃ nz, nz = decide (x + -y < 0) := ⟨_, rfl⟩; rw [← hnz]; have HNZ := Lib.hid hnz; obtain ⟨-, a'', cap'', rfl, -, -, -⟩ := id hs; have HS := Lib.hid hs; have HE := Lib.hid (And.intro hnl (And.intro hvl hln)); clear hs hnl hvl hln hnz g))
  all_goals
    go_wp2_with fail
    refine bodyPost_ret (v := .agg #[.bool nz, .slice a'' l'.length cap'']) (by simp [results, Tryd.results49, go_sem, r0, r1]) rfl ?_
    exact intz_stored (Int.sub_eq_add_neg).symm HNZ.out HS.out HE.out.1 HE.out.2.1 HE.out.2.2 HGG.out (by omega) r0 r1 (by simp) (by simp)

set_option maxRecDepth 100000 in
set_option maxHeartbeats 1000000 in
theorem add_of (neg : Bool) (s : ByteArray) (neg' : Bool) (s' : ByteArray) (A : Bool) (S : ByteArray) (C : Int) (w : World)
    (h : ∀ W, Calls Tryd.prog 47 #[.agg #[.bool neg, .string s], .agg #[.bool neg', .string s'], .func (.func 48) #[] #[]] W (Res A S C W)) :
    Calls Tryd.prog 20 #[.agg #[.bool neg, .string s], .agg #[.bool neg', .string s']] w (Res A S C w) := by
  have H := Lib.hid h
  clear h
  go_enter Tryd.func20, Tryd.ntmps20
  go_wp2_with fail
  refine (H.out _).mono ?_
  rintro e w1 ⟨rfl, g1⟩
  have g0 : Gr w (((w.alloc (.cells #[.bool neg, .string s] 23)).alloc (.cells #[.bool neg', .string s'] 23)).alloc (.cells #[.bool false, .string ⟨#[]⟩] 23)) := ((Gr.new w _).alloc _).alloc _
  have r0 := g1.keeps (p := ⟨w.heap.size + 1 + 1, 0, none⟩) (v := .bool false) (by simp [go_sem])
  have r1 := g1.keeps (p := ⟨w.heap.size + 1 + 1, 1, none⟩) (v := .string ⟨#[]⟩) (by simp [go_sem])
  have f0 := g1.frozen (p := ⟨w.heap.size + 1 + 1, 0, none⟩) (v := .bool false) (by simp [go_sem]) (by simp [go_sem])
  have f1 := g1.frozen (p := ⟨w.heap.size + 1 + 1, 1, none⟩) (v := .string ⟨#[]⟩) (by simp [go_sem]) (by simp [go_sem])
  have HG := Lib.hid (g0.trans g1)
  clear g0 g1
  go_wp2_with fail
  refine bodyPost_ret (v := .tuple #[.agg #[.bool A, .string S], .int .i64 C]) (by simp [results, Tryd.results20, go_sem, r0, r1]) rfl ?_
  exact ⟨rfl, (HG.out.setCell (p := ⟨w.heap.size + 1 + 1, 0, none⟩) (by simp; omega) _).setCell (p := ⟨w.heap.size + 1 + 1, 1, none⟩) (by simp; omega) _⟩
theorem add_bad (neg : Bool) (s : ByteArray) (neg' : Bool) (s' : ByteArray) (w : World) (hs : s.size ≤ 9223372036854775807) (hs' : s'.size ≤ 9223372036854775807) (h : ¬ (Form neg s ∧ Form neg' s')) :
    Calls Tryd.prog 20 #[.agg #[.bool neg, .string s], .agg #[.bool neg', .string s']] w (Res false ⟨#[]⟩ 2 w) :=
  add_of neg s neg' s' _ _ _ w fun W => binary_bad neg s neg' s' _ W hs hs' h
theorem add_ok (neg : Bool) (s : ByteArray) (neg' : Bool) (s' : ByteArray) (w : World) (h : Form neg s) (h' : Form neg' s') :
    Calls Tryd.prog 20 #[.agg #[.bool neg, .string s], .agg #[.bool neg', .string s']] w (Res (fNeg (zOf neg s + zOf neg' s')) (fStr (zOf neg s + zOf neg' s')) (fErr (zOf neg s + zOf neg' s')) w) :=
  add_of neg s neg' s' _ _ _ w fun W => binary_ok 48 65 #[] (zOf neg s + zOf neg' s') neg s neg' s' W h h' (by omega) (enters_of Tryd.func48 (by kernel_rfl) (by kernel_rfl)) fun V u v _ hu hv => sum_any 64 65 _ _ u v V hu hv (by omega) (Ow.R_add (form_range h) (form_range h'))

set_option maxRecDepth 100000 in
set_option maxHeartbeats 1000000 in
theorem sub_of (neg : Bool) (s : ByteArray) (neg' : Bool) (s' : ByteArray) (A : Bool) (S : ByteArray) (C : Int) (w : World)
    (h : ∀ W, Calls Tryd.prog 47 #[.agg #[.bool neg, .string s], .agg #[.bool neg', .string s'], .func (.func 49) #[] #[]] W (Res A S C W)) :
    Calls Tryd.prog 22 #[.agg #[.bool neg, .string s], .agg #[.bool neg', .string s']] w (Res A S C w) := by
  have H := Lib.hid h
  clear h
  go_enter Tryd.func22, Tryd.ntmps22
  go_wp2_with fail
  refine (H.out _).mono ?_
  rintro e w1 ⟨rfl, g1⟩
  have g0 : Gr w (((w.alloc (.cells #[.bool neg, .string s] 23)).alloc (.cells #[.bool neg', .string s'] 23)).alloc (.cells #[.bool false, .string ⟨#[]⟩] 23)) := ((Gr.new w _).alloc _).alloc _
  have r0 := g1.keeps (p := ⟨w.heap.size + 1 + 1, 0, none⟩) (v := .bool false) (by simp [go_sem])
  have r1 := g1.keeps (p := ⟨w.heap.size + 1 + 1, 1, none⟩) (v := .string ⟨#[]⟩) (by simp [go_sem])
  have f0 := g1.frozen (p := ⟨w.heap.size + 1 + 1, 0, none⟩) (v := .bool false) (by simp [go_sem]) (by simp [go_sem])
  have f1 := g1.frozen (p := ⟨w.heap.size + 1 + 1, 1, none⟩) (v := .string ⟨#[]⟩) (by simp [go_sem]) (by simp [go_sem])
  have HG := Lib.hid (g0.trans g1)
  clear g0 g1
  go_wp2_with fail
  refine bodyPost_ret (v := .tuple #[.agg #[.bool A, .string S], .int .i64 C]) (by simp [results, Tryd.results22, go_sem, r0, r1]) rfl ?_
  exact ⟨rfl, (HG.out.setCell (p := ⟨w.heap.size + 1 + 1, 0, none⟩) (by simp; omega) _).setCell (p := ⟨w.heap.size + 1 + 1, 1, none⟩) (by simp; omega) _⟩
theorem sub_bad (neg : Bool) (s : ByteArray) (neg' : Bool) (s' : ByteArray) (w : World) (hs : s.size ≤ 9223372036854775807) (hs' : s'.size ≤ 9223372036854775807) (h : ¬ (Form neg s ∧ Form neg' s')) :
    Calls Tryd.prog 22 #[.agg #[.bool neg, .string s], .agg #[.bool neg', .string s']] w (Res false ⟨#[]⟩ 2 w) :=
  sub_of neg s neg' s' _ _ _ w fun W => binary_bad neg s neg' s' _ W hs hs' h
theorem sub_ok (neg : Bool) (s : ByteArray) (neg' : Bool) (s' : ByteArray) (w : World) (h : Form neg s) (h' : Form neg' s') :
    Calls Tryd.prog 22 #[.agg #[.bool neg, .string s], .agg #[.bool neg', .string s']] w (Res (fNeg (zOf neg s - zOf neg' s')) (fStr (zOf neg s - zOf neg' s')) (fErr (zOf neg s - zOf neg' s')) w) :=
  sub_of neg s neg' s' _ _ _ w fun W => binary_ok 49 65 #[] (zOf neg s - zOf neg' s') neg s neg' s' W h h' (by omega) (enters_of Tryd.func49 (by kernel_rfl) (by kernel_rfl)) fun V u v _ hu hv => sub1_any 64 65 _ _ u v V hu hv (by omega) (Ow.R_add (form_range h) (form_range h'))

set_option maxRecDepth 100000 in
set_option maxHeartbeats 1000000 in
theorem mul_of (neg : Bool) (s : ByteArray) (neg' : Bool) (s' : ByteArray) (A : Bool) (S : ByteArray) (C : Int) (w : World)
    (h : ∀ W, Calls Tryd.prog 47 #[.agg #[.bool neg, .string s], .agg #[.bool neg', .string s'], .func (.func 52) #[] #[]] W (Res A S C W)) :
    Calls Tryd.prog 24 #[.agg #[.bool neg, .string s], .agg #[.bool neg', .string s']] w (Res A S C w) := by
  have H := Lib.hid h
  clear h
  go_enter Tryd.func24, Tryd.ntmps24
  go_wp2_with fail
  refine (H.out _).mono ?_
  rintro e w1 ⟨rfl, g1⟩
  have g0 : Gr w (((w.alloc (.cells #[.bool neg, .string s] 23)).alloc (.cells #[.bool neg', .string s'] 23)).alloc (.cells #[.bool false, .string ⟨#[]⟩] 23)) := ((Gr.new w _).alloc _).alloc _
  have r0 := g1.keeps (p := ⟨w.heap.size + 1 + 1, 0, none⟩) (v := .bool false) (by simp [go_sem])
  have r1 := g1.keeps (p := ⟨w.heap.size + 1 + 1, 1, none⟩) (v := .string ⟨#[]⟩) (by simp [go_sem])
  have f0 := g1.frozen (p := ⟨w.heap.size + 1 + 1, 0, none⟩) (v := .bool false) (by simp [go_sem]) (by simp [go_sem])
  have f1 := g1.frozen (p := ⟨w.heap.size + 1 + 1, 1, none⟩) (v := .string ⟨#[]⟩) (by simp [go_sem]) (by simp [go_sem])
  have HG := Lib.hid (g0.trans g1)
  clear g0 g1
  go_wp2_with fail
  refine bodyPost_ret (v := .tuple #[.agg #[.bool A, .string S], .int .i64 C]) (by simp [results, Tryd.results24, go_sem, r0, r1]) rfl ?_
  exact ⟨rfl, (HG.out.setCell (p := ⟨w.heap.size + 1 + 1, 0, none⟩) (by simp; omega) _).setCell (p := ⟨w.heap.size + 1 + 1, 1, none⟩) (by simp; omega) _⟩
theorem mul_bad (neg : Bool) (s : ByteArray) (neg' : Bool) (s' : ByteArray) (w : World) (hs : s.size ≤ 9223372036854775807) (hs' : s'.size ≤ 9223372036854775807) (h : ¬ (Form neg s ∧ Form neg' s')) :
    Calls Tryd.prog 24 #[.agg #[.bool neg, .string s], .agg #[.bool neg', .string s']] w (Res false ⟨#[]⟩ 2 w) :=
  mul_of neg s neg' s' _ _ _ w fun W => binary_bad neg s neg' s' _ W hs hs' h
theorem mul_ok (neg : Bool) (s : ByteArray) (neg' : Bool) (s' : ByteArray) (w : World) (h : Form neg s) (h' : Form neg' s') :
    Calls Tryd.prog 24 #[.agg #[.bool neg, .string s], .agg #[.bool neg', .string s']] w (Res (fNeg (zOf neg s * zOf neg' s')) (fStr (zOf neg s * zOf neg' s')) (fErr (zOf neg s * zOf neg' s')) w) :=
  mul_of neg s neg' s' _ _ _ w fun W => binary_ok 52 128 #[] (zOf neg s * zOf neg' s') neg s neg' s' W h h' (by omega) (enters_of Tryd.func52 (by kernel_rfl) (by kernel_rfl)) fun V u v _ hu hv => product_any 128 _ _ u v V hu hv (Ow.R_mul (form_range h) (form_range h'))
end Go.Proofs.YtgalgldnhdiggaaDoor
