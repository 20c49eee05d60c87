/- unary and binary: an operation on the integers of forms. -/
import Derived.Test.YtgalgldnhdiggaaDoorForm
import Derived.Deep.RegionHeld3
namespace Go.Proofs.YtgalgldnhdiggaaDoor
open Go.RowKit
set_option linter.unusedVariables false

/-- A function that is entered when it is called. -/
def Enters (n : Nat) : Prop := ∀ (args : Array Value) (w : World), (callFunc n args).run Tryd.prog w = .ok (.enter n args) w
theorem enters_of {n : Nat} {fn : Func} (hf : Tryd.prog.funcs[n]? = some fn) (hname : (fn.name == "runtime.NumGoroutine") = false) (hb : fn.body.isSome = true) : Enters n := fun args w => by
  obtain ⟨c, hb⟩ := Option.isSome_iff_exists.1 hb
  have h1 : fn.name ≠ "runtime.NumGoroutine" := by simpa using hname
  simp [callFunc, hf, h1, hb]

set_option maxRecDepth 100000 in
set_option maxHeartbeats 1000000 in
theorem unary_bad (neg : Bool) (s : ByteArray) (f : Value) (w : World) (hs : s.size ≤ 9223372036854775807) (h : ¬ Form neg s) :
    Calls Tryd.prog 56 #[.agg #[.bool neg, .string s], f] w (Res false ⟨#[]⟩ 2 w) := by
  have HF := Lib.hid h
  clear h
  go_enter Tryd.func56, Tryd.ntmps56
  go_wp2_with fail
  refine (valid_any neg s _ hs).mono ?_
  rintro e w1 ⟨r, rfl, hr, g1⟩
  obtain rfl : r = false := by cases r; rfl; exact absurd (hr.1 rfl) HF.out
  clear hr
  have g0 : Gr w ((w.alloc (.cells #[.bool neg, .string s] 23)).alloc (.cells #[.bool false, .string ⟨#[]⟩] 23)) := (Gr.new w _).alloc _
  have r0 := g1.keeps (p := ⟨w.heap.size + 1, 0, none⟩) (v := .bool false) (by simp [go_sem])
  have r1 := g1.keeps (p := ⟨w.heap.size + 1, 1, none⟩) (v := .string ⟨#[]⟩) (by simp [go_sem])
  have f0 := g1.frozen (p := ⟨w.heap.size + 1, 0, none⟩) (v := .bool false) (by simp [go_sem]) (by simp [go_sem])
  have f1 := g1.frozen (p := ⟨w.heap.size + 1, 1, none⟩) (v := .string ⟨#[]⟩) (by simp [go_sem]) (by simp [go_sem])
  have HG := Lib.hid (g0.trans g1)
  clear g0 g1
  go_wp2_with fail
  refine bodyPost_ret (v := .tuple #[.agg #[.bool false, .string ⟨#[]⟩], .int .i64 2]) (by simp [results, Tryd.results56, go_sem, r0, r1]) rfl ?_
  exact ⟨rfl, (HG.out.setCell (p := ⟨w.heap.size + 1, 0, none⟩) (by simp) _).setCell (p := ⟨w.heap.size + 1, 1, none⟩) (by simp) _⟩

set_option maxRecDepth 100000 in
set_option maxHeartbeats 1000000 in
theorem unary_ok (n N : Nat) (caps : Array Value) (z : Int) (neg : Bool) (s : ByteArray) (w : World) (h : Form neg s) (hN : N ≤ 100000) (hen : Enters n)
    (hop : ∀ W v, Gr w W → HasI 64 W v (zOf neg s) → Calls Tryd.prog n (#[v] ++ caps) W (IntZ N z W)) :
    Calls Tryd.prog 56 #[.agg #[.bool neg, .string s], .func (.func n) #[] caps] w (Res (fNeg z) (fStr z) (fErr z) w) := by
  have HF := Lib.hid h
  have hs : s.size ≤ 256 := by rcases h with ⟨h0, _⟩ | ⟨_, h2, _⟩ <;> omega
  have HOP := Lib.hid hop
  have HEN := Lib.hid hen
  clear h hop hen
  go_enter Tryd.func56, Tryd.ntmps56
  go_wp2_with fail
  refine (valid_any neg s _ (by omega)).mono ?_
  rintro e w1 ⟨r, rfl, hr, g1⟩
  obtain rfl : r = true := hr.2 HF.out
  clear hr
  have g0 : Gr w ((w.alloc (.cells #[.bool neg, .string s] 23)).alloc (.cells #[.bool false, .string ⟨#[]⟩] 23)) := (Gr.new w _).alloc _
  have k0 := g1.keeps (p := ⟨w.heap.size, 0, none⟩) (v := .bool neg) (by simp [go_sem])
  have k1 := g1.keeps (p := ⟨w.heap.size, 1, none⟩) (v := .string s) (by simp [go_sem])
  have r0 := g1.keeps (p := ⟨w.heap.size + 1, 0, none⟩) (v := .bool false) (by simp [go_sem])
  have r1 := g1.keeps (p := ⟨w.heap.size + 1, 1, none⟩) (v := .string ⟨#[]⟩) (by simp [go_sem])
  have f0 := g1.frozen (p := ⟨w.heap.size + 1, 0, none⟩) (v := .bool false) (by simp [go_sem]) (by simp [go_sem])
  have f1 := g1.frozen (p := ⟨w.heap.size + 1, 1, none⟩) (v := .string ⟨#[]⟩) (by simp [go_sem]) (by simp [go_sem])
  have HR0 := Lib.hid r0
  have HR1 := Lib.hid r1
  have HE0 := Lib.hid f0
  have HE1 := Lib.hid f1
  have HG := Lib.hid (g0.trans g1)
  clear g0 g1 r0 r1 f0 f1
  go_wp2_with fail
  refine (integerOf_form neg s _ HF.out).mono ?_
  rintro e w2 ⟨v, rfl, hv, g2⟩
  have HV := Lib.hid hv
  have HG2 := Lib.hid g2
  clear hv g2
  go_wp2_with fail
  rw [HEN.out, Oper.upon_enter]
  refine (HOP.out _ v (HG.out.trans HG2.out) HV.out).mono ?_
  rintro e w3 ⟨u, rfl, hu, g3⟩
  have HU := Lib.hid hu
  have HG3 := Lib.hid (HG2.out.trans g3)
  clear hu g3
  go_wp2_with fail
  refine (form_any N z u _ HU.out hN).mono ?_
  rintro e w4 ⟨rfl, g4⟩
  have g := HG3.out.trans g4
  have r0 := g.keeps HR0.out
  have r1 := g.keeps HR1.out
  have f0 := g.frozen HR0.out HE0.out
  have f1 := g.frozen HR1.out HE1.out
  have HGG := Lib.hid (HG.out.trans g)
  clear g g4
  go_wp2_with fail
  refine bodyPost_ret (v := .tuple #[.agg #[.bool (fNeg z), .string (fStr z)], .int .i64 (fErr z)]) (by simp [results, Tryd.results56, go_sem, r0, r1]) rfl ?_
  exact ⟨rfl, (HGG.out.setCell (p := ⟨w.heap.size + 1, 0, none⟩) (by simp) _).setCell (p := ⟨w.heap.size + 1, 1, none⟩) (by simp) _⟩

set_option maxRecDepth 100000 in
set_option maxHeartbeats 1000000 in
theorem binary_bad (neg : Bool) (s : ByteArray) (neg' : Bool) (s' : ByteArray) (f : Value) (w : World) (hs : s.size ≤ 9223372036854775807) (hs' : s'.size ≤ 9223372036854775807) (h : ¬ (Form neg s ∧ Form neg' s')) :
    Calls Tryd.prog 47 #[.agg #[.bool neg, .string s], .agg #[.bool neg', .string s'], f] w (Res false ⟨#[]⟩ 2 w) := by
  have HF := Lib.hid h
  clear h
  go_enter Tryd.func47, Tryd.ntmps47
  go_wp2_with fail
  refine (valid_any neg s _ hs).mono ?_
  rintro e w1 ⟨r, rfl, hr, g1⟩
  have HR := Lib.hid hr
  clear hr
  have g0 : Gr w (((w.alloc (.cells #[.bool neg, .string s] 23)).alloc (.cells #[.bool neg', .string s'] 23)).alloc (.cells #[.bool false, .string ⟨#[]⟩] 23)) := ((Gr.new w _).alloc _).alloc _
  have y0 := g1.keeps (p := ⟨w.heap.size + 1, 0, none⟩) (v := .bool neg') (by simp [go_sem])
  have y1 := g1.keeps (p := ⟨w.heap.size + 1, 1, none⟩) (v := .string s') (by simp [go_sem])
  have r0 := g1.keeps (p := ⟨w.heap.size + 1 + 1, 0, none⟩) (v := .bool false) (by simp [go_sem])
  have r1 := g1.keeps (p := ⟨w.heap.size + 1 + 1, 1, none⟩) (v := .string ⟨#[]⟩) (by simp [go_sem])
  have f0 := g1.frozen (p := ⟨w.heap.size + 1 + 1, 0, none⟩) (v := .bool false) (by simp [go_sem]) (by simp [go_sem])
  have f1 := g1.frozen (p := ⟨w.heap.size + 1 + 1, 1, none⟩) (v := .string ⟨#[]⟩) (by simp [go_sem]) (by simp [go_sem])
  have HG := Lib.hid (g0.trans g1)
  clear g0 g1
  cases r with
  | false =>
    go_wp2_with fail
    refine bodyPost_ret (v := .tuple #[.agg #[.bool false, .string ⟨#[]⟩], .int .i64 2]) (by simp [results, Tryd.results47, go_sem, r0, r1]) rfl ?_
    exact ⟨rfl, (HG.out.setCell (p := ⟨w.heap.size + 1 + 1, 0, none⟩) (by simp; omega) _).setCell (p := ⟨w.heap.size + 1 + 1, 1, none⟩) (by simp; omega) _⟩
  | true =>
    have R0 := Lib.hid r0
    have R1 := Lib.hid r1
    have F0 := Lib.hid f0
    have F1 := Lib.hid f1
    clear r0 r1 f0 f1
    go_wp2_with fail
    refine (valid_any neg' s' _ hs').mono ?_
    rintro e w2 ⟨r, rfl, hr, g1⟩
    obtain rfl : r = false := by cases r; rfl; exact absurd ⟨HR.out.1 (by simp), hr.1 (by simp)⟩ HF.out
    clear hr
    have r0 := g1.keeps R0.out
    have r1 := g1.keeps R1.out
    have f0 := g1.frozen R0.out F0.out
    have f1 := g1.frozen R1.out F1.out
    have HG := Lib.hid (HG.out.trans g1)
    clear g1
    go_wp2_with fail
    refine bodyPost_ret (v := .tuple #[.agg #[.bool false, .string ⟨#[]⟩], .int .i64 2]) (by simp [results, Tryd.results47, go_sem, r0, r1]) rfl ?_
    exact ⟨rfl, (HG.out.setCell (p := ⟨w.heap.size + 1 + 1, 0, none⟩) (by simp; omega) _).setCell (p := ⟨w.heap.size + 1 + 1, 1, none⟩) (by simp; omega) _⟩

set_option maxRecDepth 100000 in
set_option maxHeartbeats 2000000 in
theorem binary_ok (n N : Nat) (caps : Array Value) (z : Int) (neg : Bool) (s : ByteArray) (neg' : Bool) (s' : ByteArray) (w : World) (h : Form neg s) (h' : Form neg' s') (hN : N ≤ 100000) (hen : Enters n)
    (hop : ∀ W u v, Gr w W → HasI 64 W u (zOf neg s) → HasI 64 W v (zOf neg' s') → Calls Tryd.prog n (#[u, v] ++ caps) W (IntZ N z W)) :
    Calls Tryd.prog 47 #[.agg #[.bool neg, .string s], .agg #[.bool neg', .string s'], .func (.func n) #[] caps] w (Res (fNeg z) (fStr z) (fErr z) w) := by
  have HF := Lib.hid h
  have HF' := Lib.hid h'
  have hs : s.size ≤ 256 := by rcases h with ⟨h0, _⟩ | ⟨_, h2, _⟩ <;> omega
  have hs' : s'.size ≤ 256 := by rcases h' with ⟨h0, _⟩ | ⟨_, h2, _⟩ <;> omega
  have HOP := Lib.hid hop
  have HEN := Lib.hid hen
  clear h h' hop hen
  go_enter Tryd.func47, Tryd.ntmps47
  go_wp2_with fail
  refine (valid_any neg s _ (by omega)).mono ?_
  rintro e w1 ⟨r, rfl, hr, g1⟩
  obtain rfl : r = true := hr.2 HF.out
  clear hr
  have g0 : Gr w (((w.alloc (.cells #[.bool neg, .string s] 23)).alloc (.cells #[.bool neg', .string s'] 23)).alloc (.cells #[.bool false, .string ⟨#[]⟩] 23)) := ((Gr.new w _).alloc _).alloc _
  have x0 := g1.keeps (p := ⟨w.heap.size, 0, none⟩) (v := .bool neg) (by simp [go_sem])
  have x1 := g1.keeps (p := ⟨w.heap.size, 1, none⟩) (v := .string s) (by simp [go_sem])
  have y0 := g1.keeps (p := ⟨w.heap.size + 1, 0, none⟩) (v := .bool neg') (by simp [go_sem])
  have y1 := g1.keeps (p := ⟨w.heap.size + 1, 1, none⟩) (v := .string s') (by simp [go_sem])
  have r0 := g1.keeps (p := ⟨w.heap.size + 1 + 1, 0, none⟩) (v := .bool false) (by simp [go_sem])
  have r1 := g1.keeps (p := ⟨w.heap.size + 1 + 1, 1, none⟩) (v := .string ⟨#[]⟩) (by simp [go_sem])
  have f0 := g1.frozen (p := ⟨w.heap.size + 1 + 1, 0, none⟩) (v := .bool false) (by simp [go_sem]) (by simp [go_sem])
  have f1 := g1.frozen (p := ⟨w.heap.size + 1 + 1, 1, none⟩) (v := .string ⟨#[]⟩) (by simp [go_sem]) (by simp [go_sem])
  have HG := Lib.hid (g0.trans g1)
  have R0 := Lib.hid r0
  have R1 := Lib.hid r1
  have F0 := Lib.hid f0
  have F1 := Lib.hid f1
  clear g0 g1 r0 r1 f0 f1
  go_wp2_with fail
  refine (valid_any neg' s' _ (by omega)).mono ?_
  rintro e w2 ⟨r, rfl, hr, g1⟩
  obtain rfl : r = true := hr.2 HF'.out
  clear hr
  have x0 := g1.keeps x0
  have x1 := g1.keeps x1
  have y0 := g1.keeps y0
  have y1 := g1.keeps y1
  have F0 := Lib.hid (g1.frozen R0.out F0.out)
  have F1 := Lib.hid (g1.frozen R1.out F1.out)
  have R0 := Lib.hid (g1.keeps R0.out)
  have R1 := Lib.hid (g1.keeps R1.out)
  have HG := Lib.hid (HG.out.trans g1)
  have hen : ∀ (args : Array Value) (w : World), (callFunc n args).run Tryd.prog w = .ok (.enter n args) w := HEN.out
  have n1 : ¬ (w.heap.size = w.heap.size + 1 + 1) := by omega
  have n2 : ¬ (w.heap.size + 1 + 1 = w.heap.size) := by omega
  clear g1
  go_wp2_with fail
  go_region_held3 (fun w' => w'.cell? ⟨w.heap.size, 0, none⟩ = some (.bool neg) ∧ w'.cell? ⟨w.heap.size, 1, none⟩ = some (.string s) ∧ w'.cell? ⟨w.heap.size + 1, 0, none⟩ = some (.bool neg') ∧ w'.cell? ⟨w.heap.size + 1, 1, none⟩ = some (.string s')) (first | exact ⟨x0, x1, y0, y1⟩ | go_keep)
    (first
      | (go_at_call 43; (with_reducible refine (integerOf_form neg s _ HF.out).mono ?_); rintro e w' ⟨u, rfl, hv, g⟩; (try (have g := Gr.trans (show Gr w2 w2.drew from Below.drew (Gr.refl w2)) g)); have x0 := g.keeps x0; have x1 := g.keeps x1; have y0 := g.keeps y0; have y1 := g.keeps y1; have HX := Lib.hid hv; (try have HY := Lib.hid (HY.out.later g)); have F0 := Lib.hid (g.frozen R0.out F0.out); have F1 := Lib.hid (g.frozen R1.out F1.out); have R0 := Lib.hid (g.keeps R0.out); have R1 := Lib.hid (g.keeps R1.out); have HG := Lib.hid (HG.out.trans g); clear hv g)
      | (go_at_call 43; (with_reducible refine (integerOf_form neg' s' _ HF'.out).mono ?_); rintro e w' ⟨v, rfl, hv, g⟩; (try (have g := Gr.trans (show Gr w2 w2.drew from Below.drew (Gr.refl w2)) g)); have x0 := g.keeps x0; have x1 := g.keeps x1; have y0 := g.keeps y0; have y1 := g.keeps y1; (try have HX := Lib.hid (HX.out.later g)); have HY := Lib.hid hv; have F0 := Lib.hid (g.frozen R0.out F0.out); have F1 := Lib.hid (g.frozen R1.out F1.out); have R0 := Lib.hid (g.keeps R0.out); have R1 := Lib.hid (g.keeps R1.out); have HG := Lib.hid (HG.out.trans g); clear hv g)
      | (go_at_call 33; (with_reducible refine (form_any N z _ _ HU.out hN).mono ?_); rintro e w' ⟨rfl, g⟩; have x0 := g.keeps x0; have x1 := g.keeps x1; have y0 := g.keeps y0; have y1 := g.keeps y1; have f0 := g.frozen R0.out F0.out; have f1 := g.frozen R1.out F1.out; have r0 := g.keeps R0.out; have r1 := g.keeps R1.out; have HG := Lib.hid (HG.out.trans g); clear g)
      | ((with_reducible refine (HOP.out _ _ _ HG.out HX.out HY.out).mono ?_); rintro e w' ⟨t, rfl, hv, g⟩; have x0 := g.keeps x0; have x1 := g.keeps x1; have y0 := g.keeps y0; have y1 := g.keeps y1; have HU := Lib.hid hv; have F0 := Lib.hid (g.frozen R0.out F0.out); have F1 := Lib.hid (g.frozen R1.out F1.out); have R0 := Lib.hid (g.keeps R0.out); have R1 := Lib.hid (g.keeps R1.out); have HG := Lib.hid (HG.out.trans g); clear hv g))
  all_goals
    go_wp2_with fail
    refine bodyPost_ret (v := .tuple #[.agg #[.bool (fNeg z), .string (fStr z)], .int .i64 (fErr z)]) (by simp [results, Tryd.results47, go_sem, r0, r1]) rfl ?_
    exact ⟨rfl, (HG.out.setCell (p := ⟨w.heap.size + 1 + 1, 0, none⟩) (by simp; omega) _).setCell (p := ⟨w.heap.size + 1 + 1, 1, none⟩) (by simp; omega) _⟩
end Go.Proofs.YtgalgldnhdiggaaDoor
