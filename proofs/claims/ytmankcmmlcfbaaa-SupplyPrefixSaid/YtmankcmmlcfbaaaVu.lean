/- does: an act of the program and of the reference; alike if their answers are. -/
import Derived.Test.YtmankcmmlcfbaaaVr
import Derived.Test.YtmankcmmlcfbaaaVp
namespace Go.Proofs.Ytmankcmmlcfbaaa
open Go.RowKit Ov
set_option linter.unusedVariables false
/-- Both supplies behind an act. -/
def DoesP (w0 : World) (b g c r : Nat) (s1 s2 : ByteArray) (q1 q2 : Nat) (e : Ending) (w' : World) : Prop := e = .returned (.bool true) ∧ Sup w' b g c s1 q1 ∧ Rup w' r s2 q2 ∧ Gr w0 w'
theorem hasQ_exLw {w w' : World} {a : Option Addr} {m k r : Nat} {l : List Int} (h : Lw.HasQ w (.slice a m k) l) (hx : Ex r w w') (hf : ∀ x, a = some x → x.block ≠ r) : Lw.HasQ w' (.slice a m k) l := by
  obtain ⟨hd, a', cap, e, h1, h2, h3⟩ := h
  refine ⟨hd, a', cap, e, h1, h2, fun i hi => ?_⟩
  obtain ⟨g, o, e', hc⟩ := h3 i hi
  simp only [Value.slice.injEq] at e
  exact ⟨g, o, e', hx.keeps hc (hf ⟨g, o, none⟩ (e.1.trans e'))⟩
theorem hasQ_exL8 {w w' : World} {a : Option Addr} {m k r : Nat} {l : List Int} (h : L8.HasQ w (.slice a m k) l) (hx : Ex r w w') (hf : ∀ x, a = some x → x.block ≠ r) : L8.HasQ w' (.slice a m k) l := by
  obtain ⟨hd, a', cap, e, h1, h2, h3⟩ := h
  refine ⟨hd, a', cap, e, h1, h2, fun i hi => ?_⟩
  obtain ⟨g, o, e', hc⟩ := h3 i hi
  simp only [Value.slice.injEq] at e
  exact ⟨g, o, e', hx.keeps hc (hf ⟨g, o, none⟩ (e.1.trans e'))⟩
theorem hasQ_exLo {w w' : World} {a : Option Addr} {m k r : Nat} {l : List Int} (h : Lo.HasQ w (.slice a m k) l) (hx : Ex r w w') (hf : ∀ x, a = some x → x.block ≠ r) : Lo.HasQ w' (.slice a m k) l := by
  obtain ⟨hd, a', cap, e, h1, h2, h3⟩ := h
  refine ⟨hd, a', cap, e, h1, h2, fun i hi => ?_⟩
  obtain ⟨g, o, e', hc⟩ := h3 i hi
  simp only [Value.slice.injEq] at e
  exact ⟨g, o, e', hx.keeps hc (hf ⟨g, o, none⟩ (e.1.trans e'))⟩
set_option maxRecDepth 100000 in
set_option maxHeartbeats 2000000 in
theorem does0_any (b g c r : Nat) (s1 s2 : ByteArray) (p1 p2 q1 q2 : Nat) (v : Nat) (cd : Int) (W : Nat) (N H : Int) (Q : Nat) (w0 w : World) (hS : Sup w b g c s1 p1) (hR : Rup w r s2 p2) (hg : Gr w0 w) (hb : w0.heap.size ≤ b) (hr : w0.heap.size ≤ r) (hbr : b ≠ r) (hgr : g ≠ r)
    (hW : W % 5 = 0) (hQ : Q < 18446744073709551616) (h1 : rBits s1 N p1 = (v, cd, q1)) (h2 : rBits s2 N p2 = (v, cd, q2)) :
    Calls Try.prog 10 #[.pointer (some ⟨b, 0, none⟩), .pointer (some ⟨r, 0, none⟩), .agg #[.int .u8 (W : Nat), .int .i64 N, .int .i64 H, .int .u64 (Q : Nat)]] w (DoesP w0 b g c r s1 s2 q1 q2) := by
  have ht : (W : Int).tmod 5 = 0 := by rw [Int.tmod_eq_emod_of_nonneg (by omega)]; omega
  obtain ⟨D, hD⟩ : ∃ D, D = w.heap.size := ⟨_, rfl⟩
  have HD := Lib.hid (show D ≠ b ∧ D ≠ r from ⟨by have := hS.lt; omega, by have := hR.lt; omega⟩)
  have HB := Lib.hid (And.intro hb hr)
  have HNE := Lib.hid (And.intro hbr hgr)
  have HG1 := Lib.hid (Gr.new w (.cells #[.int .u8 (W : Nat), .int .i64 N, .int .i64 H, .int .u64 (Q : Nat)] 31))
  have x0 := cl_new w #[.int .u8 (W : Nat), .int .i64 N, .int .i64 H, .int .u64 (Q : Nat)] 31 0
  have x1 := cl_new w #[.int .u8 (W : Nat), .int .i64 N, .int .i64 H, .int .u64 (Q : Nat)] 31 1
  have x2 := cl_new w #[.int .u8 (W : Nat), .int .i64 N, .int .i64 H, .int .u64 (Q : Nat)] 31 2
  have x3 := cl_new w #[.int .u8 (W : Nat), .int .i64 N, .int .i64 H, .int .u64 (Q : Nat)] 31 3
  have HS := Lib.hid (hS.later HG1.out)
  have HR := Lib.hid (hR.later HG1.out)
  have HG := Lib.hid (Gr.trans hg HG1.out)
  clear hS hR hg hb hr hbr hgr hW
  go_enter Try.func10, Try.ntmps10
  go_wp2_with fail
  generalize w.alloc (.cells #[.int .u8 (W : Nat), .int .i64 N, .int .i64 H, .int .u64 (Q : Nat)] 31) = W1 at HG1 HS HR HG x0 x1 x2 x3 ⊢
  rw [← hD] at x0 x1 x2 x3 ⊢
  have X1 := Lib.hid (show W1.cell? ⟨D, 1, none⟩ = some (.int .i64 N) from x1)
  have X2 := Lib.hid (show W1.cell? ⟨D, 2, none⟩ = some (.int .i64 H) from x2)
  have X3 := Lib.hid (show W1.cell? ⟨D, 3, none⟩ = some (.int .u64 (Q : Nat)) from x3)
  have y0 : W1.cell? ⟨D, 0, none⟩ = some (.int .u8 (W : Nat)) := x0
  have y1 := X1.out
  have y2 := X2.out
  have y3 := X3.out
  have HP := Lib.hid (show Calls _ _ _ _ (fun e w' => e = .returned (.tuple #[.int .u64 (v : Nat), .int .i64 cd]) ∧ Sup w' b g c s1 q1 ∧ Ex b W1 w') from (pBits_any b g c s1 p1 N W1 HS.out).mono (by rintro e w' ⟨he, hs, hx'⟩; rw [h1] at he hs; exact ⟨he, hs, hx'⟩))
  have HC2 := Lib.hid (fun w2 (hx : Ex b W1 w2) => show Calls _ _ _ _ (fun e w' => e = .returned (.tuple #[.int .u64 (v : Nat), .int .i64 cd]) ∧ Rup w' r s2 q2 ∧ Ex r w2 w') from (rBits_any r s2 p2 N w2 (HR.out.ex hx (Ne.symm HNE.out.1))).mono (by rintro e w' ⟨he, hs, hx'⟩; rw [h2] at he hs; exact ⟨he, hs, hx'⟩))
  clear h1 h2 hQ x0 x1 x2 x3 hD
  go_wp2_with (first | (go_at_call 21; refine HP.out.mono ?_; rintro e w2 ⟨rfl, hs2, hx2⟩; (have HS2 := Lib.hid hs2; have HX2 := Lib.hid hx2); (have z1 := hx2.keeps X1.out HD.out.1; have z2 := hx2.keeps X2.out HD.out.1; have z3 := hx2.keeps X3.out HD.out.1); clear hs2 hx2) | (go_at_call 24; refine (HC2.out _ HX2.out).mono ?_; rintro e w3 ⟨rfl, hr3, hx3⟩))
  go_ret
  exact ⟨rfl, HS2.out.ex hx3 HNE.out.1 HNE.out.2, hr3, hx3.gr (HX2.out.gr HG.out HB.out.1) HB.out.2⟩
set_option maxRecDepth 100000 in
set_option maxHeartbeats 2000000 in
theorem does1_any (b g c r : Nat) (s1 s2 : ByteArray) (p1 p2 q1 q2 : Nat) (v : Nat) (cd : Int) (W : Nat) (N H : Int) (Q : Nat) (w0 w : World) (hS : Sup w b g c s1 p1) (hR : Rup w r s2 p2) (hg : Gr w0 w) (hb : w0.heap.size ≤ b) (hr : w0.heap.size ≤ r) (hbr : b ≠ r) (hgr : g ≠ r)
    (hW : W % 5 = 1) (hQ : Q < 18446744073709551616) (h1 : rBelow s1 Q p1 = (v, cd, q1)) (h2 : rBelow s2 Q p2 = (v, cd, q2)) :
    Calls Try.prog 10 #[.pointer (some ⟨b, 0, none⟩), .pointer (some ⟨r, 0, none⟩), .agg #[.int .u8 (W : Nat), .int .i64 N, .int .i64 H, .int .u64 (Q : Nat)]] w (DoesP w0 b g c r s1 s2 q1 q2) := by
  have ht : (W : Int).tmod 5 = 1 := by rw [Int.tmod_eq_emod_of_nonneg (by omega)]; omega
  obtain ⟨D, hD⟩ : ∃ D, D = w.heap.size := ⟨_, rfl⟩
  have HD := Lib.hid (show D ≠ b ∧ D ≠ r from ⟨by have := hS.lt; omega, by have := hR.lt; omega⟩)
  have HB := Lib.hid (And.intro hb hr)
  have HNE := Lib.hid (And.intro hbr hgr)
  have HG1 := Lib.hid (Gr.new w (.cells #[.int .u8 (W : Nat), .int .i64 N, .int .i64 H, .int .u64 (Q : Nat)] 31))
  have x0 := cl_new w #[.int .u8 (W : Nat), .int .i64 N, .int .i64 H, .int .u64 (Q : Nat)] 31 0
  have x1 := cl_new w #[.int .u8 (W : Nat), .int .i64 N, .int .i64 H, .int .u64 (Q : Nat)] 31 1
  have x2 := cl_new w #[.int .u8 (W : Nat), .int .i64 N, .int .i64 H, .int .u64 (Q : Nat)] 31 2
  have x3 := cl_new w #[.int .u8 (W : Nat), .int .i64 N, .int .i64 H, .int .u64 (Q : Nat)] 31 3
  have HS := Lib.hid (hS.later HG1.out)
  have HR := Lib.hid (hR.later HG1.out)
  have HG := Lib.hid (Gr.trans hg HG1.out)
  clear hS hR hg hb hr hbr hgr hW
  go_enter Try.func10, Try.ntmps10
  go_wp2_with fail
  generalize w.alloc (.cells #[.int .u8 (W : Nat), .int .i64 N, .int .i64 H, .int .u64 (Q : Nat)] 31) = W1 at HG1 HS HR HG x0 x1 x2 x3 ⊢
  rw [← hD] at x0 x1 x2 x3 ⊢
  have X1 := Lib.hid (show W1.cell? ⟨D, 1, none⟩ = some (.int .i64 N) from x1)
  have X2 := Lib.hid (show W1.cell? ⟨D, 2, none⟩ = some (.int .i64 H) from x2)
  have X3 := Lib.hid (show W1.cell? ⟨D, 3, none⟩ = some (.int .u64 (Q : Nat)) from x3)
  have y0 : W1.cell? ⟨D, 0, none⟩ = some (.int .u8 (W : Nat)) := x0
  have y1 := X1.out
  have y2 := X2.out
  have y3 := X3.out
  have HP := Lib.hid (show Calls _ _ _ _ (fun e w' => e = .returned (.tuple #[.int .u64 (v : Nat), .int .i64 cd]) ∧ Sup w' b g c s1 q1 ∧ Ex b W1 w') from (pBelow_any b g c s1 p1 Q W1 HS.out hQ).mono (by rintro e w' ⟨he, hs, hx'⟩; rw [h1] at he hs; exact ⟨he, hs, hx'⟩))
  have HC2 := Lib.hid (fun w2 (hx : Ex b W1 w2) => show Calls _ _ _ _ (fun e w' => e = .returned (.tuple #[.int .u64 (v : Nat), .int .i64 cd]) ∧ Rup w' r s2 q2 ∧ Ex r w2 w') from (rBelow_any r s2 p2 Q w2 (HR.out.ex hx (Ne.symm HNE.out.1)) hQ).mono (by rintro e w' ⟨he, hs, hx'⟩; rw [h2] at he hs; exact ⟨he, hs, hx'⟩))
  clear h1 h2 hQ x0 x1 x2 x3 hD
  go_wp2_with (first | (go_at_call 18; refine HP.out.mono ?_; rintro e w2 ⟨rfl, hs2, hx2⟩; (have HS2 := Lib.hid hs2; have HX2 := Lib.hid hx2); (have z1 := hx2.keeps X1.out HD.out.1; have z2 := hx2.keeps X2.out HD.out.1; have z3 := hx2.keeps X3.out HD.out.1); clear hs2 hx2) | (go_at_call 25; refine (HC2.out _ HX2.out).mono ?_; rintro e w3 ⟨rfl, hr3, hx3⟩))
  go_ret
  exact ⟨rfl, HS2.out.ex hx3 HNE.out.1 HNE.out.2, hr3, hx3.gr (HX2.out.gr HG.out HB.out.1) HB.out.2⟩
set_option maxRecDepth 100000 in
set_option maxHeartbeats 2000000 in
theorem does2_any (b g c r : Nat) (s1 s2 : ByteArray) (p1 p2 q1 q2 : Nat) (v : List Int) (cd : Int) (W : Nat) (N H : Int) (Q : Nat) (w0 w : World) (hS : Sup w b g c s1 p1) (hR : Rup w r s2 p2) (hg : Gr w0 w) (hb : w0.heap.size ≤ b) (hr : w0.heap.size ≤ r) (hbr : b ≠ r) (hgr : g ≠ r)
    (hW : W % 5 = 2) (hQ : Q < 18446744073709551616) (h1 : rUni s1 N (Q % 4294967296) p1 = (v, cd, q1)) (h2 : rUni s2 N (Q % 4294967296) p2 = (v, cd, q2)) :
    Calls Try.prog 10 #[.pointer (some ⟨b, 0, none⟩), .pointer (some ⟨r, 0, none⟩), .agg #[.int .u8 (W : Nat), .int .i64 N, .int .i64 H, .int .u64 (Q : Nat)]] w (DoesP w0 b g c r s1 s2 q1 q2) := by
  have ht : (W : Int).tmod 5 = 2 := by rw [Int.tmod_eq_emod_of_nonneg (by omega)]; omega
  obtain ⟨D, hD⟩ : ∃ D, D = w.heap.size := ⟨_, rfl⟩
  have HD := Lib.hid (show D ≠ b ∧ D ≠ r from ⟨by have := hS.lt; omega, by have := hR.lt; omega⟩)
  have HB := Lib.hid (And.intro hb hr)
  have HNE := Lib.hid (And.intro hbr hgr)
  obtain ⟨R, hR0⟩ : ∃ R : Nat, R = Q % 4294967296 := ⟨_, rfl⟩
  have hR4 : R < 4294967296 := by omega
  have hconv : IntKind.u32.wrap (Q : Int) = (R : Int) := by rw [IntKind.wrap_u32]; omega
  rw [← hR0] at h1 h2
  clear hR0
  have HG1 := Lib.hid (Gr.new w (.cells #[.int .u8 (W : Nat), .int .i64 N, .int .i64 H, .int .u64 (Q : Nat)] 31))
  have x0 := cl_new w #[.int .u8 (W : Nat), .int .i64 N, .int .i64 H, .int .u64 (Q : Nat)] 31 0
  have x1 := cl_new w #[.int .u8 (W : Nat), .int .i64 N, .int .i64 H, .int .u64 (Q : Nat)] 31 1
  have x2 := cl_new w #[.int .u8 (W : Nat), .int .i64 N, .int .i64 H, .int .u64 (Q : Nat)] 31 2
  have x3 := cl_new w #[.int .u8 (W : Nat), .int .i64 N, .int .i64 H, .int .u64 (Q : Nat)] 31 3
  have HS := Lib.hid (hS.later HG1.out)
  have HR := Lib.hid (hR.later HG1.out)
  have HG := Lib.hid (Gr.trans hg HG1.out)
  clear hS hR hg hb hr hbr hgr hW
  go_enter Try.func10, Try.ntmps10
  go_wp2_with fail
  generalize w.alloc (.cells #[.int .u8 (W : Nat), .int .i64 N, .int .i64 H, .int .u64 (Q : Nat)] 31) = W1 at HG1 HS HR HG x0 x1 x2 x3 ⊢
  rw [← hD] at x0 x1 x2 x3 ⊢
  have X1 := Lib.hid (show W1.cell? ⟨D, 1, none⟩ = some (.int .i64 N) from x1)
  have X2 := Lib.hid (show W1.cell? ⟨D, 2, none⟩ = some (.int .i64 H) from x2)
  have X3 := Lib.hid (show W1.cell? ⟨D, 3, none⟩ = some (.int .u64 (Q : Nat)) from x3)
  have y0 : W1.cell? ⟨D, 0, none⟩ = some (.int .u8 (W : Nat)) := x0
  have y1 := X1.out
  have y2 := X2.out
  have y3 := X3.out
  have HP := Lib.hid (show Calls _ _ _ _ (fun e w' => ∃ a m k, e = .returned (.tuple #[.slice a m k, .int .i64 cd]) ∧ Lw.HasQ w' (.slice a m k) v ∧ (∀ x, a = some x → W1.heap.size ≤ x.block) ∧ Sup w' b g c s1 q1 ∧ Ex b W1 w') from (pUniform_any b g c s1 p1 N R W1 HS.out hR4).mono (by rintro e w' ⟨a, m, k, he, hq, hf, hs, hx'⟩; rw [h1] at he hq hs; exact ⟨a, m, k, he, hq, hf, hs, hx'⟩))
  have HC2 := Lib.hid (fun w2 (hx : Ex b W1 w2) => show Calls _ _ _ _ (fun e w' => ∃ a m k, e = .returned (.tuple #[.slice a m k, .int .i64 cd]) ∧ Lw.HasQ w' (.slice a m k) v ∧ (∀ x, a = some x → w2.heap.size ≤ x.block) ∧ Rup w' r s2 q2 ∧ Ex r w2 w') from (rUniform_any r s2 p2 N R w2 (HR.out.ex hx (Ne.symm HNE.out.1)) hR4).mono (by rintro e w' ⟨a, m, k, he, hq, hf, hs, hx'⟩; rw [h2] at he hq hs; exact ⟨a, m, k, he, hq, hf, hs, hx'⟩))
  clear h1 h2 hQ x0 x1 x2 x3 hD
  go_wp2_with (first | (go_at_call 22; refine HP.out.mono ?_; rintro e w2 ⟨a, m, k, rfl, hq, hf, hs2, hx2⟩; (have HS2 := Lib.hid hs2; have HX2 := Lib.hid hx2; have HQ2 := Lib.hid hq; have HF2 := Lib.hid (fun (x : Addr) (hx : a = some x) => show x.block ≠ r from by have := hf x hx; have := HR.out.lt; omega)); (have z1 := hx2.keeps X1.out HD.out.1; have z2 := hx2.keeps X2.out HD.out.1; have z3 := hx2.keeps X3.out HD.out.1); clear hs2 hx2 hq hf) | (go_at_call 26; refine (HC2.out _ HX2.out).mono ?_; rintro e w3 ⟨a', m', k', rfl, hq3, _, hr3, hx3⟩; (have HR3 := Lib.hid hr3; have HX3 := Lib.hid hx3; have HQ3 := Lib.hid hq3); clear hr3 hx3 hq3) | (go_at_call 27; refine (sameLw_any _ _ v _ (hasQ_exLw HQ2.out HX3.out HF2.out) HQ3.out).mono ?_; rintro e w4 ⟨rfl, hg4⟩))
  go_ret
  exact ⟨rfl, (HS2.out.ex HX3.out HNE.out.1 HNE.out.2).later hg4, HR3.out.later hg4, Gr.trans (HX3.out.gr (HX2.out.gr HG.out HB.out.1) HB.out.2) hg4⟩
set_option maxRecDepth 100000 in
set_option maxHeartbeats 2000000 in
theorem does3_any (b g c r : Nat) (s1 s2 : ByteArray) (p1 p2 q1 q2 : Nat) (v : List Int) (cd : Int) (W : Nat) (N H : Int) (Q : Nat) (w0 w : World) (hS : Sup w b g c s1 p1) (hR : Rup w r s2 p2) (hg : Gr w0 w) (hb : w0.heap.size ≤ b) (hr : w0.heap.size ≤ r) (hbr : b ≠ r) (hgr : g ≠ r)
    (hW : W % 5 = 3) (hQ : Q < 18446744073709551616) (h1 : rTern s1 N H p1 = (v, cd, q1)) (h2 : rTern s2 N H p2 = (v, cd, q2)) :
    Calls Try.prog 10 #[.pointer (some ⟨b, 0, none⟩), .pointer (some ⟨r, 0, none⟩), .agg #[.int .u8 (W : Nat), .int .i64 N, .int .i64 H, .int .u64 (Q : Nat)]] w (DoesP w0 b g c r s1 s2 q1 q2) := by
  have ht : (W : Int).tmod 5 = 3 := by rw [Int.tmod_eq_emod_of_nonneg (by omega)]; omega
  obtain ⟨D, hD⟩ : ∃ D, D = w.heap.size := ⟨_, rfl⟩
  have HD := Lib.hid (show D ≠ b ∧ D ≠ r from ⟨by have := hS.lt; omega, by have := hR.lt; omega⟩)
  have HB := Lib.hid (And.intro hb hr)
  have HNE := Lib.hid (And.intro hbr hgr)
  have HG1 := Lib.hid (Gr.new w (.cells #[.int .u8 (W : Nat), .int .i64 N, .int .i64 H, .int .u64 (Q : Nat)] 31))
  have x0 := cl_new w #[.int .u8 (W : Nat), .int .i64 N, .int .i64 H, .int .u64 (Q : Nat)] 31 0
  have x1 := cl_new w #[.int .u8 (W : Nat), .int .i64 N, .int .i64 H, .int .u64 (Q : Nat)] 31 1
  have x2 := cl_new w #[.int .u8 (W : Nat), .int .i64 N, .int .i64 H, .int .u64 (Q : Nat)] 31 2
  have x3 := cl_new w #[.int .u8 (W : Nat), .int .i64 N, .int .i64 H, .int .u64 (Q : Nat)] 31 3
  have HS := Lib.hid (hS.later HG1.out)
  have HR := Lib.hid (hR.later HG1.out)
  have HG := Lib.hid (Gr.trans hg HG1.out)
  clear hS hR hg hb hr hbr hgr hW
  go_enter Try.func10, Try.ntmps10
  go_wp2_with fail
  generalize w.alloc (.cells #[.int .u8 (W : Nat), .int .i64 N, .int .i64 H, .int .u64 (Q : Nat)] 31) = W1 at HG1 HS HR HG x0 x1 x2 x3 ⊢
  rw [← hD] at x0 x1 x2 x3 ⊢
  have X1 := Lib.hid (show W1.cell? ⟨D, 1, none⟩ = some (.int .i64 N) from x1)
  have X2 := Lib.hid (show W1.cell? ⟨D, 2, none⟩ = some (.int .i64 H) from x2)
  have X3 := Lib.hid (show W1.cell? ⟨D, 3, none⟩ = some (.int .u64 (Q : Nat)) from x3)
  have y0 : W1.cell? ⟨D, 0, none⟩ = some (.int .u8 (W : Nat)) := x0
  have y1 := X1.out
  have y2 := X2.out
  have y3 := X3.out
  have HP := Lib.hid (show Calls _ _ _ _ (fun e w' => ∃ a m k, e = .returned (.tuple #[.slice a m k, .int .i64 cd]) ∧ L8.HasQ w' (.slice a m k) v ∧ (∀ x, a = some x → W1.heap.size ≤ x.block) ∧ Sup w' b g c s1 q1 ∧ Ex b W1 w') from (pTernary_any b g c s1 p1 N H W1 HS.out).mono (by rintro e w' ⟨a, m, k, he, hq, hf, hs, hx'⟩; rw [h1] at he hq hs; exact ⟨a, m, k, he, hq, hf, hs, hx'⟩))
  have HC2 := Lib.hid (fun w2 (hx : Ex b W1 w2) => show Calls _ _ _ _ (fun e w' => ∃ a m k, e = .returned (.tuple #[.slice a m k, .int .i64 cd]) ∧ L8.HasQ w' (.slice a m k) v ∧ (∀ x, a = some x → w2.heap.size ≤ x.block) ∧ Rup w' r s2 q2 ∧ Ex r w2 w') from (rTernary_any r s2 p2 N H w2 (HR.out.ex hx (Ne.symm HNE.out.1))).mono (by rintro e w' ⟨a, m, k, he, hq, hf, hs, hx'⟩; rw [h2] at he hq hs; exact ⟨a, m, k, he, hq, hf, hs, hx'⟩))
  clear h1 h2 hQ x0 x1 x2 x3 hD
  go_wp2_with (first | (go_at_call 19; refine HP.out.mono ?_; rintro e w2 ⟨a, m, k, rfl, hq, hf, hs2, hx2⟩; (have HS2 := Lib.hid hs2; have HX2 := Lib.hid hx2; have HQ2 := Lib.hid hq; have HF2 := Lib.hid (fun (x : Addr) (hx : a = some x) => show x.block ≠ r from by have := hf x hx; have := HR.out.lt; omega)); (have z1 := hx2.keeps X1.out HD.out.1; have z2 := hx2.keeps X2.out HD.out.1; have z3 := hx2.keeps X3.out HD.out.1); clear hs2 hx2 hq hf) | (go_at_call 28; refine (HC2.out _ HX2.out).mono ?_; rintro e w3 ⟨a', m', k', rfl, hq3, _, hr3, hx3⟩; (have HR3 := Lib.hid hr3; have HX3 := Lib.hid hx3; have HQ3 := Lib.hid hq3); clear hr3 hx3 hq3) | (go_at_call 23; refine (sameL8_any _ _ v _ (hasQ_exL8 HQ2.out HX3.out HF2.out) HQ3.out).mono ?_; rintro e w4 ⟨rfl, hg4⟩))
  go_ret
  exact ⟨rfl, (HS2.out.ex HX3.out HNE.out.1 HNE.out.2).later hg4, HR3.out.later hg4, Gr.trans (HX3.out.gr (HX2.out.gr HG.out HB.out.1) HB.out.2) hg4⟩
set_option maxRecDepth 100000 in
set_option maxHeartbeats 2000000 in
theorem does4_any (b g c r : Nat) (s1 s2 : ByteArray) (p1 p2 q1 q2 : Nat) (v : List Int) (cd : Int) (W : Nat) (N H : Int) (Q : Nat) (w0 w : World) (hS : Sup w b g c s1 p1) (hR : Rup w r s2 p2) (hg : Gr w0 w) (hb : w0.heap.size ≤ b) (hr : w0.heap.size ≤ r) (hbr : b ≠ r) (hgr : g ≠ r)
    (hW : W % 5 = 4) (hQ : Q < 18446744073709551616) (h1 : rBnd s1 N (Q % 4294967296) p1 = (v, cd, q1)) (h2 : rBnd s2 N (Q % 4294967296) p2 = (v, cd, q2)) :
    Calls Try.prog 10 #[.pointer (some ⟨b, 0, none⟩), .pointer (some ⟨r, 0, none⟩), .agg #[.int .u8 (W : Nat), .int .i64 N, .int .i64 H, .int .u64 (Q : Nat)]] w (DoesP w0 b g c r s1 s2 q1 q2) := by
  have ht : (W : Int).tmod 5 = 4 := by rw [Int.tmod_eq_emod_of_nonneg (by omega)]; omega
  obtain ⟨D, hD⟩ : ∃ D, D = w.heap.size := ⟨_, rfl⟩
  have HD := Lib.hid (show D ≠ b ∧ D ≠ r from ⟨by have := hS.lt; omega, by have := hR.lt; omega⟩)
  have HB := Lib.hid (And.intro hb hr)
  have HNE := Lib.hid (And.intro hbr hgr)
  obtain ⟨R, hR0⟩ : ∃ R : Nat, R = Q % 4294967296 := ⟨_, rfl⟩
  have hR4 : R < 4294967296 := by omega
  have hconv : IntKind.u32.wrap (Q : Int) = (R : Int) := by rw [IntKind.wrap_u32]; omega
  rw [← hR0] at h1 h2
  clear hR0
  have HG1 := Lib.hid (Gr.new w (.cells #[.int .u8 (W : Nat), .int .i64 N, .int .i64 H, .int .u64 (Q : Nat)] 31))
  have x0 := cl_new w #[.int .u8 (W : Nat), .int .i64 N, .int .i64 H, .int .u64 (Q : Nat)] 31 0
  have x1 := cl_new w #[.int .u8 (W : Nat), .int .i64 N, .int .i64 H, .int .u64 (Q : Nat)] 31 1
  have x2 := cl_new w #[.int .u8 (W : Nat), .int .i64 N, .int .i64 H, .int .u64 (Q : Nat)] 31 2
  have x3 := cl_new w #[.int .u8 (W : Nat), .int .i64 N, .int .i64 H, .int .u64 (Q : Nat)] 31 3
  have HS := Lib.hid (hS.later HG1.out)
  have HR := Lib.hid (hR.later HG1.out)
  have HG := Lib.hid (Gr.trans hg HG1.out)
  clear hS hR hg hb hr hbr hgr hW
  go_enter Try.func10, Try.ntmps10
  go_wp2_with fail
  generalize w.alloc (.cells #[.int .u8 (W : Nat), .int .i64 N, .int .i64 H, .int .u64 (Q : Nat)] 31) = W1 at HG1 HS HR HG x0 x1 x2 x3 ⊢
  rw [← hD] at x0 x1 x2 x3 ⊢
  have X1 := Lib.hid (show W1.cell? ⟨D, 1, none⟩ = some (.int .i64 N) from x1)
  have X2 := Lib.hid (show W1.cell? ⟨D, 2, none⟩ = some (.int .i64 H) from x2)
  have X3 := Lib.hid (show W1.cell? ⟨D, 3, none⟩ = some (.int .u64 (Q : Nat)) from x3)
  have y0 : W1.cell? ⟨D, 0, none⟩ = some (.int .u8 (W : Nat)) := x0
  have y1 := X1.out
  have y2 := X2.out
  have y3 := X3.out
  have HP := Lib.hid (show Calls _ _ _ _ (fun e w' => ∃ a m k, e = .returned (.tuple #[.slice a m k, .int .i64 cd]) ∧ Lo.HasQ w' (.slice a m k) v ∧ (∀ x, a = some x → W1.heap.size ≤ x.block) ∧ Sup w' b g c s1 q1 ∧ Ex b W1 w') from (pBounded_any b g c s1 p1 N R W1 HS.out hR4).mono (by rintro e w' ⟨a, m, k, he, hq, hf, hs, hx'⟩; rw [h1] at he hq hs; exact ⟨a, m, k, he, hq, hf, hs, hx'⟩))
  have HC2 := Lib.hid (fun w2 (hx : Ex b W1 w2) => show Calls _ _ _ _ (fun e w' => ∃ a m k, e = .returned (.tuple #[.slice a m k, .int .i64 cd]) ∧ Lo.HasQ w' (.slice a m k) v ∧ (∀ x, a = some x → w2.heap.size ≤ x.block) ∧ Rup w' r s2 q2 ∧ Ex r w2 w') from (rBounded_any r s2 p2 N R w2 (HR.out.ex hx (Ne.symm HNE.out.1)) hR4).mono (by rintro e w' ⟨a, m, k, he, hq, hf, hs, hx'⟩; rw [h2] at he hq hs; exact ⟨a, m, k, he, hq, hf, hs, hx'⟩))
  clear h1 h2 hQ x0 x1 x2 x3 hD
  go_wp2_with (first | (go_at_call 20; refine HP.out.mono ?_; rintro e w2 ⟨a, m, k, rfl, hq, hf, hs2, hx2⟩; (have HS2 := Lib.hid hs2; have HX2 := Lib.hid hx2; have HQ2 := Lib.hid hq; have HF2 := Lib.hid (fun (x : Addr) (hx : a = some x) => show x.block ≠ r from by have := hf x hx; have := HR.out.lt; omega)); (have z1 := hx2.keeps X1.out HD.out.1; have z2 := hx2.keeps X2.out HD.out.1; have z3 := hx2.keeps X3.out HD.out.1); clear hs2 hx2 hq hf) | (go_at_call 29; refine (HC2.out _ HX2.out).mono ?_; rintro e w3 ⟨a', m', k', rfl, hq3, _, hr3, hx3⟩; (have HR3 := Lib.hid hr3; have HX3 := Lib.hid hx3; have HQ3 := Lib.hid hq3); clear hr3 hx3 hq3) | (go_at_call 30; refine (sameLo_any _ _ v _ (hasQ_exLo HQ2.out HX3.out HF2.out) HQ3.out).mono ?_; rintro e w4 ⟨rfl, hg4⟩))
  go_ret
  exact ⟨rfl, (HS2.out.ex HX3.out HNE.out.1 HNE.out.2).later hg4, HR3.out.later hg4, Gr.trans (HX3.out.gr (HX2.out.gr HG.out HB.out.1) HB.out.2) hg4⟩
end Go.Proofs.Ytmankcmmlcfbaaa
