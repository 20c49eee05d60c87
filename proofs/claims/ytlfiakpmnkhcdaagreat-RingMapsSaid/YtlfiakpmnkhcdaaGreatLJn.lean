import Derived.Test.YtlfiakpmnkhcdaaGreatLJm
/- Package ring: the exported operations on one element and on two. (made by mkjn.py) -/
namespace Go.Proofs.YtlfiakpmnkhcdaaGreat.Mo
open Go.RowKit Go.Shelf
set_option linter.unusedVariables false

theorem Boxed.newk {W : World} {k : Nat} (t : TypeId) (v : Value) (hk : k = W.heap.size) : Boxed (W.alloc (.cells #[v] t)) k t v := by subst hk; exact Boxed.new W t v
/-- A result is stored into cells of the call's own. -/
theorem put3 {w W0 w1 : World} {k : Nat} {u : Value} {ls : List (List Int)} (hb : HasB w1 W0.heap.size w1.heap.size u ls) (hg : Gr w W0) (hg1 : Gr W0 w1) (h1 : w.heap.size ≤ k) (h2 : k < W0.heap.size) (a b c : Value) :
    HasB (((w1.setCell ⟨k, 0, none⟩ a).setCell ⟨k, 1, none⟩ b).setCell ⟨k, 2, none⟩ c) w.heap.size (((w1.setCell ⟨k, 0, none⟩ a).setCell ⟨k, 1, none⟩ b).setCell ⟨k, 2, none⟩ c).heap.size u ls ∧ Gr w (((w1.setCell ⟨k, 0, none⟩ a).setCell ⟨k, 1, none⟩ b).setCell ⟨k, 2, none⟩ c) := by
  have h := ((hb.grown (grown_cell w1 k 0 a) (fun r e => by cases e; exact .inl (by omega))).grown (grown_cell _ k 1 b) (fun r e => by cases e; exact .inl (by omega))).grown (grown_cell _ k 2 c) (fun r e => by cases e; exact .inl (by omega))
  exact ⟨(h.mono (by have := hg.size; omega) (Nat.le_refl _)).cut, (((hg.trans hg1).setCell (p := ⟨k, 0, none⟩) h1 _).setCell (p := ⟨k, 1, none⟩) h1 _).setCell (p := ⟨k, 2, none⟩) h1 _⟩

set_option maxRecDepth 100000 in
set_option maxHeartbeats 4000000 in
theorem mulInt1_any (m n : Int) (b : Nat) (a : List Int) (u : Value) (w : World) (hm : okM' m) (hs : isW n) (hu : HasP w u a) (hl : a.length ≤ 1000) (hn : w.cell? ⟨b, 0, none⟩ = some (.int .i64 n)) :
    Calls Tryz.prog 52 #[.int .u32 m, u, .pointer (some ⟨b, 0, none⟩)] w (NewP (mulR a.length m n a) w) := by
  obtain ⟨x, c, rfl⟩ := hu.form
  have H := Lib.hid (mmultiple_any m n a _ w hm hs hu hl)
  clear hm hs hu hl
  go_enter Tryz.func52, Tryz.ntmps52
  go_wp2_with fail
  refine H.out.mono ?_
  intro e w1 h
  obtain ⟨x, n, c, rfl, h1, h2, h3⟩ := h.newP
  go_wp2_with fail
  go_ret
  exact ⟨x, n, c, rfl, h1, h2, h3⟩
set_option maxRecDepth 100000 in
set_option maxHeartbeats 4000000 in
theorem auto1_any (m : Int) (k b : Nat) (a : List Int) (u : Value) (w : World) (hm : okM' m) (hk : k ≤ 10000) (hu : HasP w u a) (h1 : 1 ≤ a.length) (hl : a.length ≤ 1000) (hn : w.cell? ⟨b, 0, none⟩ = some (.int .i64 k)) :
    Calls Tryz.prog 54 #[.int .u32 m, u, .pointer (some ⟨b, 0, none⟩)] w (NewP (Oj.autoR a.length m k a) w) := by
  obtain ⟨x, c, rfl⟩ := hu.form
  have H := Lib.hid (mreplaced_any m k a _ w hm hu h1 hl hk)
  clear hm hk hu hl h1
  go_enter Tryz.func54, Tryz.ntmps54
  go_wp2_with fail
  refine H.out.mono ?_
  intro e w1 h
  obtain ⟨x, n, c, rfl, h1, h2, h3⟩ := h.newP
  go_wp2_with fail
  go_ret
  exact ⟨x, n, c, rfl, h1, h2, h3⟩

set_option maxRecDepth 100000 in
set_option maxHeartbeats 4000000 in
theorem rMulInt_any (N p1 p2 : Int) (xC : Option Addr) (nC cC : Nat) (S p5 p6 : Int) (lv : Int) (sp : Bool) (ch : List Int) (uA : Value) (rA : List (List Int)) (n : Int) (w : World) (hn : isW n) (h3 : ch.length ≤ 1000) (hC : HasP w (.slice xC nC cC) ch) (hS : 0 ≤ S ∧ S < 4294967296) (hA : HasR w uA rA) :
    Calls Tryz.prog 17 #[.agg #[.int .i64 N, .int .u32 p1, .int .i64 p2, .slice xC nC cC, .int .u32 S, .int .i64 p5, .int .u32 p6], .agg #[.int .i64 lv, .bool sp, uA], .int .i64 n] w (ResE (chkE N ch S lv sp rA) lv sp (rwA (Oj.mods ch S lv.toNat sp) (fun i m => (fun m x => mulR x.length m n x) m (rw_ rA i))) w) := by
  obtain ⟨xA, cA, rfl⟩ := hA.form
  generalize hnA : rA.length = nA at *
  obtain ⟨W0, hW0⟩ : ∃ W0, W0 = (((w.alloc (.cells #[.int .i64 N, .int .u32 p1, .int .i64 p2, .slice xC nC cC, .int .u32 S, .int .i64 p5, .int .u32 p6] 25)).alloc (.cells #[.int .i64 lv, .bool sp, .slice xA nA cA] 28)).alloc (.cells #[.int .i64 n] 2)).alloc (.cells #[.int .i64 0, .bool false, .slice none 0 0] 28) := ⟨_, rfl⟩
  have HG0 := Lib.hid (show Gr w W0 by rw [hW0]; exact (((Gr.new w _).alloc _).alloc _).alloc _)
  have HBR := Lib.hid (show Blk W0 (w.heap.size + 3) 28 #[.int .i64 0, .bool false, .slice none 0 0] by rw [hW0]; exact Blk.newk _ _ (by simp))
  have HBN := Lib.hid (show Boxed W0 (w.heap.size + 2) 2 (.int .i64 n) by rw [hW0]; exact (Boxed.newk _ _ (by simp)).alloc _)
  have HCALL := Lib.hid (unary_any N p1 p2 xC nC cC S p5 p6 lv sp ch _ rA 52 #[.pointer (some ⟨w.heap.size + 2, 0, none⟩)] (fun m x => mulR x.length m n x) W0 h3 (hC.later HG0.out) hS (hA.later HG0.out) (enters_of Tryz.func52 (by kernel_rfl) rfl)
    (fun hv m x u W hW hm hx hu => by
      have hN : N ≤ 32 := by have := hv.1; unfold DimI at this; omega
      exact mulInt1_any m n _ x u W hm hn hu (by omega) (boxed_gr HBN.out hW).cell))
  clear hA hC hnA hS h3 hn
  go_enter Tryz.func17, Tryz.ntmps17
  go_wp2_with fail
  rw [← hW0]
  refine HCALL.out.mono ?_
  rintro e w1 ⟨lv', sp', ls', u, rfl, hc, hb, hg1⟩
  obtain ⟨xu, cu, rfl⟩ := hb.form
  have HP3 := Lib.hid (put3 hb HG0.out hg1 (k := w.heap.size + 3) (by omega) HBR.out.lt)
  have HC1 := Lib.hid hc
  have HBR1 := Lib.hid (HBR.out.gr hg1)
  obtain ⟨r0, r1, r2⟩ := HBR1.out.p3
  obtain ⟨f0, f1, f2⟩ := HBR1.out.f3
  generalize hlu : ls'.length = nu at *
  clear hb hg1 hc hW0
  go_wp2_with fail
  have hr := ((HBR1.out.set 0 (.int .i64 lv')).set 1 (.bool sp')).set 2 (.slice xu nu cu)
  obtain ⟨e0, e1, e2⟩ := (show Blk _ _ _ #[.int .i64 lv', .bool sp', .slice xu nu cu] from hr).p3
  refine bodyPost_ret (v := .tuple #[.agg #[.int .i64 lv', .bool sp', .slice xu nu cu], .int .i64 (chkE N ch S lv sp rA)]) (by simp only [Nat.add_assoc, Nat.reduceAdd]; simp [results, Tryz.results17, go_sem, e0, e1, e2]) rfl ?_
  subst hlu
  exact ⟨lv', sp', ls', _, rfl, HC1.out, (HP3.out _ _ _).1, (HP3.out _ _ _).2⟩

set_option maxRecDepth 100000 in
set_option maxHeartbeats 4000000 in
theorem rNeg_any (N p1 p2 : Int) (xC : Option Addr) (nC cC : Nat) (S p5 p6 : Int) (lv : Int) (sp : Bool) (ch : List Int) (uA : Value) (rA : List (List Int)) (w : World) (h3 : ch.length ≤ 1000) (hC : HasP w (.slice xC nC cC) ch) (hS : 0 ≤ S ∧ S < 4294967296) (hA : HasR w uA rA) :
    Calls Tryz.prog 16 #[.agg #[.int .i64 N, .int .u32 p1, .int .i64 p2, .slice xC nC cC, .int .u32 S, .int .i64 p5, .int .u32 p6], .agg #[.int .i64 lv, .bool sp, uA]] w (ResE (chkE N ch S lv sp rA) lv sp (rwA (Oj.mods ch S lv.toNat sp) (fun i m => (fun m x => mulR x.length m (-1) x) m (rw_ rA i))) w) := by
  obtain ⟨xA, cA, rfl⟩ := hA.form
  generalize hnA : rA.length = nA at *
  obtain ⟨W0, hW0⟩ : ∃ W0, W0 = ((w.alloc (.cells #[.int .i64 N, .int .u32 p1, .int .i64 p2, .slice xC nC cC, .int .u32 S, .int .i64 p5, .int .u32 p6] 25)).alloc (.cells #[.int .i64 lv, .bool sp, .slice xA nA cA] 28)).alloc (.cells #[.int .i64 0, .bool false, .slice none 0 0] 28) := ⟨_, rfl⟩
  have HG0 := Lib.hid (show Gr w W0 by rw [hW0]; exact ((Gr.new w _).alloc _).alloc _)
  have HBR := Lib.hid (show Blk W0 (w.heap.size + 2) 28 #[.int .i64 0, .bool false, .slice none 0 0] by rw [hW0]; exact Blk.newk _ _ (by simp))
  have HCALL := Lib.hid (rMulInt_any N p1 p2 xC nC cC S p5 p6 lv sp ch _ rA (-1) W0 (by unfold isW; decide) h3 (hC.later HG0.out) hS (hA.later HG0.out))
  clear hA hC hnA hS h3
  go_enter Tryz.func16, Tryz.ntmps16
  go_wp2_with fail
  rw [← hW0]
  refine HCALL.out.mono ?_
  rintro e w1 ⟨lv', sp', ls', u, rfl, hc, hb, hg1⟩
  obtain ⟨xu, cu, rfl⟩ := hb.form
  have HP3 := Lib.hid (put3 hb HG0.out hg1 (k := w.heap.size + 2) (by omega) HBR.out.lt)
  have HC1 := Lib.hid hc
  have HBR1 := Lib.hid (HBR.out.gr hg1)
  obtain ⟨r0, r1, r2⟩ := HBR1.out.p3
  obtain ⟨f0, f1, f2⟩ := HBR1.out.f3
  generalize hlu : ls'.length = nu at *
  clear hb hg1 hc hW0
  go_wp2_with fail
  have hr := ((HBR1.out.set 0 (.int .i64 lv')).set 1 (.bool sp')).set 2 (.slice xu nu cu)
  obtain ⟨e0, e1, e2⟩ := (show Blk _ _ _ #[.int .i64 lv', .bool sp', .slice xu nu cu] from hr).p3
  refine bodyPost_ret (v := .tuple #[.agg #[.int .i64 lv', .bool sp', .slice xu nu cu], .int .i64 (chkE N ch S lv sp rA)]) (by simp only [Nat.add_assoc, Nat.reduceAdd]; simp [results, Tryz.results16, go_sem, e0, e1, e2]) rfl ?_
  subst hlu
  exact ⟨lv', sp', ls', _, rfl, HC1.out, (HP3.out _ _ _).1, (HP3.out _ _ _).2⟩

end Go.Proofs.YtlfiakpmnkhcdaaGreat.Mo
