import Derived.Test.YtlfiakpmnkhcdaaGreatLJm
/- Package ring: the exported operations on one element and on two. (made by mkjn.py) -/
namespace Go.Proofs.YtlfiakpmnkhcdaaGreat.Mo
open Go.RowKit Go.Shelf
set_option linter.unusedVariables false

theorem Boxed.newk {W : World} {k : Nat} (t : TypeId) (v : Value) (hk : k = W.heap.size) : Boxed (W.alloc (.cells #[v] t)) k t v := by subst hk; exact Boxed.new W t v
/-- A result is stored into cells of the call's own. -/
theorem put3 {w W0 w1 : World} {k : Nat} {u : Value} {ls : List (List Int)} (hb : HasB w1 W0.heap.size w1.heap.size u ls) (hg : Gr w W0) (hg1 : Gr W0 w1) (h1 : w.heap.size ≤ k) (h2 : k < W0.heap.size) (a b c : Value) :
    HasB (((w1.setCell ⟨k, 0, none⟩ a).setCell ⟨k, 1, none⟩ b).setCell ⟨k, 2, none⟩ c) w.heap.size (((w1.setCell ⟨k, 0, none⟩ a).setCell ⟨k, 1, none⟩ b).setCell ⟨k, 2, none⟩ c).heap.size u ls ∧ Gr w (((w1.setCell ⟨k, 0, none⟩ a).setCell ⟨k, 1, none⟩ b).setCell ⟨k, 2, none⟩ c) := by
  have h := ((hb.grown (grown_cell w1 k 0 a) (fun r e => by cases e; exact .inl (by omega))).grown (grown_cell _ k 1 b) (fun r e => by cases e; exact .inl (by omega))).grown (grown_cell _ k 2 c) (fun r e => by cases e; exact .inl (by omega))
  exact ⟨(h.mono (by have := hg.size; omega) (Nat.le_refl _)).cut, (((hg.trans hg1).setCell (p := ⟨k, 0, none⟩) h1 _).setCell (p := ⟨k, 1, none⟩) h1 _).setCell (p := ⟨k, 2, none⟩) h1 _⟩

set_option maxRecDepth 100000 in
set_option maxHeartbeats 4000000 in
theorem add1_any (m : Int) (a b : List Int) (u v : Value) (w : World) (hm : okM' m) (hu : HasP w u a) (hv : HasP w v b) (hl : a.length ≤ 1000) (hlb : b.length = a.length) :
    Calls Tryz.prog 65 #[.int .u32 m, u, v] w (NewP (Oj.sumR a.length m a (1) b) w) := by
  obtain ⟨x, c, rfl⟩ := hu.form
  obtain ⟨x2, c2, rfl⟩ := hv.form
  have H := Lib.hid (msum_any m (1) a b _ _ w hm (by unfold isW; decide) hu hv hl hlb)
  clear hm hu hv hl hlb
  go_enter Tryz.func65, Tryz.ntmps65
  go_wp2_with fail
  refine H.out.mono ?_
  intro e w1 h
  obtain ⟨x, n, c, rfl, h1, h2, h3⟩ := h.newP
  go_wp2_with fail
  go_ret
  exact ⟨x, n, c, rfl, h1, h2, h3⟩

set_option maxRecDepth 100000 in
set_option maxHeartbeats 4000000 in
theorem sub1_any (m : Int) (a b : List Int) (u v : Value) (w : World) (hm : okM' m) (hu : HasP w u a) (hv : HasP w v b) (hl : a.length ≤ 1000) (hlb : b.length = a.length) :
    Calls Tryz.prog 67 #[.int .u32 m, u, v] w (NewP (Oj.sumR a.length m a (-1) b) w) := by
  obtain ⟨x, c, rfl⟩ := hu.form
  obtain ⟨x2, c2, rfl⟩ := hv.form
  have H := Lib.hid (msum_any m (-1) a b _ _ w hm (by unfold isW; decide) hu hv hl hlb)
  clear hm hu hv hl hlb
  go_enter Tryz.func67, Tryz.ntmps67
  go_wp2_with fail
  refine H.out.mono ?_
  intro e w1 h
  obtain ⟨x, n, c, rfl, h1, h2, h3⟩ := h.newP
  go_wp2_with fail
  go_ret
  exact ⟨x, n, c, rfl, h1, h2, h3⟩

set_option maxRecDepth 100000 in
set_option maxHeartbeats 4000000 in
theorem rAdd_any (N p1 p2 : Int) (xC : Option Addr) (nC cC : Nat) (S p5 p6 : Int) (lv : Int) (sp : Bool) (lv2 : Int) (sp2 : Bool) (ch : List Int) (uA uB : Value) (rA rB : List (List Int)) (w : World) (h3 : ch.length ≤ 1000) (hC : HasP w (.slice xC nC cC) ch) (hS : 0 ≤ S ∧ S < 4294967296) (hA : HasR w uA rA) (hB : HasR w uB rB) :
    Calls Tryz.prog 28 #[.agg #[.int .i64 N, .int .u32 p1, .int .i64 p2, .slice xC nC cC, .int .u32 S, .int .i64 p5, .int .u32 p6], .agg #[.int .i64 lv, .bool sp, uA], .agg #[.int .i64 lv2, .bool sp2, uB]] w (ResE (twoE N ch S lv sp rA lv2 sp2 rB) lv sp (rwA (Oj.mods ch S lv.toNat sp) (fun i m => (fun m x y => Oj.sumR x.length m x 1 y) m (rw_ rA i) (rw_ rB i))) w) := by
  obtain ⟨xA, cA, rfl⟩ := hA.form
  obtain ⟨xB, cB, rfl⟩ := hB.form
  generalize hnA : rA.length = nA at *
  generalize hnB : rB.length = nB at *
  obtain ⟨W0, hW0⟩ : ∃ W0, W0 = (((w.alloc (.cells #[.int .i64 N, .int .u32 p1, .int .i64 p2, .slice xC nC cC, .int .u32 S, .int .i64 p5, .int .u32 p6] 25)).alloc (.cells #[.int .i64 lv, .bool sp, .slice xA nA cA] 28)).alloc (.cells #[.int .i64 lv2, .bool sp2, .slice xB nB cB] 28)).alloc (.cells #[.int .i64 0, .bool false, .slice none 0 0] 28) := ⟨_, rfl⟩
  have HG0 := Lib.hid (show Gr w W0 by rw [hW0]; exact (((Gr.new w _).alloc _).alloc _).alloc _)
  have HBR := Lib.hid (show Blk W0 (w.heap.size + 3) 28 #[.int .i64 0, .bool false, .slice none 0 0] by rw [hW0]; exact Blk.newk _ _ (by simp))
  have HCALL := Lib.hid (binary_any N p1 p2 xC nC cC S p5 p6 lv sp lv2 sp2 ch _ _ rA rB 65 #[] (fun m x y => Oj.sumR x.length m x 1 y) W0 h3 (hC.later HG0.out) hS (hA.later HG0.out) (hB.later HG0.out) (enters_of Tryz.func65 (by kernel_rfl) rfl)
    (fun hv m x y u v W hW hm hx hy hu hv' => by
      have hN : N ≤ 32 := by have := hv.1; unfold DimI at this; omega
      exact add1_any m x y u v W hm hu hv' (by omega) (by omega)))
  clear hA hB hC hnA hnB hS h3
  go_enter Tryz.func28, Tryz.ntmps28
  go_wp2_with fail
  rw [← hW0]
  refine HCALL.out.mono ?_
  rintro e w1 ⟨lv', sp', ls', u, rfl, hc, hb, hg1⟩
  obtain ⟨xu, cu, rfl⟩ := hb.form
  have HP3 := Lib.hid (put3 hb HG0.out hg1 (k := w.heap.size + 3) (by omega) HBR.out.lt)
  have HC1 := Lib.hid hc
  have HBR1 := Lib.hid (HBR.out.gr hg1)
  obtain ⟨r0, r1, r2⟩ := HBR1.out.p3
  obtain ⟨f0, f1, f2⟩ := HBR1.out.f3
  generalize hlu : ls'.length = nu at *
  clear hb hg1 hc hW0
  go_wp2_with fail
  have hr := ((HBR1.out.set 0 (.int .i64 lv')).set 1 (.bool sp')).set 2 (.slice xu nu cu)
  obtain ⟨e0, e1, e2⟩ := (show Blk _ _ _ #[.int .i64 lv', .bool sp', .slice xu nu cu] from hr).p3
  refine bodyPost_ret (v := .tuple #[.agg #[.int .i64 lv', .bool sp', .slice xu nu cu], .int .i64 (twoE N ch S lv sp rA lv2 sp2 rB)]) (by simp only [Nat.add_assoc, Nat.reduceAdd]; simp [results, Tryz.results28, go_sem, e0, e1, e2]) rfl ?_
  subst hlu
  exact ⟨lv', sp', ls', _, rfl, HC1.out, (HP3.out _ _ _).1, (HP3.out _ _ _).2⟩

set_option maxRecDepth 100000 in
set_option maxHeartbeats 4000000 in
theorem rSub_any (N p1 p2 : Int) (xC : Option Addr) (nC cC : Nat) (S p5 p6 : Int) (lv : Int) (sp : Bool) (lv2 : Int) (sp2 : Bool) (ch : List Int) (uA uB : Value) (rA rB : List (List Int)) (w : World) (h3 : ch.length ≤ 1000) (hC : HasP w (.slice xC nC cC) ch) (hS : 0 ≤ S ∧ S < 4294967296) (hA : HasR w uA rA) (hB : HasR w uB rB) :
    Calls Tryz.prog 29 #[.agg #[.int .i64 N, .int .u32 p1, .int .i64 p2, .slice xC nC cC, .int .u32 S, .int .i64 p5, .int .u32 p6], .agg #[.int .i64 lv, .bool sp, uA], .agg #[.int .i64 lv2, .bool sp2, uB]] w (ResE (twoE N ch S lv sp rA lv2 sp2 rB) lv sp (rwA (Oj.mods ch S lv.toNat sp) (fun i m => (fun m x y => Oj.sumR x.length m x (-1) y) m (rw_ rA i) (rw_ rB i))) w) := by
  obtain ⟨xA, cA, rfl⟩ := hA.form
  obtain ⟨xB, cB, rfl⟩ := hB.form
  generalize hnA : rA.length = nA at *
  generalize hnB : rB.length = nB at *
  obtain ⟨W0, hW0⟩ : ∃ W0, W0 = (((w.alloc (.cells #[.int .i64 N, .int .u32 p1, .int .i64 p2, .slice xC nC cC, .int .u32 S, .int .i64 p5, .int .u32 p6] 25)).alloc (.cells #[.int .i64 lv, .bool sp, .slice xA nA cA] 28)).alloc (.cells #[.int .i64 lv2, .bool sp2, .slice xB nB cB] 28)).alloc (.cells #[.int .i64 0, .bool false, .slice none 0 0] 28) := ⟨_, rfl⟩
  have HG0 := Lib.hid (show Gr w W0 by rw [hW0]; exact (((Gr.new w _).alloc _).alloc _).alloc _)
  have HBR := Lib.hid (show Blk W0 (w.heap.size + 3) 28 #[.int .i64 0, .bool false, .slice none 0 0] by rw [hW0]; exact Blk.newk _ _ (by simp))
  have HCALL := Lib.hid (binary_any N p1 p2 xC nC cC S p5 p6 lv sp lv2 sp2 ch _ _ rA rB 67 #[] (fun m x y => Oj.sumR x.length m x (-1) y) W0 h3 (hC.later HG0.out) hS (hA.later HG0.out) (hB.later HG0.out) (enters_of Tryz.func67 (by kernel_rfl) rfl)
    (fun hv m x y u v W hW hm hx hy hu hv' => by
      have hN : N ≤ 32 := by have := hv.1; unfold DimI at this; omega
      exact sub1_any m x y u v W hm hu hv' (by omega) (by omega)))
  clear hA hB hC hnA hnB hS h3
  go_enter Tryz.func29, Tryz.ntmps29
  go_wp2_with fail
  rw [← hW0]
  refine HCALL.out.mono ?_
  rintro e w1 ⟨lv', sp', ls', u, rfl, hc, hb, hg1⟩
  obtain ⟨xu, cu, rfl⟩ := hb.form
  have HP3 := Lib.hid (put3 hb HG0.out hg1 (k := w.heap.size + 3) (by omega) HBR.out.lt)
  have HC1 := Lib.hid hc
  have HBR1 := Lib.hid (HBR.out.gr hg1)
  obtain ⟨r0, r1, r2⟩ := HBR1.out.p3
  obtain ⟨f0, f1, f2⟩ := HBR1.out.f3
  generalize hlu : ls'.length = nu at *
  clear hb hg1 hc hW0
  go_wp2_with fail
  have hr := ((HBR1.out.set 0 (.int .i64 lv')).set 1 (.bool sp')).set 2 (.slice xu nu cu)
  obtain ⟨e0, e1, e2⟩ := (show Blk _ _ _ #[.int .i64 lv', .bool sp', .slice xu nu cu] from hr).p3
  refine bodyPost_ret (v := .tuple #[.agg #[.int .i64 lv', .bool sp', .slice xu nu cu], .int .i64 (twoE N ch S lv sp rA lv2 sp2 rB)]) (by simp only [Nat.add_assoc, Nat.reduceAdd]; simp [results, Tryz.results29, go_sem, e0, e1, e2]) rfl ?_
  subst hlu
  exact ⟨lv', sp', ls', _, rfl, HC1.out, (HP3.out _ _ _).1, (HP3.out _ _ _).2⟩

set_option maxRecDepth 100000 in
set_option maxHeartbeats 4000000 in
theorem rMul_any (N p1 p2 : Int) (xC : Option Addr) (nC cC : Nat) (S p5 p6 : Int) (lv : Int) (sp : Bool) (lv2 : Int) (sp2 : Bool) (ch : List Int) (uA uB : Value) (rA rB : List (List Int)) (w : World) (h3 : ch.length ≤ 1000) (hC : HasP w (.slice xC nC cC) ch) (hS : 0 ≤ S ∧ S < 4294967296) (hA : HasR w uA rA) (hB : HasR w uB rB) :
    Calls Tryz.prog 30 #[.agg #[.int .i64 N, .int .u32 p1, .int .i64 p2, .slice xC nC cC, .int .u32 S, .int .i64 p5, .int .u32 p6], .agg #[.int .i64 lv, .bool sp, uA], .agg #[.int .i64 lv2, .bool sp2, uB]] w (ResE (twoE N ch S lv sp rA lv2 sp2 rB) lv sp (rwA (Oj.mods ch S lv.toNat sp) (fun i m => (fun m x y => Oj.prodR x.length m.toNat x y) m (rw_ rA i) (rw_ rB i))) w) := by
  obtain ⟨xA, cA, rfl⟩ := hA.form
  obtain ⟨xB, cB, rfl⟩ := hB.form
  generalize hnA : rA.length = nA at *
  generalize hnB : rB.length = nB at *
  obtain ⟨W0, hW0⟩ : ∃ W0, W0 = (((w.alloc (.cells #[.int .i64 N, .int .u32 p1, .int .i64 p2, .slice xC nC cC, .int .u32 S, .int .i64 p5, .int .u32 p6] 25)).alloc (.cells #[.int .i64 lv, .bool sp, .slice xA nA cA] 28)).alloc (.cells #[.int .i64 lv2, .bool sp2, .slice xB nB cB] 28)).alloc (.cells #[.int .i64 0, .bool false, .slice none 0 0] 28) := ⟨_, rfl⟩
  have HG0 := Lib.hid (show Gr w W0 by rw [hW0]; exact (((Gr.new w _).alloc _).alloc _).alloc _)
  have HBR := Lib.hid (show Blk W0 (w.heap.size + 3) 28 #[.int .i64 0, .bool false, .slice none 0 0] by rw [hW0]; exact Blk.newk _ _ (by simp))
  have HCALL := Lib.hid (binary_any N p1 p2 xC nC cC S p5 p6 lv sp lv2 sp2 ch _ _ rA rB 68 #[] (fun m x y => Oj.prodR x.length m.toNat x y) W0 h3 (hC.later HG0.out) hS (hA.later HG0.out) (hB.later HG0.out) (enters_of Tryz.func68 (by kernel_rfl) rfl)
    (fun hv m x y u v W hW hm hx hy hu hv' => by
      obtain ⟨M, rfl⟩ := Int.eq_ofNat_of_zero_le (show 0 ≤ m by have := hm.1; omega)
      have hN : N ≤ 32 := by have := hv.1; unfold DimI at this; omega
      exact (mproduct_any M x y u v W hm hu hv' (by omega) (by omega)).mono fun e w' h => h.newP))
  clear hA hB hC hnA hnB hS h3
  go_enter Tryz.func30, Tryz.ntmps30
  go_wp2_with fail
  rw [← hW0]
  refine HCALL.out.mono ?_
  rintro e w1 ⟨lv', sp', ls', u, rfl, hc, hb, hg1⟩
  obtain ⟨xu, cu, rfl⟩ := hb.form
  have HP3 := Lib.hid (put3 hb HG0.out hg1 (k := w.heap.size + 3) (by omega) HBR.out.lt)
  have HC1 := Lib.hid hc
  have HBR1 := Lib.hid (HBR.out.gr hg1)
  obtain ⟨r0, r1, r2⟩ := HBR1.out.p3
  obtain ⟨f0, f1, f2⟩ := HBR1.out.f3
  generalize hlu : ls'.length = nu at *
  clear hb hg1 hc hW0
  go_wp2_with fail
  have hr := ((HBR1.out.set 0 (.int .i64 lv')).set 1 (.bool sp')).set 2 (.slice xu nu cu)
  obtain ⟨e0, e1, e2⟩ := (show Blk _ _ _ #[.int .i64 lv', .bool sp', .slice xu nu cu] from hr).p3
  refine bodyPost_ret (v := .tuple #[.agg #[.int .i64 lv', .bool sp', .slice xu nu cu], .int .i64 (twoE N ch S lv sp rA lv2 sp2 rB)]) (by simp only [Nat.add_assoc, Nat.reduceAdd]; simp [results, Tryz.results30, go_sem, e0, e1, e2]) rfl ?_
  subst hlu
  exact ⟨lv', sp', ls', _, rfl, HC1.out, (HP3.out _ _ _).1, (HP3.out _ _ _).2⟩

end Go.Proofs.YtlfiakpmnkhcdaaGreat.Mo
