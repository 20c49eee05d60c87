import Derived.Test.YtlfiakpmnkhcdaaLJi
namespace Go.Proofs.Ytlfiakpmnkhcdaa.Mo
open Go.RowKit Go.Shelf
set_option linter.unusedVariables false
attribute [local go_sem] Oper.semAt_some
theorem HasB.grown {W W' : World} {lo hi : Nat} {v : Value} {ls : List (List Int)} {row : Option Nat} (h : HasB W lo hi v ls) (hg : W.grownBy W' row) (hr : ∀ r, row = some r → r < lo ∨ hi ≤ r) : HasB W' lo hi v ls := by
  obtain ⟨a, cap, rfl, h1, h2, h3⟩ := h
  refine ⟨a, cap, rfl, h1, h2, fun i hi' => ?_⟩
  obtain ⟨g, o, x, c, e, k1, k2, k3, k4, k5⟩ := h3 i hi'
  refine ⟨g, o, x, c, e, k1, k2, hg.cell k3 (fun e => by have := hr g e.symm; omega), k4.grown hg (fun h0 p hp e => ?_), k5⟩
  obtain ⟨q, rfl, rfl⟩ := own_some hp
  have := k5 h0 q rfl
  have := hr _ e.symm
  omega
theorem HasB.keptn {W W' : World} {lo hi : Nat} {v : Value} {ls : List (List Int)} {row : Option Nat} (h : HasB W lo hi v ls) (hg : W.grownBy W' row) (hr : ∀ r, row = some r → ∃ o : Obj, W.heap[r]? = some o ∧ o.isCells = false) : HasB W' lo hi v ls := by
  obtain ⟨a, cap, rfl, h1, h2, h3⟩ := h
  refine ⟨a, cap, rfl, h1, h2, fun i hi' => ?_⟩
  obtain ⟨g, o, x, c, e, k1, k2, k3, k4, k5⟩ := h3 i hi'
  exact ⟨g, o, x, c, e, k1, k2, cell_kept k3 hg hr, k4.kept hg hr, k5⟩
def DimI (N : Int) : Prop := N = 4 ∨ N = 8 ∨ N = 16 ∨ N = 32
instance (N : Int) : Decidable (DimI N) := by unfold DimI; infer_instance
set_option maxRecDepth 100000 in
theorem dimension_any (N : Int) (w : World) : Calls Try.prog 31 #[.int .i64 N] w (fun e w' => e = .returned (.bool (decide (DimI N))) ∧ w = w') := by
  by_cases h4 : N = 4
  · subst h4
    go_enter Try.func31, Try.ntmps31
    go_wp2_with fail
    go_ret
    exact ⟨rfl, rfl⟩
  by_cases h8 : N = 8
  · subst h8
    go_enter Try.func31, Try.ntmps31
    go_wp2_with fail
    go_ret
    exact ⟨rfl, rfl⟩
  by_cases h16 : N = 16
  · subst h16
    go_enter Try.func31, Try.ntmps31
    go_wp2_with fail
    go_ret
    exact ⟨rfl, rfl⟩
  by_cases h32 : N = 32
  · subst h32
    go_enter Try.func31, Try.ntmps31
    go_wp2_with fail
    go_ret
    exact ⟨rfl, rfl⟩
  · have a1 : (N == 4) = false := by simpa using h4
    have a2 : (N == 8) = false := by simpa using h8
    have a3 : (N == 16) = false := by simpa using h16
    have a4 : (N == 32) = false := by simpa using h32
    have HD := Lib.hid (show decide (DimI N) = false from decide_eq_false (by unfold DimI; omega))
    go_enter Try.func31, Try.ntmps31
    go_wp2_with fail
    go_ret
    exact ⟨by rw [HD.out]; rfl, rfl⟩
def EX (ch : List Int) (S : Int) (lv : Int) (sp : Bool) : Prop := 1 ≤ lv ∧ lv ≤ ch.length ∧ (sp = true → S ≠ 0)
instance (ch : List Int) (S : Int) (lv : Int) (sp : Bool) : Decidable (EX ch S lv sp) := by unfold EX; infer_instance
set_option maxRecDepth 100000 in
set_option maxHeartbeats 1000000 in
theorem exists_any (N p1 p2 : Int) (xC : Option Addr) (nC cC : Nat) (S p5 p6 : Int) (lv : Int) (sp : Bool) (ch : List Int) (hl : nC = ch.length) (w : World) :
    Calls Try.prog 14 #[.agg #[.int .i64 N, .int .u32 p1, .int .i64 p2, .slice xC nC cC, .int .u32 S, .int .i64 p5, .int .u32 p6], .int .i64 lv, .bool sp] w (fun e w' => e = .returned (.bool (decide (EX ch S lv sp))) ∧ Gr w w') := by
  have HD := Lib.hid (show ∀ b : Bool, (b = true ↔ EX ch S lv sp) → decide (EX ch S lv sp) = b from fun b hb => by
    cases b with
    | false => exact decide_eq_false fun h => by have := hb.2 h; cases this
    | true => exact decide_eq_true (hb.1 rfl))
  have HE := Lib.hid (show EX ch S lv sp ↔ 1 ≤ lv ∧ lv ≤ nC ∧ (sp = true → S ≠ 0) by rw [hl]; exact Iff.rfl)
  have HG := Lib.hid (Gr.new w (.cells #[.int .i64 N, .int .u32 p1, .int .i64 p2, .slice xC nC cC, .int .u32 S, .int .i64 p5, .int .u32 p6] 25))
  clear hl
  by_cases h1 : lv ≥ 1
  · have t1 : decide (lv ≥ 1) = true := by simpa using h1
    have t1' : decide (1 ≤ lv) = true := by simpa using h1
    by_cases h2 : lv ≤ (nC : Int)
    · have t2 : decide (lv ≤ (nC : Int)) = true := by simpa using h2
      cases sp with
      | false =>
        go_enter Try.func14, Try.ntmps14
        go_wp2_with fail
        go_ret
        exact ⟨by rw [HD.out true (by rw [HE.out]; simp; omega)]; rfl, HG.out⟩
      | true =>
        by_cases h3 : S = 0
        · subst h3
          go_enter Try.func14, Try.ntmps14
          go_wp2_with fail
          go_ret
          exact ⟨by rw [HD.out false (by rw [HE.out]; simp)]; rfl, HG.out⟩
        · have t3 : (S != 0) = true := by simpa using h3
          go_enter Try.func14, Try.ntmps14
          go_wp2_with fail
          go_ret
          exact ⟨by rw [HD.out true (by rw [HE.out]; simp; omega)]; rfl, HG.out⟩
    · have t2 : decide (lv ≤ (nC : Int)) = false := by simpa using h2
      go_enter Try.func14, Try.ntmps14
      go_wp2_with fail
      go_ret
      exact ⟨by rw [HD.out false (by rw [HE.out]; simp; omega)]; rfl, HG.out⟩
  · have t1 : decide (lv ≥ 1) = false := by simpa using h1
    have t1' : decide (1 ≤ lv) = false := by simpa using h1
    go_enter Try.func14, Try.ntmps14
    go_wp2_with fail
    go_ret
    exact ⟨by rw [HD.out false (by rw [HE.out]; simp; omega)]; rfl, HG.out⟩
def RowOK (N m : Int) (l : List Int) : Prop := (l.length : Int) = N ∧ hasB m l = true
instance (N m : Int) (l : List Int) : Decidable (RowOK N m l) := by unfold RowOK; infer_instance
def EVr (N : Int) (M : List Int) (rows : List (List Int)) : Prop := rows.length = M.length ∧ ∀ i, i < M.length → RowOK N (Op.cf M i) (rw_ rows i)
instance (N : Int) (M : List Int) (rows : List (List Int)) : Decidable (EVr N M rows) := by unfold EVr; infer_instance
def EV (N : Int) (ch : List Int) (S : Int) (lv : Int) (sp : Bool) (rows : List (List Int)) : Prop := EX ch S lv sp ∧ EVr N (Oj.mods ch S lv.toNat sp) rows
instance (N : Int) (ch : List Int) (S : Int) (lv : Int) (sp : Bool) (rows : List (List Int)) : Decidable (EV N ch S lv sp rows) := by unfold EV; infer_instance
def HStop (N : Int) (nA : Nat) (rows : List (List Int)) (M : List Int) (pre : List (Oj.Pl M.length)) : Prop := ∃ (pre' : List (Oj.Pl M.length)) (x : Oj.Pl M.length), pre = pre' ++ [x] ∧ ¬ (pre'.length < nA ∧ RowOK N (Op.cf M x.1) (rw_ rows pre'.length))
theorem hstop_no {N : Int} {nA : Nat} {rows : List (List Int)} {M : List Int} {pre : List (Oj.Pl M.length)} (h : HStop N nA rows M pre) (ho : Oj.idx pre = List.range pre.length) (hn : nA = rows.length) : ¬ EVr N M rows := by
  obtain ⟨pre', x, rfl, hx⟩ := h
  intro hE
  have h1 : x.1 = pre'.length := by
    have h2 : (Oj.idx (pre' ++ [x]))[pre'.length]? = (List.range (pre' ++ [x]).length)[pre'.length]? := by rw [ho]
    rw [List.getElem?_range (by simp)] at h2
    simpa [Oj.idx] using h2
  have h3 := x.2
  refine hx ⟨by rw [hn, hE.1]; omega, ?_⟩
  rw [h1]
  exact hE.2 _ (by omega)
theorem vals_at {M : List Int} {pre : List (Oj.Pl M.length)} {x : Oj.Pl M.length} {i : Nat} (hi : i < (pre ++ [x]).length) : Op.cf (Oj.vals M (pre ++ [x])) i = if i < pre.length then Op.cf (Oj.vals M pre) i else Op.cf M x.1 := by
  rw [Oj.vals_snoc, Op.cf_append, Oj.vals_len]
  split
  · rfl
  · have : i - pre.length = 0 := by simp at hi; omega
    rw [this]; rfl
set_option maxRecDepth 100000 in
set_option maxHeartbeats 8000000 in
theorem holds1_any (N p1 p2 : Int) (xC : Option Addr) (nC cC : Nat) (S p5 p6 : Int) (lv : Nat) (sp : Bool) (ch : List Int) (xA : Option Addr) (nA cA : Nat) (rows : List (List Int)) (w : World) (h3 : ch.length ≤ 1000) (hC : HasP w (.slice xC nC cC) ch) (hA : HasR w (.slice xA nA cA) rows) (hE : EX ch S lv sp) :
    Calls Try.prog 34 #[.agg #[.int .i64 N, .int .u32 p1, .int .i64 p2, .slice xC nC cC, .int .u32 S, .int .i64 p5, .int .u32 p6], .agg #[.int .i64 lv, .bool sp, .slice xA nA cA]] w (fun e w' => e = .returned (.bool (decide (EVr N (Oj.mods ch S lv sp) rows))) ∧ Gr w w') := by
  obtain ⟨h1, h2, hsp⟩ := id hE
  have h1 : 1 ≤ lv := by omega
  have h2 : lv ≤ ch.length := by omega
  have HE := Lib.hid hE
  have HC := Lib.hid hC
  have HA := Lib.hid hA
  have HNL := Lib.hid hA.len
  have HCL := Lib.hid hC.len.1
  clear hE hC hA hsp
  obtain ⟨W3, hW3⟩ : ∃ W3, W3 = ((w.alloc (.cells #[.int .i64 N, .int .u32 p1, .int .i64 p2, .slice xC nC cC, .int .u32 S, .int .i64 p5, .int .u32 p6] 25)).alloc (.cells #[.int .i64 lv, .bool sp, .slice xA nA cA] 28)).alloc (.cells #[.bool false] 4) := ⟨_, rfl⟩
  have HG3 := Lib.hid (show Gr w W3 by rw [hW3]; exact ((Gr.new w _).alloc _).alloc _)
  have hs3 : W3.heap.size = w.heap.size + 3 := by rw [hW3]; simp
  have HBP := Lib.hid (show Blk W3 w.heap.size 25 #[.int .i64 N, .int .u32 p1, .int .i64 p2, .slice xC nC cC, .int .u32 S, .int .i64 p5, .int .u32 p6] by rw [hW3]; exact ((Blk.new w _ _).gr (Gr.new _ _)).gr (Gr.new _ _))
  have HBE := Lib.hid (show Blk W3 (w.heap.size + 1) 28 #[.int .i64 lv, .bool sp, .slice xA nA cA] by
    rw [hW3]
    have b := Blk.new (w.alloc (.cells #[.int .i64 N, .int .u32 p1, .int .i64 p2, .slice xC nC cC, .int .u32 S, .int .i64 p5, .int .u32 p6] 25)) 28 #[.int .i64 lv, .bool sp, .slice xA nA cA]
    rw [World.size_alloc] at b
    exact b.gr (Gr.new _ _))
  have HBR := Lib.hid (show Boxed W3 (w.heap.size + 2) 4 (.bool false) by
    rw [hW3]
    have b := Boxed.new ((w.alloc (.cells #[.int .i64 N, .int .u32 p1, .int .i64 p2, .slice xC nC cC, .int .u32 S, .int .i64 p5, .int .u32 p6] 25)).alloc (.cells #[.int .i64 lv, .bool sp, .slice xA nA cA] 28)) 4 (.bool false)
    rw [World.size_alloc, World.size_alloc] at b
    exact b)
  refine (callsIn_wide (n := 9)).1 ?_
  refine callsIn_of_wp_marks Try.func34 rfl trivial ?_ rfl
  simp only [Try.ntmps34, List.size_toArray, List.length_cons, List.length_nil, Nat.reduceAdd, Nat.reduceSub, Array.replicate_succ, Array.replicate_zero, List.push_toArray, List.append_toArray, List.nil_append, List.cons_append]
  refine wpIn_wide.2 ?_
  go_wp2_with fail
  rw [← hW3]
  refine (exists_any N p1 p2 xC nC cC S p5 p6 lv sp ch HCL.out _).mono ?_
  rintro e w1 ⟨rfl, hg1⟩
  rw [decide_eq_true HE.out]
  have HG1 := Lib.hid (HG3.out.trans hg1)
  have HBP1 := Lib.hid (HBP.out.gr hg1)
  have HBE1 := Lib.hid (HBE.out.gr hg1)
  have HBR1 := Lib.hid (boxed_gr HBR.out hg1)
  obtain ⟨k0, k1, k2⟩ := HBE1.out.p3
  obtain ⟨q0, q1, q2, q3, q4, q5, q6⟩ := HBP1.out.p7
  clear hg1 hW3
  obtain ⟨b5, hb5⟩ : ∃ b5, b5 = w1.heap.size := ⟨_, rfl⟩
  have hs1 : w.heap.size + 3 ≤ b5 := by rw [hb5]; have := HBR1.out.lt; omega
  have HB5E := Lib.hid hb5
  obtain ⟨q0', q1', q2', q3', q4', q5', q6'⟩ := (HBP1.out.gr (Gr.new w1 (.cells #[.slice xA nA cA] 26))).p7
  obtain ⟨k0', k1', k2'⟩ := (HBE1.out.gr (Gr.new w1 (.cells #[.slice xA nA cA] 26))).p3
  clear hb5
  go_wp2_with fail
  have hb5 := HB5E.out
  clear q0' q1' q2' q3' q4' q5' q6' k0' k1' k2'
  simp only [← hb5]
  obtain ⟨W5, hW5⟩ : ∃ W5, W5 = w1.alloc (.cells #[.slice xA nA cA] 26) := ⟨_, rfl⟩
  have hs5 : W5.heap.size = b5 + 1 := by rw [hW5, hb5]; simp
  have HB5 := Lib.hid (show Boxed W5 b5 26 (.slice xA nA cA) by rw [hW5, hb5]; exact Boxed.new _ _ _)
  have HG5 := Lib.hid (show Gr w1 W5 by rw [hW5]; exact Gr.new _ _)
  rw [← hW5]
  clear k0 k1 k2 q0 q1 q2 q3 q4 q5 q6
  refine (moduli_any N p1 p2 xC nC cC S p5 p6 lv sp _).mono ?_
  rintro e w6 ⟨rfl, hw6⟩
  have HM := Lib.hid (show MI (b5 + 1) xC nC cC S lv sp ch w6 by rw [← hw6, ← hs5]; exact MI.new N p1 p2 xC nC cC S p5 p6 lv sp ch W5 (HC.out.later (HG1.out.trans HG5.out)))
  have HG6 := Lib.hid (show Gr W5 w6 by rw [← hw6]; exact ((Gr.new _ _).alloc _).alloc _)
  have hs6 : w6.heap.size = b5 + 4 := by rw [← hw6]; simp [hs5]
  rw [hs5]
  clear hw6 hW5 hb5
  go_wp2_with fail
  refine (wpIn_wide (n := 9)).1 ?_
  refine wpIn_rangeFunc_ownG rfl (by omega) (gf := 38) (lb := #[.pointer (some ⟨b5 + 1, 0, none⟩), .pointer (some ⟨b5 + 1 + 1, 0, none⟩), .pointer (some ⟨b5 + 1 + 2, 0, none⟩)]) rfl trivial (enters_of Try.func38 (by kernel_rfl) rfl)
    (moduli_stops (9 - 1) (by omega) (b5 + 1) xC nC cC S lv sp ch h1 h2 _ HM.out) (fun h k m => k (h m)) (fun W l o o' hl ho hc _ m => m.kept (grownBy_putObj' W l o') (fun r e => by cases e; exact ⟨o, ho, hc⟩)) (Below.refl _ _) (fun _ => rfl)
    (fun pre W => (∃ a cap, Boxed W b5 26 (.slice a (nA - pre.length) cap) ∧ HasB W 0 w.heap.size (.slice a (nA - pre.length) cap) (rows.drop pre.length) ∧ pre.length ≤ nA ∧ (∀ i, i < pre.length → RowOK N (Op.cf (Oj.vals _ pre) i) (rw_ rows i)) ∧ Blk W w.heap.size 25 #[.int .i64 N, .int .u32 p1, .int .i64 p2, .slice xC nC cC, .int .u32 S, .int .i64 p5, .int .u32 p6] ∧ Boxed W (w.heap.size + 2) 4 (.bool false)) ∧ Below w.heap.size w W)
    (fun c pre W => (c = .ret ∧ HStop N nA rows _ pre ∧ Boxed W (w.heap.size + 2) 4 (.bool false)) ∧ Below w.heap.size w W)
    (OwnFrom.and (Own.from (fun s X Y row h hg hr => by
      obtain ⟨a, cap, k1, k2, k3, k4, k5, k6⟩ := h
      exact ⟨a, cap, boxed_kept k1 hg hr, k2.keptn hg hr, k3, k4, k5.keptn hg hr, boxed_kept k6 hg hr⟩) _) (ownFrom_below (Nat.le_refl _) (by rw [hs6]; omega)))
    (fun c => OwnFrom.and (Own.from (fun s X Y row h hg hr => ⟨h.1, h.2.1, boxed_kept h.2.2 hg hr⟩) _) (ownFrom_below (Nat.le_refl _) (by rw [hs6]; omega)))
    ⟨⟨xA, cA, boxed_gr HB5.out HG6.out, ((HasB.later HA.out HG1.out).later HG5.out).later HG6.out, by simp, fun i hi => by simp at hi, (HBP1.out.gr HG5.out).gr HG6.out, boxed_gr (boxed_gr HBR1.out HG5.out) HG6.out⟩, (HG1.out.trans HG5.out).trans HG6.out⟩
    (fun x => { tmps := #[.agg #[.int .i64 N, .int .u32 p1, .int .i64 p2, .slice xC nC cC, .int .u32 S, .int .i64 p5, .int .u32 p6], .agg #[.int .i64 lv, .bool sp, .slice xA nA cA], .pointer (some ⟨w.heap.size, 0, none⟩), .pointer (some ⟨w.heap.size + 1, 0, none⟩), .pointer (some ⟨w.heap.size + 2, 0, none⟩), .pointer (some ⟨b5, 0, none⟩), .int .u32 (Op.cf (Oj.mods ch S lv sp) x.1), .agg #[.int .i64 N, .int .u32 p1, .int .i64 p2, .slice xC nC cC, .int .u32 S, .int .i64 p5, .int .u32 p6], .pointer (some ⟨w.heap.size + 1, 0, none⟩), .int .i64 lv, .pointer (some ⟨w.heap.size + 1, 1, none⟩), .bool sp, .bool true, .bool false, .pointer (some ⟨w.heap.size + 1, 2, none⟩), .slice xA nA cA, .agg #[.int .i64 N, .int .u32 p1, .int .i64 p2, .slice xC nC cC, .int .u32 S, .int .i64 p5, .int .u32 p6], .pointer (some ⟨w.heap.size + 1, 0, none⟩), .int .i64 lv, .pointer (some ⟨w.heap.size + 1, 1, none⟩), .bool sp, .func (.func 38) #[] #[.pointer (some ⟨b5 + 1, 0, none⟩), .pointer (some ⟨b5 + 1 + 1, 0, none⟩), .pointer (some ⟨b5 + 1 + 2, 0, none⟩)], .int .u32 (Op.cf (Oj.mods ch S lv sp) x.1), undef, undef, undef, undef, undef, undef, undef, undef, undef, undef, undef, undef, undef, undef, undef, undef, undef, undef, undef, undef, undef, undef, undef, undef, undef], defers := [] }) ?assign ?body ?done ?stop
  case assign =>
    intro l x W K hK
    gi_wp2
    exact hK
  case stop =>
    rintro D c pre W hD hord ⟨⟨rfl, hst, hbr⟩, hb⟩ hK
    have HB := Lib.hid hb
    have HNO := Lib.hid (hstop_no hst hord HNL.out.1)
    clear hb hst hord
    gi_wp2
    refine ⟨by simp, .inl ⟨_, _, rfl, run_takeDeferred hK, ?_⟩⟩
    have e0 := (boxed_kept hbr (grownBy_putObj' _ D (.deferred none)) (fun r e => by cases e; exact ⟨_, hK, rfl⟩)).cell
    refine ⟨.bool false, ?_, ret_bool (decide_eq_false HNO.out).symm, Below.trans (show Below w.heap.size w _ from HB.out) (belowK_b (w := w) (Nat.le_refl _) W D _ _ (by rw [hs6] at hD; omega) hK rfl rfl)⟩
    simp [results, Try.f34, go_sem, e0]
  case body =>
    rintro l pre x W ⟨⟨al, cn, hbx, hbl, hpl, hok, hbp, hbr⟩, hb⟩ hlt
    have hcl := hbx.cell
    have hfl := hbx.frozen
    have hcN : W.cell? ⟨w.heap.size, 0, none⟩ = some (.int .i64 N) := hbp.cell 0
    have hcr2 := hbr.cell
    have hfr2 := hbr.frozen
    have HBX := Lib.hid hbx
    have HBLL := Lib.hid hbl
    have HOK := Lib.hid hok
    have HBPP := Lib.hid hbp
    have HBRR := Lib.hid hbr
    have HB := Lib.hid (show Gr w W from hb)
    have hcb := hbl.len
    obtain ⟨ln, hln⟩ : ∃ ln, ln = nA - pre.length := ⟨_, rfl⟩
    have HLN := Lib.hid hln
    -- how a row that is none ends it
    have OUT := Lib.hid (show ¬ (pre.length < nA ∧ RowOK N (Op.cf (Oj.mods ch S lv sp) x.1) (rw_ rows pre.length)) → ∀ W' : World, W' = (W.setCell ⟨w.heap.size + 2, 0, none⟩ (.bool false)).drew → (∀ k, KeepsFrom k W W') ∧ (HStop N nA rows _ (pre ++ [x]) ∧ Boxed W' (w.heap.size + 2) 4 (.bool false)) ∧ Below w.heap.size w W' from fun h W' e => by
      subst e
      exact ⟨fun k => KeepsFrom.trans ((KeepsOthers.setCell W ⟨w.heap.size + 2, 0, none⟩ (.bool false)).from _) (gr_from (Below.drew (Gr.refl _))), ⟨⟨pre, x, rfl, h⟩, boxed_gr (HBRR.out.set _) (Below.drew (Gr.refl _))⟩, Gr.trans (Gr.setCell HB.out (p := ⟨w.heap.size + 2, 0, none⟩) (by simp) (.bool false)) (Below.drew (Gr.refl _))⟩)
    rw [← hln] at hcl hbl hcb
    clear hbx hok hbp hbr hb hln
    obtain ⟨hcb1, hcb2, hcb3⟩ := hcb
    have HCB1 := Lib.hid hcb1
    clear hcb1
    rcases ln with _ | lm
    · gi_wp2_with fail
      refine region_round (fun wz => wz.cell? ⟨b5, 0, none⟩ = some (.slice al 0 cn)) (by kernel_rfl) (noDefer_spec (by kernel_rfl)) hcl (fun hHeld => ?_)
      refine wpAnyH_take (i := 0) (oi := ⟨some 23, .load 26 (.tmp 5), 26, "elements.go:59", #[], none⟩) (v := ?_) rfl (by kernel_rfl) (by kernel_rfl) (by kernel_rfl) (fun _ _ _ h => h) (Or.inl ⟨by rfl, ?_⟩) (by assumption) ?_
      rotate_left
      · intro w hSw; (try dsimp only at hSw); go_simp; try with_reducible rfl
      try simp only [Act.put, List.setIfInBounds_toArray, List.set_cons_zero, List.set_cons_succ]
      refine wpAnyH_take (i := 1) (oi := ⟨some 24, .call ⟨.builtin .len, #[.tmp 23], #[26]⟩, 3, "elements.go:59", #[⟨0, .data⟩], none⟩) (v := ?_) rfl (by kernel_rfl) (by kernel_rfl) (by kernel_rfl) (fun _ _ _ h => h) (Or.inl ⟨by rfl, ?_⟩) (by assumption) ?_
      rotate_left
      · intro w hSw; (try dsimp only at hSw); go_simp; try with_reducible rfl
      try simp only [Act.put, List.setIfInBounds_toArray, List.set_cons_zero, List.set_cons_succ]
      refine wpAnyH_take (i := 2) (oi := ⟨some 25, .binOp .eql 3 (.tmp 24) (.const (.int .i64 0)) 3, 4, "elements.go:59", #[⟨1, .data⟩], none⟩) (v := ?_) rfl (by kernel_rfl) (by kernel_rfl) (by kernel_rfl) (fun _ _ _ h => h) (Or.inl ⟨by rfl, ?_⟩) (by assumption) ?_
      rotate_left
      · intro w hSw; (try dsimp only at hSw); go_simp; try with_reducible rfl
      try simp only [Act.put, List.setIfInBounds_toArray, List.set_cons_zero, List.set_cons_succ]
      refine wpAnyH_take (i := 3) (oi := ⟨some 26, .move (.tmp 25), 4, "elements.go:59", #[⟨2, .data⟩], none⟩) (v := ?_) rfl (by kernel_rfl) (by kernel_rfl) (by kernel_rfl) (fun _ _ _ h => h) (Or.inl ⟨by rfl, ?_⟩) (by assumption) ?_
      rotate_left
      · intro w hSw; (try dsimp only at hSw); go_simp; try with_reducible rfl
      try simp only [Act.put, List.setIfInBounds_toArray, List.set_cons_zero, List.set_cons_succ]
      refine wpAnyH_take (i := 4) (oi := ⟨some 27, .load 26 (.tmp 5), 26, "elements.go:59", #[⟨3, .guard⟩], some (3, false)⟩) (v := undef) rfl (by kernel_rfl) (by kernel_rfl) (by kernel_rfl) (fun _ _ _ h => h) (Or.inr ⟨by rfl, rfl⟩) (by assumption) ?_
      try simp only [Act.put, List.setIfInBounds_toArray, List.set_cons_zero, List.set_cons_succ]
      refine wpAnyH_take (i := 5) (oi := ⟨some 28, .indexAddr 26 (.tmp 27) (.const (.int .i64 0)), 0, "elements.go:59", #[⟨4, .data⟩, ⟨3, .guard⟩], some (3, false)⟩) (v := undef) rfl (by kernel_rfl) (by kernel_rfl) (by kernel_rfl) (fun _ _ _ h => h) (Or.inr ⟨by rfl, rfl⟩) (by assumption) ?_
      try simp only [Act.put, List.setIfInBounds_toArray, List.set_cons_zero, List.set_cons_succ]
      refine wpAnyH_take (i := 6) (oi := ⟨some 29, .load 23 (.tmp 28), 23, "elements.go:59", #[⟨5, .data⟩, ⟨3, .guard⟩], some (3, false)⟩) (v := undef) rfl (by kernel_rfl) (by kernel_rfl) (by kernel_rfl) (fun _ _ _ h => h) (Or.inr ⟨by rfl, rfl⟩) (by assumption) ?_
      try simp only [Act.put, List.setIfInBounds_toArray, List.set_cons_zero, List.set_cons_succ]
      refine wpAnyH_take (i := 7) (oi := ⟨some 30, .call ⟨.builtin .len, #[.tmp 29], #[23]⟩, 3, "elements.go:59", #[⟨6, .data⟩, ⟨3, .guard⟩], some (3, false)⟩) (v := undef) rfl (by kernel_rfl) (by kernel_rfl) (by kernel_rfl) (fun _ _ _ h => h) (Or.inr ⟨by rfl, rfl⟩) (by assumption) ?_
      try simp only [Act.put, List.setIfInBounds_toArray, List.set_cons_zero, List.set_cons_succ]
      refine wpAnyH_take (i := 8) (oi := ⟨some 31, .fieldAddr 25 (.tmp 2) 0, 0, "elements.go:59", #[⟨3, .guard⟩], some (3, false)⟩) (v := undef) rfl (by kernel_rfl) (by kernel_rfl) (by kernel_rfl) (fun _ _ _ h => h) (Or.inr ⟨by rfl, rfl⟩) (by assumption) ?_
      try simp only [Act.put, List.setIfInBounds_toArray, List.set_cons_zero, List.set_cons_succ]
      refine wpAnyH_take (i := 9) (oi := ⟨some 32, .load 3 (.tmp 31), 3, "elements.go:59", #[⟨8, .data⟩, ⟨3, .guard⟩], some (3, false)⟩) (v := undef) rfl (by kernel_rfl) (by kernel_rfl) (by kernel_rfl) (fun _ _ _ h => h) (Or.inr ⟨by rfl, rfl⟩) (by assumption) ?_
      try simp only [Act.put, List.setIfInBounds_toArray, List.set_cons_zero, List.set_cons_succ]
      refine wpAnyH_take (i := 10) (oi := ⟨some 33, .binOp .neq 3 (.tmp 30) (.tmp 32) 3, 4, "elements.go:59", #[⟨7, .data⟩, ⟨9, .data⟩, ⟨3, .guard⟩], some (3, false)⟩) (v := undef) rfl (by kernel_rfl) (by kernel_rfl) (by kernel_rfl) (fun _ _ _ h => h) (Or.inr ⟨by rfl, rfl⟩) (by assumption) ?_
      try simp only [Act.put, List.setIfInBounds_toArray, List.set_cons_zero, List.set_cons_succ]
      refine wpAnyH_take (i := 11) (oi := ⟨some 34, .pick (.tmp 26) (.const (.bool true)) (.tmp 33), 4, "elements.go:59", #[⟨3, .data⟩, ⟨10, .data⟩], none⟩) (v := ?_) rfl (by kernel_rfl) (by kernel_rfl) (by kernel_rfl) (fun _ _ _ h => h) (Or.inl ⟨by rfl, ?_⟩) (by assumption) ?_
      rotate_left
      · intro w hSw; (try dsimp only at hSw); go_simp; try with_reducible rfl
      try simp only [Act.put, List.setIfInBounds_toArray, List.set_cons_zero, List.set_cons_succ]
      refine wpAnyH_take (i := 12) (oi := ⟨some 35, .move (.tmp 34), 4, "elements.go:59", #[⟨11, .data⟩, ⟨3, .chain⟩], none⟩) (v := ?_) rfl (by kernel_rfl) (by kernel_rfl) (by kernel_rfl) (fun _ _ _ h => h) (Or.inl ⟨by rfl, ?_⟩) (by assumption) ?_
      rotate_left
      · intro w hSw; (try dsimp only at hSw); go_simp; try with_reducible rfl
      try simp only [Act.put, List.setIfInBounds_toArray, List.set_cons_zero, List.set_cons_succ]
      refine wpAnyH_take (i := 13) (oi := ⟨some 36, .move (.tmp 6), 22, "elements.go:59", #[⟨12, .guard⟩], some (12, false)⟩) (v := undef) rfl (by kernel_rfl) (by kernel_rfl) (by kernel_rfl) (fun _ _ _ h => h) (Or.inr ⟨by rfl, rfl⟩) (by assumption) ?_
      try simp only [Act.put, List.setIfInBounds_toArray, List.set_cons_zero, List.set_cons_succ]
      refine wpAnyH_take (i := 14) (oi := ⟨some 37, .load 26 (.tmp 5), 26, "elements.go:59", #[⟨12, .guard⟩], some (12, false)⟩) (v := undef) rfl (by kernel_rfl) (by kernel_rfl) (by kernel_rfl) (fun _ _ _ h => h) (Or.inr ⟨by rfl, rfl⟩) (by assumption) ?_
      try simp only [Act.put, List.setIfInBounds_toArray, List.set_cons_zero, List.set_cons_succ]
      refine wpAnyH_take (i := 15) (oi := ⟨some 38, .indexAddr 26 (.tmp 37) (.const (.int .i64 0)), 0, "elements.go:59", #[⟨14, .data⟩, ⟨12, .guard⟩], some (12, false)⟩) (v := undef) rfl (by kernel_rfl) (by kernel_rfl) (by kernel_rfl) (fun _ _ _ h => h) (Or.inr ⟨by rfl, rfl⟩) (by assumption) ?_
      try simp only [Act.put, List.setIfInBounds_toArray, List.set_cons_zero, List.set_cons_succ]
      refine wpAnyH_take (i := 16) (oi := ⟨some 39, .load 23 (.tmp 38), 23, "elements.go:59", #[⟨15, .data⟩, ⟨12, .guard⟩], some (12, false)⟩) (v := undef) rfl (by kernel_rfl) (by kernel_rfl) (by kernel_rfl) (fun _ _ _ h => h) (Or.inr ⟨by rfl, rfl⟩) (by assumption) ?_
      try simp only [Act.put, List.setIfInBounds_toArray, List.set_cons_zero, List.set_cons_succ]
      refine wpAnyH_take (i := 17) (oi := ⟨some 40, .call ⟨.value (.func 54), #[.tmp 36, .tmp 39], #[50, 23]⟩, 4, "elements.go:59", #[⟨13, .data⟩, ⟨16, .data⟩, ⟨12, .chain⟩, ⟨12, .guard⟩], some (12, false)⟩) (v := undef) rfl (by kernel_rfl) (by kernel_rfl) (by kernel_rfl) (fun _ _ _ h => h) (Or.inr ⟨by rfl, rfl⟩) (by assumption) ?_
      try simp only [Act.put, List.setIfInBounds_toArray, List.set_cons_zero, List.set_cons_succ]
      refine wpAnyH_take (i := 18) (oi := ⟨some 41, .unOp .not 4 (.tmp 40), 4, "elements.go:59", #[⟨17, .data⟩, ⟨12, .guard⟩], some (12, false)⟩) (v := undef) rfl (by kernel_rfl) (by kernel_rfl) (by kernel_rfl) (fun _ _ _ h => h) (Or.inr ⟨by rfl, rfl⟩) (by assumption) ?_
      try simp only [Act.put, List.setIfInBounds_toArray, List.set_cons_zero, List.set_cons_succ]
      refine wpAnyH_take (i := 19) (oi := ⟨some 42, .pick (.tmp 35) (.const (.bool true)) (.tmp 41), 4, "elements.go:59", #[⟨12, .data⟩, ⟨18, .data⟩], none⟩) (v := ?_) rfl (by kernel_rfl) (by kernel_rfl) (by kernel_rfl) (fun _ _ _ h => h) (Or.inl ⟨by rfl, ?_⟩) (by assumption) ?_
      rotate_left
      · intro w hSw; (try dsimp only at hSw); go_simp; try with_reducible rfl
      try simp only [Act.put, List.setIfInBounds_toArray, List.set_cons_zero, List.set_cons_succ]
      refine wpAnyH_done (by kernel_rfl) ?_ _
      refine noOut_normal ?_
      gi_wp2
      obtain ⟨o1, ⟨o2, o3⟩, o4⟩ := OUT.out (fun h => by have := HLN.out; omega) _ rfl
      exact ⟨o1 _, ⟨rfl, o2, o3⟩, o4⟩
    · have hln1 : ((lm + 1 : Nat) : Int) = (lm : Int) + 1 := by omega
      obtain ⟨gr, or_, xr, nr, cr, rfl, hcr, hnr, hrd⟩ := hbl.at_ (i := 0) (by rw [← HCB1.out]; omega)
      rw [getD_drop, Nat.add_zero] at hnr hrd
      rw [Nat.add_zero] at hcr
      have HRD := Lib.hid (show HasP W.drew (.slice xr nr cr) (rw_ rows pre.length) from hrd.later (Below.drew (Gr.refl W)))
      have HNR := Lib.hid hnr
      have HPL := Lib.hid (show pre.length < nA by have := HLN.out; omega)
      have HBD := Lib.hid hbl
      clear hbl hrd hnr
      obtain ⟨ln, hlne⟩ : ∃ ln, ln = lm + 1 := ⟨_, rfl⟩
      have HLE := Lib.hid hlne
      rw [← hlne] at hcl hcb2 HLN HBD HCB1
      have hl0 : ((ln : Int) == 0) = false := by simp; omega
      have hl1 : 0 < ln := by omega
      have hl2 : (0 : Int) < (ln : Int) := by omega
      have hl3 : (1 : Int) ≤ (ln : Int) := by omega
      clear hlne hln1
      by_cases hnN : (nr : Int) = N
      · have HN := Lib.hid hnN
        have t1 : ((nr : Int) != N) = false := by simpa using hnN
        clear hnN
        cases hbb : hasB (Op.cf (Oj.mods ch S lv sp) x.1) (rw_ rows pre.length) with
        | false =>
          have HBB := Lib.hid hbb
          clear hbb
          gi_wp2_with fail
          refine region_round (fun wz => wz.cell? ⟨b5, 0, none⟩ = some (.slice (some ⟨gr, or_, none⟩) ln cn) ∧ wz.cell? ⟨gr, or_, none⟩ = some (.slice xr nr cr) ∧ wz.cell? ⟨w.heap.size, 0, none⟩ = some (.int .i64 N)) (by kernel_rfl) (noDefer_spec (by kernel_rfl)) ⟨hcl, hcr, hcN⟩ (fun hHeld => ?_)
          refine wpAnyH_take (i := 0) (oi := ⟨some 23, .load 26 (.tmp 5), 26, "elements.go:59", #[], none⟩) (v := ?_) rfl (by kernel_rfl) (by kernel_rfl) (by kernel_rfl) (fun _ _ _ h => h) (Or.inl ⟨by rfl, ?_⟩) (by assumption) ?_
          rotate_left
          · intro w hSw; (try dsimp only at hSw); obtain ⟨hS0, hS1, hS2⟩ := hSw; go_simp; try with_reducible rfl
          try simp only [Act.put, List.setIfInBounds_toArray, List.set_cons_zero, List.set_cons_succ]
          refine wpAnyH_take (i := 1) (oi := ⟨some 24, .call ⟨.builtin .len, #[.tmp 23], #[26]⟩, 3, "elements.go:59", #[⟨0, .data⟩], none⟩) (v := ?_) rfl (by kernel_rfl) (by kernel_rfl) (by kernel_rfl) (fun _ _ _ h => h) (Or.inl ⟨by rfl, ?_⟩) (by assumption) ?_
          rotate_left
          · intro w hSw; (try dsimp only at hSw); obtain ⟨hS0, hS1, hS2⟩ := hSw; go_simp; try with_reducible rfl
          try simp only [Act.put, List.setIfInBounds_toArray, List.set_cons_zero, List.set_cons_succ]
          refine wpAnyH_take (i := 2) (oi := ⟨some 25, .binOp .eql 3 (.tmp 24) (.const (.int .i64 0)) 3, 4, "elements.go:59", #[⟨1, .data⟩], none⟩) (v := ?_) rfl (by kernel_rfl) (by kernel_rfl) (by kernel_rfl) (fun _ _ _ h => h) (Or.inl ⟨by rfl, ?_⟩) (by assumption) ?_
          rotate_left
          · intro w hSw; (try dsimp only at hSw); obtain ⟨hS0, hS1, hS2⟩ := hSw; go_simp; try with_reducible rfl
          try simp only [Act.put, List.setIfInBounds_toArray, List.set_cons_zero, List.set_cons_succ]
          refine wpAnyH_take (i := 3) (oi := ⟨some 26, .move (.tmp 25), 4, "elements.go:59", #[⟨2, .data⟩], none⟩) (v := ?_) rfl (by kernel_rfl) (by kernel_rfl) (by kernel_rfl) (fun _ _ _ h => h) (Or.inl ⟨by rfl, ?_⟩) (by assumption) ?_
          rotate_left
          · intro w hSw; (try dsimp only at hSw); obtain ⟨hS0, hS1, hS2⟩ := hSw; go_simp; try with_reducible rfl
          try simp only [Act.put, List.setIfInBounds_toArray, List.set_cons_zero, List.set_cons_succ]
          refine wpAnyH_take (i := 4) (oi := ⟨some 27, .load 26 (.tmp 5), 26, "elements.go:59", #[⟨3, .guard⟩], some (3, false)⟩) (v := ?_) rfl (by kernel_rfl) (by kernel_rfl) (by kernel_rfl) (fun _ _ _ h => h) (Or.inl ⟨by rfl, ?_⟩) (by assumption) ?_
          rotate_left
          · intro w hSw; (try dsimp only at hSw); obtain ⟨hS0, hS1, hS2⟩ := hSw; go_simp; try with_reducible rfl
          try simp only [Act.put, List.setIfInBounds_toArray, List.set_cons_zero, List.set_cons_succ]
          refine wpAnyH_take (i := 5) (oi := ⟨some 28, .indexAddr 26 (.tmp 27) (.const (.int .i64 0)), 0, "elements.go:59", #[⟨4, .data⟩, ⟨3, .guard⟩], some (3, false)⟩) (v := ?_) rfl (by kernel_rfl) (by kernel_rfl) (by kernel_rfl) (fun _ _ _ h => h) (Or.inl ⟨by rfl, ?_⟩) (by assumption) ?_
          rotate_left
          · intro w hSw; (try dsimp only at hSw); obtain ⟨hS0, hS1, hS2⟩ := hSw; go_simp; try with_reducible rfl
          try simp only [Act.put, List.setIfInBounds_toArray, List.set_cons_zero, List.set_cons_succ]
          refine wpAnyH_take (i := 6) (oi := ⟨some 29, .load 23 (.tmp 28), 23, "elements.go:59", #[⟨5, .data⟩, ⟨3, .guard⟩], some (3, false)⟩) (v := ?_) rfl (by kernel_rfl) (by kernel_rfl) (by kernel_rfl) (fun _ _ _ h => h) (Or.inl ⟨by rfl, ?_⟩) (by assumption) ?_
          rotate_left
          · intro w hSw; (try dsimp only at hSw); obtain ⟨hS0, hS1, hS2⟩ := hSw; go_simp; try with_reducible rfl
          try simp only [Act.put, List.setIfInBounds_toArray, List.set_cons_zero, List.set_cons_succ]
          refine wpAnyH_take (i := 7) (oi := ⟨some 30, .call ⟨.builtin .len, #[.tmp 29], #[23]⟩, 3, "elements.go:59", #[⟨6, .data⟩, ⟨3, .guard⟩], some (3, false)⟩) (v := ?_) rfl (by kernel_rfl) (by kernel_rfl) (by kernel_rfl) (fun _ _ _ h => h) (Or.inl ⟨by rfl, ?_⟩) (by assumption) ?_
          rotate_left
          · intro w hSw; (try dsimp only at hSw); obtain ⟨hS0, hS1, hS2⟩ := hSw; go_simp; try with_reducible rfl
          try simp only [Act.put, List.setIfInBounds_toArray, List.set_cons_zero, List.set_cons_succ]
          refine wpAnyH_take (i := 8) (oi := ⟨some 31, .fieldAddr 25 (.tmp 2) 0, 0, "elements.go:59", #[⟨3, .guard⟩], some (3, false)⟩) (v := ?_) rfl (by kernel_rfl) (by kernel_rfl) (by kernel_rfl) (fun _ _ _ h => h) (Or.inl ⟨by rfl, ?_⟩) (by assumption) ?_
          rotate_left
          · intro w hSw; (try dsimp only at hSw); obtain ⟨hS0, hS1, hS2⟩ := hSw; go_simp; try with_reducible rfl
          try simp only [Act.put, List.setIfInBounds_toArray, List.set_cons_zero, List.set_cons_succ]
          refine wpAnyH_take (i := 9) (oi := ⟨some 32, .load 3 (.tmp 31), 3, "elements.go:59", #[⟨8, .data⟩, ⟨3, .guard⟩], some (3, false)⟩) (v := ?_) rfl (by kernel_rfl) (by kernel_rfl) (by kernel_rfl) (fun _ _ _ h => h) (Or.inl ⟨by rfl, ?_⟩) (by assumption) ?_
          rotate_left
          · intro w hSw; (try dsimp only at hSw); obtain ⟨hS0, hS1, hS2⟩ := hSw; go_simp; try with_reducible rfl
          try simp only [Act.put, List.setIfInBounds_toArray, List.set_cons_zero, List.set_cons_succ]
          refine wpAnyH_take (i := 10) (oi := ⟨some 33, .binOp .neq 3 (.tmp 30) (.tmp 32) 3, 4, "elements.go:59", #[⟨7, .data⟩, ⟨9, .data⟩, ⟨3, .guard⟩], some (3, false)⟩) (v := ?_) rfl (by kernel_rfl) (by kernel_rfl) (by kernel_rfl) (fun _ _ _ h => h) (Or.inl ⟨by rfl, ?_⟩) (by assumption) ?_
          rotate_left
          · intro w hSw; (try dsimp only at hSw); obtain ⟨hS0, hS1, hS2⟩ := hSw; go_simp; try with_reducible rfl
          try simp only [Act.put, List.setIfInBounds_toArray, List.set_cons_zero, List.set_cons_succ]
          refine wpAnyH_take (i := 11) (oi := ⟨some 34, .pick (.tmp 26) (.const (.bool true)) (.tmp 33), 4, "elements.go:59", #[⟨3, .data⟩, ⟨10, .data⟩], none⟩) (v := ?_) rfl (by kernel_rfl) (by kernel_rfl) (by kernel_rfl) (fun _ _ _ h => h) (Or.inl ⟨by rfl, ?_⟩) (by assumption) ?_
          rotate_left
          · intro w hSw; (try dsimp only at hSw); obtain ⟨hS0, hS1, hS2⟩ := hSw; go_simp; try with_reducible rfl
          try simp only [Act.put, List.setIfInBounds_toArray, List.set_cons_zero, List.set_cons_succ]
          refine wpAnyH_take (i := 12) (oi := ⟨some 35, .move (.tmp 34), 4, "elements.go:59", #[⟨11, .data⟩, ⟨3, .chain⟩], none⟩) (v := ?_) rfl (by kernel_rfl) (by kernel_rfl) (by kernel_rfl) (fun _ _ _ h => h) (Or.inl ⟨by rfl, ?_⟩) (by assumption) ?_
          rotate_left
          · intro w hSw; (try dsimp only at hSw); obtain ⟨hS0, hS1, hS2⟩ := hSw; go_simp; try with_reducible rfl
          try simp only [Act.put, List.setIfInBounds_toArray, List.set_cons_zero, List.set_cons_succ]
          refine wpAnyH_take (i := 13) (oi := ⟨some 36, .move (.tmp 6), 22, "elements.go:59", #[⟨12, .guard⟩], some (12, false)⟩) (v := ?_) rfl (by kernel_rfl) (by kernel_rfl) (by kernel_rfl) (fun _ _ _ h => h) (Or.inl ⟨by rfl, ?_⟩) (by assumption) ?_
          rotate_left
          · intro w hSw; (try dsimp only at hSw); obtain ⟨hS0, hS1, hS2⟩ := hSw; go_simp; try with_reducible rfl
          try simp only [Act.put, List.setIfInBounds_toArray, List.set_cons_zero, List.set_cons_succ]
          refine wpAnyH_take (i := 14) (oi := ⟨some 37, .load 26 (.tmp 5), 26, "elements.go:59", #[⟨12, .guard⟩], some (12, false)⟩) (v := ?_) rfl (by kernel_rfl) (by kernel_rfl) (by kernel_rfl) (fun _ _ _ h => h) (Or.inl ⟨by rfl, ?_⟩) (by assumption) ?_
          rotate_left
          · intro w hSw; (try dsimp only at hSw); obtain ⟨hS0, hS1, hS2⟩ := hSw; go_simp; try with_reducible rfl
          try simp only [Act.put, List.setIfInBounds_toArray, List.set_cons_zero, List.set_cons_succ]
          refine wpAnyH_take (i := 15) (oi := ⟨some 38, .indexAddr 26 (.tmp 37) (.const (.int .i64 0)), 0, "elements.go:59", #[⟨14, .data⟩, ⟨12, .guard⟩], some (12, false)⟩) (v := ?_) rfl (by kernel_rfl) (by kernel_rfl) (by kernel_rfl) (fun _ _ _ h => h) (Or.inl ⟨by rfl, ?_⟩) (by assumption) ?_
          rotate_left
          · intro w hSw; (try dsimp only at hSw); obtain ⟨hS0, hS1, hS2⟩ := hSw; go_simp; try with_reducible rfl
          try simp only [Act.put, List.setIfInBounds_toArray, List.set_cons_zero, List.set_cons_succ]
          refine wpAnyH_take (i := 16) (oi := ⟨some 39, .load 23 (.tmp 38), 23, "elements.go:59", #[⟨15, .data⟩, ⟨12, .guard⟩], some (12, false)⟩) (v := ?_) rfl (by kernel_rfl) (by kernel_rfl) (by kernel_rfl) (fun _ _ _ h => h) (Or.inl ⟨by rfl, ?_⟩) (by assumption) ?_
          rotate_left
          · intro w hSw; (try dsimp only at hSw); obtain ⟨hS0, hS1, hS2⟩ := hSw; go_simp; try with_reducible rfl
          try simp only [Act.put, List.setIfInBounds_toArray, List.set_cons_zero, List.set_cons_succ]
          refine wpAnyH_ready (rs := [17]) (by kernel_rfl) (by simp) ?_
          refine AllReadyH.cons (o := ⟨some 40, .call ⟨.value (.func 54), #[.tmp 36, .tmp 39], #[50, 23]⟩, 4, "elements.go:59", #[⟨13, .data⟩, ⟨16, .data⟩, ⟨12, .chain⟩, ⟨12, .guard⟩], some (12, false)⟩) rfl (fun K hK => ?_) AllReadyH.nil
          go_simp
          refine (mhas_any _ _ _ _ HRD.out).mono ?_
          rintro e w' ⟨rfl, rfl⟩
          rw [HBB.out]
          try dsimp only
          refine hK.out _ _ hHeld (fun hHeld => ?_)
          clear hK K
          try simp only [Act.put, List.setIfInBounds_toArray, List.set_cons_zero, List.set_cons_succ]
          refine wpAnyH_take (i := 18) (oi := ⟨some 41, .unOp .not 4 (.tmp 40), 4, "elements.go:59", #[⟨17, .data⟩, ⟨12, .guard⟩], some (12, false)⟩) (v := ?_) rfl (by kernel_rfl) (by kernel_rfl) (by kernel_rfl) (fun _ _ _ h => h) (Or.inl ⟨by rfl, ?_⟩) (by assumption) ?_
          rotate_left
          · intro w hSw; (try dsimp only at hSw); obtain ⟨hS0, hS1, hS2⟩ := hSw; go_simp; try with_reducible rfl
          try simp only [Act.put, List.setIfInBounds_toArray, List.set_cons_zero, List.set_cons_succ]
          refine wpAnyH_take (i := 19) (oi := ⟨some 42, .pick (.tmp 35) (.const (.bool true)) (.tmp 41), 4, "elements.go:59", #[⟨12, .data⟩, ⟨18, .data⟩], none⟩) (v := ?_) rfl (by kernel_rfl) (by kernel_rfl) (by kernel_rfl) (fun _ _ _ h => h) (Or.inl ⟨by rfl, ?_⟩) (by assumption) ?_
          rotate_left
          · intro w hSw; (try dsimp only at hSw); obtain ⟨hS0, hS1, hS2⟩ := hSw; go_simp; try with_reducible rfl
          try simp only [Act.put, List.setIfInBounds_toArray, List.set_cons_zero, List.set_cons_succ]
          refine wpAnyH_done (by kernel_rfl) ?_ _
          refine noOut_normal ?_
          gi_wp2
          obtain ⟨o1, ⟨o2, o3⟩, o4⟩ := OUT.out (fun h => by have := h.2.2; rw [HBB.out] at this; cases this) _ rfl
          exact ⟨o1 _, ⟨rfl, o2, o3⟩, o4⟩
        | true =>
          have HBB := Lib.hid hbb
          clear hbb
          gi_wp2_with fail
          refine region_round (fun wz => wz.cell? ⟨b5, 0, none⟩ = some (.slice (some ⟨gr, or_, none⟩) ln cn) ∧ wz.cell? ⟨gr, or_, none⟩ = some (.slice xr nr cr) ∧ wz.cell? ⟨w.heap.size, 0, none⟩ = some (.int .i64 N)) (by kernel_rfl) (noDefer_spec (by kernel_rfl)) ⟨hcl, hcr, hcN⟩ (fun hHeld => ?_)
          refine wpAnyH_take (i := 0) (oi := ⟨some 23, .load 26 (.tmp 5), 26, "elements.go:59", #[], none⟩) (v := ?_) rfl (by kernel_rfl) (by kernel_rfl) (by kernel_rfl) (fun _ _ _ h => h) (Or.inl ⟨by rfl, ?_⟩) (by assumption) ?_
          rotate_left
          · intro w hSw; (try dsimp only at hSw); obtain ⟨hS0, hS1, hS2⟩ := hSw; go_simp; try with_reducible rfl
          try simp only [Act.put, List.setIfInBounds_toArray, List.set_cons_zero, List.set_cons_succ]
          refine wpAnyH_take (i := 1) (oi := ⟨some 24, .call ⟨.builtin .len, #[.tmp 23], #[26]⟩, 3, "elements.go:59", #[⟨0, .data⟩], none⟩) (v := ?_) rfl (by kernel_rfl) (by kernel_rfl) (by kernel_rfl) (fun _ _ _ h => h) (Or.inl ⟨by rfl, ?_⟩) (by assumption) ?_
          rotate_left
          · intro w hSw; (try dsimp only at hSw); obtain ⟨hS0, hS1, hS2⟩ := hSw; go_simp; try with_reducible rfl
          try simp only [Act.put, List.setIfInBounds_toArray, List.set_cons_zero, List.set_cons_succ]
          refine wpAnyH_take (i := 2) (oi := ⟨some 25, .binOp .eql 3 (.tmp 24) (.const (.int .i64 0)) 3, 4, "elements.go:59", #[⟨1, .data⟩], none⟩) (v := ?_) rfl (by kernel_rfl) (by kernel_rfl) (by kernel_rfl) (fun _ _ _ h => h) (Or.inl ⟨by rfl, ?_⟩) (by assumption) ?_
          rotate_left
          · intro w hSw; (try dsimp only at hSw); obtain ⟨hS0, hS1, hS2⟩ := hSw; go_simp; try with_reducible rfl
          try simp only [Act.put, List.setIfInBounds_toArray, List.set_cons_zero, List.set_cons_succ]
          refine wpAnyH_take (i := 3) (oi := ⟨some 26, .move (.tmp 25), 4, "elements.go:59", #[⟨2, .data⟩], none⟩) (v := ?_) rfl (by kernel_rfl) (by kernel_rfl) (by kernel_rfl) (fun _ _ _ h => h) (Or.inl ⟨by rfl, ?_⟩) (by assumption) ?_
          rotate_left
          · intro w hSw; (try dsimp only at hSw); obtain ⟨hS0, hS1, hS2⟩ := hSw; go_simp; try with_reducible rfl
          try simp only [Act.put, List.setIfInBounds_toArray, List.set_cons_zero, List.set_cons_succ]
          refine wpAnyH_take (i := 4) (oi := ⟨some 27, .load 26 (.tmp 5), 26, "elements.go:59", #[⟨3, .guard⟩], some (3, false)⟩) (v := ?_) rfl (by kernel_rfl) (by kernel_rfl) (by kernel_rfl) (fun _ _ _ h => h) (Or.inl ⟨by rfl, ?_⟩) (by assumption) ?_
          rotate_left
          · intro w hSw; (try dsimp only at hSw); obtain ⟨hS0, hS1, hS2⟩ := hSw; go_simp; try with_reducible rfl
          try simp only [Act.put, List.setIfInBounds_toArray, List.set_cons_zero, List.set_cons_succ]
          refine wpAnyH_take (i := 5) (oi := ⟨some 28, .indexAddr 26 (.tmp 27) (.const (.int .i64 0)), 0, "elements.go:59", #[⟨4, .data⟩, ⟨3, .guard⟩], some (3, false)⟩) (v := ?_) rfl (by kernel_rfl) (by kernel_rfl) (by kernel_rfl) (fun _ _ _ h => h) (Or.inl ⟨by rfl, ?_⟩) (by assumption) ?_
          rotate_left
          · intro w hSw; (try dsimp only at hSw); obtain ⟨hS0, hS1, hS2⟩ := hSw; go_simp; try with_reducible rfl
          try simp only [Act.put, List.setIfInBounds_toArray, List.set_cons_zero, List.set_cons_succ]
          refine wpAnyH_take (i := 6) (oi := ⟨some 29, .load 23 (.tmp 28), 23, "elements.go:59", #[⟨5, .data⟩, ⟨3, .guard⟩], some (3, false)⟩) (v := ?_) rfl (by kernel_rfl) (by kernel_rfl) (by kernel_rfl) (fun _ _ _ h => h) (Or.inl ⟨by rfl, ?_⟩) (by assumption) ?_
          rotate_left
          · intro w hSw; (try dsimp only at hSw); obtain ⟨hS0, hS1, hS2⟩ := hSw; go_simp; try with_reducible rfl
          try simp only [Act.put, List.setIfInBounds_toArray, List.set_cons_zero, List.set_cons_succ]
          refine wpAnyH_take (i := 7) (oi := ⟨some 30, .call ⟨.builtin .len, #[.tmp 29], #[23]⟩, 3, "elements.go:59", #[⟨6, .data⟩, ⟨3, .guard⟩], some (3, false)⟩) (v := ?_) rfl (by kernel_rfl) (by kernel_rfl) (by kernel_rfl) (fun _ _ _ h => h) (Or.inl ⟨by rfl, ?_⟩) (by assumption) ?_
          rotate_left
          · intro w hSw; (try dsimp only at hSw); obtain ⟨hS0, hS1, hS2⟩ := hSw; go_simp; try with_reducible rfl
          try simp only [Act.put, List.setIfInBounds_toArray, List.set_cons_zero, List.set_cons_succ]
          refine wpAnyH_take (i := 8) (oi := ⟨some 31, .fieldAddr 25 (.tmp 2) 0, 0, "elements.go:59", #[⟨3, .guard⟩], some (3, false)⟩) (v := ?_) rfl (by kernel_rfl) (by kernel_rfl) (by kernel_rfl) (fun _ _ _ h => h) (Or.inl ⟨by rfl, ?_⟩) (by assumption) ?_
          rotate_left
          · intro w hSw; (try dsimp only at hSw); obtain ⟨hS0, hS1, hS2⟩ := hSw; go_simp; try with_reducible rfl
          try simp only [Act.put, List.setIfInBounds_toArray, List.set_cons_zero, List.set_cons_succ]
          refine wpAnyH_take (i := 9) (oi := ⟨some 32, .load 3 (.tmp 31), 3, "elements.go:59", #[⟨8, .data⟩, ⟨3, .guard⟩], some (3, false)⟩) (v := ?_) rfl (by kernel_rfl) (by kernel_rfl) (by kernel_rfl) (fun _ _ _ h => h) (Or.inl ⟨by rfl, ?_⟩) (by assumption) ?_
          rotate_left
          · intro w hSw; (try dsimp only at hSw); obtain ⟨hS0, hS1, hS2⟩ := hSw; go_simp; try with_reducible rfl
          try simp only [Act.put, List.setIfInBounds_toArray, List.set_cons_zero, List.set_cons_succ]
          refine wpAnyH_take (i := 10) (oi := ⟨some 33, .binOp .neq 3 (.tmp 30) (.tmp 32) 3, 4, "elements.go:59", #[⟨7, .data⟩, ⟨9, .data⟩, ⟨3, .guard⟩], some (3, false)⟩) (v := ?_) rfl (by kernel_rfl) (by kernel_rfl) (by kernel_rfl) (fun _ _ _ h => h) (Or.inl ⟨by rfl, ?_⟩) (by assumption) ?_
          rotate_left
          · intro w hSw; (try dsimp only at hSw); obtain ⟨hS0, hS1, hS2⟩ := hSw; go_simp; try with_reducible rfl
          try simp only [Act.put, List.setIfInBounds_toArray, List.set_cons_zero, List.set_cons_succ]
          refine wpAnyH_take (i := 11) (oi := ⟨some 34, .pick (.tmp 26) (.const (.bool true)) (.tmp 33), 4, "elements.go:59", #[⟨3, .data⟩, ⟨10, .data⟩], none⟩) (v := ?_) rfl (by kernel_rfl) (by kernel_rfl) (by kernel_rfl) (fun _ _ _ h => h) (Or.inl ⟨by rfl, ?_⟩) (by assumption) ?_
          rotate_left
          · intro w hSw; (try dsimp only at hSw); obtain ⟨hS0, hS1, hS2⟩ := hSw; go_simp; try with_reducible rfl
          try simp only [Act.put, List.setIfInBounds_toArray, List.set_cons_zero, List.set_cons_succ]
          refine wpAnyH_take (i := 12) (oi := ⟨some 35, .move (.tmp 34), 4, "elements.go:59", #[⟨11, .data⟩, ⟨3, .chain⟩], none⟩) (v := ?_) rfl (by kernel_rfl) (by kernel_rfl) (by kernel_rfl) (fun _ _ _ h => h) (Or.inl ⟨by rfl, ?_⟩) (by assumption) ?_
          rotate_left
          · intro w hSw; (try dsimp only at hSw); obtain ⟨hS0, hS1, hS2⟩ := hSw; go_simp; try with_reducible rfl
          try simp only [Act.put, List.setIfInBounds_toArray, List.set_cons_zero, List.set_cons_succ]
          refine wpAnyH_take (i := 13) (oi := ⟨some 36, .move (.tmp 6), 22, "elements.go:59", #[⟨12, .guard⟩], some (12, false)⟩) (v := ?_) rfl (by kernel_rfl) (by kernel_rfl) (by kernel_rfl) (fun _ _ _ h => h) (Or.inl ⟨by rfl, ?_⟩) (by assumption) ?_
          rotate_left
          · intro w hSw; (try dsimp only at hSw); obtain ⟨hS0, hS1, hS2⟩ := hSw; go_simp; try with_reducible rfl
          try simp only [Act.put, List.setIfInBounds_toArray, List.set_cons_zero, List.set_cons_succ]
          refine wpAnyH_take (i := 14) (oi := ⟨some 37, .load 26 (.tmp 5), 26, "elements.go:59", #[⟨12, .guard⟩], some (12, false)⟩) (v := ?_) rfl (by kernel_rfl) (by kernel_rfl) (by kernel_rfl) (fun _ _ _ h => h) (Or.inl ⟨by rfl, ?_⟩) (by assumption) ?_
          rotate_left
          · intro w hSw; (try dsimp only at hSw); obtain ⟨hS0, hS1, hS2⟩ := hSw; go_simp; try with_reducible rfl
          try simp only [Act.put, List.setIfInBounds_toArray, List.set_cons_zero, List.set_cons_succ]
          refine wpAnyH_take (i := 15) (oi := ⟨some 38, .indexAddr 26 (.tmp 37) (.const (.int .i64 0)), 0, "elements.go:59", #[⟨14, .data⟩, ⟨12, .guard⟩], some (12, false)⟩) (v := ?_) rfl (by kernel_rfl) (by kernel_rfl) (by kernel_rfl) (fun _ _ _ h => h) (Or.inl ⟨by rfl, ?_⟩) (by assumption) ?_
          rotate_left
          · intro w hSw; (try dsimp only at hSw); obtain ⟨hS0, hS1, hS2⟩ := hSw; go_simp; try with_reducible rfl
          try simp only [Act.put, List.setIfInBounds_toArray, List.set_cons_zero, List.set_cons_succ]
          refine wpAnyH_take (i := 16) (oi := ⟨some 39, .load 23 (.tmp 38), 23, "elements.go:59", #[⟨15, .data⟩, ⟨12, .guard⟩], some (12, false)⟩) (v := ?_) rfl (by kernel_rfl) (by kernel_rfl) (by kernel_rfl) (fun _ _ _ h => h) (Or.inl ⟨by rfl, ?_⟩) (by assumption) ?_
          rotate_left
          · intro w hSw; (try dsimp only at hSw); obtain ⟨hS0, hS1, hS2⟩ := hSw; go_simp; try with_reducible rfl
          try simp only [Act.put, List.setIfInBounds_toArray, List.set_cons_zero, List.set_cons_succ]
          refine wpAnyH_ready (rs := [17]) (by kernel_rfl) (by simp) ?_
          refine AllReadyH.cons (o := ⟨some 40, .call ⟨.value (.func 54), #[.tmp 36, .tmp 39], #[50, 23]⟩, 4, "elements.go:59", #[⟨13, .data⟩, ⟨16, .data⟩, ⟨12, .chain⟩, ⟨12, .guard⟩], some (12, false)⟩) rfl (fun K hK => ?_) AllReadyH.nil
          go_simp
          refine (mhas_any _ _ _ _ HRD.out).mono ?_
          rintro e w' ⟨rfl, rfl⟩
          rw [HBB.out]
          try dsimp only
          refine hK.out _ _ hHeld (fun hHeld => ?_)
          clear hK K
          try simp only [Act.put, List.setIfInBounds_toArray, List.set_cons_zero, List.set_cons_succ]
          refine wpAnyH_take (i := 18) (oi := ⟨some 41, .unOp .not 4 (.tmp 40), 4, "elements.go:59", #[⟨17, .data⟩, ⟨12, .guard⟩], some (12, false)⟩) (v := ?_) rfl (by kernel_rfl) (by kernel_rfl) (by kernel_rfl) (fun _ _ _ h => h) (Or.inl ⟨by rfl, ?_⟩) (by assumption) ?_
          rotate_left
          · intro w hSw; (try dsimp only at hSw); obtain ⟨hS0, hS1, hS2⟩ := hSw; go_simp; try with_reducible rfl
          try simp only [Act.put, List.setIfInBounds_toArray, List.set_cons_zero, List.set_cons_succ]
          refine wpAnyH_take (i := 19) (oi := ⟨some 42, .pick (.tmp 35) (.const (.bool true)) (.tmp 41), 4, "elements.go:59", #[⟨12, .data⟩, ⟨18, .data⟩], none⟩) (v := ?_) rfl (by kernel_rfl) (by kernel_rfl) (by kernel_rfl) (fun _ _ _ h => h) (Or.inl ⟨by rfl, ?_⟩) (by assumption) ?_
          rotate_left
          · intro w hSw; (try dsimp only at hSw); obtain ⟨hS0, hS1, hS2⟩ := hSw; go_simp; try with_reducible rfl
          try simp only [Act.put, List.setIfInBounds_toArray, List.set_cons_zero, List.set_cons_succ]
          refine wpAnyH_done (by kernel_rfl) ?_ _
          refine noOut_normal ?_
          have HCAB := Lib.hid (show ∀ p, (Value.slice xC nC cC).ownBlock = some p → p < w.heap.size from fun p hp => HC.out.lt (by omega) p hp)
          have NXT := Lib.hid (show ∀ a' c', HasB W 0 w.heap.size (.slice a' (ln - 1) c') (rows.drop (pre.length + 1)) → ∀ W' : World, W' = (W.setCell ⟨b5, 0, none⟩ (.slice a' (ln - 1) c')).drew →
              (∀ k, KeepsFrom k W W') ∧ MK (b5 + 1) xC nC cC S lv sp ch W W' ∧ (∃ a cap, Boxed W' b5 26 (.slice a (nA - (pre ++ [x]).length) cap) ∧ HasB W' 0 w.heap.size (.slice a (nA - (pre ++ [x]).length) cap) (rows.drop (pre ++ [x]).length) ∧ (pre ++ [x]).length ≤ nA ∧ (∀ i, i < (pre ++ [x]).length → RowOK N (Op.cf (Oj.vals _ (pre ++ [x])) i) (rw_ rows i)) ∧ Blk W' w.heap.size 25 #[.int .i64 N, .int .u32 p1, .int .i64 p2, .slice xC nC cC, .int .u32 S, .int .i64 p5, .int .u32 p6] ∧ Boxed W' (w.heap.size + 2) 4 (.bool false)) ∧ Below w.heap.size w W' from by
            intro a' c' hb' W' e
            have hs := grown_cell W b5 0 (.slice a' (ln - 1) c')
            have hd : Gr (W.setCell ⟨b5, 0, none⟩ (.slice a' (ln - 1) c')) W' := by rw [e]; exact Below.drew (Gr.refl _)
            have hle : (pre ++ [x]).length = pre.length + 1 := by simp
            have hll : ln - 1 = nA - (pre.length + 1) := by have := HLN.out; omega
            have hpl2 := HPL.out
            refine ⟨fun k => KeepsFrom.trans ((KeepsOthers.setCell W ⟨b5, 0, none⟩ _).from _) (gr_from hd), fun hm => (hm.row hs (fun r e => ?_)).gr hd, ⟨a', c', ?_, ?_, by omega, fun i hi => ?_, ?_, ?_⟩, ?_⟩
            · cases e
              exact ⟨.inl (by omega), fun p hp => by have := HCAB.out p hp; omega⟩
            · rw [hle, ← hll]; exact boxed_gr (HBX.out.set _) hd
            · rw [hle, ← hll]; exact (hb'.grown hs (fun r e => by cases e; exact .inr (by omega))).later hd
            · rw [vals_at hi]
              by_cases h : i < pre.length
              · rw [if_pos h]; exact HOK.out i h
              · have : i = pre.length := by omega
                subst this
                rw [if_neg h]
                exact ⟨by rw [← HNR.out]; exact HN.out, HBB.out⟩
            · exact (HBPP.out.row hs (by simp; omega)).gr hd
            · exact boxed_gr (HBRR.out.kept hs (by simp; omega)) hd
            · exact Gr.trans (Gr.setCell HB.out (p := ⟨b5, 0, none⟩) (show w.heap.size ≤ b5 by omega) _) hd)
          have HDR := Lib.hid (show cn ≠ 1 → HasB W 0 w.heap.size (.slice (some ⟨gr, or_ + 1, none⟩) (ln - 1) (cn - 1)) (rows.drop (pre.length + 1)) from fun _ => by
            have h := HBD.out.drop (k := 1) (by omega)
            rw [List.drop_drop] at h
            exact h)
          have HD1 := Lib.hid (show cn = 1 → HasB W 0 w.heap.size (.slice (some ⟨gr, or_, none⟩) (ln - 1) 0) (rows.drop (pre.length + 1)) from fun h => by
            have h1 : ln = 1 := by omega
            have h2 : rows.drop (pre.length + 1) = [] := List.drop_of_length_le (by have := HLN.out; have := HNL.out.1; omega)
            rw [h2, h1]
            exact ⟨_, 0, rfl, Nat.le_refl _, by omega, fun i hi => absurd hi (by simp)⟩)
          by_cases hc1 : cn = 1
          · have H1 := Lib.hid (HD1.out hc1)
            obtain rfl : ln = 1 := by omega
            subst hc1
            have H2 := Lib.hid (NXT.out _ _ H1.out _ rfl)
            gi_wp2
            exact ⟨H2.out.1 _, H2.out.2⟩
          · have H1 := Lib.hid (HDR.out hc1)
            have hc2 : 2 ≤ cn := by omega
            have hc3 : (2 : Int) ≤ (cn : Int) := by omega
            have hc4 : ¬ (cn : Int) - 1 = 0 := by omega
            have hc5 : ¬ cn - 1 = 0 := by omega
            have H2 := Lib.hid (NXT.out _ _ H1.out _ rfl)
            gi_wp2
            exact ⟨H2.out.1 _, H2.out.2⟩
      · have t1 : ((nr : Int) != N) = true := by simpa using hnN
        have HNN := Lib.hid hnN
        clear hnN
        gi_wp2_with fail
        refine region_round (fun wz => wz.cell? ⟨b5, 0, none⟩ = some (.slice (some ⟨gr, or_, none⟩) ln cn) ∧ wz.cell? ⟨gr, or_, none⟩ = some (.slice xr nr cr) ∧ wz.cell? ⟨w.heap.size, 0, none⟩ = some (.int .i64 N)) (by kernel_rfl) (noDefer_spec (by kernel_rfl)) ⟨hcl, hcr, hcN⟩ (fun hHeld => ?_)
        refine wpAnyH_take (i := 0) (oi := ⟨some 23, .load 26 (.tmp 5), 26, "elements.go:59", #[], none⟩) (v := ?_) rfl (by kernel_rfl) (by kernel_rfl) (by kernel_rfl) (fun _ _ _ h => h) (Or.inl ⟨by rfl, ?_⟩) (by assumption) ?_
        rotate_left
        · intro w hSw; (try dsimp only at hSw); obtain ⟨hS0, hS1, hS2⟩ := hSw; go_simp; try with_reducible rfl
        try simp only [Act.put, List.setIfInBounds_toArray, List.set_cons_zero, List.set_cons_succ]
        refine wpAnyH_take (i := 1) (oi := ⟨some 24, .call ⟨.builtin .len, #[.tmp 23], #[26]⟩, 3, "elements.go:59", #[⟨0, .data⟩], none⟩) (v := ?_) rfl (by kernel_rfl) (by kernel_rfl) (by kernel_rfl) (fun _ _ _ h => h) (Or.inl ⟨by rfl, ?_⟩) (by assumption) ?_
        rotate_left
        · intro w hSw; (try dsimp only at hSw); obtain ⟨hS0, hS1, hS2⟩ := hSw; go_simp; try with_reducible rfl
        try simp only [Act.put, List.setIfInBounds_toArray, List.set_cons_zero, List.set_cons_succ]
        refine wpAnyH_take (i := 2) (oi := ⟨some 25, .binOp .eql 3 (.tmp 24) (.const (.int .i64 0)) 3, 4, "elements.go:59", #[⟨1, .data⟩], none⟩) (v := ?_) rfl (by kernel_rfl) (by kernel_rfl) (by kernel_rfl) (fun _ _ _ h => h) (Or.inl ⟨by rfl, ?_⟩) (by assumption) ?_
        rotate_left
        · intro w hSw; (try dsimp only at hSw); obtain ⟨hS0, hS1, hS2⟩ := hSw; go_simp; try with_reducible rfl
        try simp only [Act.put, List.setIfInBounds_toArray, List.set_cons_zero, List.set_cons_succ]
        refine wpAnyH_take (i := 3) (oi := ⟨some 26, .move (.tmp 25), 4, "elements.go:59", #[⟨2, .data⟩], none⟩) (v := ?_) rfl (by kernel_rfl) (by kernel_rfl) (by kernel_rfl) (fun _ _ _ h => h) (Or.inl ⟨by rfl, ?_⟩) (by assumption) ?_
        rotate_left
        · intro w hSw; (try dsimp only at hSw); obtain ⟨hS0, hS1, hS2⟩ := hSw; go_simp; try with_reducible rfl
        try simp only [Act.put, List.setIfInBounds_toArray, List.set_cons_zero, List.set_cons_succ]
        refine wpAnyH_take (i := 4) (oi := ⟨some 27, .load 26 (.tmp 5), 26, "elements.go:59", #[⟨3, .guard⟩], some (3, false)⟩) (v := ?_) rfl (by kernel_rfl) (by kernel_rfl) (by kernel_rfl) (fun _ _ _ h => h) (Or.inl ⟨by rfl, ?_⟩) (by assumption) ?_
        rotate_left
        · intro w hSw; (try dsimp only at hSw); obtain ⟨hS0, hS1, hS2⟩ := hSw; go_simp; try with_reducible rfl
        try simp only [Act.put, List.setIfInBounds_toArray, List.set_cons_zero, List.set_cons_succ]
        refine wpAnyH_take (i := 5) (oi := ⟨some 28, .indexAddr 26 (.tmp 27) (.const (.int .i64 0)), 0, "elements.go:59", #[⟨4, .data⟩, ⟨3, .guard⟩], some (3, false)⟩) (v := ?_) rfl (by kernel_rfl) (by kernel_rfl) (by kernel_rfl) (fun _ _ _ h => h) (Or.inl ⟨by rfl, ?_⟩) (by assumption) ?_
        rotate_left
        · intro w hSw; (try dsimp only at hSw); obtain ⟨hS0, hS1, hS2⟩ := hSw; go_simp; try with_reducible rfl
        try simp only [Act.put, List.setIfInBounds_toArray, List.set_cons_zero, List.set_cons_succ]
        refine wpAnyH_take (i := 6) (oi := ⟨some 29, .load 23 (.tmp 28), 23, "elements.go:59", #[⟨5, .data⟩, ⟨3, .guard⟩], some (3, false)⟩) (v := ?_) rfl (by kernel_rfl) (by kernel_rfl) (by kernel_rfl) (fun _ _ _ h => h) (Or.inl ⟨by rfl, ?_⟩) (by assumption) ?_
        rotate_left
        · intro w hSw; (try dsimp only at hSw); obtain ⟨hS0, hS1, hS2⟩ := hSw; go_simp; try with_reducible rfl
        try simp only [Act.put, List.setIfInBounds_toArray, List.set_cons_zero, List.set_cons_succ]
        refine wpAnyH_take (i := 7) (oi := ⟨some 30, .call ⟨.builtin .len, #[.tmp 29], #[23]⟩, 3, "elements.go:59", #[⟨6, .data⟩, ⟨3, .guard⟩], some (3, false)⟩) (v := ?_) rfl (by kernel_rfl) (by kernel_rfl) (by kernel_rfl) (fun _ _ _ h => h) (Or.inl ⟨by rfl, ?_⟩) (by assumption) ?_
        rotate_left
        · intro w hSw; (try dsimp only at hSw); obtain ⟨hS0, hS1, hS2⟩ := hSw; go_simp; try with_reducible rfl
        try simp only [Act.put, List.setIfInBounds_toArray, List.set_cons_zero, List.set_cons_succ]
        refine wpAnyH_take (i := 8) (oi := ⟨some 31, .fieldAddr 25 (.tmp 2) 0, 0, "elements.go:59", #[⟨3, .guard⟩], some (3, false)⟩) (v := ?_) rfl (by kernel_rfl) (by kernel_rfl) (by kernel_rfl) (fun _ _ _ h => h) (Or.inl ⟨by rfl, ?_⟩) (by assumption) ?_
        rotate_left
        · intro w hSw; (try dsimp only at hSw); obtain ⟨hS0, hS1, hS2⟩ := hSw; go_simp; try with_reducible rfl
        try simp only [Act.put, List.setIfInBounds_toArray, List.set_cons_zero, List.set_cons_succ]
        refine wpAnyH_take (i := 9) (oi := ⟨some 32, .load 3 (.tmp 31), 3, "elements.go:59", #[⟨8, .data⟩, ⟨3, .guard⟩], some (3, false)⟩) (v := ?_) rfl (by kernel_rfl) (by kernel_rfl) (by kernel_rfl) (fun _ _ _ h => h) (Or.inl ⟨by rfl, ?_⟩) (by assumption) ?_
        rotate_left
        · intro w hSw; (try dsimp only at hSw); obtain ⟨hS0, hS1, hS2⟩ := hSw; go_simp; try with_reducible rfl
        try simp only [Act.put, List.setIfInBounds_toArray, List.set_cons_zero, List.set_cons_succ]
        refine wpAnyH_take (i := 10) (oi := ⟨some 33, .binOp .neq 3 (.tmp 30) (.tmp 32) 3, 4, "elements.go:59", #[⟨7, .data⟩, ⟨9, .data⟩, ⟨3, .guard⟩], some (3, false)⟩) (v := ?_) rfl (by kernel_rfl) (by kernel_rfl) (by kernel_rfl) (fun _ _ _ h => h) (Or.inl ⟨by rfl, ?_⟩) (by assumption) ?_
        rotate_left
        · intro w hSw; (try dsimp only at hSw); obtain ⟨hS0, hS1, hS2⟩ := hSw; go_simp; try with_reducible rfl
        try simp only [Act.put, List.setIfInBounds_toArray, List.set_cons_zero, List.set_cons_succ]
        refine wpAnyH_take (i := 11) (oi := ⟨some 34, .pick (.tmp 26) (.const (.bool true)) (.tmp 33), 4, "elements.go:59", #[⟨3, .data⟩, ⟨10, .data⟩], none⟩) (v := ?_) rfl (by kernel_rfl) (by kernel_rfl) (by kernel_rfl) (fun _ _ _ h => h) (Or.inl ⟨by rfl, ?_⟩) (by assumption) ?_
        rotate_left
        · intro w hSw; (try dsimp only at hSw); obtain ⟨hS0, hS1, hS2⟩ := hSw; go_simp; try with_reducible rfl
        try simp only [Act.put, List.setIfInBounds_toArray, List.set_cons_zero, List.set_cons_succ]
        refine wpAnyH_take (i := 12) (oi := ⟨some 35, .move (.tmp 34), 4, "elements.go:59", #[⟨11, .data⟩, ⟨3, .chain⟩], none⟩) (v := ?_) rfl (by kernel_rfl) (by kernel_rfl) (by kernel_rfl) (fun _ _ _ h => h) (Or.inl ⟨by rfl, ?_⟩) (by assumption) ?_
        rotate_left
        · intro w hSw; (try dsimp only at hSw); obtain ⟨hS0, hS1, hS2⟩ := hSw; go_simp; try with_reducible rfl
        try simp only [Act.put, List.setIfInBounds_toArray, List.set_cons_zero, List.set_cons_succ]
        refine wpAnyH_take (i := 13) (oi := ⟨some 36, .move (.tmp 6), 22, "elements.go:59", #[⟨12, .guard⟩], some (12, false)⟩) (v := undef) rfl (by kernel_rfl) (by kernel_rfl) (by kernel_rfl) (fun _ _ _ h => h) (Or.inr ⟨by rfl, rfl⟩) (by assumption) ?_
        try simp only [Act.put, List.setIfInBounds_toArray, List.set_cons_zero, List.set_cons_succ]
        refine wpAnyH_take (i := 14) (oi := ⟨some 37, .load 26 (.tmp 5), 26, "elements.go:59", #[⟨12, .guard⟩], some (12, false)⟩) (v := undef) rfl (by kernel_rfl) (by kernel_rfl) (by kernel_rfl) (fun _ _ _ h => h) (Or.inr ⟨by rfl, rfl⟩) (by assumption) ?_
        try simp only [Act.put, List.setIfInBounds_toArray, List.set_cons_zero, List.set_cons_succ]
        refine wpAnyH_take (i := 15) (oi := ⟨some 38, .indexAddr 26 (.tmp 37) (.const (.int .i64 0)), 0, "elements.go:59", #[⟨14, .data⟩, ⟨12, .guard⟩], some (12, false)⟩) (v := undef) rfl (by kernel_rfl) (by kernel_rfl) (by kernel_rfl) (fun _ _ _ h => h) (Or.inr ⟨by rfl, rfl⟩) (by assumption) ?_
        try simp only [Act.put, List.setIfInBounds_toArray, List.set_cons_zero, List.set_cons_succ]
        refine wpAnyH_take (i := 16) (oi := ⟨some 39, .load 23 (.tmp 38), 23, "elements.go:59", #[⟨15, .data⟩, ⟨12, .guard⟩], some (12, false)⟩) (v := undef) rfl (by kernel_rfl) (by kernel_rfl) (by kernel_rfl) (fun _ _ _ h => h) (Or.inr ⟨by rfl, rfl⟩) (by assumption) ?_
        try simp only [Act.put, List.setIfInBounds_toArray, List.set_cons_zero, List.set_cons_succ]
        refine wpAnyH_take (i := 17) (oi := ⟨some 40, .call ⟨.value (.func 54), #[.tmp 36, .tmp 39], #[50, 23]⟩, 4, "elements.go:59", #[⟨13, .data⟩, ⟨16, .data⟩, ⟨12, .chain⟩, ⟨12, .guard⟩], some (12, false)⟩) (v := undef) rfl (by kernel_rfl) (by kernel_rfl) (by kernel_rfl) (fun _ _ _ h => h) (Or.inr ⟨by rfl, rfl⟩) (by assumption) ?_
        try simp only [Act.put, List.setIfInBounds_toArray, List.set_cons_zero, List.set_cons_succ]
        refine wpAnyH_take (i := 18) (oi := ⟨some 41, .unOp .not 4 (.tmp 40), 4, "elements.go:59", #[⟨17, .data⟩, ⟨12, .guard⟩], some (12, false)⟩) (v := undef) rfl (by kernel_rfl) (by kernel_rfl) (by kernel_rfl) (fun _ _ _ h => h) (Or.inr ⟨by rfl, rfl⟩) (by assumption) ?_
        try simp only [Act.put, List.setIfInBounds_toArray, List.set_cons_zero, List.set_cons_succ]
        refine wpAnyH_take (i := 19) (oi := ⟨some 42, .pick (.tmp 35) (.const (.bool true)) (.tmp 41), 4, "elements.go:59", #[⟨12, .data⟩, ⟨18, .data⟩], none⟩) (v := ?_) rfl (by kernel_rfl) (by kernel_rfl) (by kernel_rfl) (fun _ _ _ h => h) (Or.inl ⟨by rfl, ?_⟩) (by assumption) ?_
        rotate_left
        · intro w hSw; (try dsimp only at hSw); obtain ⟨hS0, hS1, hS2⟩ := hSw; go_simp; try with_reducible rfl
        try simp only [Act.put, List.setIfInBounds_toArray, List.set_cons_zero, List.set_cons_succ]
        refine wpAnyH_done (by kernel_rfl) ?_ _
        refine noOut_normal ?_
        gi_wp2
        obtain ⟨o1, ⟨o2, o3⟩, o4⟩ := OUT.out (fun h => HNN.out (by rw [HNR.out]; exact h.2.1)) _ rfl
        exact ⟨o1 _, ⟨rfl, o2, o3⟩, o4⟩
  case done =>
    rintro D ys W hD hall ⟨⟨al, cn, hbx, hbl, hpl, hok, hbp, hbr⟩, hb⟩ hK
    have hcl := hbx.cell
    have hcr2 := hbr.cell
    have hfr2 := hbr.frozen
    have HB := Lib.hid (show Gr w W from hb)
    have HOK := Lib.hid hok
    have HBRR := Lib.hid hbr
    have HALL := Lib.hid hall
    have hyl := len_range hall
    obtain ⟨ln, hln⟩ : ∃ ln, ln = nA - ys.length := ⟨_, rfl⟩
    have HLN := Lib.hid hln
    have hcap := hbl.len.2
    have HM := Lib.hid hyl
    have HBX := Lib.hid hbx
    rw [← hln] at hcl hcap
    clear hb hok hall hbl hbp hbx hln hyl
    have FIN := Lib.hid (show EVr N (Oj.mods ch S lv sp) rows ↔ ln = 0 from ⟨fun h => by have := h.1; have := HNL.out.1; have := HLN.out; have := HM.out; omega, fun h => ⟨by have := HNL.out.1; have := HLN.out; have := HM.out; omega, fun i hi => by
      have h1 := HOK.out i (by rw [HM.out]; exact hi)
      rwa [Oj.vals_all HALL.out] at h1⟩⟩)
    have hbz : ((ln : Int) == 0) = decide (EVr N (Oj.mods ch S lv sp) rows) := by
      rw [Bool.eq_iff_iff, decide_eq_true_iff, FIN.out]; simp
    obtain ⟨bz, hbze⟩ : ∃ bz, bz = decide (EVr N (Oj.mods ch S lv sp) rows) := ⟨_, rfl⟩
    rw [← hbze] at hbz
    have HBZ := Lib.hid hbze
    clear hbze
    go_wp2_with fail
    clear hbz
    have hK' := (KeepsOthers.setCell W ⟨w.heap.size + 2, 0, none⟩ (.bool bz)).same D _ hK rfl
    have e0 := (boxed_kept (HBRR.out.set (.bool bz)) (grownBy_putObj' _ D (.deferred none)) (fun r e => by cases e; exact ⟨_, hK', rfl⟩)).cell
    refine ⟨by simp, .inl ⟨_, _, rfl, run_takeDeferred hK', ?_⟩⟩
    refine ⟨.bool bz, ?_, ret_bool HBZ.out, Below.trans (show Below w.heap.size w _ from Gr.setCell HB.out (p := ⟨w.heap.size + 2, 0, none⟩) (by simp) (.bool bz)) (belowK_b (w := w) (Nat.le_refl _) _ D _ (.deferred none) (by rw [hs6] at hD; omega) hK' rfl rfl)⟩
    simp only [Nat.add_assoc, Nat.reduceAdd]
    simp [results, Try.f34, go_sem, e0]
end Go.Proofs.Ytlfiakpmnkhcdaa.Mo
