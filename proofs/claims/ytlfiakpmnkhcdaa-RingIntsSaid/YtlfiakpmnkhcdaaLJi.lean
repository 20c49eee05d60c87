import Derived.Test.YtlfiakpmnkhcdaaLJh
import Derived.OrdersIn
import Derived.OrdersHeld
import Derived.RangeFuncCalls
namespace Go.Proofs.Ytlfiakpmnkhcdaa.Mo
open Go.RowKit Go.Shelf
set_option linter.unusedVariables false
attribute [local go_sem] Oper.semAt_some
def NoOut (Q : Exit → Act → World → Prop) : Exit → Act → World → Prop
  | .outgrown, _, _ => False
  | e, a, w => Q e a w
theorem noOut_none {Q : Exit → Act → World → Prop} (h : LetsOut (NoOut Q)) : False := h.elim fun _ h => h.elim fun _ h => h
theorem about_wide {P : Program} {o : Oper} {w : World} {ρ : Operand → Value} {l : Nat} : ∀ f, o.about P w ρ = some f → (Fence.wide.inRound l).fn f := fun _ _ => trivial
theorem wpOp_round {P : Program} {ops : Array Oper} {Q : Exit → Act → World → Prop} {l n : Nat} (hd : ∀ (i : Nat) (o : Oper) (c : Call), ops[i]? = some o → o.op ≠ Op.defer c) {i : Nat} {K K' : Act → World → Prop} (hK : ∀ a w, K a w → K' a w) {a : Act} {w : World}
    (h : wpOp P ops (NoOut Q) i K a w) : wpOpIn (Fence.wide.inRound l) n P ops Q i K' a w := by
  unfold wpOp at h
  unfold wpOpIn
  split
  · rename_i ho
    simp only [ho] at h
    exact hK _ _ h
  · rename_i o ho
    simp only [ho] at h
    split
    · rename_i hw
      simp only [hw, if_true] at h
      rcases h with h | h
      · unfold Oper.wp at h
        unfold Oper.wpIn
        refine ⟨about_wide, ?_⟩
        rw [Oper.semAt_eq _ _ _ (fun c => hd i o c ho)]
        generalize (execOp a.eval o).run P w = r at *
        cases r with
        | ok x w' =>
          cases x <;> simp only [Oper.upon, Oper.uponIn] at h ⊢
          case value u => exact hK _ _ h
          case skip => exact hK _ _ h
          case defer d => exact hK _ _ h
          case enter f args =>
            refine ⟨fun e => (by cases e), CallsIn.inRound l (callsIn_wide.2 (Calls.mono h fun e w'' he => ?_))⟩
            cases e with
            | returned u => exact hK _ _ he
            | panicked c => exact he
            | outgrown => exact (noOut_none he).elim
          case row row args =>
            refine ⟨fun e => (by cases e), fun c cs _ => ?_⟩
            obtain ⟨v, w'', r, s⟩ := h c cs
            exact ⟨v, w'', hK _ _ r, stepsIn_wide.2 s⟩
        | halt x w' =>
          cases x <;> simp only [Oper.upon, Oper.uponIn] at h ⊢
          case panic u => exact h
      · exact (noOut_none h.2).elim
    · rename_i hw
      simp only [hw] at h
      exact ⟨about_wide, hK _ _ h⟩
theorem wpAny_round {P : Program} {md : Region.Mode} {ops : Array Oper} {Q : Exit → Act → World → Prop} {l n : Nat} (hd : ∀ (i : Nat) (o : Oper) (c : Call), ops[i]? = some o → o.op ≠ Op.defer c) :
    ∀ (fuel : Nat) (listed : Array Bool) (a : Act) (w : World), wpAny P md ops (NoOut Q) fuel listed a w → wpAnyIn (Fence.wide.inRound l) n P md ops Q fuel listed a w
  | 0, _, _, _, h => h
  | fuel + 1, _, _, _, h => ⟨h.1, fun i hi => wpOp_round hd (fun a w => wpAny_round hd fuel _ a w) (h.2 i hi)⟩
theorem region_round {P : Program} {ops : Array Oper} {Q : Exit → Act → World → Prop} {l n id : Nat} {a : Act} {w : World} (S : World → Prop) (hm : P.follows .mixedOrders = true) (hd : ∀ (i : Nat) (o : Oper) (c : Call), ops[i]? = some o → o.op ≠ Op.defer c) (hS : S w.drew)
    (h : S w.drew → wpAnyH P .any ops (NoOut Q) S ops.size (Array.replicate ops.size false) a w.drew) : (Code.region id ops true).wpIn (Fence.wide.inRound l) n P Q a w :=
  wpIn_region_any hm (wpAny_round hd _ _ _ _ (wpAny_of_held _ _ _ _ (h hS)))
def noDefer (ops : Array Oper) : Bool := ops.toList.all fun o => match o.op with
  | .defer _ => false
  | _ => true
theorem noDefer_spec {ops : Array Oper} (h : noDefer ops = true) (i : Nat) (o : Oper) (c : Call) (hi : ops[i]? = some o) : o.op ≠ Op.defer c := fun e => by
  have h1 := List.all_eq_true.1 h o (by
    have h2 := Array.getElem?_eq_some_iff.1 hi
    obtain ⟨h3, h4⟩ := h2
    rw [← h4]; exact Array.getElem_mem_toList h3)
  simp only [e] at h1
  cases h1
theorem noOut_normal {Q : Exit → Act → World → Prop} {a : Act} {w : World} (h : Q .normal a w) : NoOut Q .normal a w := h
def rwL (M : List Int) (F : Nat → Int → List Int) (pre : List (Oj.Pl M.length)) : List (List Int) := pre.mapIdx (fun i x => F i (Op.cf M x.1))
theorem rwL_len (M : List Int) (F : Nat → Int → List Int) (pre : List (Oj.Pl M.length)) : (rwL M F pre).length = pre.length := by simp [rwL]
theorem rwL_snoc (M : List Int) (F : Nat → Int → List Int) (pre : List (Oj.Pl M.length)) (x : Oj.Pl M.length) : rwL M F (pre ++ [x]) = rwL M F pre ++ [F pre.length (Op.cf M x.1)] := by simp [rwL, List.mapIdx_append]
def rwA (M : List Int) (F : Nat → Int → List Int) : List (List Int) := (List.range M.length).map (fun i => F i (Op.cf M i))
theorem rwA_len (M : List Int) (F : Nat → Int → List Int) : (rwA M F).length = M.length := by simp [rwA]
theorem rwA_at (M : List Int) (F : Nat → Int → List Int) {i : Nat} (hi : i < M.length) : rw_ (rwA M F) i = F i (Op.cf M i) := by
  simp [rwA, rw_, List.getD_eq_getElem?_getD, hi]
theorem rwL_all {M : List Int} (F : Nat → Int → List Int) {ys : List (Oj.Pl M.length)} (h : Oj.idx ys = List.range M.length) : rwL M F ys = rwA M F := by
  have hl : ys.length = M.length := len_range h
  apply List.ext_getElem
  · rw [rwL_len, rwA_len, hl]
  · intro i h1 h2
    have hi : i < ys.length := by rw [rwL_len] at h1; exact h1
    have e : (ys[i]).1 = i := by
      have h3 : (Oj.idx ys)[i]? = (List.range M.length)[i]? := by rw [h]
      rw [Oj.idx, List.getElem?_map, List.getElem?_eq_getElem hi, List.getElem?_range (by omega)] at h3
      simpa using h3
    simp only [rwL, rwA, List.getElem_mapIdx, List.getElem_map, List.getElem_range]
    rw [e]
theorem own_some {x : Option Addr} {n c p : Nat} (h : (Value.slice x n c).ownBlock = some p) : ∃ q : Addr, x = some q ∧ p = q.block := by
  cases x with
  | none => simp [Value.ownBlock] at h
  | some q => simp [Value.ownBlock] at h; exact ⟨q, rfl, h.symm⟩
theorem OwnR.keptn {W W' : World} {base : Nat} {v : Value} {ls : List (List Int)} {row : Option Nat} (h : OwnR W base v ls) (hg : W.grownBy W' row) (hr : ∀ r, row = some r → ∃ o : Obj, W.heap[r]? = some o ∧ o.isCells = false) : OwnR W' base v ls := by
  obtain ⟨vs, h1, h2⟩ := h
  refine ⟨vs, h1.kept hg ?_, fun i hi => ⟨(h2 i hi).1.kept hg hr, (h2 i hi).2⟩⟩
  cases hv : v.ownBlock with
  | none => exact .inl rfl
  | some k =>
    refine .inr fun e => ?_
    obtain ⟨o, q1, q2⟩ := hr k e.symm
    obtain ⟨o', q3, q4⟩ := row_cells h1 k hv
    rw [q1] at q3; cases q3; rw [q4] at q2; cases q2
theorem OwnR.cells {W : World} {base : Nat} {v : Value} {ls : List (List Int)} (h : OwnR W base v ls) : ∀ r, v.ownBlock = some r → ∃ o : Obj, W.heap[r]? = some o ∧ o.isCells = true := by
  obtain ⟨vs, h1, _⟩ := h
  exact row_cells h1
def Blk (W : World) (b : Nat) (t : TypeId) (cs : Array Value) : Prop := W.heap[b]? = some (.cells cs t (0, 0))
theorem Blk.lt {W : World} {b : Nat} {t : TypeId} {cs : Array Value} (h : Blk W b t cs) : b < W.heap.size := (Array.getElem?_eq_some_iff.1 (show W.heap[b]? = _ from h)).1
theorem Blk.cell {W : World} {b : Nat} {t : TypeId} {cs : Array Value} (h : Blk W b t cs) (i : Nat) : W.cell? ⟨b, i, none⟩ = cs[i]? := by simp [World.cell?, show W.heap[b]? = _ from h]
theorem Blk.frozen {W : World} {b : Nat} {t : TypeId} {cs : Array Value} (h : Blk W b t cs) (i : Nat) : W.frozen? ⟨b, i, none⟩ = false := by simp [World.frozen?, show W.heap[b]? = _ from h]
theorem Blk.new (W : World) (t : TypeId) (cs : Array Value) : Blk (W.alloc (.cells cs t)) W.heap.size t cs := World.alloc_heap_new W _
theorem Blk.gr {W W' : World} {b : Nat} {t : TypeId} {cs : Array Value} (h : Blk W b t cs) (hg : Gr W W') : Blk W' b t cs := (hg.block b h.lt).trans h
theorem Blk.row {W W' : World} {b : Nat} {t : TypeId} {cs : Array Value} {row : Option Nat} (h : Blk W b t cs) (hg : W.grownBy W' row) (hr : some b ≠ row) : Blk W' b t cs := (hg.block b h.lt hr).trans h
theorem Blk.keptn {W W' : World} {b : Nat} {t : TypeId} {cs : Array Value} {row : Option Nat} (h : Blk W b t cs) (hg : W.grownBy W' row) (hr : ∀ r, row = some r → ∃ o : Obj, W.heap[r]? = some o ∧ o.isCells = false) : Blk W' b t cs :=
  h.row hg (fun e => by obtain ⟨o, ho, hc⟩ := hr b e.symm; rw [show W.heap[b]? = _ from h] at ho; cases ho; cases hc)
theorem Blk.set {W : World} {b : Nat} {t : TypeId} {cs : Array Value} (h : Blk W b t cs) (i : Nat) (x : Value) : Blk (W.setCell ⟨b, i, none⟩ x) b t (cs.setIfInBounds i x) := by
  obtain ⟨hlt, hk⟩ := Array.getElem?_eq_some_iff.1 (show W.heap[b]? = _ from h)
  show (W.heap.modify b _)[b]? = _
  rw [Array.getElem?_eq_getElem (by rw [Array.size_modify]; exact hlt), Array.getElem_modify_self, hk]
  rfl
theorem Blk.p7 {W : World} {b : Nat} {t : TypeId} {a0 a1 a2 a3 a4 a5 a6 : Value} (h : Blk W b t #[a0, a1, a2, a3, a4, a5, a6]) : W.cell? ⟨b, 0, none⟩ = some a0 ∧ W.cell? ⟨b, 1, none⟩ = some a1 ∧ W.cell? ⟨b, 2, none⟩ = some a2 ∧ W.cell? ⟨b, 3, none⟩ = some a3 ∧ W.cell? ⟨b, 4, none⟩ = some a4 ∧ W.cell? ⟨b, 5, none⟩ = some a5 ∧ W.cell? ⟨b, 6, none⟩ = some a6 :=
  ⟨h.cell 0, h.cell 1, h.cell 2, h.cell 3, h.cell 4, h.cell 5, h.cell 6⟩
theorem Blk.p3 {W : World} {b : Nat} {t : TypeId} {a0 a1 a2 : Value} (h : Blk W b t #[a0, a1, a2]) : W.cell? ⟨b, 0, none⟩ = some a0 ∧ W.cell? ⟨b, 1, none⟩ = some a1 ∧ W.cell? ⟨b, 2, none⟩ = some a2 :=
  ⟨h.cell 0, h.cell 1, h.cell 2⟩
theorem Blk.f3 {W : World} {b : Nat} {t : TypeId} {cs : Array Value} (h : Blk W b t cs) : W.frozen? ⟨b, 0, none⟩ = false ∧ W.frozen? ⟨b, 1, none⟩ = false ∧ W.frozen? ⟨b, 2, none⟩ = false :=
  ⟨h.frozen 0, h.frozen 1, h.frozen 2⟩
def ElemP (lv : Int) (sp : Bool) (ls : List (List Int)) (w : World) (e : Ending) (w' : World) : Prop := ∃ u, e = .returned (.agg #[.int .i64 lv, .bool sp, u]) ∧ HasB w' w.heap.size w'.heap.size u ls ∧ Gr w w'
set_option maxRecDepth 100000 in
set_option maxHeartbeats 8000000 in
theorem element_any (N p1 p2 : Int) (xC : Option Addr) (nC cC : Nat) (S p5 p6 : Int) (lv : Nat) (sp : Bool) (ch : List Int) (fn : Nat) (caps : Array Value) (F : Nat → Int → List Int) (w : World) (h1 : 1 ≤ lv) (h2 : lv ≤ ch.length) (h3 : ch.length ≤ 1000) (hC : HasP w (.slice xC nC cC) ch)
    (hen : ∀ (args : Array Value) (w : World), (callFunc fn args).run Try.prog w = .ok (.enter fn args) w)
    (hf : ∀ i j, i < (Oj.mods ch S lv sp).length → j < (Oj.mods ch S lv sp).length → ∀ W, Gr w W → Calls Try.prog fn (#[.int .i64 i, .int .u32 (Op.cf (Oj.mods ch S lv sp) j)] ++ caps) W (NewP (F i (Op.cf (Oj.mods ch S lv sp) j)) W)) :
    Calls Try.prog 15 #[.agg #[.int .i64 N, .int .u32 p1, .int .i64 p2, .slice xC nC cC, .int .u32 S, .int .i64 p5, .int .u32 p6], .int .i64 lv, .bool sp, .func (.func fn) #[] caps] w (ElemP lv sp (rwA (Oj.mods ch S lv sp) F) w) := by
  have hML := Oj.mods_len (S := S) (sp := sp) h2
  have hMl : (Oj.mods ch S lv sp).length ≤ 1001 := by rw [hML]; split <;> omega
  have HML := Lib.hid hMl
  have HF := Lib.hid hf
  have HC := Lib.hid hC
  have HAB := Lib.hid (show ∀ p, (Value.slice xC nC cC).ownBlock = some p → p < w.heap.size from fun p hp => hC.lt (by omega) p hp)
  obtain ⟨W4, hW4⟩ : ∃ W4, W4 = (((w.alloc (.cells #[.int .i64 N, .int .u32 p1, .int .i64 p2, .slice xC nC cC, .int .u32 S, .int .i64 p5, .int .u32 p6] 25)).alloc (.cells #[.func (.func fn) #[] caps] 52)).alloc (.cells #[.int .i64 0, .bool false, .slice none 0 0] 28)).alloc (.cells #[.slice none 0 0] 26) := ⟨_, rfl⟩
  have HG4 := Lib.hid (show Gr w W4 by rw [hW4]; exact (((Gr.new w _).alloc _).alloc _).alloc _)
  have hs4 : W4.heap.size = w.heap.size + 4 := by rw [hW4]; simp
  have HB7 := Lib.hid (show Blk W4 (w.heap.size + 1) 52 #[.func (.func fn) #[] caps] by
    rw [hW4]
    have b := Blk.new (w.alloc (.cells #[.int .i64 N, .int .u32 p1, .int .i64 p2, .slice xC nC cC, .int .u32 S, .int .i64 p5, .int .u32 p6] 25)) 52 #[.func (.func fn) #[] caps]
    rw [World.size_alloc] at b
    exact (b.gr (Gr.new _ _)).gr (Gr.new _ _))
  have HB8 := Lib.hid (show Blk W4 (w.heap.size + 2) 28 #[.int .i64 0, .bool false, .slice none 0 0] by
    rw [hW4]
    have b := Blk.new ((w.alloc (.cells #[.int .i64 N, .int .u32 p1, .int .i64 p2, .slice xC nC cC, .int .u32 S, .int .i64 p5, .int .u32 p6] 25)).alloc (.cells #[.func (.func fn) #[] caps] 52)) 28 #[.int .i64 0, .bool false, .slice none 0 0]
    rw [World.size_alloc, World.size_alloc] at b
    exact b.gr (Gr.new _ _))
  have HB9 := Lib.hid (show Boxed W4 (w.heap.size + 3) 26 (.slice none 0 0) by
    rw [hW4]
    have b := Boxed.new (((w.alloc (.cells #[.int .i64 N, .int .u32 p1, .int .i64 p2, .slice xC nC cC, .int .u32 S, .int .i64 p5, .int .u32 p6] 25)).alloc (.cells #[.func (.func fn) #[] caps] 52)).alloc (.cells #[.int .i64 0, .bool false, .slice none 0 0] 28)) 26 (.slice none 0 0)
    rw [World.size_alloc, World.size_alloc, World.size_alloc] at b
    exact b)
  clear hML hMl hf hC
  refine (callsIn_wide (n := 9)).1 ?_
  refine callsIn_of_wp_marks Try.func15 rfl trivial ?_ rfl
  simp only [Try.ntmps15, List.size_toArray, List.length_cons, List.length_nil, Nat.reduceAdd, Nat.reduceSub, Array.replicate_succ, Array.replicate_zero, List.push_toArray, List.append_toArray, List.nil_append, List.cons_append]
  refine wpIn_wide.2 ?_
  go_wp2_with fail
  rw [← hW4]
  refine (moduli_any N p1 p2 xC nC cC S p5 p6 lv sp _).mono ?_
  rintro e w5 ⟨rfl, hw5⟩
  have HM := Lib.hid (show MI (w.heap.size + 4) xC nC cC S lv sp ch w5 by rw [← hw5, ← hs4]; exact MI.new N p1 p2 xC nC cC S p5 p6 lv sp ch W4 (HC.out.later HG4.out))
  have HG5 := Lib.hid (show Gr W4 w5 by rw [← hw5]; exact ((Gr.new _ _).alloc _).alloc _)
  have hs5 : w5.heap.size = w.heap.size + 7 := by rw [← hw5]; simp [hs4]
  rw [hs4]
  clear hw5 hW4
  go_wp2_with fail
  refine (wpIn_wide (n := 9)).1 ?_
  refine wpIn_rangeFunc_ownG rfl (by omega) (gf := 38) (lb := #[.pointer (some ⟨w.heap.size + 4, 0, none⟩), .pointer (some ⟨w.heap.size + 5, 0, none⟩), .pointer (some ⟨w.heap.size + 6, 0, none⟩)]) rfl trivial (enters_of Try.func38 (by kernel_rfl) rfl)
    (moduli_stops (9 - 1) (by omega) (w.heap.size + 4) xC nC cC S lv sp ch h1 h2 _ HM.out) (fun h k m => k (h m)) (fun W l o o' hl ho hc _ m => m.kept (grownBy_putObj' W l o') (fun r e => by cases e; exact ⟨o, ho, hc⟩)) (Below.refl _ _) (fun _ => rfl)
    (fun pre W => (∃ v, Boxed W (w.heap.size + 3) 26 v ∧ OwnR W (w.heap.size + 7) v (rwL _ F pre) ∧ Blk W (w.heap.size + 1) 52 #[.func (.func fn) #[] caps] ∧ Blk W (w.heap.size + 2) 28 #[.int .i64 0, .bool false, .slice none 0 0] ∧ w.heap.size + 7 ≤ W.heap.size) ∧ Below w.heap.size w W)
    (fun c pre W => False)
    (OwnFrom.and (Own.from (fun s X Y row h hg hr => by
      obtain ⟨v, k1, k2, k3, k4, k5⟩ := h
      exact ⟨v, boxed_kept k1 hg hr, k2.keptn hg hr, k3.keptn hg hr, k4.keptn hg hr, Nat.le_trans k5 hg.size⟩) _) (ownFrom_below (Nat.le_refl _) (by rw [hs5]; omega)))
    (fun c s X Y row h hg hr => h)
    ⟨⟨_, boxed_gr HB9.out HG5.out, OwnR.nil _ _, HB7.out.gr HG5.out, HB8.out.gr HG5.out, by omega⟩, HG4.out.trans HG5.out⟩
    (fun x => { tmps := #[.agg #[.int .i64 N, .int .u32 p1, .int .i64 p2, .slice xC nC cC, .int .u32 S, .int .i64 p5, .int .u32 p6], .int .i64 lv, .bool sp, .func (.func fn) #[] caps, .pointer (some ⟨w.heap.size, 0, none⟩), undef, undef, .pointer (some ⟨w.heap.size + 1, 0, none⟩), .pointer (some ⟨w.heap.size + 2, 0, none⟩), .pointer (some ⟨w.heap.size + 3, 0, none⟩), .int .u32 (Op.cf (Oj.mods ch S lv sp) x.1), .agg #[.int .i64 N, .int .u32 p1, .int .i64 p2, .slice xC nC cC, .int .u32 S, .int .i64 p5, .int .u32 p6], .int .i64 lv, .bool sp, .func (.func 38) #[] #[.pointer (some ⟨w.heap.size + 4, 0, none⟩), .pointer (some ⟨w.heap.size + 5, 0, none⟩), .pointer (some ⟨w.heap.size + 6, 0, none⟩)], .int .u32 (Op.cf (Oj.mods ch S lv sp) x.1), undef, undef, undef, undef, undef, undef, undef, undef, undef, undef, undef, undef], defers := [] }) ?assign ?body ?done ?stop
  case assign =>
    intro l x W K hK
    gi_wp2
    exact hK
  case stop =>
    intro D c pre W hD _ h hK
    exact h.elim
  case body =>
    rintro l pre x W ⟨⟨v, hbx, hown, hb7, hb8, hsz⟩, hb⟩ hlt
    have hc9 := hbx.cell
    have HC7 := Lib.hid (show W.cell? ⟨w.heap.size + 1, 0, none⟩ = some (.func (.func fn) #[] caps) from hb7.cell 0)
    obtain ⟨av, cv, hv, -, -⟩ := hown.form
    rw [rwL_len] at hv
    subst hv
    have HBX := Lib.hid hbx
    have HOW := Lib.hid hown
    have HB7 := Lib.hid hb7
    have HB8 := Lib.hid hb8
    have HBL := Lib.hid (show Gr w W from hb)
    have HSZ := Lib.hid hsz
    have HB2 := Lib.hid (show ∀ Z, Gr W Z → Gr w Z from fun Z hZ => HBL.out.trans hZ)
    have HLN := Lib.hid (show (rwL (Oj.mods ch S lv sp) F pre).length ≤ 1000000 by rw [rwL_len]; have := HML.out; omega)
    have FIN := Lib.hid (show ∀ (W1 : World) (xu : Option Addr) (cu : Nat) (v' : Value) (w2 : World), Gr W W1 → HasP W1 (.slice xu (F pre.length (Op.cf (Oj.mods ch S lv sp) x.1)).length cu) (F pre.length (Op.cf (Oj.mods ch S lv sp) x.1)) → (∀ p, xu = some p → W.heap.size ≤ p.block) → OwnR w2 (w.heap.size + 7) v' (rwL (Oj.mods ch S lv sp) F pre ++ [F pre.length (Op.cf (Oj.mods ch S lv sp) x.1)]) → (W1.alloc (.cells #[.slice xu (F pre.length (Op.cf (Oj.mods ch S lv sp) x.1)).length cu] 23)).grownBy w2 (Value.slice av pre.length cv).ownBlock →
        KeepsFrom w5.heap.size W (w2.setCell ⟨w.heap.size + 3, 0, none⟩ v') ∧ MK (w.heap.size + 4) xC nC cC S lv sp ch W (w2.setCell ⟨w.heap.size + 3, 0, none⟩ v') ∧ (∃ v, Boxed (w2.setCell ⟨w.heap.size + 3, 0, none⟩ v') (w.heap.size + 3) 26 v ∧ OwnR (w2.setCell ⟨w.heap.size + 3, 0, none⟩ v') (w.heap.size + 7) v (rwL _ F (pre ++ [x])) ∧ Blk (w2.setCell ⟨w.heap.size + 3, 0, none⟩ v') (w.heap.size + 1) 52 #[.func (.func fn) #[] caps] ∧ Blk (w2.setCell ⟨w.heap.size + 3, 0, none⟩ v') (w.heap.size + 2) 28 #[.int .i64 0, .bool false, .slice none 0 0] ∧ w.heap.size + 7 ≤ (w2.setCell ⟨w.heap.size + 3, 0, none⟩ v').heap.size) ∧ Below w.heap.size w (w2.setCell ⟨w.heap.size + 3, 0, none⟩ v') from by
      intro W1 xu cu v' w2 hg1 _ _ ho2 hgr
      have hg2 := hg1.alloc (.cells #[.slice xu (F pre.length (Op.cf (Oj.mods ch S lv sp) x.1)).length cu] 23)
      have hoa := HOW.out.gr hg2
      have hs := grown_cell w2 (w.heap.size + 3) 0 v'
      have hne : ∀ b, b < w.heap.size + 7 → some b ≠ (Value.slice av pre.length cv).ownBlock := fun b hb e => by have := (hoa.lt b e.symm).1; omega
      have hb9 : Boxed w2 (w.heap.size + 3) 26 (.slice av pre.length cv) := (boxed_gr HBX.out hg2).kept hgr (hne _ (by omega))
      refine ⟨((gr_from hg2).trans (keeps_grown hgr hoa.cells)).trans ((KeepsOthers.setCell w2 _ _).from _), fun hm => ((hm.gr hg2).row hgr (fun r e => ?_)).row hs (fun r e => ?_), ⟨v', hb9.set _, ?_, ?_, ?_, ?_⟩, ?_⟩
      · have h5 := (hoa.lt r e).1
        exact ⟨.inr (by omega), fun p hp => by have := HAB.out p hp; omega⟩
      · cases e
        exact ⟨.inl (by omega), fun p hp => by have := HAB.out p hp; omega⟩
      · rw [rwL_snoc]; exact ho2.set (by omega) _
      · exact ((HB7.out.gr hg2).row hgr (hne _ (by omega))).row hs (by simp)
      · exact ((HB8.out.gr hg2).row hgr (hne _ (by omega))).row hs (by simp)
      · have := hg2.size
        have := hgr.size
        have := HSZ.out
        have := hs.size
        omega
      · exact Gr.setCell (hoa.grown (HBL.out.trans hg2) hgr (by omega)) (p := ⟨w.heap.size + 3, 0, none⟩) (by simp) _)
    clear hbx hown hb7 hb8 hb hsz
    gi_wp2_with fail
    refine region_round (fun wz => wz.cell? ⟨w.heap.size + 1, 0, none⟩ = some (.func (.func fn) #[] caps)) (by kernel_rfl) (noDefer_spec (by kernel_rfl)) HC7.out (fun hHeld => ?_)
    refine wpAnyH_take (i := 1) (oi := ⟨some 17, .load 52 (.tmp 7), 52, "elements.go:28", #[], none⟩) (v := ?_) rfl (by kernel_rfl) (by kernel_rfl) (by kernel_rfl) (fun _ _ _ h => h) (Or.inl ⟨by rfl, ?_⟩) (by assumption) ?_
    rotate_left
    · intro w hSw; (try dsimp only at hSw); go_simp; try with_reducible rfl
    try simp only [Act.put, List.setIfInBounds_toArray, List.set_cons_zero, List.set_cons_succ]
    refine wpAnyH_take (i := 4) (oi := ⟨some 20, .move (.tmp 10), 22, "elements.go:28", #[], none⟩) (v := ?_) rfl (by kernel_rfl) (by kernel_rfl) (by kernel_rfl) (fun _ _ _ h => h) (Or.inl ⟨by rfl, ?_⟩) (by assumption) ?_
    rotate_left
    · intro w hSw; (try dsimp only at hSw); go_simp; try with_reducible rfl
    try simp only [Act.put, List.setIfInBounds_toArray, List.set_cons_zero, List.set_cons_succ]
    have hG : Gr W W.drew := Below.drew (Gr.refl W)
    refine wpAnyH_ready (rs := [0, 2]) (by kernel_rfl) (by simp) ?_
    refine AllReadyH.cons (o := ⟨some 16, .load 26 (.tmp 9), 26, "elements.go:28", #[], none⟩) rfl (fun K hK => ?_) (AllReadyH.cons (o := ⟨some 18, .load 26 (.tmp 9), 26, "elements.go:28", #[], none⟩) rfl (fun K hK => ?_) AllReadyH.nil)
    · go_simp
      refine hK.out _ _ hHeld (fun hHeld => ?_)
      clear hK K
      try simp only [Act.put, List.setIfInBounds_toArray, List.set_cons_zero, List.set_cons_succ]
      refine wpAnyH_ready (rs := [2]) (by kernel_rfl) (by simp) ?_
      refine AllReadyH.cons (o := ⟨some 18, .load 26 (.tmp 9), 26, "elements.go:28", #[], none⟩) rfl (fun K hK => ?_) AllReadyH.nil
      go_simp
      refine hK.out _ _ hHeld (fun hHeld => ?_)
      clear hK K
      try simp only [Act.put, List.setIfInBounds_toArray, List.set_cons_zero, List.set_cons_succ]
      refine wpAnyH_take (i := 3) (oi := ⟨some 19, .call ⟨.builtin .len, #[.tmp 18], #[26]⟩, 3, "elements.go:28", #[⟨2, .data⟩], none⟩) (v := ?_) rfl (by kernel_rfl) (by kernel_rfl) (by kernel_rfl) (fun _ _ _ h => h) (Or.inl ⟨by rfl, ?_⟩) (by assumption) ?_
      rotate_left
      · intro w hSw; (try dsimp only at hSw); go_simp; try with_reducible rfl
      try simp only [Act.put, List.setIfInBounds_toArray, List.set_cons_zero, List.set_cons_succ]
      refine wpAnyH_ready (rs := [5]) (by kernel_rfl) (by simp) ?_
      refine AllReadyH.cons (o := ⟨some 21, .call ⟨.value (.tmp 17), #[.tmp 19, .tmp 20], #[3, 50]⟩, 23, "elements.go:28", #[⟨1, .data⟩, ⟨3, .data⟩, ⟨4, .data⟩], none⟩) rfl (fun K hK => ?_) AllReadyH.nil
      go_simp
      refine (HF.out pre.length x.1 hlt x.2 _ (HB2.out _ hG)).mono ?_
      rintro e W1 ⟨xu, nu, cu, rfl, hpu, hfu, hgu⟩
      obtain ⟨rfl, -⟩ := hpu.len
      have hG := hG.trans hgu
      have hc9 := hgu.keeps hc9
      have HPU := Lib.hid hpu
      have HFU := Lib.hid hfu
      have HG1 := Lib.hid hG
      clear hpu hfu hgu
      try dsimp only
      refine hK.out _ _ (HG1.out.keeps HC7.out) (fun hHeld => ?_)
      clear hK K
      try simp only [Act.put, List.setIfInBounds_toArray, List.set_cons_zero, List.set_cons_succ]
      refine wpAnyH_ready (rs := [6]) (by kernel_rfl) (by simp) ?_
      refine AllReadyH.cons (o := ⟨some 22, .buildSlice 26 1 #[(0, .tmp 21)], 26, "elements.go:28", #[⟨5, .data⟩], none⟩) rfl (fun K hK => ?_) AllReadyH.nil
      go_simp
      have hc9 := (Gr.new W1 (.cells #[.slice xu (F pre.length (Op.cf (Oj.mods ch S lv sp) x.1)).length cu] 23)).keeps hc9
      refine hK.out _ _ ((HG1.out.alloc _).keeps HC7.out) (fun hHeld => ?_)
      clear hK K
      try simp only [Act.put, List.setIfInBounds_toArray, List.set_cons_zero, List.set_cons_succ]
      refine wpAnyH_ready (rs := [7]) (by kernel_rfl) (by simp) ?_
      refine AllReadyH.cons (o := ⟨some 23, .call ⟨.builtin .append, #[.tmp 16, .tmp 22], #[26, 26]⟩, 26, "elements.go:28", #[⟨0, .data⟩, ⟨6, .data⟩, ⟨5, .chain⟩], none⟩) rfl (fun K hK => ?_) AllReadyH.nil
      refine wp_appR (.tmp 16) (.tmp 22) rfl rfl (w.heap.size + 7) _ _ rfl (HOW.out.gr (HG1.out.alloc _)) _ _ W1.heap.size rfl (cell_new _ _ _) (HPU.out.later (Gr.new _ _)) (Ap.of (W0 := W) (fun k hk => (HOW.out.lt k hk).2) HSZ.out (fun _ p hp => by obtain ⟨q, rfl, rfl⟩ := own_some hp; exact HFU.out q rfl)) HLN.out (Nat.le_trans HSZ.out (HG1.out.alloc _).size) ?_
      intro v' w2 hown' hgrow
      obtain ⟨av', cv', hv', -, -⟩ := hown'.form
      rw [List.length_append, rwL_len, show ([F pre.length (Op.cf (Oj.mods ch S lv sp) x.1)] : List (List Int)).length = 1 from rfl] at hv'
      subst hv'
      have HO2 := Lib.hid hown'
      have HGR := Lib.hid hgrow
      have HOA := Lib.hid (HOW.out.gr (HG1.out.alloc (.cells #[.slice xu (F pre.length (Op.cf (Oj.mods ch S lv sp) x.1)).length cu] 23)))
      have hb9 : Boxed w2 (w.heap.size + 3) 26 (.slice av pre.length cv) := (boxed_gr HBX.out (HG1.out.alloc _)).kept hgrow (fun e => by have := (HOA.out.lt _ e.symm).1; omega)
      have hc2 := hb9.cell
      have hf2 := hb9.frozen
      have HB9 := Lib.hid hb9
      clear hown' hgrow hb9
      refine hK.out _ _ (((HB7.out.gr (HG1.out.alloc _)).row HGR.out (fun e => by have := (HOA.out.lt _ e.symm).1; omega)).cell 0) (fun hHeld => ?_)
      clear hK K
      try simp only [Act.put, List.setIfInBounds_toArray, List.set_cons_zero, List.set_cons_succ]
      refine wpAnyH_ready (rs := [8]) (by kernel_rfl) (by simp) ?_
      refine AllReadyH.cons (o := ⟨none, .store 26 (.tmp 9) (.tmp 23), 0, "elements.go:28", #[⟨7, .data⟩, ⟨7, .chain⟩, ⟨0, .phase⟩, ⟨1, .phase⟩, ⟨2, .phase⟩, ⟨3, .phase⟩, ⟨4, .phase⟩, ⟨5, .phase⟩, ⟨6, .phase⟩, ⟨7, .phase⟩], none⟩) rfl (fun K hK => ?_) AllReadyH.nil
      go_simp
      refine hK.out _ _ ((((HB7.out.gr (HG1.out.alloc _)).row HGR.out (fun e => by have := (HOA.out.lt _ e.symm).1; omega)).row (grown_cell w2 (w.heap.size + 3) 0 _) (by simp)).cell 0) (fun hHeld => ?_)
      clear hK K
      try simp only [Act.put, List.setIfInBounds_toArray, List.set_cons_zero, List.set_cons_succ]
      refine wpAnyH_done (by kernel_rfl) ?_ _
      refine noOut_normal ?_
      exact FIN.out W1 _ _ _ w2 HG1.out HPU.out HFU.out HO2.out HGR.out
    · go_simp
      refine hK.out _ _ hHeld (fun hHeld => ?_)
      clear hK K
      try simp only [Act.put, List.setIfInBounds_toArray, List.set_cons_zero, List.set_cons_succ]
      refine wpAnyH_take (i := 3) (oi := ⟨some 19, .call ⟨.builtin .len, #[.tmp 18], #[26]⟩, 3, "elements.go:28", #[⟨2, .data⟩], none⟩) (v := ?_) rfl (by kernel_rfl) (by kernel_rfl) (by kernel_rfl) (fun _ _ _ h => h) (Or.inl ⟨by rfl, ?_⟩) (by assumption) ?_
      rotate_left
      · intro w hSw; (try dsimp only at hSw); go_simp; try with_reducible rfl
      try simp only [Act.put, List.setIfInBounds_toArray, List.set_cons_zero, List.set_cons_succ]
      refine wpAnyH_ready (rs := [0, 5]) (by kernel_rfl) (by simp) ?_
      refine AllReadyH.cons (o := ⟨some 16, .load 26 (.tmp 9), 26, "elements.go:28", #[], none⟩) rfl (fun K hK => ?_) (AllReadyH.cons (o := ⟨some 21, .call ⟨.value (.tmp 17), #[.tmp 19, .tmp 20], #[3, 50]⟩, 23, "elements.go:28", #[⟨1, .data⟩, ⟨3, .data⟩, ⟨4, .data⟩], none⟩) rfl (fun K hK => ?_) AllReadyH.nil)
      · go_simp
        refine hK.out _ _ hHeld (fun hHeld => ?_)
        clear hK K
        try simp only [Act.put, List.setIfInBounds_toArray, List.set_cons_zero, List.set_cons_succ]
        refine wpAnyH_ready (rs := [5]) (by kernel_rfl) (by simp) ?_
        refine AllReadyH.cons (o := ⟨some 21, .call ⟨.value (.tmp 17), #[.tmp 19, .tmp 20], #[3, 50]⟩, 23, "elements.go:28", #[⟨1, .data⟩, ⟨3, .data⟩, ⟨4, .data⟩], none⟩) rfl (fun K hK => ?_) AllReadyH.nil
        go_simp
        refine (HF.out pre.length x.1 hlt x.2 _ (HB2.out _ hG)).mono ?_
        rintro e W1 ⟨xu, nu, cu, rfl, hpu, hfu, hgu⟩
        obtain ⟨rfl, -⟩ := hpu.len
        have hG := hG.trans hgu
        have hc9 := hgu.keeps hc9
        have HPU := Lib.hid hpu
        have HFU := Lib.hid hfu
        have HG1 := Lib.hid hG
        clear hpu hfu hgu
        try dsimp only
        refine hK.out _ _ (HG1.out.keeps HC7.out) (fun hHeld => ?_)
        clear hK K
        try simp only [Act.put, List.setIfInBounds_toArray, List.set_cons_zero, List.set_cons_succ]
        refine wpAnyH_ready (rs := [6]) (by kernel_rfl) (by simp) ?_
        refine AllReadyH.cons (o := ⟨some 22, .buildSlice 26 1 #[(0, .tmp 21)], 26, "elements.go:28", #[⟨5, .data⟩], none⟩) rfl (fun K hK => ?_) AllReadyH.nil
        go_simp
        have hc9 := (Gr.new W1 (.cells #[.slice xu (F pre.length (Op.cf (Oj.mods ch S lv sp) x.1)).length cu] 23)).keeps hc9
        refine hK.out _ _ ((HG1.out.alloc _).keeps HC7.out) (fun hHeld => ?_)
        clear hK K
        try simp only [Act.put, List.setIfInBounds_toArray, List.set_cons_zero, List.set_cons_succ]
        refine wpAnyH_ready (rs := [7]) (by kernel_rfl) (by simp) ?_
        refine AllReadyH.cons (o := ⟨some 23, .call ⟨.builtin .append, #[.tmp 16, .tmp 22], #[26, 26]⟩, 26, "elements.go:28", #[⟨0, .data⟩, ⟨6, .data⟩, ⟨5, .chain⟩], none⟩) rfl (fun K hK => ?_) AllReadyH.nil
        refine wp_appR (.tmp 16) (.tmp 22) rfl rfl (w.heap.size + 7) _ _ rfl (HOW.out.gr (HG1.out.alloc _)) _ _ W1.heap.size rfl (cell_new _ _ _) (HPU.out.later (Gr.new _ _)) (Ap.of (W0 := W) (fun k hk => (HOW.out.lt k hk).2) HSZ.out (fun _ p hp => by obtain ⟨q, rfl, rfl⟩ := own_some hp; exact HFU.out q rfl)) HLN.out (Nat.le_trans HSZ.out (HG1.out.alloc _).size) ?_
        intro v' w2 hown' hgrow
        obtain ⟨av', cv', hv', -, -⟩ := hown'.form
        rw [List.length_append, rwL_len, show ([F pre.length (Op.cf (Oj.mods ch S lv sp) x.1)] : List (List Int)).length = 1 from rfl] at hv'
        subst hv'
        have HO2 := Lib.hid hown'
        have HGR := Lib.hid hgrow
        have HOA := Lib.hid (HOW.out.gr (HG1.out.alloc (.cells #[.slice xu (F pre.length (Op.cf (Oj.mods ch S lv sp) x.1)).length cu] 23)))
        have hb9 : Boxed w2 (w.heap.size + 3) 26 (.slice av pre.length cv) := (boxed_gr HBX.out (HG1.out.alloc _)).kept hgrow (fun e => by have := (HOA.out.lt _ e.symm).1; omega)
        have hc2 := hb9.cell
        have hf2 := hb9.frozen
        have HB9 := Lib.hid hb9
        clear hown' hgrow hb9
        refine hK.out _ _ (((HB7.out.gr (HG1.out.alloc _)).row HGR.out (fun e => by have := (HOA.out.lt _ e.symm).1; omega)).cell 0) (fun hHeld => ?_)
        clear hK K
        try simp only [Act.put, List.setIfInBounds_toArray, List.set_cons_zero, List.set_cons_succ]
        refine wpAnyH_ready (rs := [8]) (by kernel_rfl) (by simp) ?_
        refine AllReadyH.cons (o := ⟨none, .store 26 (.tmp 9) (.tmp 23), 0, "elements.go:28", #[⟨7, .data⟩, ⟨7, .chain⟩, ⟨0, .phase⟩, ⟨1, .phase⟩, ⟨2, .phase⟩, ⟨3, .phase⟩, ⟨4, .phase⟩, ⟨5, .phase⟩, ⟨6, .phase⟩, ⟨7, .phase⟩], none⟩) rfl (fun K hK => ?_) AllReadyH.nil
        go_simp
        refine hK.out _ _ ((((HB7.out.gr (HG1.out.alloc _)).row HGR.out (fun e => by have := (HOA.out.lt _ e.symm).1; omega)).row (grown_cell w2 (w.heap.size + 3) 0 _) (by simp)).cell 0) (fun hHeld => ?_)
        clear hK K
        try simp only [Act.put, List.setIfInBounds_toArray, List.set_cons_zero, List.set_cons_succ]
        refine wpAnyH_done (by kernel_rfl) ?_ _
        refine noOut_normal ?_
        exact FIN.out W1 _ _ _ w2 HG1.out HPU.out HFU.out HO2.out HGR.out
      · go_simp
        refine (HF.out pre.length x.1 hlt x.2 _ (HB2.out _ hG)).mono ?_
        rintro e W1 ⟨xu, nu, cu, rfl, hpu, hfu, hgu⟩
        obtain ⟨rfl, -⟩ := hpu.len
        have hG := hG.trans hgu
        have hc9 := hgu.keeps hc9
        have HPU := Lib.hid hpu
        have HFU := Lib.hid hfu
        have HG1 := Lib.hid hG
        clear hpu hfu hgu
        try dsimp only
        refine hK.out _ _ (HG1.out.keeps HC7.out) (fun hHeld => ?_)
        clear hK K
        try simp only [Act.put, List.setIfInBounds_toArray, List.set_cons_zero, List.set_cons_succ]
        refine wpAnyH_ready (rs := [0, 6]) (by kernel_rfl) (by simp) ?_
        refine AllReadyH.cons (o := ⟨some 16, .load 26 (.tmp 9), 26, "elements.go:28", #[], none⟩) rfl (fun K hK => ?_) (AllReadyH.cons (o := ⟨some 22, .buildSlice 26 1 #[(0, .tmp 21)], 26, "elements.go:28", #[⟨5, .data⟩], none⟩) rfl (fun K hK => ?_) AllReadyH.nil)
        · go_simp
          refine hK.out _ _ hHeld (fun hHeld => ?_)
          clear hK K
          try simp only [Act.put, List.setIfInBounds_toArray, List.set_cons_zero, List.set_cons_succ]
          refine wpAnyH_ready (rs := [6]) (by kernel_rfl) (by simp) ?_
          refine AllReadyH.cons (o := ⟨some 22, .buildSlice 26 1 #[(0, .tmp 21)], 26, "elements.go:28", #[⟨5, .data⟩], none⟩) rfl (fun K hK => ?_) AllReadyH.nil
          go_simp
          have hc9 := (Gr.new W1 (.cells #[.slice xu (F pre.length (Op.cf (Oj.mods ch S lv sp) x.1)).length cu] 23)).keeps hc9
          refine hK.out _ _ ((HG1.out.alloc _).keeps HC7.out) (fun hHeld => ?_)
          clear hK K
          try simp only [Act.put, List.setIfInBounds_toArray, List.set_cons_zero, List.set_cons_succ]
          refine wpAnyH_ready (rs := [7]) (by kernel_rfl) (by simp) ?_
          refine AllReadyH.cons (o := ⟨some 23, .call ⟨.builtin .append, #[.tmp 16, .tmp 22], #[26, 26]⟩, 26, "elements.go:28", #[⟨0, .data⟩, ⟨6, .data⟩, ⟨5, .chain⟩], none⟩) rfl (fun K hK => ?_) AllReadyH.nil
          refine wp_appR (.tmp 16) (.tmp 22) rfl rfl (w.heap.size + 7) _ _ rfl (HOW.out.gr (HG1.out.alloc _)) _ _ W1.heap.size rfl (cell_new _ _ _) (HPU.out.later (Gr.new _ _)) (Ap.of (W0 := W) (fun k hk => (HOW.out.lt k hk).2) HSZ.out (fun _ p hp => by obtain ⟨q, rfl, rfl⟩ := own_some hp; exact HFU.out q rfl)) HLN.out (Nat.le_trans HSZ.out (HG1.out.alloc _).size) ?_
          intro v' w2 hown' hgrow
          obtain ⟨av', cv', hv', -, -⟩ := hown'.form
          rw [List.length_append, rwL_len, show ([F pre.length (Op.cf (Oj.mods ch S lv sp) x.1)] : List (List Int)).length = 1 from rfl] at hv'
          subst hv'
          have HO2 := Lib.hid hown'
          have HGR := Lib.hid hgrow
          have HOA := Lib.hid (HOW.out.gr (HG1.out.alloc (.cells #[.slice xu (F pre.length (Op.cf (Oj.mods ch S lv sp) x.1)).length cu] 23)))
          have hb9 : Boxed w2 (w.heap.size + 3) 26 (.slice av pre.length cv) := (boxed_gr HBX.out (HG1.out.alloc _)).kept hgrow (fun e => by have := (HOA.out.lt _ e.symm).1; omega)
          have hc2 := hb9.cell
          have hf2 := hb9.frozen
          have HB9 := Lib.hid hb9
          clear hown' hgrow hb9
          refine hK.out _ _ (((HB7.out.gr (HG1.out.alloc _)).row HGR.out (fun e => by have := (HOA.out.lt _ e.symm).1; omega)).cell 0) (fun hHeld => ?_)
          clear hK K
          try simp only [Act.put, List.setIfInBounds_toArray, List.set_cons_zero, List.set_cons_succ]
          refine wpAnyH_ready (rs := [8]) (by kernel_rfl) (by simp) ?_
          refine AllReadyH.cons (o := ⟨none, .store 26 (.tmp 9) (.tmp 23), 0, "elements.go:28", #[⟨7, .data⟩, ⟨7, .chain⟩, ⟨0, .phase⟩, ⟨1, .phase⟩, ⟨2, .phase⟩, ⟨3, .phase⟩, ⟨4, .phase⟩, ⟨5, .phase⟩, ⟨6, .phase⟩, ⟨7, .phase⟩], none⟩) rfl (fun K hK => ?_) AllReadyH.nil
          go_simp
          refine hK.out _ _ ((((HB7.out.gr (HG1.out.alloc _)).row HGR.out (fun e => by have := (HOA.out.lt _ e.symm).1; omega)).row (grown_cell w2 (w.heap.size + 3) 0 _) (by simp)).cell 0) (fun hHeld => ?_)
          clear hK K
          try simp only [Act.put, List.setIfInBounds_toArray, List.set_cons_zero, List.set_cons_succ]
          refine wpAnyH_done (by kernel_rfl) ?_ _
          refine noOut_normal ?_
          exact FIN.out W1 _ _ _ w2 HG1.out HPU.out HFU.out HO2.out HGR.out
        · go_simp
          have hc9 := (Gr.new W1 (.cells #[.slice xu (F pre.length (Op.cf (Oj.mods ch S lv sp) x.1)).length cu] 23)).keeps hc9
          refine hK.out _ _ ((HG1.out.alloc _).keeps HC7.out) (fun hHeld => ?_)
          clear hK K
          try simp only [Act.put, List.setIfInBounds_toArray, List.set_cons_zero, List.set_cons_succ]
          refine wpAnyH_ready (rs := [0]) (by kernel_rfl) (by simp) ?_
          refine AllReadyH.cons (o := ⟨some 16, .load 26 (.tmp 9), 26, "elements.go:28", #[], none⟩) rfl (fun K hK => ?_) AllReadyH.nil
          go_simp
          refine hK.out _ _ hHeld (fun hHeld => ?_)
          clear hK K
          try simp only [Act.put, List.setIfInBounds_toArray, List.set_cons_zero, List.set_cons_succ]
          refine wpAnyH_ready (rs := [7]) (by kernel_rfl) (by simp) ?_
          refine AllReadyH.cons (o := ⟨some 23, .call ⟨.builtin .append, #[.tmp 16, .tmp 22], #[26, 26]⟩, 26, "elements.go:28", #[⟨0, .data⟩, ⟨6, .data⟩, ⟨5, .chain⟩], none⟩) rfl (fun K hK => ?_) AllReadyH.nil
          refine wp_appR (.tmp 16) (.tmp 22) rfl rfl (w.heap.size + 7) _ _ rfl (HOW.out.gr (HG1.out.alloc _)) _ _ W1.heap.size rfl (cell_new _ _ _) (HPU.out.later (Gr.new _ _)) (Ap.of (W0 := W) (fun k hk => (HOW.out.lt k hk).2) HSZ.out (fun _ p hp => by obtain ⟨q, rfl, rfl⟩ := own_some hp; exact HFU.out q rfl)) HLN.out (Nat.le_trans HSZ.out (HG1.out.alloc _).size) ?_
          intro v' w2 hown' hgrow
          obtain ⟨av', cv', hv', -, -⟩ := hown'.form
          rw [List.length_append, rwL_len, show ([F pre.length (Op.cf (Oj.mods ch S lv sp) x.1)] : List (List Int)).length = 1 from rfl] at hv'
          subst hv'
          have HO2 := Lib.hid hown'
          have HGR := Lib.hid hgrow
          have HOA := Lib.hid (HOW.out.gr (HG1.out.alloc (.cells #[.slice xu (F pre.length (Op.cf (Oj.mods ch S lv sp) x.1)).length cu] 23)))
          have hb9 : Boxed w2 (w.heap.size + 3) 26 (.slice av pre.length cv) := (boxed_gr HBX.out (HG1.out.alloc _)).kept hgrow (fun e => by have := (HOA.out.lt _ e.symm).1; omega)
          have hc2 := hb9.cell
          have hf2 := hb9.frozen
          have HB9 := Lib.hid hb9
          clear hown' hgrow hb9
          refine hK.out _ _ (((HB7.out.gr (HG1.out.alloc _)).row HGR.out (fun e => by have := (HOA.out.lt _ e.symm).1; omega)).cell 0) (fun hHeld => ?_)
          clear hK K
          try simp only [Act.put, List.setIfInBounds_toArray, List.set_cons_zero, List.set_cons_succ]
          refine wpAnyH_ready (rs := [8]) (by kernel_rfl) (by simp) ?_
          refine AllReadyH.cons (o := ⟨none, .store 26 (.tmp 9) (.tmp 23), 0, "elements.go:28", #[⟨7, .data⟩, ⟨7, .chain⟩, ⟨0, .phase⟩, ⟨1, .phase⟩, ⟨2, .phase⟩, ⟨3, .phase⟩, ⟨4, .phase⟩, ⟨5, .phase⟩, ⟨6, .phase⟩, ⟨7, .phase⟩], none⟩) rfl (fun K hK => ?_) AllReadyH.nil
          go_simp
          refine hK.out _ _ ((((HB7.out.gr (HG1.out.alloc _)).row HGR.out (fun e => by have := (HOA.out.lt _ e.symm).1; omega)).row (grown_cell w2 (w.heap.size + 3) 0 _) (by simp)).cell 0) (fun hHeld => ?_)
          clear hK K
          try simp only [Act.put, List.setIfInBounds_toArray, List.set_cons_zero, List.set_cons_succ]
          refine wpAnyH_done (by kernel_rfl) ?_ _
          refine noOut_normal ?_
          exact FIN.out W1 _ _ _ w2 HG1.out HPU.out HFU.out HO2.out HGR.out
  case done =>
    rintro D ys W hD hall ⟨⟨v, hbx, hown, hb7, hb8, hsz⟩, hb⟩ hK
    have hc9 := hbx.cell
    have HOW := Lib.hid (show OwnR W (w.heap.size + 7) v (rwA (Oj.mods ch S lv sp) F) by rw [← rwL_all F hall]; exact hown)
    have HBL := Lib.hid (show Gr w W from hb)
    have k0 : W.cell? ⟨w.heap.size + 2, 0, none⟩ = some (.int .i64 0) := hb8.cell 0
    have k1 : W.cell? ⟨w.heap.size + 2, 1, none⟩ = some (.bool false) := hb8.cell 1
    have k2 : W.cell? ⟨w.heap.size + 2, 2, none⟩ = some (.slice none 0 0) := hb8.cell 2
    have f0 := hb8.frozen 0
    have f1 := hb8.frozen 1
    have f2 := hb8.frozen 2
    obtain ⟨av, cv, hv, -, -⟩ := HOW.out.form
    subst hv
    clear hown hb7 hall hb
    go_wp2_with fail
    have hk3 := (((hb8.set 0 (.int .i64 lv)).set 1 (.bool sp)).set 2 (.slice av (rwA (Oj.mods ch S lv sp) F).length cv))
    have hg3 := (HBL.out.setCell (p := ⟨w.heap.size + 2, 0, none⟩) (by simp) (.int .i64 lv)).setCell (p := ⟨w.heap.size + 2, 1, none⟩) (by simp) (.bool sp) |>.setCell (p := ⟨w.heap.size + 2, 2, none⟩) (by simp) (.slice av (rwA (Oj.mods ch S lv sp) F).length cv)
    have ho3 := ((HOW.out.set (B := w.heap.size + 2) (o := 0) (by omega) (.int .i64 lv)).set (B := w.heap.size + 2) (o := 1) (by omega) (.bool sp)).set (B := w.heap.size + 2) (o := 2) (by omega) (.slice av (rwA (Oj.mods ch S lv sp) F).length cv)
    have hK' := (((KeepsOthers.setCell W ⟨w.heap.size + 2, 0, none⟩ (.int .i64 lv)).trans (KeepsOthers.setCell _ ⟨w.heap.size + 2, 1, none⟩ (.bool sp))).trans (KeepsOthers.setCell _ ⟨w.heap.size + 2, 2, none⟩ (.slice av (rwA (Oj.mods ch S lv sp) F).length cv))).same D _ hK rfl
    have hk4 := hk3.keptn (grownBy_putObj' _ D (.deferred none)) (fun r e => by cases e; exact ⟨_, hK', rfl⟩)
    have ho4 := ho3.keptn (grownBy_putObj' _ D (.deferred none)) (fun r e => by cases e; exact ⟨_, hK', rfl⟩)
    have hg4 := Below.trans (show Below w.heap.size w _ from hg3) (belowK_b (w := w) (Nat.le_refl _) _ D _ (.deferred none) (by rw [hs5] at hD; omega) hK' rfl rfl)
    have e0 := hk4.cell 0
    have e1 := hk4.cell 1
    have e2 := hk4.cell 2
    refine ⟨by simp, .inl ⟨_, _, rfl, run_takeDeferred hK', ?_⟩⟩
    refine ⟨.agg #[.int .i64 lv, .bool sp, .slice av (rwA (Oj.mods ch S lv sp) F).length cv], ?_, _, rfl, ho4.hasB.mono (by omega) (Nat.le_refl _), hg4⟩
    simp only [Nat.add_assoc, Nat.reduceAdd]
    simp [results, Try.f15, go_sem, e0, e1, e2]
end Go.Proofs.Ytlfiakpmnkhcdaa.Mo
