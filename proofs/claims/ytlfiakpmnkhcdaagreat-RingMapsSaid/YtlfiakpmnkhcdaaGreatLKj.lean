import Derived.Test.YtlfiakpmnkhcdaaGreatLKh
/- Rows of the call's own that may be overwritten. (made by mkkk.py) -/
namespace Go.Proofs.YtlfiakpmnkhcdaaGreat.Mo
open Go.RowKit Go.Shelf
set_option linter.unusedVariables false
set_option linter.unusedSimpArgs false

/-- The row's block may be written. -/
def Thaw (W : World) (u : Value) (l : List Int) : Prop := 0 < l.length → ∃ g c cs, u = .slice (some ⟨g, 0, none⟩) l.length c ∧ Blk W g 22 cs ∧ ∀ j, j < l.length → ∃ z, cs[j]? = some (.int .u32 z)
theorem Thaw.row {W W' : World} {u : Value} {l : List Int} {row : Option Nat} (h : Thaw W u l) (hg : W.grownBy W' row) (hr : 0 < l.length → ∀ p, u.ownBlock = some p → some p ≠ row) : Thaw W' u l := fun h0 => by
  obtain ⟨g, c, cs, rfl, hb, hz⟩ := h h0
  exact ⟨g, c, cs, rfl, hb.row hg (hr h0 g rfl), hz⟩
theorem Thaw.gr {W W' : World} {u : Value} {l : List Int} (h : Thaw W u l) (hg : Gr W W') : Thaw W' u l := fun h0 => by
  obtain ⟨g, c, cs, rfl, hb, hz⟩ := h h0
  exact ⟨g, c, cs, rfl, hb.gr hg, hz⟩
theorem Own1.thaw {W : World} {base : Nat} {v : Value} {l : List Int} (h : Own1 W base v l) : Thaw W v l := fun h0 => by
  have h2 := h
  rcases h.2.2 with ⟨_, h1⟩ | ⟨g, cap, cur, rfl, hb, hg, k1, k2, k3, k4⟩
  · omega
  · exact ⟨g, cap, cur, rfl, hg, fun j hj => ⟨_, ((show Blk W g 22 cur from hg).cell j).symm.trans (h2.cell hj)⟩⟩
/-- Rows of the call's own that may be written. -/
def OwnF (W : World) (base : Nat) (v : Value) (ls : List (List Int)) : Prop :=
  ∃ vs : List Value, W.ownsRow base 23 1 v ls.length vs ∧ ∀ i, i < ls.length → HasP W (vs.getD i undef) (rw_ ls i) ∧ Ap base v (vs.getD i undef) (rw_ ls i) ∧ Thaw W (vs.getD i undef) (rw_ ls i)
theorem OwnF.ownR {W : World} {base : Nat} {v : Value} {ls : List (List Int)} (h : OwnF W base v ls) : OwnR W base v ls := by
  obtain ⟨vs, h1, h2⟩ := h
  exact ⟨vs, h1, fun i hi => ⟨(h2 i hi).1, (h2 i hi).2.1⟩⟩
theorem OwnF.nil (W : World) (base : Nat) : OwnF W base (.slice none 0 0) [] := ⟨[], World.ownsRow_nil _ _ _ _, fun i hi => absurd hi (by simp)⟩
theorem OwnF.kept {W W' : World} {base : Nat} {v : Value} {ls : List (List Int)} {row : Option Nat} (h : OwnF W base v ls) (hg : W.grownBy W' row) (hr : ∀ k, row = some k → k < base) : OwnF W' base v ls := by
  have hlt := h.ownR.lt
  obtain ⟨vs, h1, h2⟩ := h
  have hne : ∀ i, i < ls.length → 0 < (rw_ ls i).length → ∀ p, (vs.getD i undef).ownBlock = some p → some p ≠ row := fun i hi h0 p hp e => by
    have := hr p e.symm
    have := ((h2 i hi).2.1 h0 p hp).1
    omega
  refine ⟨vs, h1.kept hg ?_, fun i hi => ⟨(h2 i hi).1.grown hg (hne i hi), (h2 i hi).2.1, (h2 i hi).2.2.row hg (hne i hi)⟩⟩
  cases hv : v.ownBlock with
  | none => exact .inl rfl
  | some k =>
    refine .inr fun e => ?_
    have := hr k e.symm
    have := (hlt k hv).1
    omega
theorem OwnF.gr {W W' : World} {base : Nat} {v : Value} {ls : List (List Int)} (h : OwnF W base v ls) (hg : Gr W W') : OwnF W' base v ls :=
  h.kept (row := none) ⟨hg.os, hg.tape, hg.output, hg.size, fun k hk _ => hg.block k hk⟩ (fun k e => by cases e)
theorem OwnF.set {W : World} {base : Nat} {v : Value} {ls : List (List Int)} (h : OwnF W base v ls) {B o : Nat} (hB : B < base) (x : Value) : OwnF (W.setCell ⟨B, o, none⟩ x) base v ls :=
  h.kept (grown_cell W B o x) (fun k e => by cases e; exact hB)
theorem run_appF (w : World) (base : Nat) (v : Value) (ls : List (List Int)) (hown : OwnF w base v ls) (u : Value) (l : List Int) (g : Nat) (hc : w.cell? ⟨g, 0, none⟩ = some u) (hu : HasP w u l) (hap : Ap base v u l) (hth : Thaw w u l) (hlen : ls.length ≤ 1000000) (hbase : base ≤ w.heap.size) :
    ∃ v' w', (Builtin.append_ #[26, 26] 26 #[v, .slice (some ⟨g, 0, none⟩) 1 1]).run Tryz.prog w = .ok v' w' ∧ OwnF w' base v' (ls ++ [l]) ∧ w.grownBy w' v.ownBlock := by
  obtain ⟨i0, hi, hz0, hz1, hz2⟩ := info_parts infoP
  obtain ⟨xu, cu, rfl⟩ := hu.form
  obtain ⟨vs, ho1, ho2⟩ := hown
  have hl : vs.length = ls.length := by have := ho1.1; omega
  generalize hue : Value.slice xu l.length cu = u at *
  have h1 : u.oneCell' = true := by subst hue; rfl
  have hnews : ∀ j x, [u][j]? = some x → w.cell? ((⟨g, 0, none⟩ : Addr).add j) = some x := by
    intro j x hx
    have hj : j < 1 := by
      have := (List.getElem?_eq_some_iff.1 hx).1
      simpa using this
    obtain rfl : j = 0 := by omega
    have e2 : (⟨g, 0, none⟩ : Addr).add 0 = ⟨g, 0 + 0, none⟩ := addr_add rfl _ rfl
    simp at hx
    subst hx
    rw [e2]; exact hc
  have hone : ∀ x ∈ [u], x.oneCell' = true := fun x hx => by rw [List.mem_singleton.1 hx]; exact h1
  obtain ⟨v', w', hr, h5, h6, -⟩ := run_append_own (P := Tryz.prog) w base 26 26 23 i0 (.slice none 0 0) 1 24 Tryz.underlying26 hi hz0 hz1 hz2 rfl (by decide) v ls.length vs ho1 ⟨g, 0, none⟩ 1 1 [u] rfl hnews hone (by unfold maxLen; omega) (by omega) hbase
  have hrow : v'.ownBlock = v.ownBlock ∨ v'.ownBlock = some w.heap.size := by
    rcases ho1.2 with ⟨rfl, h0⟩ | ⟨r, cap, cur, rfl, hb, hg, k1, k2, k3, k4⟩
    · have hr2 := run_append_nil (P := Tryz.prog) w 26 26 23 i0 (.slice none 0 0) Tryz.underlying26 hi hz0 ⟨g, 0, none⟩ 1 1 [u] (by rw [hz1]; rfl) hnews (by omega) (by omega) (by omega)
      rw [hr] at hr2
      cases hr2
      exact .inr rfl
    · by_cases hroom : ls.length + 1 ≤ cap
      · have hr2 := run_append_room (P := Tryz.prog) w 26 26 23 i0 Tryz.underlying26 hi r ls.length cap cur hg ⟨g, 0, none⟩ 1 1 [u] (by rw [hz1]; rfl) hnews hone hroom (by rw [hz1]; simp; omega)
        rw [hr] at hr2
        cases hr2
        exact .inl rfl
      · have hr2 := run_append_grow (P := Tryz.prog) w 26 26 23 i0 (.slice none 0 0) Tryz.underlying26 hi hz0 ⟨r, 0, none⟩ ls.length cap vs (by rw [hz1]; omega) (ho1.cells (g := r) rfl) ⟨g, 0, none⟩ 1 1 [u] (by rw [hz1]; rfl) hnews (by omega) (by omega) (growslice_fits (by omega) (by rw [hz2]; omega))
        rw [hr] at hr2
        cases hr2
        exact .inr rfl
  refine ⟨v', w', hr, ⟨vs ++ [u], by rw [List.length_append]; exact h5, fun i hi => ?_⟩, h6⟩
  have key : ∀ (z : Value) (m : List Int), HasP w z m → Ap base v z m → Thaw w z m → HasP w' z m ∧ Ap base v' z m ∧ Thaw w' z m := fun z m hz ha ht => by
    refine ⟨hz.grown h6 fun h0 p hp e => (ha h0 p hp).2 e.symm, fun h0 p hp => ⟨(ha h0 p hp).1, fun e => ?_⟩, ht.row h6 fun h0 p hp e => (ha h0 p hp).2 e.symm⟩
    rcases hrow with e2 | e2
    · exact (ha h0 p hp).2 (e2.symm.trans e)
    · have h7 := hz.lt h0 p hp
      rw [e2] at e; cases e; omega
  rw [getD_snoc]
  have e1 : (vs ++ [u]).getD i undef = if i < ls.length then vs.getD i undef else u := by
    rw [List.getD_eq_getElem?_getD, List.getElem?_append, hl]
    split
    · rw [List.getD_eq_getElem?_getD]
    · rename_i h
      have : i - ls.length = 0 := by simp at hi; omega
      rw [this]; rfl
  rw [e1]
  by_cases hlt2 : i < ls.length
  · rw [if_pos hlt2, if_pos hlt2]
    exact key _ _ (ho2 i hlt2).1 (ho2 i hlt2).2.1 (ho2 i hlt2).2.2
  · have : i = ls.length := by simp at hi; omega
    rw [if_neg hlt2, if_neg hlt2, if_pos this]
    exact key _ _ hu hap hth
theorem wp_appF {o : Oper} {a : Act} {w : World} {K : Act → World → Prop} {Q : Exit → Act → World → Prop} (s x : Operand)
    (ho : o.op = .call { callee := .builtin .append, args := #[s, x], argTypes := #[26, 26] }) (hty : o.type = 26)
    (base : Nat) (v : Value) (ls : List (List Int)) (hs : a.eval s = v) (hown : OwnF w base v ls) (u : Value) (l : List Int) (g : Nat) (hx : a.eval x = .slice (some ⟨g, 0, none⟩) 1 1) (hc : w.cell? ⟨g, 0, none⟩ = some u) (hu : HasP w u l) (hap : Ap base v u l) (hth : Thaw w u l) (hlen : ls.length ≤ 1000000) (hbase : base ≤ w.heap.size)
    (h : ∀ v' w', OwnF w' base v' (ls ++ [l]) → w.grownBy w' v.ownBlock → K (a.put o.dst v') w') : Oper.wp Tryz.prog o a w K Q := by
  obtain ⟨v', w', hr, h2, h3⟩ := run_appF w base v ls hown u l g hc hu hap hth hlen hbase
  unfold Oper.wp execOp
  simp only [ho, hty, resolve, invoke, builtin, Sem.run_bind, Sem.run_pure, Result.andThen_ok, List.map_toArray, List.map_cons, List.map_nil, hs, hx, hr]
  exact h v' w' h2 h3

/-- Rows from lo to hi that may be overwritten; the table lies apart from them. -/
def SpR (W : World) (lo hi : Nat) (v : Value) (ls : List (List Int)) : Prop :=
  ∃ a cap, v = .slice a ls.length cap ∧ ls.length ≤ cap ∧ cap ≤ 9223372036854775807 ∧ ∀ i, i < ls.length → ∃ g o x c, a = some ⟨g, o, none⟩ ∧ lo ≤ g ∧ g < hi ∧
    W.cell? ⟨g, o + i, none⟩ = some (.slice x (rw_ ls i).length c) ∧ (0 < (rw_ ls i).length → ∃ b cs, x = some ⟨b, 0, none⟩ ∧ lo ≤ b ∧ b < hi ∧ b ≠ g ∧ Blk W b 22 cs ∧ ∀ j, j < (rw_ ls i).length → ∃ z, cs[j]? = some (.int .u32 z))
theorem OwnF.spR {W : World} {base : Nat} {v : Value} {ls : List (List Int)} (h : OwnF W base v ls) : SpR W base W.heap.size v ls := by
  obtain ⟨a, c, e, h1, h2⟩ := h.ownR.form
  subst e
  have hlt := h.ownR.lt
  obtain ⟨vs, k1, k2⟩ := h
  refine ⟨a, c, rfl, h1, h2, fun i hi => ?_⟩
  obtain ⟨q1, q2, q3⟩ := k2 i hi
  obtain ⟨x, c', e⟩ := q1.form
  have hl : vs.length = ls.length := by have := k1.1; omega
  have hiv : i < vs.length := by omega
  cases a with
  | none =>
    rcases k1.2 with ⟨_, h0⟩ | ⟨g, cap, cur, e2, _⟩
    · omega
    · cases e2
  | some ad =>
    have hf : ad = ⟨ad.block, 0, none⟩ := by
      rcases k1.2 with ⟨e2, _⟩ | ⟨g, cap, cur, e2, _⟩
      · cases e2
      · cases e2; rfl
    have h3 := hlt ad.block rfl
    have hc := k1.cells (g := ad.block) rfl i (vs.getD i undef) (by rw [List.getElem?_eq_getElem hiv, List.getD_eq_getElem?_getD, List.getElem?_eq_getElem hiv]; rfl)
    have e3 : (⟨ad.block, 0, none⟩ : Addr).add i = ⟨ad.block, 0 + i, none⟩ := addr_add rfl _ rfl
    rw [e3, e] at hc
    rw [e] at q1 q2 q3
    refine ⟨ad.block, 0, x, c', by rw [← hf], h3.1, h3.2, hc, fun h0 => ?_⟩
    obtain ⟨b, c2, cs, e4, hb, hz⟩ := q3 h0
    cases e4
    have h5 := q2 h0 b rfl
    exact ⟨b, cs, rfl, h5.1, hb.lt, fun e6 => h5.2 (by subst e6; rfl), hb, hz⟩
theorem SpR.gr {W W' : World} {lo hi : Nat} {v : Value} {ls : List (List Int)} (h : SpR W lo hi v ls) (hg : Gr W W') : SpR W' lo hi v ls := by
  obtain ⟨a, cap, rfl, h1, h2, h3⟩ := h
  refine ⟨a, cap, rfl, h1, h2, fun i hi => ?_⟩
  obtain ⟨g, o, x, c, e, k1, k2, k3, k4⟩ := h3 i hi
  refine ⟨g, o, x, c, e, k1, k2, hg.keeps k3, fun h0 => ?_⟩
  obtain ⟨b, cs, e2, j1, j2, j3, j4, j5⟩ := k4 h0
  exact ⟨b, cs, e2, j1, j2, j3, j4.gr hg, j5⟩
theorem SpR.mono {W : World} {lo hi lo' hi' : Nat} {v : Value} {ls : List (List Int)} (h : SpR W lo hi v ls) (hl : lo' ≤ lo) (hh : hi ≤ hi') : SpR W lo' hi' v ls := by
  obtain ⟨a, cap, rfl, h1, h2, h3⟩ := h
  refine ⟨a, cap, rfl, h1, h2, fun i hi => ?_⟩
  obtain ⟨g, o, x, c, e, k1, k2, k3, k4⟩ := h3 i hi
  refine ⟨g, o, x, c, e, by omega, by omega, k3, fun h0 => ?_⟩
  obtain ⟨b, cs, e2, j1, j2, j3, j4, j5⟩ := k4 h0
  exact ⟨b, cs, e2, by omega, by omega, j3, j4, j5⟩
theorem SpR.form {W : World} {lo hi : Nat} {v : Value} {ls : List (List Int)} (h : SpR W lo hi v ls) : ∃ a c, v = .slice a ls.length c := by
  obtain ⟨a, cap, rfl, _⟩ := h; exact ⟨a, cap, rfl⟩
/-- A table apart from B, numbers for numbers in B. -/
theorem SpR.put {W : World} {lo hi : Nat} {v : Value} {ls : List (List Int)} (h : SpR W lo hi v ls) {B o : Nat} (hB : ∀ p, v.ownBlock = some p → B ≠ p) (z : Int) : SpR (W.setCell ⟨B, o, none⟩ (.int .u32 z)) lo hi v ls := by
  obtain ⟨a, cap, rfl, h1, h2, h3⟩ := h
  refine ⟨a, cap, rfl, h1, h2, fun i hi => ?_⟩
  obtain ⟨g, o', x, c, e, k1, k2, k3, k4⟩ := h3 i hi
  subst e
  have hBg := hB g rfl
  refine ⟨g, o', x, c, rfl, k1, k2, by rw [World.cell?_setCell_far _ _ _ _ hBg]; exact k3, fun h0 => ?_⟩
  obtain ⟨b, cs, e2, j1, j2, j3, j4, j5⟩ := k4 h0
  by_cases hb : b = B
  · subst hb
    refine ⟨b, _, e2, j1, j2, j3, j4.set o (.int .u32 z), fun j hj => ?_⟩
    rw [Array.getElem?_setIfInBounds]
    obtain ⟨z', hz⟩ := j5 j hj
    by_cases e3 : o = j
    · rw [if_pos e3]
      have h6 : j < cs.size := by
        by_cases h7 : j < cs.size
        · exact h7
        · rw [Array.getElem?_eq_none (by omega)] at hz; cases hz
      exact ⟨z, by rw [if_pos (by omega)]⟩
    · rw [if_neg e3]
      exact ⟨z', hz⟩
  · exact ⟨b, cs, e2, j1, j2, j3, j4.other (fun e => hb e.symm) _, j5⟩
/-- Blocks from lo to hi may have been overwritten, others not. -/
inductive Ov (lo hi : Nat) : World → World → Prop
  | refl (W : World) : Ov lo hi W W
  | gr {W W1 W2 : World} (h : Ov lo hi W W1) (hg : Gr W1 W2) : Ov lo hi W W2
  | set {W W1 : World} (h : Ov lo hi W W1) {b o : Nat} (h1 : lo ≤ b) (h2 : b < hi) (x : Value) : Ov lo hi W (W1.setCell ⟨b, o, none⟩ x)
theorem Ov.size {lo hi : Nat} {W W' : World} (h : Ov lo hi W W') : W.heap.size ≤ W'.heap.size := by
  induction h with
  | refl => exact Nat.le_refl _
  | gr _ hg ih => exact Nat.le_trans ih hg.size
  | @set W1 _ b o _ _ x ih => exact Nat.le_trans ih (grown_cell W1 b o x).size
theorem Ov.blk {lo hi : Nat} {W W' : World} (h : Ov lo hi W W') {k : Nat} {t : TypeId} {cs : Array Value} (hb : Blk W k t cs) (hk : k < lo ∨ hi ≤ k) : Blk W' k t cs := by
  induction h with
  | refl => exact hb
  | gr _ hg ih => exact ih.gr hg
  | set _ h1 h2 x ih => exact ih.other (by omega) x
theorem Ov.hasB {lo hi : Nat} {W W' : World} (h : Ov lo hi W W') {l h' : Nat} {v : Value} {ls : List (List Int)} (hb : HasB W l h' v ls) (hk : h' ≤ lo ∨ hi ≤ l) : HasB W' l h' v ls := by
  induction h with
  | refl => exact hb
  | gr _ hg ih => exact ih.later hg
  | @set W1 _ b o h1 h2 x ih => exact ih.grown (grown_cell W1 b o x) (fun r e => by cases e; omega)
theorem Ov.hasP {lo hi : Nat} {W W' : World} (h : Ov lo hi W W') {v : Value} {l : List Int} (hb : HasP W v l) (hk : 0 < l.length → ∀ p, v.ownBlock = some p → p < lo) : HasP W' v l := by
  induction h with
  | refl => exact hb
  | gr _ hg ih => exact ih.later hg
  | @set W1 _ b o h1 h2 x ih => exact ih.grown (grown_cell W1 b o x) (fun h0 p hp e => by cases e; have := hk h0 b hp; omega)
theorem Ov.spR {lo hi : Nat} {W W' : World} (h : Ov lo hi W W') {l h' : Nat} {v : Value} {ls : List (List Int)} (hb : SpR W l h' v ls) (hk : h' ≤ lo ∨ hi ≤ l) : SpR W' l h' v ls := by
  induction h with
  | refl => exact hb
  | gr _ hg ih => exact ih.gr hg
  | @set W1 _ b o h1 h2 x ih =>
    obtain ⟨a, cap, rfl, k1, k2, k3⟩ := ih
    refine ⟨a, cap, rfl, k1, k2, fun i hi => ?_⟩
    obtain ⟨g, o', y, c, e, j1, j2, j3, j4⟩ := k3 i hi
    refine ⟨g, o', y, c, e, j1, j2, by rw [World.cell?_setCell_far _ _ _ _ (show b ≠ g by omega)]; exact j3, fun h0 => ?_⟩
    obtain ⟨b', cs, e2, q1, q2, q3, q4, q5⟩ := j4 h0
    have hne : b ≠ b' := fun e => hk.elim (fun h => absurd (Nat.lt_of_lt_of_le q2 (Nat.le_trans h h1)) (by rw [e]; exact Nat.lt_irrefl _)) (fun h => absurd (Nat.lt_of_lt_of_le h2 (Nat.le_trans h q1)) (by rw [e]; exact Nat.lt_irrefl _))
    exact ⟨b', cs, e2, q1, q2, q3, q4.other hne x, q5⟩
theorem Ov.of_gr {lo hi : Nat} {w0 W W' : World} (h : Ov lo hi W W') (hg : Gr w0 W) (hl : w0.heap.size ≤ lo) : Gr w0 W' := by
  induction h with
  | refl => exact hg
  | gr _ hg2 ih => exact ih.trans hg2
  | @set W1 _ b o h1 h2 x ih => exact ih.setCell (p := ⟨b, o, none⟩) (show w0.heap.size ≤ b by omega) _
end Go.Proofs.YtlfiakpmnkhcdaaGreat.Mo
/- Copies of rows: the law's lent. (made by mkkj.py) -/
namespace Go.Proofs.YtlfiakpmnkhcdaaGreat.Mo
open Go.RowKit Go.Shelf
set_option linter.unusedVariables false
set_option linter.unusedSimpArgs false

/-- A copy that may be overwritten. -/
def LentP (lv : Int) (sp : Bool) (rA : List (List Int)) (w : World) (e : Ending) (w' : World) : Prop := ∃ x c, e = .returned (.agg #[.int .i64 lv, .bool sp, .slice x rA.length c]) ∧ HasB w' w.heap.size w'.heap.size (.slice x rA.length c) rA ∧ SpR w' w.heap.size w'.heap.size (.slice x rA.length c) rA ∧ Gr w w'
theorem own_empty32 (w : World) (base : Nat) (hb : base ≤ w.heap.size) : Own1 (w.alloc (.cells #[] 22)) base (.slice (some ⟨w.heap.size, 0, none⟩) 0 0) [] :=
  ⟨U32.nil, rfl, .inr ⟨w.heap.size, 0, #[], rfl, hb, heap_alloc_new w _, Nat.le_refl _, by unfold maxLen; omega, rfl, rfl⟩⟩

set_option maxRecDepth 100000 in
set_option maxHeartbeats 8000000 in
theorem lent_any (lv : Int) (sp : Bool) (uA : Value) (rA : List (List Int)) (w : World) (hA : HasR w uA rA) (hs : Sm 1000 rA) :
    Calls Tryz.prog 13 #[.agg #[.int .i64 lv, .bool sp, uA]] w (LentP lv sp rA w) := by
  obtain ⟨xA, cA, rfl⟩ := hA.form
  generalize hnA : rA.length = nA at *
  obtain ⟨W1, hW1⟩ : ∃ W1, W1 = ((w.alloc (.cells #[.int .i64 lv, .bool sp, .slice xA nA cA] 28)).alloc (.cells #[.int .i64 0, .bool false, .slice none 0 0] 28)).alloc (.cells #[.int .i64 lv, .bool sp, .slice none 0 0] 28) := ⟨_, rfl⟩
  have HG := Lib.hid (show Gr w W1 by rw [hW1]; exact ((Gr.new w _).alloc _).alloc _)
  have HBA := Lib.hid (show Blk W1 w.heap.size 28 #[.int .i64 lv, .bool sp, .slice xA nA cA] by rw [hW1]; exact (Blk.new w _ _).gr ((Gr.new _ _).alloc _))
  have HRB := Lib.hid (show Blk W1 (w.heap.size + 1) 28 #[.int .i64 0, .bool false, .slice none 0 0] by rw [hW1]; exact (Blk.newk _ _ (by simp)).gr (Gr.new _ _))
  have HBO := Lib.hid (show Blk W1 (w.heap.size + 2) 28 #[.int .i64 lv, .bool sp, .slice none 0 0] by rw [hW1]; exact Blk.newk _ _ (by simp))
  have HSZ := Lib.hid (show W1.heap.size = w.heap.size + 3 by rw [hW1]; simp)
  have HA := Lib.hid hA
  have HNA := Lib.hid hnA
  have HSM := Lib.hid hs
  have hnA1 : nA ≤ 1000 := by rw [← hnA]; exact hs.1
  clear hA hnA hs
  obtain ⟨M, hM⟩ : ∃ M : List Int, M = List.replicate nA 0 := ⟨_, rfl⟩
  have HML := Lib.hid (show M.length = nA by rw [hM]; simp)
  clear hM
  obtain ⟨b, hb⟩ : ∃ b, b = W1.heap.size := ⟨_, rfl⟩
  have HLP := Lib.hid (show LP b (w.heap.size + 2) w W1 lv sp (fun i _ => rw_ rA i) M 0 (.slice none 0 0) [] W1 from LP.start hb.symm HBO.out HG.out)
  have hb3 : b = w.heap.size + 3 := by rw [hb]; exact HSZ.out
  have HB3 := Lib.hid hb3
  have hb4 : w.heap.size + 3 ≤ b := by omega
  clear hb hb3
  go_enter Tryz.func13, Tryz.ntmps13
  go_upto_region 2 with (fail)
  rw [← hW1]
  clear hW1
  go_wp2_with fail
  go_loopw [4] (fun i wr => ∃ (k : Nat) (x : Option Addr) (c : Nat) (ls : List (List Int)), i = .int .i64 k ∧ k ≤ nA ∧ LP b (w.heap.size + 2) w W1 lv sp (fun i _ => rw_ rA i) M k (.slice x k c) ls wr ∧ OwnF wr b (.slice x k c) ls) (fun i _ => nA - (intOf i).toNat)
  case atStart => exact ⟨0, none, 0, [], rfl, by omega, HLP.out, OwnF.nil _ _⟩
  case round =>
    obtain ⟨k, vx, vc, ls, rfl, hk, hlp, hof⟩ := hrel
    have HFK := Lib.hid hof
    clear hof
    have HLK := Lib.hid hlp
    obtain ⟨a0, a1, a2⟩ := (hlp.fx.blk HBA.out (by omega) (by omega)).p3
    clear hlp
    by_cases hlt : k < nA
    · have i1 : (k : Int) < (nA : Int) := by omega
      have i0 : (0 : Int) ≤ (k : Int) := by omega
      obtain ⟨gA, oA, sx, sn, sc, rfl, hcA, hs1, hpA⟩ := HasB.at_ HA.out (i := k) (by rw [HNA.out]; exact hlt)
      have HPA := Lib.hid hpA
      have HCA := Lib.hid hcA
      have HRL := Lib.hid (show ([] : List Int).length + (rw_ rA k).length ≤ 1000000 by have := HSM.out.2 k (by rw [HNA.out]; exact hlt); simp; omega)
      have HROW := Lib.hid (show rw_ rA k = (fun i _ => rw_ rA i) k (Op.cf M k) from rfl)
      clear hs1 hpA hcA
      go_wp2_with fail
      clear a0 a1 a2
      have HKEEP := Lib.hid (show ∀ wz, Fx b (w.heap.size + 2) W1 wz → Gr w wz → (wz.cell? ⟨w.heap.size, 2, none⟩ = some (.slice (some ⟨gA, oA, none⟩) nA cA) ∧ wz.cell? ⟨gA, oA + k, none⟩ = some (.slice sx sn sc)) from fun wz fx g => ⟨(fx.blk HBA.out (by omega) (by omega)).p3.2.2, g.keeps HCA.out⟩)
      have HL0 := Lib.hid (HLK.out.later (show Gr wr wr.drew from Below.drew (Gr.refl wr)))
      have HLd := HL0
      have HFd := Lib.hid (HFK.out.gr (show Gr wr wr.drew from Below.drew (Gr.refl wr)))
      have HLEN := Lib.hid (show ls.length ≤ 1000000 by rw [HLK.out.len]; omega)
      have HLL := Lib.hid (show (ls ++ [(rw_ rA k)]).length = k + 1 by rw [List.length_append, HLK.out.len]; rfl)
      obtain ⟨o0, o1, o2⟩ := HLd.out.out.p3
      refine wp_region_held_drew (S := fun wz => wz.cell? ⟨w.heap.size, 2, none⟩ = some (.slice (some ⟨gA, oA, none⟩) nA cA) ∧ wz.cell? ⟨gA, oA + k, none⟩ = some (.slice sx sn sc)) (by kernel_rfl) (HKEEP.out _ HLd.out.fx HLd.out.gr) (fun hHeld => ?_)
      show wpAnyH _ _ _ _ _ 13 #[false, false, false, false, false, false, false, false, false, false, false, false, false] _ _
      refine wpAnyH_take (i := 0) (oi := { dst := some 17, op := Op.fieldAddr 28 (Operand.tmp 3) 2, type := 0, pos := "law.go:53", after := #[], guard := none }) (v := ?_) rfl (by kernel_rfl) (by kernel_rfl) (by kernel_rfl) (fun _ _ _ h => h) (_root_.Or.inl ⟨by rfl, ?_⟩) (by assumption) ?_
      rotate_left
      · intro w0 hSw; (try dsimp only at hSw); go_simp; try with_reducible rfl
      (try simp only [Act.put, List.setIfInBounds_toArray, List.set_cons_zero, List.set_cons_succ])
      refine wpAnyH_take (i := 3) (oi := { dst := some 20, op := Op.fieldAddr 28 (Operand.tmp 1) 2, type := 0, pos := "law.go:53", after := #[], guard := none }) (v := ?_) rfl (by kernel_rfl) (by kernel_rfl) (by kernel_rfl) (fun _ _ _ h => h) (_root_.Or.inl ⟨by rfl, ?_⟩) (by assumption) ?_
      rotate_left
      · intro w0 hSw; (try dsimp only at hSw); go_simp; try with_reducible rfl
      (try simp only [Act.put, List.setIfInBounds_toArray, List.set_cons_zero, List.set_cons_succ])
      refine wpAnyH_take (i := 4) (oi := { dst := some 21, op := Op.load 26 (Operand.tmp 20), type := 26, pos := "law.go:53", after := #[{ on := 3, ground := Ground.data }], guard := none }) (v := ?_) rfl (by kernel_rfl) (by kernel_rfl) (by kernel_rfl) (fun _ _ _ h => h) (_root_.Or.inl ⟨by rfl, ?_⟩) (by assumption) ?_
      rotate_left
      · intro w0 hSw; (try dsimp only at hSw); go_simp; try with_reducible rfl
      (try simp only [Act.put, List.setIfInBounds_toArray, List.set_cons_zero, List.set_cons_succ])
      refine wpAnyH_take (i := 5) (oi := { dst := some 22, op := Op.move (Operand.tmp 4), type := 3, pos := "law.go:53", after := #[], guard := none }) (v := ?_) rfl (by kernel_rfl) (by kernel_rfl) (by kernel_rfl) (fun _ _ _ h => h) (_root_.Or.inl ⟨by rfl, ?_⟩) (by assumption) ?_
      rotate_left
      · intro w0 hSw; (try dsimp only at hSw); go_simp; try with_reducible rfl
      (try simp only [Act.put, List.setIfInBounds_toArray, List.set_cons_zero, List.set_cons_succ])
      refine wpAnyH_take (i := 6) (oi := { dst := some 23, op := Op.indexAddr 26 (Operand.tmp 21) (Operand.tmp 22), type := 0, pos := "law.go:53", after := #[{ on := 4, ground := Ground.data }, { on := 5, ground := Ground.data }], guard := none }) (v := ?_) rfl (by kernel_rfl) (by kernel_rfl) (by kernel_rfl) (fun _ _ _ h => h) (_root_.Or.inl ⟨by rfl, ?_⟩) (by assumption) ?_
      rotate_left
      · intro w0 hSw; (try dsimp only at hSw); go_simp; try with_reducible rfl
      (try simp only [Act.put, List.setIfInBounds_toArray, List.set_cons_zero, List.set_cons_succ])
      refine wpAnyH_take (i := 7) (oi := { dst := some 24, op := Op.load 23 (Operand.tmp 23), type := 23, pos := "law.go:53", after := #[{ on := 6, ground := Ground.data }], guard := none }) (v := ?_) rfl (by kernel_rfl) (by kernel_rfl) (by kernel_rfl) (fun _ _ _ h => h) (_root_.Or.inl ⟨by rfl, ?_⟩) (by assumption) ?_
      rotate_left
      · intro w0 hSw; (try dsimp only at hSw); go_simp; try with_reducible rfl
      (try simp only [Act.put, List.setIfInBounds_toArray, List.set_cons_zero, List.set_cons_succ])
      refine wpAnyH_ready (rs := [1, 2]) (by kernel_rfl) (by simp) ?_
      refine AllReadyH.cons (o := { dst := some 18, op := Op.load 26 (Operand.tmp 17), type := 26, pos := "law.go:53", after := #[{ on := 0, ground := Ground.data }], guard := none }) rfl (fun K hK => ?_) ?_
      · go_simp
        refine hK.out _ _ hHeld (fun hHeld => ?_)
        clear hK K
        (try simp only [Act.put, List.setIfInBounds_toArray, List.set_cons_zero, List.set_cons_succ])
        refine wpAnyH_ready (rs := [2]) (by kernel_rfl) (by simp) ?_
        refine AllReadyH.cons (o := { dst := some 19, op := Op.buildSlice 23 0 #[], type := 23, pos := "law.go:53", after := #[], guard := none }) rfl (fun K hK => ?_) ?_
        · go_simp
          refine hK.out _ _ (HKEEP.out _ (HL0.out.later (Gr.new wr.drew (.cells #[] 22))).fx (HL0.out.later (Gr.new wr.drew (.cells #[] 22))).gr) (fun hHeld => ?_)
          clear hK K
          (try simp only [Act.put, List.setIfInBounds_toArray, List.set_cons_zero, List.set_cons_succ])
          replace HLd := Lib.hid (HL0.out.later (show Gr wr.drew (wr.alloc (.cells #[] 22)).drew from Gr.new wr.drew (.cells #[] 22)))
          replace HFd := Lib.hid (HFd.out.gr (show Gr wr.drew (wr.alloc (.cells #[] 22)).drew from Gr.new wr.drew (.cells #[] 22)))
          clear o0 o1 o2
          obtain ⟨o0, o1, o2⟩ := HLd.out.out.p3
          refine wpAnyH_ready (rs := [8]) (by kernel_rfl) (by simp) ?_
          refine AllReadyH.cons (o := { dst := some 25, op := Op.call { callee := Callee.builtin Builtin.append, args := #[Operand.tmp 19, Operand.tmp 24], argTypes := #[23, 23] }, type := 23, pos := "law.go:53", after := #[{ on := 2, ground := Ground.data }, { on := 7, ground := Ground.data }], guard := none }) rfl (fun K hK => ?_) ?_
          · refine wp_app (.tmp 19) (.tmp 24) rfl rfl wr.drew.heap.size (.slice (some ⟨wr.heap.size, 0, none⟩) 0 0) [] rfl (own_empty32 wr.drew _ (Nat.le_refl _)) (.slice sx sn sc) (rw_ rA k) rfl (HPA.out.later HLd.out.gr) HRL.out (Nat.le_of_lt (by simp)) ?_
            intro v1 w8 hown hgrow
            rw [List.nil_append] at hown
            obtain ⟨px, pc, hpv, -, -⟩ := hown.form
            subst hpv
            have HP8 := Lib.hid hown.hasP
            have HTH := Lib.hid hown.thaw
            have HF8 := Lib.hid (show Ap b (.slice vx k vc) (.slice px ((rw_ rA k)).length pc) (rw_ rA k) from ap_of_fresh (W0 := wr.drew) HL0.out.own HL0.out.fx.1 (hown.fresh rfl))
            have hg8 : Gr wr.drew w8 := grown_own (Gr.new wr.drew (.cells #[] 22)) (own_empty32 wr.drew _ (Nat.le_refl _)) hgrow (Nat.le_refl _)
            replace HFd := Lib.hid ((HFK.out.gr (show Gr wr wr.drew from Below.drew (Gr.refl wr))).gr hg8)
            clear hown hgrow
            refine hK.out _ _ (HKEEP.out _ (HL0.out.later hg8).fx (HL0.out.later hg8).gr) (fun hHeld => ?_)
            clear hK K
            (try simp only [Act.put, List.setIfInBounds_toArray, List.set_cons_zero, List.set_cons_succ])
            replace HLd := Lib.hid (HL0.out.later hg8)
            clear hg8
            clear o0 o1 o2
            obtain ⟨o0, o1, o2⟩ := HLd.out.out.p3
            refine wpAnyH_ready (rs := [9]) (by kernel_rfl) (by simp) ?_
            refine AllReadyH.cons (o := { dst := some 26, op := Op.buildSlice 26 1 #[(0, Operand.tmp 25)], type := 26, pos := "law.go:53", after := #[{ on := 8, ground := Ground.data }], guard := none }) rfl (fun K hK => ?_) ?_
            · go_simp
              refine hK.out _ _ (HKEEP.out _ (HLd.out.later (Gr.new w8 (.cells #[.slice px ((rw_ rA k)).length pc] 23))).fx (HLd.out.later (Gr.new w8 (.cells #[.slice px ((rw_ rA k)).length pc] 23))).gr) (fun hHeld => ?_)
              clear hK K
              (try simp only [Act.put, List.setIfInBounds_toArray, List.set_cons_zero, List.set_cons_succ])
              replace HLd := Lib.hid (HLd.out.later (Gr.new w8 (.cells #[.slice px ((rw_ rA k)).length pc] 23)))
              replace HFd := Lib.hid (HFd.out.gr (Gr.new w8 (.cells #[.slice px ((rw_ rA k)).length pc] 23)))
              clear o0 o1 o2
              obtain ⟨o0, o1, o2⟩ := HLd.out.out.p3
              refine wpAnyH_ready (rs := [10]) (by kernel_rfl) (by simp) ?_
              refine AllReadyH.cons (o := { dst := some 27, op := Op.call { callee := Callee.builtin Builtin.append, args := #[Operand.tmp 18, Operand.tmp 26], argTypes := #[26, 26] }, type := 26, pos := "law.go:53", after := #[{ on := 1, ground := Ground.data }, { on := 9, ground := Ground.data }, { on := 8, ground := Ground.chain }], guard := none }) rfl (fun K hK => ?_) ?_
              · refine wp_appF (.tmp 18) (.tmp 26) rfl rfl b (.slice vx k vc) ls rfl HFd.out (.slice px ((rw_ rA k)).length pc) (rw_ rA k) w8.heap.size rfl (cell_new _ _ _) (HP8.out.later (Gr.new _ _)) HF8.out (HTH.out.gr (Gr.new _ _)) HLEN.out HLd.out.fx.1 ?_
                intro v' wn hownF hgrow
                have hown := hownF.ownR
                obtain ⟨va2, vc2, hv2, -, -⟩ := hown.form
                rw [HLL.out] at hv2
                subst hv2
                have HF9 := Lib.hid hownF
                clear hownF
                have HMID := Lib.hid (HLd.out.mid (by omega) hgrow)
                have HAPP := Lib.hid (HLd.out.app (by omega) (by omega) hown hgrow (by first | rfl | exact HROW.out))
                have HFX := Lib.hid (HLd.out.fx.row hgrow (fun r e => (HLd.out.own.lt r e).1))
                have HGN := Lib.hid (OwnR.grown HLd.out.own HLd.out.gr hgrow (by omega))
                clear hown hgrow
                refine hK.out _ _ (HKEEP.out _ HFX.out HGN.out) (fun hHeld => ?_)
                clear hK K
                (try simp only [Act.put, List.setIfInBounds_toArray, List.set_cons_zero, List.set_cons_succ])
                obtain ⟨e0, e1, e2⟩ := HMID.out.p3
                obtain ⟨f0, f1, f2⟩ := HMID.out.f3
                refine wpAnyH_take (i := 11) (oi := { dst := some 28, op := Op.fieldAddr 28 (Operand.tmp 3) 2, type := 0, pos := "law.go:53", after := #[{ on := 0, ground := Ground.phase }, { on := 1, ground := Ground.phase }, { on := 2, ground := Ground.phase }, { on := 3, ground := Ground.phase }, { on := 4, ground := Ground.phase }, { on := 5, ground := Ground.phase }, { on := 6, ground := Ground.phase }, { on := 7, ground := Ground.phase }, { on := 8, ground := Ground.phase }, { on := 9, ground := Ground.phase }, { on := 10, ground := Ground.phase }], guard := none }) (v := ?_) rfl (by kernel_rfl) (by kernel_rfl) (by kernel_rfl) (fun _ _ _ h => h) (_root_.Or.inl ⟨by rfl, ?_⟩) (by assumption) ?_
                rotate_left
                · intro w0 hSw; (try dsimp only at hSw); go_simp; try with_reducible rfl
                (try simp only [Act.put, List.setIfInBounds_toArray, List.set_cons_zero, List.set_cons_succ])
                refine wpAnyH_ready (rs := [12]) (by kernel_rfl) (by simp) ?_
                refine AllReadyH.cons (o := { dst := none, op := Op.store 26 (Operand.tmp 28) (Operand.tmp 27), type := 0, pos := "law.go:53", after := #[{ on := 11, ground := Ground.data }, { on := 10, ground := Ground.data }, { on := 10, ground := Ground.chain }, { on := 0, ground := Ground.phase }, { on := 1, ground := Ground.phase }, { on := 2, ground := Ground.phase }, { on := 3, ground := Ground.phase }, { on := 4, ground := Ground.phase }, { on := 5, ground := Ground.phase }, { on := 6, ground := Ground.phase }, { on := 7, ground := Ground.phase }, { on := 8, ground := Ground.phase }, { on := 9, ground := Ground.phase }, { on := 10, ground := Ground.phase }], guard := none }) rfl (fun K hK => ?_) ?_
                · go_simp
                  refine hK.out _ _ (HKEEP.out _ HAPP.out.fx HAPP.out.gr) (fun hHeld => ?_)
                  clear hK K
                  (try simp only [Act.put, List.setIfInBounds_toArray, List.set_cons_zero, List.set_cons_succ])
                  refine wpAnyH_done (by kernel_rfl) ?_ _
                  clear hHeld
                  go_wp2_with fail
                  go_roundw
                  case rel => exact ⟨k + 1, va2, vc2, _, by go_num, by omega, HAPP.out, HF9.out.set (by omega) _⟩
                  case measure => simp [intOf]; omega
                exact AllReadyH.nil
              exact AllReadyH.nil
            exact AllReadyH.nil
          exact AllReadyH.nil
        exact AllReadyH.nil
      refine AllReadyH.cons (o := { dst := some 19, op := Op.buildSlice 23 0 #[], type := 23, pos := "law.go:53", after := #[], guard := none }) rfl (fun K hK => ?_) ?_
      · go_simp
        refine hK.out _ _ (HKEEP.out _ (HL0.out.later (Gr.new wr.drew (.cells #[] 22))).fx (HL0.out.later (Gr.new wr.drew (.cells #[] 22))).gr) (fun hHeld => ?_)
        clear hK K
        (try simp only [Act.put, List.setIfInBounds_toArray, List.set_cons_zero, List.set_cons_succ])
        replace HLd := Lib.hid (HL0.out.later (show Gr wr.drew (wr.alloc (.cells #[] 22)).drew from Gr.new wr.drew (.cells #[] 22)))
        replace HFd := Lib.hid (HFd.out.gr (show Gr wr.drew (wr.alloc (.cells #[] 22)).drew from Gr.new wr.drew (.cells #[] 22)))
        clear o0 o1 o2
        obtain ⟨o0, o1, o2⟩ := HLd.out.out.p3
        refine wpAnyH_ready (rs := [1, 8]) (by kernel_rfl) (by simp) ?_
        refine AllReadyH.cons (o := { dst := some 18, op := Op.load 26 (Operand.tmp 17), type := 26, pos := "law.go:53", after := #[{ on := 0, ground := Ground.data }], guard := none }) rfl (fun K hK => ?_) ?_
        · go_simp
          refine hK.out _ _ hHeld (fun hHeld => ?_)
          clear hK K
          (try simp only [Act.put, List.setIfInBounds_toArray, List.set_cons_zero, List.set_cons_succ])
          refine wpAnyH_ready (rs := [8]) (by kernel_rfl) (by simp) ?_
          refine AllReadyH.cons (o := { dst := some 25, op := Op.call { callee := Callee.builtin Builtin.append, args := #[Operand.tmp 19, Operand.tmp 24], argTypes := #[23, 23] }, type := 23, pos := "law.go:53", after := #[{ on := 2, ground := Ground.data }, { on := 7, ground := Ground.data }], guard := none }) rfl (fun K hK => ?_) ?_
          · refine wp_app (.tmp 19) (.tmp 24) rfl rfl wr.drew.heap.size (.slice (some ⟨wr.heap.size, 0, none⟩) 0 0) [] rfl (own_empty32 wr.drew _ (Nat.le_refl _)) (.slice sx sn sc) (rw_ rA k) rfl (HPA.out.later HLd.out.gr) HRL.out (Nat.le_of_lt (by simp)) ?_
            intro v1 w8 hown hgrow
            rw [List.nil_append] at hown
            obtain ⟨px, pc, hpv, -, -⟩ := hown.form
            subst hpv
            have HP8 := Lib.hid hown.hasP
            have HTH := Lib.hid hown.thaw
            have HF8 := Lib.hid (show Ap b (.slice vx k vc) (.slice px ((rw_ rA k)).length pc) (rw_ rA k) from ap_of_fresh (W0 := wr.drew) HL0.out.own HL0.out.fx.1 (hown.fresh rfl))
            have hg8 : Gr wr.drew w8 := grown_own (Gr.new wr.drew (.cells #[] 22)) (own_empty32 wr.drew _ (Nat.le_refl _)) hgrow (Nat.le_refl _)
            replace HFd := Lib.hid ((HFK.out.gr (show Gr wr wr.drew from Below.drew (Gr.refl wr))).gr hg8)
            clear hown hgrow
            refine hK.out _ _ (HKEEP.out _ (HL0.out.later hg8).fx (HL0.out.later hg8).gr) (fun hHeld => ?_)
            clear hK K
            (try simp only [Act.put, List.setIfInBounds_toArray, List.set_cons_zero, List.set_cons_succ])
            replace HLd := Lib.hid (HL0.out.later hg8)
            clear hg8
            clear o0 o1 o2
            obtain ⟨o0, o1, o2⟩ := HLd.out.out.p3
            refine wpAnyH_ready (rs := [9]) (by kernel_rfl) (by simp) ?_
            refine AllReadyH.cons (o := { dst := some 26, op := Op.buildSlice 26 1 #[(0, Operand.tmp 25)], type := 26, pos := "law.go:53", after := #[{ on := 8, ground := Ground.data }], guard := none }) rfl (fun K hK => ?_) ?_
            · go_simp
              refine hK.out _ _ (HKEEP.out _ (HLd.out.later (Gr.new w8 (.cells #[.slice px ((rw_ rA k)).length pc] 23))).fx (HLd.out.later (Gr.new w8 (.cells #[.slice px ((rw_ rA k)).length pc] 23))).gr) (fun hHeld => ?_)
              clear hK K
              (try simp only [Act.put, List.setIfInBounds_toArray, List.set_cons_zero, List.set_cons_succ])
              replace HLd := Lib.hid (HLd.out.later (Gr.new w8 (.cells #[.slice px ((rw_ rA k)).length pc] 23)))
              replace HFd := Lib.hid (HFd.out.gr (Gr.new w8 (.cells #[.slice px ((rw_ rA k)).length pc] 23)))
              clear o0 o1 o2
              obtain ⟨o0, o1, o2⟩ := HLd.out.out.p3
              refine wpAnyH_ready (rs := [10]) (by kernel_rfl) (by simp) ?_
              refine AllReadyH.cons (o := { dst := some 27, op := Op.call { callee := Callee.builtin Builtin.append, args := #[Operand.tmp 18, Operand.tmp 26], argTypes := #[26, 26] }, type := 26, pos := "law.go:53", after := #[{ on := 1, ground := Ground.data }, { on := 9, ground := Ground.data }, { on := 8, ground := Ground.chain }], guard := none }) rfl (fun K hK => ?_) ?_
              · refine wp_appF (.tmp 18) (.tmp 26) rfl rfl b (.slice vx k vc) ls rfl HFd.out (.slice px ((rw_ rA k)).length pc) (rw_ rA k) w8.heap.size rfl (cell_new _ _ _) (HP8.out.later (Gr.new _ _)) HF8.out (HTH.out.gr (Gr.new _ _)) HLEN.out HLd.out.fx.1 ?_
                intro v' wn hownF hgrow
                have hown := hownF.ownR
                obtain ⟨va2, vc2, hv2, -, -⟩ := hown.form
                rw [HLL.out] at hv2
                subst hv2
                have HF9 := Lib.hid hownF
                clear hownF
                have HMID := Lib.hid (HLd.out.mid (by omega) hgrow)
                have HAPP := Lib.hid (HLd.out.app (by omega) (by omega) hown hgrow (by first | rfl | exact HROW.out))
                have HFX := Lib.hid (HLd.out.fx.row hgrow (fun r e => (HLd.out.own.lt r e).1))
                have HGN := Lib.hid (OwnR.grown HLd.out.own HLd.out.gr hgrow (by omega))
                clear hown hgrow
                refine hK.out _ _ (HKEEP.out _ HFX.out HGN.out) (fun hHeld => ?_)
                clear hK K
                (try simp only [Act.put, List.setIfInBounds_toArray, List.set_cons_zero, List.set_cons_succ])
                obtain ⟨e0, e1, e2⟩ := HMID.out.p3
                obtain ⟨f0, f1, f2⟩ := HMID.out.f3
                refine wpAnyH_take (i := 11) (oi := { dst := some 28, op := Op.fieldAddr 28 (Operand.tmp 3) 2, type := 0, pos := "law.go:53", after := #[{ on := 0, ground := Ground.phase }, { on := 1, ground := Ground.phase }, { on := 2, ground := Ground.phase }, { on := 3, ground := Ground.phase }, { on := 4, ground := Ground.phase }, { on := 5, ground := Ground.phase }, { on := 6, ground := Ground.phase }, { on := 7, ground := Ground.phase }, { on := 8, ground := Ground.phase }, { on := 9, ground := Ground.phase }, { on := 10, ground := Ground.phase }], guard := none }) (v := ?_) rfl (by kernel_rfl) (by kernel_rfl) (by kernel_rfl) (fun _ _ _ h => h) (_root_.Or.inl ⟨by rfl, ?_⟩) (by assumption) ?_
                rotate_left
                · intro w0 hSw; (try dsimp only at hSw); go_simp; try with_reducible rfl
                (try simp only [Act.put, List.setIfInBounds_toArray, List.set_cons_zero, List.set_cons_succ])
                refine wpAnyH_ready (rs := [12]) (by kernel_rfl) (by simp) ?_
                refine AllReadyH.cons (o := { dst := none, op := Op.store 26 (Operand.tmp 28) (Operand.tmp 27), type := 0, pos := "law.go:53", after := #[{ on := 11, ground := Ground.data }, { on := 10, ground := Ground.data }, { on := 10, ground := Ground.chain }, { on := 0, ground := Ground.phase }, { on := 1, ground := Ground.phase }, { on := 2, ground := Ground.phase }, { on := 3, ground := Ground.phase }, { on := 4, ground := Ground.phase }, { on := 5, ground := Ground.phase }, { on := 6, ground := Ground.phase }, { on := 7, ground := Ground.phase }, { on := 8, ground := Ground.phase }, { on := 9, ground := Ground.phase }, { on := 10, ground := Ground.phase }], guard := none }) rfl (fun K hK => ?_) ?_
                · go_simp
                  refine hK.out _ _ (HKEEP.out _ HAPP.out.fx HAPP.out.gr) (fun hHeld => ?_)
                  clear hK K
                  (try simp only [Act.put, List.setIfInBounds_toArray, List.set_cons_zero, List.set_cons_succ])
                  refine wpAnyH_done (by kernel_rfl) ?_ _
                  clear hHeld
                  go_wp2_with fail
                  go_roundw
                  case rel => exact ⟨k + 1, va2, vc2, _, by go_num, by omega, HAPP.out, HF9.out.set (by omega) _⟩
                  case measure => simp [intOf]; omega
                exact AllReadyH.nil
              exact AllReadyH.nil
            exact AllReadyH.nil
          exact AllReadyH.nil
        refine AllReadyH.cons (o := { dst := some 25, op := Op.call { callee := Callee.builtin Builtin.append, args := #[Operand.tmp 19, Operand.tmp 24], argTypes := #[23, 23] }, type := 23, pos := "law.go:53", after := #[{ on := 2, ground := Ground.data }, { on := 7, ground := Ground.data }], guard := none }) rfl (fun K hK => ?_) ?_
        · refine wp_app (.tmp 19) (.tmp 24) rfl rfl wr.drew.heap.size (.slice (some ⟨wr.heap.size, 0, none⟩) 0 0) [] rfl (own_empty32 wr.drew _ (Nat.le_refl _)) (.slice sx sn sc) (rw_ rA k) rfl (HPA.out.later HLd.out.gr) HRL.out (Nat.le_of_lt (by simp)) ?_
          intro v1 w8 hown hgrow
          rw [List.nil_append] at hown
          obtain ⟨px, pc, hpv, -, -⟩ := hown.form
          subst hpv
          have HP8 := Lib.hid hown.hasP
          have HTH := Lib.hid hown.thaw
          have HF8 := Lib.hid (show Ap b (.slice vx k vc) (.slice px ((rw_ rA k)).length pc) (rw_ rA k) from ap_of_fresh (W0 := wr.drew) HL0.out.own HL0.out.fx.1 (hown.fresh rfl))
          have hg8 : Gr wr.drew w8 := grown_own (Gr.new wr.drew (.cells #[] 22)) (own_empty32 wr.drew _ (Nat.le_refl _)) hgrow (Nat.le_refl _)
          replace HFd := Lib.hid ((HFK.out.gr (show Gr wr wr.drew from Below.drew (Gr.refl wr))).gr hg8)
          clear hown hgrow
          refine hK.out _ _ (HKEEP.out _ (HL0.out.later hg8).fx (HL0.out.later hg8).gr) (fun hHeld => ?_)
          clear hK K
          (try simp only [Act.put, List.setIfInBounds_toArray, List.set_cons_zero, List.set_cons_succ])
          replace HLd := Lib.hid (HL0.out.later hg8)
          clear hg8
          clear o0 o1 o2
          obtain ⟨o0, o1, o2⟩ := HLd.out.out.p3
          refine wpAnyH_ready (rs := [1, 9]) (by kernel_rfl) (by simp) ?_
          refine AllReadyH.cons (o := { dst := some 18, op := Op.load 26 (Operand.tmp 17), type := 26, pos := "law.go:53", after := #[{ on := 0, ground := Ground.data }], guard := none }) rfl (fun K hK => ?_) ?_
          · go_simp
            refine hK.out _ _ hHeld (fun hHeld => ?_)
            clear hK K
            (try simp only [Act.put, List.setIfInBounds_toArray, List.set_cons_zero, List.set_cons_succ])
            refine wpAnyH_ready (rs := [9]) (by kernel_rfl) (by simp) ?_
            refine AllReadyH.cons (o := { dst := some 26, op := Op.buildSlice 26 1 #[(0, Operand.tmp 25)], type := 26, pos := "law.go:53", after := #[{ on := 8, ground := Ground.data }], guard := none }) rfl (fun K hK => ?_) ?_
            · go_simp
              refine hK.out _ _ (HKEEP.out _ (HLd.out.later (Gr.new w8 (.cells #[.slice px ((rw_ rA k)).length pc] 23))).fx (HLd.out.later (Gr.new w8 (.cells #[.slice px ((rw_ rA k)).length pc] 23))).gr) (fun hHeld => ?_)
              clear hK K
              (try simp only [Act.put, List.setIfInBounds_toArray, List.set_cons_zero, List.set_cons_succ])
              replace HLd := Lib.hid (HLd.out.later (Gr.new w8 (.cells #[.slice px ((rw_ rA k)).length pc] 23)))
              replace HFd := Lib.hid (HFd.out.gr (Gr.new w8 (.cells #[.slice px ((rw_ rA k)).length pc] 23)))
              clear o0 o1 o2
              obtain ⟨o0, o1, o2⟩ := HLd.out.out.p3
              refine wpAnyH_ready (rs := [10]) (by kernel_rfl) (by simp) ?_
              refine AllReadyH.cons (o := { dst := some 27, op := Op.call { callee := Callee.builtin Builtin.append, args := #[Operand.tmp 18, Operand.tmp 26], argTypes := #[26, 26] }, type := 26, pos := "law.go:53", after := #[{ on := 1, ground := Ground.data }, { on := 9, ground := Ground.data }, { on := 8, ground := Ground.chain }], guard := none }) rfl (fun K hK => ?_) ?_
              · refine wp_appF (.tmp 18) (.tmp 26) rfl rfl b (.slice vx k vc) ls rfl HFd.out (.slice px ((rw_ rA k)).length pc) (rw_ rA k) w8.heap.size rfl (cell_new _ _ _) (HP8.out.later (Gr.new _ _)) HF8.out (HTH.out.gr (Gr.new _ _)) HLEN.out HLd.out.fx.1 ?_
                intro v' wn hownF hgrow
                have hown := hownF.ownR
                obtain ⟨va2, vc2, hv2, -, -⟩ := hown.form
                rw [HLL.out] at hv2
                subst hv2
                have HF9 := Lib.hid hownF
                clear hownF
                have HMID := Lib.hid (HLd.out.mid (by omega) hgrow)
                have HAPP := Lib.hid (HLd.out.app (by omega) (by omega) hown hgrow (by first | rfl | exact HROW.out))
                have HFX := Lib.hid (HLd.out.fx.row hgrow (fun r e => (HLd.out.own.lt r e).1))
                have HGN := Lib.hid (OwnR.grown HLd.out.own HLd.out.gr hgrow (by omega))
                clear hown hgrow
                refine hK.out _ _ (HKEEP.out _ HFX.out HGN.out) (fun hHeld => ?_)
                clear hK K
                (try simp only [Act.put, List.setIfInBounds_toArray, List.set_cons_zero, List.set_cons_succ])
                obtain ⟨e0, e1, e2⟩ := HMID.out.p3
                obtain ⟨f0, f1, f2⟩ := HMID.out.f3
                refine wpAnyH_take (i := 11) (oi := { dst := some 28, op := Op.fieldAddr 28 (Operand.tmp 3) 2, type := 0, pos := "law.go:53", after := #[{ on := 0, ground := Ground.phase }, { on := 1, ground := Ground.phase }, { on := 2, ground := Ground.phase }, { on := 3, ground := Ground.phase }, { on := 4, ground := Ground.phase }, { on := 5, ground := Ground.phase }, { on := 6, ground := Ground.phase }, { on := 7, ground := Ground.phase }, { on := 8, ground := Ground.phase }, { on := 9, ground := Ground.phase }, { on := 10, ground := Ground.phase }], guard := none }) (v := ?_) rfl (by kernel_rfl) (by kernel_rfl) (by kernel_rfl) (fun _ _ _ h => h) (_root_.Or.inl ⟨by rfl, ?_⟩) (by assumption) ?_
                rotate_left
                · intro w0 hSw; (try dsimp only at hSw); go_simp; try with_reducible rfl
                (try simp only [Act.put, List.setIfInBounds_toArray, List.set_cons_zero, List.set_cons_succ])
                refine wpAnyH_ready (rs := [12]) (by kernel_rfl) (by simp) ?_
                refine AllReadyH.cons (o := { dst := none, op := Op.store 26 (Operand.tmp 28) (Operand.tmp 27), type := 0, pos := "law.go:53", after := #[{ on := 11, ground := Ground.data }, { on := 10, ground := Ground.data }, { on := 10, ground := Ground.chain }, { on := 0, ground := Ground.phase }, { on := 1, ground := Ground.phase }, { on := 2, ground := Ground.phase }, { on := 3, ground := Ground.phase }, { on := 4, ground := Ground.phase }, { on := 5, ground := Ground.phase }, { on := 6, ground := Ground.phase }, { on := 7, ground := Ground.phase }, { on := 8, ground := Ground.phase }, { on := 9, ground := Ground.phase }, { on := 10, ground := Ground.phase }], guard := none }) rfl (fun K hK => ?_) ?_
                · go_simp
                  refine hK.out _ _ (HKEEP.out _ HAPP.out.fx HAPP.out.gr) (fun hHeld => ?_)
                  clear hK K
                  (try simp only [Act.put, List.setIfInBounds_toArray, List.set_cons_zero, List.set_cons_succ])
                  refine wpAnyH_done (by kernel_rfl) ?_ _
                  clear hHeld
                  go_wp2_with fail
                  go_roundw
                  case rel => exact ⟨k + 1, va2, vc2, _, by go_num, by omega, HAPP.out, HF9.out.set (by omega) _⟩
                  case measure => simp [intOf]; omega
                exact AllReadyH.nil
              exact AllReadyH.nil
            exact AllReadyH.nil
          refine AllReadyH.cons (o := { dst := some 26, op := Op.buildSlice 26 1 #[(0, Operand.tmp 25)], type := 26, pos := "law.go:53", after := #[{ on := 8, ground := Ground.data }], guard := none }) rfl (fun K hK => ?_) ?_
          · go_simp
            refine hK.out _ _ (HKEEP.out _ (HLd.out.later (Gr.new w8 (.cells #[.slice px ((rw_ rA k)).length pc] 23))).fx (HLd.out.later (Gr.new w8 (.cells #[.slice px ((rw_ rA k)).length pc] 23))).gr) (fun hHeld => ?_)
            clear hK K
            (try simp only [Act.put, List.setIfInBounds_toArray, List.set_cons_zero, List.set_cons_succ])
            replace HLd := Lib.hid (HLd.out.later (Gr.new w8 (.cells #[.slice px ((rw_ rA k)).length pc] 23)))
            replace HFd := Lib.hid (HFd.out.gr (Gr.new w8 (.cells #[.slice px ((rw_ rA k)).length pc] 23)))
            clear o0 o1 o2
            obtain ⟨o0, o1, o2⟩ := HLd.out.out.p3
            refine wpAnyH_ready (rs := [1]) (by kernel_rfl) (by simp) ?_
            refine AllReadyH.cons (o := { dst := some 18, op := Op.load 26 (Operand.tmp 17), type := 26, pos := "law.go:53", after := #[{ on := 0, ground := Ground.data }], guard := none }) rfl (fun K hK => ?_) ?_
            · go_simp
              refine hK.out _ _ hHeld (fun hHeld => ?_)
              clear hK K
              (try simp only [Act.put, List.setIfInBounds_toArray, List.set_cons_zero, List.set_cons_succ])
              refine wpAnyH_ready (rs := [10]) (by kernel_rfl) (by simp) ?_
              refine AllReadyH.cons (o := { dst := some 27, op := Op.call { callee := Callee.builtin Builtin.append, args := #[Operand.tmp 18, Operand.tmp 26], argTypes := #[26, 26] }, type := 26, pos := "law.go:53", after := #[{ on := 1, ground := Ground.data }, { on := 9, ground := Ground.data }, { on := 8, ground := Ground.chain }], guard := none }) rfl (fun K hK => ?_) ?_
              · refine wp_appF (.tmp 18) (.tmp 26) rfl rfl b (.slice vx k vc) ls rfl HFd.out (.slice px ((rw_ rA k)).length pc) (rw_ rA k) w8.heap.size rfl (cell_new _ _ _) (HP8.out.later (Gr.new _ _)) HF8.out (HTH.out.gr (Gr.new _ _)) HLEN.out HLd.out.fx.1 ?_
                intro v' wn hownF hgrow
                have hown := hownF.ownR
                obtain ⟨va2, vc2, hv2, -, -⟩ := hown.form
                rw [HLL.out] at hv2
                subst hv2
                have HF9 := Lib.hid hownF
                clear hownF
                have HMID := Lib.hid (HLd.out.mid (by omega) hgrow)
                have HAPP := Lib.hid (HLd.out.app (by omega) (by omega) hown hgrow (by first | rfl | exact HROW.out))
                have HFX := Lib.hid (HLd.out.fx.row hgrow (fun r e => (HLd.out.own.lt r e).1))
                have HGN := Lib.hid (OwnR.grown HLd.out.own HLd.out.gr hgrow (by omega))
                clear hown hgrow
                refine hK.out _ _ (HKEEP.out _ HFX.out HGN.out) (fun hHeld => ?_)
                clear hK K
                (try simp only [Act.put, List.setIfInBounds_toArray, List.set_cons_zero, List.set_cons_succ])
                obtain ⟨e0, e1, e2⟩ := HMID.out.p3
                obtain ⟨f0, f1, f2⟩ := HMID.out.f3
                refine wpAnyH_take (i := 11) (oi := { dst := some 28, op := Op.fieldAddr 28 (Operand.tmp 3) 2, type := 0, pos := "law.go:53", after := #[{ on := 0, ground := Ground.phase }, { on := 1, ground := Ground.phase }, { on := 2, ground := Ground.phase }, { on := 3, ground := Ground.phase }, { on := 4, ground := Ground.phase }, { on := 5, ground := Ground.phase }, { on := 6, ground := Ground.phase }, { on := 7, ground := Ground.phase }, { on := 8, ground := Ground.phase }, { on := 9, ground := Ground.phase }, { on := 10, ground := Ground.phase }], guard := none }) (v := ?_) rfl (by kernel_rfl) (by kernel_rfl) (by kernel_rfl) (fun _ _ _ h => h) (_root_.Or.inl ⟨by rfl, ?_⟩) (by assumption) ?_
                rotate_left
                · intro w0 hSw; (try dsimp only at hSw); go_simp; try with_reducible rfl
                (try simp only [Act.put, List.setIfInBounds_toArray, List.set_cons_zero, List.set_cons_succ])
                refine wpAnyH_ready (rs := [12]) (by kernel_rfl) (by simp) ?_
                refine AllReadyH.cons (o := { dst := none, op := Op.store 26 (Operand.tmp 28) (Operand.tmp 27), type := 0, pos := "law.go:53", after := #[{ on := 11, ground := Ground.data }, { on := 10, ground := Ground.data }, { on := 10, ground := Ground.chain }, { on := 0, ground := Ground.phase }, { on := 1, ground := Ground.phase }, { on := 2, ground := Ground.phase }, { on := 3, ground := Ground.phase }, { on := 4, ground := Ground.phase }, { on := 5, ground := Ground.phase }, { on := 6, ground := Ground.phase }, { on := 7, ground := Ground.phase }, { on := 8, ground := Ground.phase }, { on := 9, ground := Ground.phase }, { on := 10, ground := Ground.phase }], guard := none }) rfl (fun K hK => ?_) ?_
                · go_simp
                  refine hK.out _ _ (HKEEP.out _ HAPP.out.fx HAPP.out.gr) (fun hHeld => ?_)
                  clear hK K
                  (try simp only [Act.put, List.setIfInBounds_toArray, List.set_cons_zero, List.set_cons_succ])
                  refine wpAnyH_done (by kernel_rfl) ?_ _
                  clear hHeld
                  go_wp2_with fail
                  go_roundw
                  case rel => exact ⟨k + 1, va2, vc2, _, by go_num, by omega, HAPP.out, HF9.out.set (by omega) _⟩
                  case measure => simp [intOf]; omega
                exact AllReadyH.nil
              exact AllReadyH.nil
            exact AllReadyH.nil
          exact AllReadyH.nil
        exact AllReadyH.nil
      exact AllReadyH.nil

    · obtain rfl : k = nA := by omega
      have i1 : ¬ (k : Int) < (k : Int) := by omega
      have HD := Lib.hid (show ls = rA from (HLK.out.done HML.out.symm).trans (rows_eq (by rw [rwA_len, HML.out, HNA.out]) fun i hi => by rw [rwA_len] at hi; rw [rwA_at _ _ hi]))
      obtain ⟨o0, o1, o2⟩ := HLK.out.out.p3
      have HRR := Lib.hid (HLK.out.fx.blk HRB.out (by omega) (by omega))
      obtain ⟨r0, r1, r2⟩ := HRR.out.p3
      obtain ⟨f0, f1, f2⟩ := HRR.out.f3
      go_wp2_with fail
      have hr := ((HRR.out.set 0 (.int .i64 lv)).set 1 (.bool sp)).set 2 (.slice vx k vc)
      obtain ⟨e0, e1, e2⟩ := (show Blk _ _ _ #[.int .i64 lv, .bool sp, .slice vx k vc] from hr).p3
      refine bodyPost_ret (v := .agg #[.int .i64 lv, .bool sp, .slice vx k vc]) (by simp [results, Tryz.results13, go_sem, e0, e1, e2]) rfl ?_
      have h := put3b HLK.out.own.hasB HLK.out.gr (k := w.heap.size + 1) (by omega) (by omega) (.int .i64 lv) (.bool sp) (.slice vx k vc)
      have hf := ((HFK.out.set (B := w.heap.size + 1) (o := 0) (by omega) (.int .i64 lv)).set (B := w.heap.size + 1) (o := 1) (by omega) (.bool sp)).set (B := w.heap.size + 1) (o := 2) (by omega) (.slice vx k vc)
      rw [HD.out] at h hf
      exact ⟨_, _, by rw [HNA.out], by rw [HNA.out]; exact h.1, by rw [HNA.out]; exact hf.spR.mono (by omega) (Nat.le_refl _), h.2⟩
end Go.Proofs.YtlfiakpmnkhcdaaGreat.Mo
