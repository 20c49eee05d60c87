/- append to numbers of the call's own. -/
import Derived.Test.YtaenjbemkeghgaaPprod
namespace Go.Proofs.Ytaenjbemkeghgaa
open Go.RowKit
set_option linter.unusedVariables false

/-- A slice of the call's own that holds numbers. -/
def Own1 (W : World) (base : Nat) (v : Value) (l : List Int) : Prop := U32 l ∧ W.ownsRow base 22 1 v l.length (pcells l)
theorem Own1.hasP {W : World} {base : Nat} {v : Value} {l : List Int} (h : Own1 W base v l) : HasP W v l := by
  refine ⟨h.1, ?_⟩
  rcases h.2.2 with ⟨rfl, h0⟩ | ⟨g, cap, cur, rfl, _, hg, h1, h2, h3, h4⟩
  · exact ⟨none, 0, by rw [h0], by omega, by omega, fun i hi => by omega⟩
  · refine ⟨_, cap, rfl, h1, by unfold maxLen at h2; omega, fun i hi => ⟨g, 0, rfl, ?_⟩⟩
    have hc : W.cell? ⟨g, i, none⟩ = (pcells l)[i]? := by
      rw [← h4, List.getElem?_take_of_lt (by omega)]
      simp [World.cell?, hg]
    rw [Nat.zero_add, hc, pcells_at l i hi]
/-- The block that it lies in. -/
theorem Own1.row {W : World} {base : Nat} {v : Value} {l : List Int} (h : Own1 W base v l) (h0 : 0 < l.length) : ∃ g cap, v = .slice (some ⟨g, 0, none⟩) l.length cap ∧ base ≤ g ∧ l.length ≤ cap ∧ cap ≤ 9223372036854775807 ∧ Row W g l := by
  have hd := h.hasP
  rcases h.2.2 with ⟨rfl, h1⟩ | ⟨g, cap, cur, rfl, hb, hg, h1, h2, h3, h4⟩
  · omega
  · refine ⟨g, cap, rfl, hb, h1, by unfold maxLen at h2; omega, h.1, cur, hg, by omega, fun i hi => ?_⟩
    have : cur.toList[i]? = (pcells l)[i]? := by rw [← h4, List.getElem?_take_of_lt (by omega)]
    rw [Array.getElem?_toList] at this
    rw [this, pcells_at l i hi]
theorem Own1.nil (W : World) (base : Nat) : Own1 W base (.slice none 0 0) [] := ⟨U32.nil, World.ownsRow_nil _ _ _ _⟩
theorem Own1.fresh {W : World} {base : Nat} {v : Value} {l : List Int} (h : Own1 W base v l) {a : Option Addr} {n c : Nat} (hv : v = .slice a n c) : ∀ p, a = some p → base ≤ p.block := by
  intro p hp
  subst hv hp
  rcases h.2.2 with ⟨e, _⟩ | ⟨g, cap, cur, e, hb, _⟩
  · cases e
  · cases e
    exact hb
theorem Own1.form {W : World} {base : Nat} {v : Value} {l : List Int} (h : Own1 W base v l) : ∃ a c, v = .slice a l.length c ∧ l.length ≤ c ∧ c ≤ 9223372036854775807 := by
  obtain ⟨_, a, c, e, h1, h2, _⟩ := h.hasP
  exact ⟨a, c, e, h1, h2⟩
theorem Own1.alloc {W : World} {base : Nat} {v : Value} {l : List Int} (h : Own1 W base v l) (o : Obj) : Own1 (W.alloc o) base v l := ⟨h.1, h.2.alloc o⟩
theorem Own1.drew {W : World} {base : Nat} {v : Value} {l : List Int} (h : Own1 W base v l) : Own1 W.drew base v l := h

theorem run_app (w : World) (base : Nat) (v : Value) (l0 : List Int) (hown : Own1 w base v l0) (u : Value) (m : List Int) (hu : HasP w u m) (hlen : l0.length + m.length ≤ 1000000) (hbase : base ≤ w.heap.size) :
    ∃ v' w', (Builtin.append_ #[23, 23] 23 #[v, u]).run Try.prog w = .ok v' w' ∧ Own1 w' base v' (l0 ++ m) ∧ w.grownBy w' v.ownBlock := by
  obtain ⟨i0, hi, hz0, hz1, hz2⟩ := info_parts infoU32
  obtain ⟨hd0, hown⟩ := hown
  obtain ⟨hdm, a, cap, rfl, h1, h2, hc⟩ := hu
  have hdg : U32 (l0 ++ m) := hd0.app hdm
  have hcells : pcells (l0 ++ m) = pcells l0 ++ pcells m := by simp [pcells]
  rcases a with _ | ad
  · have hm : m = [] := by
      rcases m with _ | ⟨x, m⟩
      · rfl
      · obtain ⟨g, o, e, _⟩ := hc 0 (by simp)
        cases e
    subst hm
    refine ⟨v, w, ?_, by rw [List.append_nil]; exact ⟨hd0, hown⟩, World.grownBy.refl w _⟩
    rcases hown.2 with ⟨rfl, _⟩ | ⟨g, cap', cur, rfl, _, _, hnc, _⟩
    · simp [Builtin.append_, run_underlying Try.underlying23, sizeOf, typeInfo, hi, Builtin.lenOf, Builtin.firstCells]
    · simp [Builtin.append_, run_underlying Try.underlying23, sizeOf, typeInfo, hi, Builtin.lenOf, Builtin.firstCells, hnc, storeCells]
  · have hnews : ∀ j x, (pcells m)[j]? = some x → w.cell? (ad.add j) = some x := by
      intro j x hx
      have hj : j < m.length := by
        have := (List.getElem?_eq_some_iff.1 hx).1
        rwa [pcells_len] at this
      obtain ⟨g, o, e, hcell⟩ := hc j hj
      obtain rfl := Option.some.inj e
      rw [pcells_at m j hj] at hx
      have e2 : (⟨g, o, none⟩ : Addr).add j = ⟨g, o + j, none⟩ := addr_add rfl _ rfl
      rw [e2, hcell]; exact hx
    obtain ⟨v', w', hr, h5, h6, _⟩ := run_append_own (P := Try.prog) w base 23 23 22 i0 (.int .u32 0) 1 4 Try.underlying23 hi hz0 hz1 hz2 rfl (by decide) v l0.length (pcells l0) hown ad m.length cap (pcells m) (by rw [pcells_len]; omega) hnews (pcells_one m) (by unfold maxLen; omega) (by omega) hbase
    exact ⟨v', w', hr, ⟨hdg, by rw [hcells, List.length_append]; exact h5⟩, h6⟩
theorem wp_app {o : Oper} {a : Act} {w : World} {K : Act → World → Prop} {Q : Exit → Act → World → Prop} (s x : Operand)
    (ho : o.op = .call { callee := .builtin .append, args := #[s, x], argTypes := #[23, 23] }) (hty : o.type = 23)
    (base : Nat) (v : Value) (l0 : List Int) (hs : a.eval s = v) (hown : Own1 w base v l0) (u : Value) (m : List Int) (hx : a.eval x = u) (hu : HasP w u m) (hlen : l0.length + m.length ≤ 1000000) (hbase : base ≤ w.heap.size)
    (h : ∀ v' w', Own1 w' base v' (l0 ++ m) → w.grownBy w' v.ownBlock → K (a.put o.dst v') w') : Oper.wp Try.prog o a w K Q := by
  obtain ⟨v', w', hr, h2, h3⟩ := run_app w base v l0 hown u m hu hlen hbase
  unfold Oper.wp execOp
  simp only [ho, hty, resolve, invoke, builtin, Sem.run_bind, Sem.run_pure, Result.andThen_ok, List.map_toArray, List.map_cons, List.map_nil, hs, hx, hr]
  exact h v' w' h2 h3
/-- append as a law of the walk. -/
theorem wpList_app {ops : Array Oper} {rest : List Oper} {o : Oper} {a : Act} {w : World} {Q : Exit → Act → World → Prop} (hgd : o.guard = none) (s x : Operand)
    (ho : o.op = .call { callee := .builtin .append, args := #[s, x], argTypes := #[23, 23] }) (hty : o.type = 23)
    (base : Nat) (v : Value) (l0 : List Int) (hs : a.eval s = v) (hown : Own1 w base v l0) (u : Value) (m : List Int) (hx : a.eval x = u) (hu : HasP w u m) (hlen : l0.length + m.length ≤ 1000000) (hbase : base ≤ w.heap.size)
    (h : ∀ v' w', Own1 w' base v' (l0 ++ m) → w.grownBy w' v.ownBlock → wpList Try.prog ops Q rest (a.put o.dst v') w') : wpList Try.prog ops Q (o :: rest) a w :=
  wpList_plain hgd fun _ hK => wp_app s x ho hty base v l0 hs hown u m hx hu hlen hbase fun v' w' h2 h3 => hK _ _ (h v' w' h2 h3)
theorem grown_own {w a b : World} {base : Nat} {v : Value} {l : List Int} (h : Gr w a) (ho : Own1 a base v l) (hg : a.grownBy b v.ownBlock) (hb : w.heap.size ≤ base) : Gr w b := by
  refine Below.grown h hg h.size (fun j ej => ?_)
  rcases ho.2.2 with ⟨rfl, _⟩ | ⟨g, cap, cur, rfl, h1, _, _⟩
  · simp [Value.ownBlock] at ej
  · obtain rfl : g = j := by simpa [Value.ownBlock] using ej
    omega
theorem one_hasP (W : World) (x : Int) (hx : 0 ≤ x ∧ x < 4294967296) : HasP (W.alloc (.cells #[.int .u32 x] 22)) (.slice (some ⟨W.heap.size, 0, none⟩) 1 1) [x] :=
  ⟨U32.one hx, _, 1, rfl, Nat.le_refl _, by omega, fun i hi => ⟨_, 0, rfl, by
    obtain rfl : i = 0 := by simpa using hi
    exact cell_new _ _ _⟩⟩
theorem one_hasP' (W : World) (x : Int) (g : Nat) (hg : g = W.heap.size) (hx : 0 ≤ x ∧ x < 4294967296) : HasP (W.alloc (.cells #[.int .u32 x] 22)) (.slice (some ⟨g, 0, none⟩) 1 1) [x] := by
  subst hg; exact one_hasP W x hx
theorem two_hasP' (W : World) (x y : Int) (g : Nat) (hg : g = W.heap.size) (hx : 0 ≤ x ∧ x < 4294967296) (hy : 0 ≤ y ∧ y < 4294967296) : HasP (W.alloc (.cells #[.int .u32 x, .int .u32 y] 22)) (.slice (some ⟨g, 0, none⟩) 2 2) [x, y] := by
  subst hg
  refine ⟨(U32.one hx).app (U32.one hy), _, 2, rfl, Nat.le_refl _, by omega, fun i hi => ⟨_, 0, rfl, ?_⟩⟩
  have : i = 0 ∨ i = 1 := by simp at hi; omega
  rcases this with rfl | rfl <;> simp [go_sem]
end Go.Proofs.Ytaenjbemkeghgaa
