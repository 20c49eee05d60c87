import Derived.Test.YtlfiakpmnkhcdaaGreatLKc
import Derived.Test.YtlfiakpmnkhcdaaGreatLJu
namespace Go.Proofs.YtlfiakpmnkhcdaaGreat.Mo
open Go.RowKit Go.Shelf
set_option linter.unusedVariables false
set_option linter.unusedSimpArgs false
def Thaw (W : World) (u : Value) (l : List Int) : Prop := 0 < l.length → ∃ g c cs, u = .slice (some ⟨g, 0, none⟩) l.length c ∧ Blk W g 22 cs ∧ ∀ j, j < l.length → ∃ z, cs[j]? = some (.int .u32 z)
theorem Thaw.row {W W' : World} {u : Value} {l : List Int} {row : Option Nat} (h : Thaw W u l) (hg : W.grownBy W' row) (hr : 0 < l.length → ∀ p, u.ownBlock = some p → some p ≠ row) : Thaw W' u l := fun h0 => by
 obtain ⟨g, c, cs, rfl, hb, hz⟩ := h h0
 exact ⟨g, c, cs, rfl, hb.row hg (hr h0 g rfl), hz⟩
theorem Thaw.gr {W W' : World} {u : Value} {l : List Int} (h : Thaw W u l) (hg : Gr W W') : Thaw W' u l := fun h0 => by
 obtain ⟨g, c, cs, rfl, hb, hz⟩ := h h0
 exact ⟨g, c, cs, rfl, hb.gr hg, hz⟩
theorem Own1.thaw {W : World} {base : Nat} {v : Value} {l : List Int} (h : Own1 W base v l) : Thaw W v l := fun h0 => by
 have h2 := h
 rcases h.2.2 with ⟨_, h1⟩ | ⟨g, cap, cur, rfl, hb, hg, k1, k2, k3, k4⟩
 ·omega
 ·exact ⟨g, cap, cur, rfl, hg, fun j hj => ⟨_, ((show Blk W g 22 cur from hg).cell j).symm.trans (h2.cell hj)⟩⟩
def OwnF (W : World) (base : Nat) (v : Value) (ls : List (List Int)) : Prop :=
 ∃ vs : List Value, W.ownsRow base 23 1 v ls.length vs ∧ ∀ i, i < ls.length → HasP W (vs.getD i undef) (rw_ ls i) ∧ Ap base v (vs.getD i undef) (rw_ ls i) ∧ Thaw W (vs.getD i undef) (rw_ ls i)
theorem OwnF.ownR {W : World} {base : Nat} {v : Value} {ls : List (List Int)} (h : OwnF W base v ls) : OwnR W base v ls := by
 obtain ⟨vs, h1, h2⟩ := h
 exact ⟨vs, h1, fun i hi => ⟨(h2 i hi).1, (h2 i hi).2.1⟩⟩
theorem OwnF.nil (W : World) (base : Nat) : OwnF W base (.slice none 0 0) [] := ⟨[], World.ownsRow_nil _ _ _ _, fun i hi => absurd hi (by simp)⟩
theorem OwnF.kept {W W' : World} {base : Nat} {v : Value} {ls : List (List Int)} {row : Option Nat} (h : OwnF W base v ls) (hg : W.grownBy W' row) (hr : ∀ k, row = some k → k < base) : OwnF W' base v ls := by
 have hlt := h.ownR.lt
 obtain ⟨vs, h1, h2⟩ := h
 have hne : ∀ i, i < ls.length → 0 < (rw_ ls i).length → ∀ p, (vs.getD i undef).ownBlock = some p → some p ≠ row := fun i hi h0 p hp e => by
  have := hr p e.symm
  have := ((h2 i hi).2.1 h0 p hp).1
  omega
 refine ⟨vs, h1.kept hg ?_, fun i hi => ⟨(h2 i hi).1.grown hg (hne i hi), (h2 i hi).2.1, (h2 i hi).2.2.row hg (hne i hi)⟩⟩
 cases hv : v.ownBlock with
 | none => exact .inl rfl
 | some k =>
  refine .inr fun e => ?_
  have := hr k e.symm
  have := (hlt k hv).1
  omega
theorem OwnF.gr {W W' : World} {base : Nat} {v : Value} {ls : List (List Int)} (h : OwnF W base v ls) (hg : Gr W W') : OwnF W' base v ls :=
 h.kept (row := none) ⟨hg.os, hg.tape, hg.output, hg.size, fun k hk _ => hg.block k hk⟩ (fun k e => by cases e)
theorem OwnF.set {W : World} {base : Nat} {v : Value} {ls : List (List Int)} (h : OwnF W base v ls) {B o : Nat} (hB : B < base) (x : Value) : OwnF (W.setCell ⟨B, o, none⟩ x) base v ls :=
 h.kept (grown_cell W B o x) (fun k e => by cases e; exact hB)
theorem run_appF (w : World) (base : Nat) (v : Value) (ls : List (List Int)) (hown : OwnF w base v ls) (u : Value) (l : List Int) (g : Nat) (hc : w.cell? ⟨g, 0, none⟩ = some u) (hu : HasP w u l) (hap : Ap base v u l) (hth : Thaw w u l) (hlen : ls.length ≤ 1000000) (hbase : base ≤ w.heap.size) :
  ∃ v' w', (Builtin.append_ #[26, 26] 26 #[v, .slice (some ⟨g, 0, none⟩) 1 1]).run Tryz.prog w = .ok v' w' ∧ OwnF w' base v' (ls ++ [l]) ∧ w.grownBy w' v.ownBlock := by
 obtain ⟨i0, hi, hz0, hz1, hz2⟩ := info_parts infoP
 obtain ⟨xu, cu, rfl⟩ := hu.form
 obtain ⟨vs, ho1, ho2⟩ := hown
 have hl : vs.length = ls.length := by have := ho1.1; omega
 generalize hue : Value.slice xu l.length cu = u at *
 have h1 : u.oneCell' = true := by subst hue; rfl
 have hnews : ∀ j x, [u][j]? = some x → w.cell? ((⟨g, 0, none⟩ : Addr).add j) = some x := by
  intro j x hx
  have hj : j < 1 := by
   have := (List.getElem?_eq_some_iff.1 hx).1
   simpa using this
  obtain rfl : j = 0 := by omega
  have e2 : (⟨g, 0, none⟩ : Addr).add 0 = ⟨g, 0 + 0, none⟩ := addr_add rfl _ rfl
  simp at hx
  subst hx
  rw [e2]; exact hc
 have hone : ∀ x ∈ [u], x.oneCell' = true := fun x hx => by rw [List.mem_singleton.1 hx]; exact h1
 obtain ⟨v', w', hr, h5, h6, -⟩ := run_append_own (P := Tryz.prog) w base 26 26 23 i0 (.slice none 0 0) 1 24 Tryz.underlying26 hi hz0 hz1 hz2 rfl (by decide) v ls.length vs ho1 ⟨g, 0, none⟩ 1 1 [u] rfl hnews hone (by unfold maxLen; omega) (by omega) hbase
 have hrow : v'.ownBlock = v.ownBlock ∨ v'.ownBlock = some w.heap.size := by
  rcases ho1.2 with ⟨rfl, h0⟩ | ⟨r, cap, cur, rfl, hb, hg, k1, k2, k3, k4⟩
  ·have hr2 := run_append_nil (P := Tryz.prog) w 26 26 23 i0 (.slice none 0 0) Tryz.underlying26 hi hz0 ⟨g, 0, none⟩ 1 1 [u] (by rw [hz1]; rfl) hnews (by omega) (by omega) (by omega)
   rw [hr] at hr2
   cases hr2
   exact .inr rfl
  ·by_cases hroom : ls.length + 1 ≤ cap
   ·have hr2 := run_append_room (P := Tryz.prog) w 26 26 23 i0 Tryz.underlying26 hi r ls.length cap cur hg ⟨g, 0, none⟩ 1 1 [u] (by rw [hz1]; rfl) hnews hone hroom (by rw [hz1]; simp; omega)
    rw [hr] at hr2
    cases hr2
    exact .inl rfl
   ·have hr2 := run_append_grow (P := Tryz.prog) w 26 26 23 i0 (.slice none 0 0) Tryz.underlying26 hi hz0 ⟨r, 0, none⟩ ls.length cap vs (by rw [hz1]; omega) (ho1.cells (g := r) rfl) ⟨g, 0, none⟩ 1 1 [u] (by rw [hz1]; rfl) hnews (by omega) (by omega) (growslice_fits (by omega) (by rw [hz2]; omega))
    rw [hr] at hr2
    cases hr2
    exact .inr rfl
 refine ⟨v', w', hr, ⟨vs ++ [u], by rw [List.length_append]; exact h5, fun i hi => ?_⟩, h6⟩
 have key : ∀ (z : Value) (m : List Int), HasP w z m → Ap base v z m → Thaw w z m → HasP w' z m ∧ Ap base v' z m ∧ Thaw w' z m := fun z m hz ha ht => by
  refine ⟨hz.grown h6 fun h0 p hp e => (ha h0 p hp).2 e.symm, fun h0 p hp => ⟨(ha h0 p hp).1, fun e => ?_⟩, ht.row h6 fun h0 p hp e => (ha h0 p hp).2 e.symm⟩
  rcases hrow with e2 | e2
  ·exact (ha h0 p hp).2 (e2.symm.trans e)
  ·have h7 := hz.lt h0 p hp
   rw [e2] at e; cases e; omega
 rw [getD_snoc]
 have e1 : (vs ++ [u]).getD i undef = if i < ls.length then vs.getD i undef else u := by
  rw [List.getD_eq_getElem?_getD, List.getElem?_append, hl]
  split
  ·rw [List.getD_eq_getElem?_getD]
  ·rename_i h
   have : i - ls.length = 0 := by simp at hi; omega
   rw [this]; rfl
 rw [e1]
 by_cases hlt2 : i < ls.length
 ·rw [if_pos hlt2, if_pos hlt2]
  exact key _ _ (ho2 i hlt2).1 (ho2 i hlt2).2.1 (ho2 i hlt2).2.2
 ·have : i = ls.length := by simp at hi; omega
  rw [if_neg hlt2, if_neg hlt2, if_pos this]
  exact key _ _ hu hap hth
theorem wp_appF {o : Oper} {a : Act} {w : World} {K : Act → World → Prop} {Q : Exit → Act → World → Prop} (s x : Operand)
  (ho : o.op = .call { callee := .builtin .append, args := #[s, x], argTypes := #[26, 26] }) (hty : o.type = 26)
  (base : Nat) (v : Value) (ls : List (List Int)) (hs : a.eval s = v) (hown : OwnF w base v ls) (u : Value) (l : List Int) (g : Nat) (hx : a.eval x = .slice (some ⟨g, 0, none⟩) 1 1) (hc : w.cell? ⟨g, 0, none⟩ = some u) (hu : HasP w u l) (hap : Ap base v u l) (hth : Thaw w u l) (hlen : ls.length ≤ 1000000) (hbase : base ≤ w.heap.size)
  (h : ∀ v' w', OwnF w' base v' (ls ++ [l]) → w.grownBy w' v.ownBlock → K (a.put o.dst v') w') : Oper.wp Tryz.prog o a w K Q := by
 obtain ⟨v', w', hr, h2, h3⟩ := run_appF w base v ls hown u l g hc hu hap hth hlen hbase
 unfold Oper.wp execOp
 simp only [ho, hty, resolve, invoke, builtin, Sem.run_bind, Sem.run_pure, Result.andThen_ok, List.map_toArray, List.map_cons, List.map_nil, hs, hx, hr]
 exact h v' w' h2 h3
def SpR (W : World) (lo hi : Nat) (v : Value) (ls : List (List Int)) : Prop :=
 ∃ a cap, v = .slice a ls.length cap ∧ ls.length ≤ cap ∧ cap ≤ 9223372036854775807 ∧ ∀ i, i < ls.length → ∃ g o x c, a = some ⟨g, o, none⟩ ∧ lo ≤ g ∧ g < hi ∧
  W.cell? ⟨g, o + i, none⟩ = some (.slice x (rw_ ls i).length c) ∧ (0 < (rw_ ls i).length → ∃ b cs, x = some ⟨b, 0, none⟩ ∧ lo ≤ b ∧ b < hi ∧ b ≠ g ∧ Blk W b 22 cs ∧ ∀ j, j < (rw_ ls i).length → ∃ z, cs[j]? = some (.int .u32 z))
theorem OwnF.spR {W : World} {base : Nat} {v : Value} {ls : List (List Int)} (h : OwnF W base v ls) : SpR W base W.heap.size v ls := by
 obtain ⟨a, c, e, h1, h2⟩ := h.ownR.form
 subst e
 have hlt := h.ownR.lt
 obtain ⟨vs, k1, k2⟩ := h
 refine ⟨a, c, rfl, h1, h2, fun i hi => ?_⟩
 obtain ⟨q1, q2, q3⟩ := k2 i hi
 obtain ⟨x, c', e⟩ := q1.form
 have hl : vs.length = ls.length := by have := k1.1; omega
 have hiv : i < vs.length := by omega
 cases a with
 | none =>
  rcases k1.2 with ⟨_, h0⟩ | ⟨g, cap, cur, e2, _⟩
  ·omega
  ·cases e2
 | some ad =>
  have hf : ad = ⟨ad.block, 0, none⟩ := by
   rcases k1.2 with ⟨e2, _⟩ | ⟨g, cap, cur, e2, _⟩
   ·cases e2
   ·cases e2; rfl
  have h3 := hlt ad.block rfl
  have hc := k1.cells (g := ad.block) rfl i (vs.getD i undef) (by rw [List.getElem?_eq_getElem hiv, List.getD_eq_getElem?_getD, List.getElem?_eq_getElem hiv]; rfl)
  have e3 : (⟨ad.block, 0, none⟩ : Addr).add i = ⟨ad.block, 0 + i, none⟩ := addr_add rfl _ rfl
  rw [e3, e] at hc
  rw [e] at q1 q2 q3
  refine ⟨ad.block, 0, x, c', by rw [← hf], h3.1, h3.2, hc, fun h0 => ?_⟩
  obtain ⟨b, c2, cs, e4, hb, hz⟩ := q3 h0
  cases e4
  have h5 := q2 h0 b rfl
  exact ⟨b, cs, rfl, h5.1, hb.lt, fun e6 => h5.2 (by subst e6; rfl), hb, hz⟩
theorem SpR.mono {W : World} {lo hi lo' hi' : Nat} {v : Value} {ls : List (List Int)} (h : SpR W lo hi v ls) (hl : lo' ≤ lo) (hh : hi ≤ hi') : SpR W lo' hi' v ls := by
 obtain ⟨a, cap, rfl, h1, h2, h3⟩ := h
 refine ⟨a, cap, rfl, h1, h2, fun i hi => ?_⟩
 obtain ⟨g, o, x, c, e, k1, k2, k3, k4⟩ := h3 i hi
 refine ⟨g, o, x, c, e, by omega, by omega, k3, fun h0 => ?_⟩
 obtain ⟨b, cs, e2, j1, j2, j3, j4, j5⟩ := k4 h0
 exact ⟨b, cs, e2, by omega, by omega, j3, j4, j5⟩
end Go.Proofs.YtlfiakpmnkhcdaaGreat.Mo
