import Derived.Test.YtlfiakpmnkhcdaaLZE
import Derived.Test.YtlfiakpmnkhcdaaLJb
import Derived.Laws.AppendOwn
namespace Go.Proofs.Ytlfiakpmnkhcdaa.Mo
open Go.RowKit
set_option linter.unusedVariables false
def rw_ (ls : List (List Int)) (i : Nat) : List Int := ls.getD i []
theorem HasP.form {W : World} {v : Value} {l : List Int} (h : HasP W v l) : ∃ x c, v = .slice x l.length c := by
  obtain ⟨_, x, c, rfl, _⟩ := h; exact ⟨x, c, rfl⟩
theorem HasP.grown {W W' : World} {row : Option Nat} {u : Value} {l : List Int} (h : HasP W u l) (hg : W.grownBy W' row) (hr : 0 < l.length → ∀ p, u.ownBlock = some p → some p ≠ row) : HasP W' u l := by
  obtain ⟨hd, a, cap, rfl, h1, h2, h3⟩ := h
  refine ⟨hd, a, cap, rfl, h1, h2, fun i hi => ?_⟩
  obtain ⟨g, o, e, hc⟩ := h3 i hi
  subst e
  exact ⟨g, o, rfl, hg.cell hc (hr (by omega) g rfl)⟩
theorem HasP.lt {W : World} {u : Value} {l : List Int} (h : HasP W u l) (h0 : 0 < l.length) : ∀ p, u.ownBlock = some p → p < W.heap.size := fun p hp => by
  obtain ⟨b, h1, h2⟩ := h.block h0
  rw [h1] at hp; cases hp; exact h2
def HasB (W : World) (lo hi : Nat) (v : Value) (ls : List (List Int)) : Prop :=
  ∃ a cap, v = .slice a ls.length cap ∧ ls.length ≤ cap ∧ cap ≤ 9223372036854775807 ∧ ∀ i, i < ls.length → ∃ g o x c, a = some ⟨g, o, none⟩ ∧ lo ≤ g ∧ g < hi ∧
    W.cell? ⟨g, o + i, none⟩ = some (.slice x (rw_ ls i).length c) ∧ HasP W (.slice x (rw_ ls i).length c) (rw_ ls i) ∧ (0 < (rw_ ls i).length → ∀ p, x = some p → lo ≤ p.block ∧ p.block < hi)
theorem HasB.later {W W' : World} {lo hi : Nat} {v : Value} {ls : List (List Int)} (h : HasB W lo hi v ls) (hg : Gr W W') : HasB W' lo hi v ls := by
  obtain ⟨a, cap, rfl, h1, h2, h3⟩ := h
  refine ⟨a, cap, rfl, h1, h2, fun i hi => ?_⟩
  obtain ⟨g, o, x, c, e, k1, k2, k3, k4, k5⟩ := h3 i hi
  exact ⟨g, o, x, c, e, k1, k2, hg.keeps k3, k4.later hg, k5⟩
theorem HasB.nil (W : World) (lo hi : Nat) : HasB W lo hi (.slice none 0 0) [] := ⟨none, 0, rfl, Nat.le_refl _, by omega, fun i hi => absurd hi (by simp)⟩
theorem HasB.mono {W : World} {lo hi lo' hi' : Nat} {v : Value} {ls : List (List Int)} (h : HasB W lo hi v ls) (h1 : lo' ≤ lo) (h2 : hi ≤ hi') : HasB W lo' hi' v ls := by
  obtain ⟨a, cap, rfl, k1, k2, k3⟩ := h
  refine ⟨a, cap, rfl, k1, k2, fun i hi => ?_⟩
  obtain ⟨g, o, x, c, e, j1, j2, j3, j4, j5⟩ := k3 i hi
  exact ⟨g, o, x, c, e, by omega, by omega, j3, j4, fun h0 p hp => by have := j5 h0 p hp; omega⟩
theorem HasB.cut {W : World} {lo hi : Nat} {v : Value} {ls : List (List Int)} (h : HasB W lo hi v ls) : HasB W lo W.heap.size v ls := by
  obtain ⟨a, cap, rfl, k1, k2, k3⟩ := h
  refine ⟨a, cap, rfl, k1, k2, fun i hi => ?_⟩
  obtain ⟨g, o, x, c, e, j1, j2, j3, j4, j5⟩ := k3 i hi
  exact ⟨g, o, x, c, e, j1, World.block_lt_of_cell? W _ j3, j3, j4, fun h0 p hp => ⟨(j5 h0 p hp).1, j4.lt h0 p.block (by subst hp; rfl)⟩⟩
def HasR (W : World) (v : Value) (ls : List (List Int)) : Prop := HasB W 0 W.heap.size v ls
theorem HasB.hasR {W : World} {lo hi : Nat} {v : Value} {ls : List (List Int)} (h : HasB W lo hi v ls) : HasR W v ls := (h.mono (Nat.zero_le _) (Nat.le_refl _)).cut
theorem HasR.later {W W' : World} {v : Value} {ls : List (List Int)} (h : HasR W v ls) (hg : Gr W W') : HasR W' v ls := (HasB.later h hg).hasR
theorem HasR.nil (W : World) : HasR W (.slice none 0 0) [] := HasB.nil W 0 _
theorem HasB.len {W : World} {lo hi : Nat} {a : Option Addr} {n cap : Nat} {ls : List (List Int)} (h : HasB W lo hi (.slice a n cap) ls) : n = ls.length ∧ n ≤ cap ∧ cap ≤ 9223372036854775807 := by
  obtain ⟨a', cap', e, h1, h2, _⟩ := h
  cases e
  exact ⟨rfl, h1, h2⟩
theorem HasB.form {W : World} {lo hi : Nat} {v : Value} {ls : List (List Int)} (h : HasB W lo hi v ls) : ∃ a c, v = .slice a ls.length c := by
  obtain ⟨a, cap, rfl, _⟩ := h; exact ⟨a, cap, rfl⟩
theorem HasB.at_ {W : World} {lo hi : Nat} {a : Option Addr} {n cap : Nat} {ls : List (List Int)} (h : HasB W lo hi (.slice a n cap) ls) {i : Nat} (hi : i < ls.length) : ∃ g o x m c, a = some ⟨g, o, none⟩ ∧
    W.cell? ⟨g, o + i, none⟩ = some (.slice x m c) ∧ m = (rw_ ls i).length ∧ HasP W (.slice x m c) (rw_ ls i) := by
  obtain ⟨a', cap', e, h1, h2, h3⟩ := h
  cases e
  obtain ⟨g, o, x, c, e, _, _, k1, k2, _⟩ := h3 i hi
  exact ⟨g, o, x, _, c, e, k1, rfl, k2⟩
theorem getD_drop (ls : List (List Int)) (k i : Nat) : rw_ (ls.drop k) i = rw_ ls (k + i) := by
  simp [rw_, List.getD_eq_getElem?_getD, List.getElem?_drop]
theorem HasB.drop {W : World} {lo hi : Nat} {g o n cap k : Nat} {ls : List (List Int)} (h : HasB W lo hi (.slice (some ⟨g, o, none⟩) n cap) ls) (hk : k ≤ n) : HasB W lo hi (.slice (some ⟨g, o + k, none⟩) (n - k) (cap - k)) (ls.drop k) := by
  obtain ⟨a', cap', e, h1, h2, h3⟩ := h
  cases e
  refine ⟨_, _, by rw [List.length_drop], by rw [List.length_drop]; omega, by omega, fun i hi => ?_⟩
  rw [List.length_drop] at hi
  obtain ⟨g', o', x, c, e, k1, k2, k3, k4, k5⟩ := h3 (k + i) (by omega)
  cases e
  rw [getD_drop]
  exact ⟨g, o + k, x, c, rfl, k1, k2, by rw [Nat.add_assoc]; exact k3, k4, k5⟩
def Ap (base : Nat) (v u : Value) (l : List Int) : Prop := 0 < l.length → ∀ p, u.ownBlock = some p → base ≤ p ∧ v.ownBlock ≠ some p
def OwnR (W : World) (base : Nat) (v : Value) (ls : List (List Int)) : Prop :=
  ∃ vs : List Value, W.ownsRow base 23 1 v ls.length vs ∧ ∀ i, i < ls.length → HasP W (vs.getD i undef) (rw_ ls i) ∧ Ap base v (vs.getD i undef) (rw_ ls i)
theorem OwnR.nil (W : World) (base : Nat) : OwnR W base (.slice none 0 0) [] := ⟨[], World.ownsRow_nil _ _ _ _, fun i hi => absurd hi (by simp)⟩
theorem OwnR.form {W : World} {base : Nat} {v : Value} {ls : List (List Int)} (h : OwnR W base v ls) : ∃ a c, v = .slice a ls.length c ∧ ls.length ≤ c ∧ c ≤ 9223372036854775807 := by
  obtain ⟨vs, h1, _⟩ := h
  rcases h1.2 with ⟨rfl, h0⟩ | ⟨g, cap, cur, rfl, _, _, k1, k2, _⟩
  · exact ⟨none, 0, by rw [h0], by omega, by omega⟩
  · exact ⟨_, cap, rfl, k1, by unfold maxLen at k2; omega⟩
theorem OwnR.lt {W : World} {base : Nat} {v : Value} {ls : List (List Int)} (h : OwnR W base v ls) : ∀ k, v.ownBlock = some k → base ≤ k ∧ k < W.heap.size := by
  obtain ⟨vs, h1, _⟩ := h
  exact h1.lt
theorem OwnR.kept {W W' : World} {base : Nat} {v : Value} {ls : List (List Int)} {row : Option Nat} (h : OwnR W base v ls) (hg : W.grownBy W' row) (hr : ∀ k, row = some k → k < base) : OwnR W' base v ls := by
  have hlt := h.lt
  obtain ⟨vs, h1, h2⟩ := h
  refine ⟨vs, h1.kept hg ?_, fun i hi => ⟨(h2 i hi).1.grown hg fun h0 p hp e => ?_, (h2 i hi).2⟩⟩
  · cases hv : v.ownBlock with
    | none => exact .inl rfl
    | some k =>
      refine .inr fun e => ?_
      have := hr k e.symm
      have := (hlt k hv).1
      omega
  · have := hr p e.symm
    have := ((h2 i hi).2 h0 p hp).1
    omega
theorem OwnR.gr {W W' : World} {base : Nat} {v : Value} {ls : List (List Int)} (h : OwnR W base v ls) (hg : Gr W W') : OwnR W' base v ls :=
  h.kept (row := none) ⟨hg.os, hg.tape, hg.output, hg.size, fun k hk _ => hg.block k hk⟩ (fun k e => by cases e)
theorem grown_cell (W : World) (B o : Nat) (x : Value) : W.grownBy (W.setCell ⟨B, o, none⟩ x) (some B) := ⟨rfl, rfl, rfl, by simp, fun k _ hne => Below.heap_setCell _ _ _ _ (fun e => hne (by rw [e]))⟩
theorem OwnR.set {W : World} {base : Nat} {v : Value} {ls : List (List Int)} (h : OwnR W base v ls) {B o : Nat} (hB : B < base) (x : Value) : OwnR (W.setCell ⟨B, o, none⟩ x) base v ls :=
  h.kept (grown_cell W B o x) (fun k e => by cases e; exact hB)
theorem OwnR.hasB {W : World} {base : Nat} {v : Value} {ls : List (List Int)} (h : OwnR W base v ls) : HasB W base W.heap.size v ls := by
  obtain ⟨a, c, e, h1, h2⟩ := h.form
  subst e
  have hlt := h.lt
  obtain ⟨vs, k1, k2⟩ := h
  refine ⟨a, c, rfl, h1, h2, fun i hi => ?_⟩
  obtain ⟨q1, q2⟩ := k2 i hi
  obtain ⟨x, c', e⟩ := q1.form
  have hl : vs.length = ls.length := by have := k1.1; omega
  have hiv : i < vs.length := by omega
  cases a with
  | none =>
    rcases k1.2 with ⟨_, h0⟩ | ⟨g, cap, cur, e2, _⟩
    · omega
    · cases e2
  | some ad =>
    have hf : ad = ⟨ad.block, 0, none⟩ := by
      rcases k1.2 with ⟨e2, _⟩ | ⟨g, cap, cur, e2, _⟩
      · cases e2
      · cases e2; rfl
    have h3 := hlt ad.block rfl
    have hc := k1.cells (g := ad.block) rfl i (vs.getD i undef) (by rw [List.getElem?_eq_getElem hiv, List.getD_eq_getElem?_getD, List.getElem?_eq_getElem hiv]; rfl)
    have e3 : (⟨ad.block, 0, none⟩ : Addr).add i = ⟨ad.block, 0 + i, none⟩ := addr_add rfl _ rfl
    rw [e3, e] at hc
    rw [e] at q1 q2
    exact ⟨ad.block, 0, x, c', by rw [← hf], h3.1, h3.2, hc, q1, fun h0 p hp => ⟨(q2 h0 p.block (by subst hp; rfl)).1, q1.lt h0 p.block (by subst hp; rfl)⟩⟩
theorem infoP : (Try.prog.info? 23).map (fun i => (i.zero, i.size, i.bytes)) = some (some (.slice none 0 0), 1, 24) := by kernel_rfl
theorem getD_snoc (ls : List (List Int)) (l : List Int) (i : Nat) : rw_ (ls ++ [l]) i = if i < ls.length then rw_ ls i else if i = ls.length then l else [] := by
  simp only [rw_, List.getD_eq_getElem?_getD, List.getElem?_append]
  split
  · rfl
  · split
    · rename_i h1 h2; subst h2; simp
    · rename_i h1 h2
      rw [List.getElem?_eq_none (by simp; omega)]; rfl
theorem run_appR (w : World) (base : Nat) (v : Value) (ls : List (List Int)) (hown : OwnR w base v ls) (u : Value) (l : List Int) (g : Nat) (hc : w.cell? ⟨g, 0, none⟩ = some u) (hu : HasP w u l) (hap : Ap base v u l) (hlen : ls.length ≤ 1000000) (hbase : base ≤ w.heap.size) :
    ∃ v' w', (Builtin.append_ #[26, 26] 26 #[v, .slice (some ⟨g, 0, none⟩) 1 1]).run Try.prog w = .ok v' w' ∧ OwnR w' base v' (ls ++ [l]) ∧ w.grownBy w' v.ownBlock := by
  obtain ⟨i0, hi, hz0, hz1, hz2⟩ := info_parts infoP
  obtain ⟨xu, cu, rfl⟩ := hu.form
  have hlt := hown.lt
  obtain ⟨vs, ho1, ho2⟩ := hown
  have hl : vs.length = ls.length := by have := ho1.1; omega
  generalize hue : Value.slice xu l.length cu = u at *
  have h1 : u.oneCell' = true := by subst hue; rfl
  have hnews : ∀ j x, [u][j]? = some x → w.cell? ((⟨g, 0, none⟩ : Addr).add j) = some x := by
    intro j x hx
    have hj : j < 1 := by
      have := (List.getElem?_eq_some_iff.1 hx).1
      simpa using this
    obtain rfl : j = 0 := by omega
    have e2 : (⟨g, 0, none⟩ : Addr).add 0 = ⟨g, 0 + 0, none⟩ := addr_add rfl _ rfl
    simp at hx
    subst hx
    rw [e2]; exact hc
  have hone : ∀ x ∈ [u], x.oneCell' = true := fun x hx => by rw [List.mem_singleton.1 hx]; exact h1
  obtain ⟨v', w', hr, h5, h6, -⟩ := run_append_own (P := Try.prog) w base 26 26 23 i0 (.slice none 0 0) 1 24 Try.underlying26 hi hz0 hz1 hz2 rfl (by decide) v ls.length vs ho1 ⟨g, 0, none⟩ 1 1 [u] rfl hnews hone (by unfold maxLen; omega) (by omega) hbase
  have hrow : v'.ownBlock = v.ownBlock ∨ v'.ownBlock = some w.heap.size := by
    rcases ho1.2 with ⟨rfl, h0⟩ | ⟨r, cap, cur, rfl, hb, hg, k1, k2, k3, k4⟩
    · have hr2 := run_append_nil (P := Try.prog) w 26 26 23 i0 (.slice none 0 0) Try.underlying26 hi hz0 ⟨g, 0, none⟩ 1 1 [u] (by rw [hz1]; rfl) hnews (by omega) (by omega) (by omega)
      rw [hr] at hr2
      cases hr2
      exact .inr rfl
    · by_cases hroom : ls.length + 1 ≤ cap
      · have hr2 := run_append_room (P := Try.prog) w 26 26 23 i0 Try.underlying26 hi r ls.length cap cur hg ⟨g, 0, none⟩ 1 1 [u] (by rw [hz1]; rfl) hnews hone hroom (by rw [hz1]; simp; omega)
        rw [hr] at hr2
        cases hr2
        exact .inl rfl
      · have hr2 := run_append_grow (P := Try.prog) w 26 26 23 i0 (.slice none 0 0) Try.underlying26 hi hz0 ⟨r, 0, none⟩ ls.length cap vs (by rw [hz1]; omega) (ho1.cells (g := r) rfl) ⟨g, 0, none⟩ 1 1 [u] (by rw [hz1]; rfl) hnews (by omega) (by omega) (growslice_fits (by omega) (by rw [hz2]; omega))
        rw [hr] at hr2
        cases hr2
        exact .inr rfl
  refine ⟨v', w', hr, ⟨vs ++ [u], by rw [List.length_append]; exact h5, fun i hi => ?_⟩, h6⟩
  have key : ∀ (z : Value) (m : List Int), HasP w z m → Ap base v z m → HasP w' z m ∧ Ap base v' z m := fun z m hz ha => by
    refine ⟨hz.grown h6 fun h0 p hp e => (ha h0 p hp).2 e.symm, fun h0 p hp => ⟨(ha h0 p hp).1, fun e => ?_⟩⟩
    rcases hrow with e2 | e2
    · exact (ha h0 p hp).2 (e2.symm.trans e)
    · have h7 := hz.lt h0 p hp
      rw [e2] at e; cases e; omega
  rw [getD_snoc]
  have e1 : (vs ++ [u]).getD i undef = if i < ls.length then vs.getD i undef else u := by
    rw [List.getD_eq_getElem?_getD, List.getElem?_append, hl]
    split
    · rw [List.getD_eq_getElem?_getD]
    · rename_i h
      have : i - ls.length = 0 := by simp at hi; omega
      rw [this]; rfl
  rw [e1]
  by_cases hlt2 : i < ls.length
  · rw [if_pos hlt2, if_pos hlt2]
    exact key _ _ (ho2 i hlt2).1 (ho2 i hlt2).2
  · have : i = ls.length := by simp at hi; omega
    rw [if_neg hlt2, if_neg hlt2, if_pos this]
    exact key _ _ hu hap
theorem wp_appR {o : Oper} {a : Act} {w : World} {K : Act → World → Prop} {Q : Exit → Act → World → Prop} (s x : Operand)
    (ho : o.op = .call { callee := .builtin .append, args := #[s, x], argTypes := #[26, 26] }) (hty : o.type = 26)
    (base : Nat) (v : Value) (ls : List (List Int)) (hs : a.eval s = v) (hown : OwnR w base v ls) (u : Value) (l : List Int) (g : Nat) (hx : a.eval x = .slice (some ⟨g, 0, none⟩) 1 1) (hc : w.cell? ⟨g, 0, none⟩ = some u) (hu : HasP w u l) (hap : Ap base v u l) (hlen : ls.length ≤ 1000000) (hbase : base ≤ w.heap.size)
    (h : ∀ v' w', OwnR w' base v' (ls ++ [l]) → w.grownBy w' v.ownBlock → K (a.put o.dst v') w') : Oper.wp Try.prog o a w K Q := by
  obtain ⟨v', w', hr, h2, h3⟩ := run_appR w base v ls hown u l g hc hu hap hlen hbase
  unfold Oper.wp execOp
  simp only [ho, hty, resolve, invoke, builtin, Sem.run_bind, Sem.run_pure, Result.andThen_ok, List.map_toArray, List.map_cons, List.map_nil, hs, hx, hr]
  exact h v' w' h2 h3
theorem OwnR.grown {w a b : World} {base : Nat} {v : Value} {ls : List (List Int)} (ho : OwnR a base v ls) (h : Gr w a) (hg : a.grownBy b v.ownBlock) (hb : w.heap.size ≤ base) : Gr w b :=
  Below.grown h hg h.size (fun j ej => by have := (ho.lt j ej).1; omega)
theorem Ap.of {W0 : World} {base : Nat} {v u : Value} {l : List Int} (hv : ∀ k, v.ownBlock = some k → k < W0.heap.size) (hb : base ≤ W0.heap.size) (hu : 0 < l.length → ∀ p, u.ownBlock = some p → W0.heap.size ≤ p) : Ap base v u l :=
  fun h0 p hp => ⟨Nat.le_trans hb (hu h0 p hp), fun e => by have := hv p e; have := hu h0 p hp; omega⟩
end Go.Proofs.Ytlfiakpmnkhcdaa.Mo
