/- append of a string to bytes of the call's own; slices of strings. -/
import Derived.Test.YtblaimkcdhcclaaDoorWf
namespace Go.Proofs.YtblaimkcdhcclaaDoor
open Go.RowKit
set_option linter.unusedVariables false
theorem strCells_b (s : ByteArray) : Lib.strCells s = bcells s.data.toList := rfl
theorem setCells_keep (g : Nat) : ∀ (vs : List Value) (o : Nat) (w : World), (w.setCells g o vs).heap.size = w.heap.size ∧ (w.setCells g o vs).os = w.os ∧ (w.setCells g o vs).tape = w.tape ∧ (w.setCells g o vs).output = w.output ∧ ∀ k, k ≠ g → (w.setCells g o vs).heap[k]? = w.heap[k]? := fun vs => by
  induction vs with
  | nil => intro o w; exact ⟨rfl, rfl, rfl, rfl, fun _ _ => rfl⟩
  | cons x vs ih =>
    intro o w
    rw [World.setCells]
    obtain ⟨a1, a2, a3, a4, a5⟩ := ih (o + 1) (w.setCell ⟨g, o, none⟩ x)
    exact ⟨by rw [a1]; simp, a2, a3, a4, fun k hk => (a5 k hk).trans (Below.heap_setCell _ _ _ _ hk)⟩
/-- Bytes written behind those that are there. -/
theorem OwnB.room {w : World} {base g cap : Nat} {l m : List UInt8} (hb : base ≤ g) (hg : g < w.heap.size) (hmx : cap ≤ 9223372036854775807) (ha : At w ⟨g, 0, none⟩ l) (hc : ∀ j, j < cap → (w.cell? ⟨g, j, none⟩).isSome = true) (hf : ∀ j, j < cap → w.frozen? ⟨g, j, none⟩ = false) (hroom : l.length + m.length ≤ cap) :
    OwnB (w.setCells g l.length (bcells m)) base (.slice (some ⟨g, 0, none⟩) (l.length + m.length) cap) (l ++ m) ∧ w.grownBy (w.setCells g l.length (bcells m)) (some g) := by
  obtain ⟨a1, a2, a3, a4, a5⟩ := setCells_keep g (bcells m) l.length w
  refine ⟨.inr ⟨g, cap, by simp, hb, by omega, by simpa using hroom, hmx, ?_, ?_, ?_⟩, ⟨a2, a3, a4, by omega, fun k hk hne => a5 k (fun e => hne (by subst e; rfl))⟩⟩
  · intro j x hx
    rw [add0]
    rcases Nat.lt_or_ge j l.length with hj | hj
    · rw [World.cell?_setCells_out g (bcells m) l.length w ⟨g, j, none⟩ (fun _ _ => .inl hj), ← add0]
      rw [List.getElem?_append_left hj] at hx
      exact ha j x hx
    · rw [List.getElem?_append_right hj] at hx
      have hjm : j - l.length < m.length := (List.getElem?_eq_some_iff.1 hx).1
      have k := World.cell?_setCells_in g (bcells m) l.length w (fun t ht => hc _ (by rw [bcells_len] at ht; omega)) (j - l.length) (by rw [bcells_len]; exact hjm)
      rw [show l.length + (j - l.length) = j by omega] at k
      rw [k]
      have hb2 := bcells_at m (j - l.length)
      rw [hx, List.getElem?_eq_getElem (by rw [bcells_len]; exact hjm)] at hb2
      simpa using hb2
  · intro j hj
    rcases Nat.lt_or_ge j l.length with h3 | h3
    · rw [World.cell?_setCells_out g (bcells m) l.length w ⟨g, j, none⟩ (fun _ _ => .inl h3)]; exact hc j hj
    · rcases Nat.lt_or_ge j (l.length + m.length) with h4 | h4
      · have k := World.cell?_setCells_in g (bcells m) l.length w (fun t ht => hc _ (by rw [bcells_len] at ht; omega)) (j - l.length) (by rw [bcells_len]; omega)
        rw [show l.length + (j - l.length) = j by omega] at k
        rw [k]; rfl
      · rw [World.cell?_setCells_out g (bcells m) l.length w ⟨g, j, none⟩ (fun _ _ => .inr (by rw [bcells_len]; exact h4))]; exact hc j hj
  · intro j hj
    rw [World.frozen?_setCells]; exact hf j hj
theorem run_appS (w : World) (base : Nat) (v : Value) (l : List UInt8) (h : OwnB w base v l) (h0 : 0 < l.length) (s : ByteArray) (hlen : l.length + s.size ≤ 1000000) (hbase : base ≤ w.heap.size) :
    ∃ v' w', (Builtin.append_ #[41, 9] 41 #[v, .string s]).run Tryd.prog w = .ok v' w' ∧ OwnB w' base v' (l ++ s.data.toList) ∧ w.grownBy w' v.ownBlock := by
  obtain ⟨i, hi, hz, h1, hby⟩ := info_u8
  have hsl : s.data.toList.length = s.size := by rw [Array.length_toList]; rfl
  rcases h with ⟨_, rfl⟩ | ⟨g, cap, rfl, hb, hg, hn, hmx, ha, hc, hf⟩
  · simp at h0
  · by_cases hroom : l.length + s.size ≤ cap
    · have k := OwnB.room (m := s.data.toList) hb hg hmx ha hc hf (by omega)
      have hfc := Lib.run_firstCells_string (P := Tryd.prog) w 1 s
      have hst := run_storeCells_cells (P := Tryd.prog) g l.length (bcells s.data.toList) 0 w (fun j hj => hc _ (by rw [bcells_len] at hj; omega)) (fun j hj => hf _ (by rw [bcells_len] at hj; omega)) (bcells_one _)
      rw [Nat.add_zero] at hst
      rw [strCells_b] at hfc
      rw [hsl] at k
      refine ⟨_, _, ?_, k.1, k.2⟩
      simp [Builtin.append_, run_underlying Tryd.underlying41, run_underlying Tryd.underlying9, sizeOf, typeInfo, hi, h1, Builtin.lenOf, hroom, hfc, Addr.add_lit, hst]
    · have hr := Lib.run_append_grow_string (P := Tryd.prog) w 41 9 41 5 i (.int .u8 0) Tryd.underlying41 Tryd.underlying9 hi hz ⟨g, 0, none⟩ l.length cap (bcells l) (by rw [bcells_len, h1]; omega) ha.cells s (by omega) (by omega) (by rw [hby]; exact growslice_fits (by omega) (by omega))
      have hge := grownCap_ge w (l.length + s.size) cap 5
      have hcm := grownCap_le_maxLen w (l.length + s.size) cap 5 (by unfold maxLen; omega)
      refine ⟨_, _, hr, OwnB.of_owns (n := l.length + s.size) ?_, ⟨rfl, rfl, rfl, by simp, fun k hk _ => heap_alloc_old w.drew _ hk⟩⟩
      refine ⟨by rw [bcells_len, List.length_append, hsl]; omega, .inr ⟨w.heap.size, _, _, rfl, hbase, heap_alloc_new w.drew _, hge, hcm, ?_, ?_⟩⟩
      · have hz1 : (Value.int IntKind.u8 0).cells.size = 1 := rfl
        simp only [Array.size_append, List.size_toArray, size_zeroCells, hz1, bcells_len, Lib.strCells_length]
        omega
      · rw [bcells_app, ← strCells_b]
        simp only [Array.toList_append, List.append_assoc]
        rw [← List.append_assoc, show (l.length + s.size) * 1 = (bcells l ++ Lib.strCells s).length from by rw [List.length_append, bcells_len, Lib.strCells_length]; omega]
        exact List.take_left
/-- The two appends, as steps of a region that draws. -/
theorem wp_appB {o : Oper} {a : Act} {w : World} {K : Act → World → Prop} {Q : Exit → Act → World → Prop} (s x : Operand)
    (ho : o.op = .call { callee := .builtin .append, args := #[s, x], argTypes := #[41, 41] }) (hty : o.type = 41)
    (base : Nat) (v : Value) (l : List UInt8) (hs : a.eval s = v) (hown : OwnB w base v l) (p : Addr) (c n : Nat) (m : List UInt8) (hx : a.eval x = .slice (some p) n c) (hn : n = m.length) (hu : At w p m) (hm : 0 < m.length) (hlen : l.length + m.length ≤ 1000000) (hbase : base ≤ w.heap.size)
    (h : ∀ v' w', OwnB w' base v' (l ++ m) → w.grownBy w' v.ownBlock → K (a.put o.dst v') w') : Oper.wp Tryd.prog o a w K Q := by
  subst hn
  obtain ⟨v', w', hr, h2, h3⟩ := run_appB w base v l hown p c m hu hm hlen hbase
  unfold Oper.wp execOp
  simp only [ho, hty, resolve, invoke, builtin, Sem.run_bind, Sem.run_pure, Result.andThen_ok, List.map_toArray, List.map_cons, List.map_nil, hs, hx, hr]
  exact h v' w' h2 h3
theorem wp_appS {o : Oper} {a : Act} {w : World} {K : Act → World → Prop} {Q : Exit → Act → World → Prop} (s x : Operand)
    (ho : o.op = .call { callee := .builtin .append, args := #[s, x], argTypes := #[41, 9] }) (hty : o.type = 41)
    (base : Nat) (v : Value) (l : List UInt8) (hs : a.eval s = v) (hown : OwnB w base v l) (h0 : 0 < l.length) (m : ByteArray) (hx : a.eval x = .string m) (hlen : l.length + m.size ≤ 1000000) (hbase : base ≤ w.heap.size)
    (h : ∀ v' w', OwnB w' base v' (l ++ m.data.toList) → w.grownBy w' v.ownBlock → K (a.put o.dst v') w') : Oper.wp Tryd.prog o a w K Q := by
  obtain ⟨v', w', hr, h2, h3⟩ := run_appS w base v l hown h0 m hlen hbase
  unfold Oper.wp execOp
  simp only [ho, hty, resolve, invoke, builtin, Sem.run_bind, Sem.run_pure, Result.andThen_ok, List.map_toArray, List.map_cons, List.map_nil, hs, hx, hr]
  exact h v' w' h2 h3
/-- v is a slice of the strings S 0, S 1 .. S (n - 1). -/
def HasStr (w : World) (v : Value) (n : Nat) (S : Nat → ByteArray) : Prop := ∃ a cap, v = .slice a n cap ∧ n ≤ cap ∧ cap ≤ 9223372036854775807 ∧ ∀ i, i < n → ∃ g o, a = some ⟨g, o, none⟩ ∧ w.cell? ⟨g, o + i, none⟩ = some (.string (S i))
theorem HasStr.later {w w' : World} {v : Value} {n : Nat} {S : Nat → ByteArray} (h : HasStr w v n S) (k : Gr w w') : HasStr w' v n S := by
  obtain ⟨a, cap, rfl, h1, h2, h3⟩ := h
  refine ⟨a, cap, rfl, h1, h2, fun i hi => ?_⟩
  obtain ⟨g, o, e, hc⟩ := h3 i hi
  exact ⟨g, o, e, k.keeps hc⟩
end Go.Proofs.YtblaimkcdhcclaaDoor
