/- Slices of bytes that the call owns, whatever their block's mark. -/
import Derived.Test.YtblaimkcdhcclaaDoorBase
import Derived.Laws.IdiomStrings
import Derived.Lib.AppendStr
import Derived.ArgAppend
namespace Go.Proofs.YtblaimkcdhcclaaDoor
open Go.RowKit
set_option linter.unusedVariables false
def bcells (l : List UInt8) : List Value := l.map fun b => .int .u8 (b.toNat : Int)
theorem bcells_len (l : List UInt8) : (bcells l).length = l.length := by simp [bcells]
theorem bcells_at (l : List UInt8) (j : Nat) : (bcells l)[j]? = l[j]?.map fun b => .int .u8 (b.toNat : Int) := by simp [bcells]
theorem bcells_one (l : List UInt8) : ∀ u ∈ bcells l, u.oneCell' = true := fun u hu => by
  obtain ⟨b, _, rfl⟩ := List.mem_map.1 hu
  rfl
theorem bcells_app (l m : List UInt8) : bcells (l ++ m) = bcells l ++ bcells m := by simp [bcells]
/-- The bytes l lie at p. -/
def At (w : World) (p : Addr) (l : List UInt8) : Prop := ∀ j x, l[j]? = some x → w.cell? (p.add j) = some (.int .u8 (x.toNat : Int))
theorem add0 (g j : Nat) : (⟨g, 0, none⟩ : Addr).add j = ⟨g, j, none⟩ := by unfold Addr.add; split <;> simp_all
theorem At.cells {w : World} {p : Addr} {l : List UInt8} (h : At w p l) : ∀ j u, (bcells l)[j]? = some u → w.cell? (p.add j) = some u := fun j u hu => by
  rw [bcells_at] at hu
  cases hx : l[j]? with
  | none => rw [hx] at hu; cases hu
  | some x => rw [hx] at hu; cases hu; exact h j x hx
theorem At.of_cells {w : World} {p : Addr} {l : List UInt8} (h : ∀ j u, (bcells l)[j]? = some u → w.cell? (p.add j) = some u) : At w p l := fun j x hx => h j _ (by rw [bcells_at, hx]; rfl)
/-- v is a slice of the call's own, of the bytes l. -/
def OwnB (w : World) (base : Nat) (v : Value) (l : List UInt8) : Prop :=
  (v = .slice none 0 0 ∧ l = []) ∨ ∃ g cap, v = .slice (some ⟨g, 0, none⟩) l.length cap ∧ base ≤ g ∧ g < w.heap.size ∧ l.length ≤ cap ∧ cap ≤ 9223372036854775807 ∧
    At w ⟨g, 0, none⟩ l ∧ (∀ j, j < cap → (w.cell? ⟨g, j, none⟩).isSome = true) ∧ ∀ j, j < cap → w.frozen? ⟨g, j, none⟩ = false
theorem OwnB.nil (w : World) (base : Nat) : OwnB w base (.slice none 0 0) [] := .inl ⟨rfl, rfl⟩
theorem OwnB.form {w : World} {base : Nat} {v : Value} {l : List UInt8} (h : OwnB w base v l) : ∃ a c, v = .slice a l.length c ∧ l.length ≤ c ∧ c ≤ 9223372036854775807 := by
  rcases h with ⟨rfl, rfl⟩ | ⟨g, cap, rfl, _, _, h1, h2, _⟩
  · exact ⟨none, 0, rfl, Nat.le_refl _, by omega⟩
  · exact ⟨_, cap, rfl, h1, h2⟩
theorem OwnB.same {w w' : World} {base : Nat} {v : Value} {l : List UInt8} (h : OwnB w base v l) (hs : w.heap.size ≤ w'.heap.size) (e : ∀ k, v.ownBlock = some k → w'.heap[k]? = w.heap[k]?) : OwnB w' base v l := by
  rcases h with h | ⟨g, cap, rfl, hb, hg, h1, h2, ha, hc, hf⟩
  · exact .inl h
  · have k := e g rfl
    have ec : ∀ j, w'.cell? ⟨g, j, none⟩ = w.cell? ⟨g, j, none⟩ := fun j => World.cell?_of_block (w := w) (a := ⟨g, j, none⟩) k
    refine .inr ⟨g, cap, rfl, hb, by omega, h1, h2, fun j x hx => ?_, fun j hj => by rw [ec]; exact hc j hj, fun j hj => by rw [World.frozen?_of_block (w := w) (a := ⟨g, j, none⟩) k]; exact hf j hj⟩
    rw [add0, ec, ← add0]
    exact ha j x hx
theorem OwnB.lt {w : World} {base : Nat} {v : Value} {l : List UInt8} (h : OwnB w base v l) : ∀ k, v.ownBlock = some k → base ≤ k ∧ k < w.heap.size := fun k hk => by
  rcases h with ⟨rfl, _⟩ | ⟨g, cap, rfl, hb, hg, _⟩
  · cases hk
  · cases hk; exact ⟨hb, hg⟩
theorem OwnB.later {w w' : World} {base : Nat} {v : Value} {l : List UInt8} (h : OwnB w base v l) (k : Gr w w') : OwnB w' base v l := h.same k.size fun j hj => k.block j (h.lt j hj).2
theorem OwnB.mono {w : World} {base base' : Nat} {v : Value} {l : List UInt8} (h : OwnB w base v l) (k : base' ≤ base) : OwnB w base' v l := by
  rcases h with h | ⟨g, cap, h0, hb, h1⟩
  · exact .inl h
  · exact .inr ⟨g, cap, h0, Nat.le_trans k hb, h1⟩
theorem OwnB.of_owns {w : World} {base n : Nat} {v : Value} {l : List UInt8} (h : w.ownsRow base 5 1 v n (bcells l)) : OwnB w base v l := by
  obtain ⟨hl, h⟩ := h
  rw [bcells_len, Nat.mul_one] at hl
  rcases h with ⟨rfl, rfl⟩ | ⟨g, cap, cur, rfl, hb, hg, hn, hm, hc, ht⟩
  · exact .inl ⟨rfl, List.length_eq_zero_iff.1 hl⟩
  · subst hl
    rw [Nat.mul_one] at hc ht
    have cell : ∀ j, w.cell? ⟨g, j, none⟩ = cur[j]? := fun j => cell_of_row w g j cur _ (0, 0) hg
    refine .inr ⟨g, cap, rfl, hb, (Array.getElem?_eq_some_iff.1 hg).1, hn, by unfold maxLen at hm; omega, At.of_cells fun j u hu => ?_, fun j hj => by rw [cell]; simp [hc, hj], fun j hj => by simp [World.frozen?, hg]⟩
    rw [add0, cell]
    rw [← ht, List.getElem?_take] at hu
    split at hu
    · simpa using hu
    · cases hu
theorem infoU8 : (Tryd.prog.info? 5).map (fun i => (i.zero, i.size, i.bytes)) = some (some (.int .u8 0), 1, 1) := by kernel_rfl
theorem info_u8 : ∃ i : TypeInfo, Tryd.prog.info? 5 = some i ∧ i.zero = some (.int .u8 0) ∧ i.size = 1 ∧ i.bytes = 1 := by
  have h := infoU8
  cases hi : Tryd.prog.info? 5 with
  | none => rw [hi] at h; cases h
  | some i =>
    rw [hi] at h
    simp only [Option.map_some, Option.some.injEq, Prod.mk.injEq] at h
    exact ⟨i, rfl, h.1, h.2.1, h.2.2⟩
/-- append of bytes to bytes of the call's own. -/
theorem run_appB (w : World) (base : Nat) (v : Value) (l : List UInt8) (h : OwnB w base v l) (p : Addr) (c : Nat) (m : List UInt8) (hu : At w p m) (hm : 0 < m.length) (hlen : l.length + m.length ≤ 1000000) (hbase : base ≤ w.heap.size) :
    ∃ v' w', (Builtin.append_ #[41, 41] 41 #[v, .slice (some p) m.length c]).run Tryd.prog w = .ok v' w' ∧ OwnB w' base v' (l ++ m) ∧ w.grownBy w' v.ownBlock := by
  obtain ⟨i, hi, hz, h1, hby⟩ := info_u8
  have hle : (bcells m).length = m.length * 1 := by rw [bcells_len]; omega
  rcases h with ⟨rfl, rfl⟩ | ⟨g, cap, rfl, hb, hg, hn, hmx, ha, hc, hf⟩
  · obtain ⟨v', w', hr, h5, h6, _⟩ := run_append_own (P := Tryd.prog) w base 41 41 5 i (.int .u8 0) 1 1 Tryd.underlying41 hi hz h1 hby rfl (by decide) (.slice none 0 0) 0 [] (World.ownsRow_nil _ _ _ _) p m.length c (bcells m) hle hu.cells (bcells_one m) (by unfold maxLen; simp at hlen; omega) (by simp at hlen; omega) hbase
    exact ⟨v', w', hr, OwnB.of_owns (n := 0 + m.length) (by simpa using h5), h6⟩
  · by_cases hroom : l.length + m.length ≤ cap
    · have hr := run_append_room_cells (P := Tryd.prog) w 41 41 5 i Tryd.underlying41 hi g 0 l.length cap p m.length c (bcells m) (by rw [h1]; exact hle) hu.cells (bcells_one m) hroom
        (fun j hj => by rw [h1, Nat.mul_one, Nat.zero_add]; exact hc _ (by rw [bcells_len] at hj; omega)) (fun j hj => by rw [h1, Nat.mul_one, Nat.zero_add]; exact hf _ (by rw [bcells_len] at hj; omega))
      rw [h1, Nat.mul_one, Nat.zero_add] at hr
      refine ⟨_, _, hr, .inr ⟨g, cap, by simp, hb, ?_, by simpa using hroom, hmx, ?_, ?_, ?_⟩, ?_⟩
      · have hsz : (w.setCells g l.length (bcells m)).heap.size = w.heap.size := by
          have : ∀ (vs : List Value) (o : Nat) (w : World), (w.setCells g o vs).heap.size = w.heap.size := fun vs => by
            induction vs with
            | nil => intro o w; rfl
            | cons x vs ih => intro o w; rw [World.setCells, ih]; simp
          exact this _ _ _
        omega
      · intro j x hx
        rw [add0]
        rcases Nat.lt_or_ge j l.length with hj | hj
        · rw [World.cell?_setCells_out g (bcells m) l.length w ⟨g, j, none⟩ (fun _ _ => .inl hj), ← add0]
          rw [List.getElem?_append_left hj] at hx
          exact ha j x hx
        · rw [List.getElem?_append_right hj] at hx
          have hjm : j - l.length < m.length := (List.getElem?_eq_some_iff.1 hx).1
          have k := World.cell?_setCells_in g (bcells m) l.length w (fun t ht => hc _ (by rw [bcells_len] at ht; omega)) (j - l.length) (by rw [bcells_len]; exact hjm)
          rw [show l.length + (j - l.length) = j by omega] at k
          rw [k]
          have hb2 := bcells_at m (j - l.length)
          rw [hx, List.getElem?_eq_getElem (by rw [bcells_len]; exact hjm)] at hb2
          simpa using hb2
      · intro j hj
        rcases Nat.lt_or_ge j l.length with h3 | h3
        · rw [World.cell?_setCells_out g (bcells m) l.length w ⟨g, j, none⟩ (fun _ _ => .inl h3)]; exact hc j hj
        · rcases Nat.lt_or_ge j (l.length + m.length) with h4 | h4
          · have k := World.cell?_setCells_in g (bcells m) l.length w (fun t ht => hc _ (by rw [bcells_len] at ht; omega)) (j - l.length) (by rw [bcells_len]; omega)
            rw [show l.length + (j - l.length) = j by omega] at k
            rw [k]; rfl
          · rw [World.cell?_setCells_out g (bcells m) l.length w ⟨g, j, none⟩ (fun _ _ => .inr (by rw [bcells_len]; exact h4))]; exact hc j hj
      · intro j hj
        rw [World.frozen?_setCells]; exact hf j hj
      · have hsz : ∀ (vs : List Value) (o : Nat) (w : World), (w.setCells g o vs).heap.size = w.heap.size ∧ (w.setCells g o vs).os = w.os ∧ (w.setCells g o vs).tape = w.tape ∧ (w.setCells g o vs).output = w.output ∧ ∀ k, k ≠ g → (w.setCells g o vs).heap[k]? = w.heap[k]? := fun vs => by
          induction vs with
          | nil => intro o w; exact ⟨rfl, rfl, rfl, rfl, fun _ _ => rfl⟩
          | cons x vs ih =>
            intro o w
            rw [World.setCells]
            obtain ⟨a1, a2, a3, a4, a5⟩ := ih (o + 1) (w.setCell ⟨g, o, none⟩ x)
            exact ⟨by rw [a1]; simp, a2, a3, a4, fun k hk => (a5 k hk).trans (Below.heap_setCell _ _ _ _ hk)⟩
        obtain ⟨a1, a2, a3, a4, a5⟩ := hsz (bcells m) l.length w
        exact ⟨a2, a3, a4, by omega, fun k hk hne => a5 k (fun e => hne (by subst e; rfl))⟩
    · obtain ⟨v', w', hr, h5, h6⟩ := run_append_arg_grows (P := Tryd.prog) w 41 41 5 i (.int .u8 0) 1 1 Tryd.underlying41 hi hz h1 hby rfl (by decide) ⟨g, 0, none⟩ l.length cap (bcells l) (by rw [bcells_len]; omega) ha.cells p m.length c (bcells m) hle hu.cells (by omega) (by unfold maxLen; omega) (by omega)
      rw [← bcells_app] at h5
      exact ⟨v', w', hr, (OwnB.of_owns h5).mono hbase, ⟨h6.os, h6.tape, h6.output, h6.size, fun k hk _ => h6.block k hk (by simp)⟩⟩
/-- append as a step of the walk. -/
theorem wpList_appB {ops : Array Oper} {rest : List Oper} {o : Oper} {a : Act} {w : World} {Q : Exit → Act → World → Prop} (hgd : o.guard = none) (s x : Operand)
    (ho : o.op = .call { callee := .builtin .append, args := #[s, x], argTypes := #[41, 41] }) (hty : o.type = 41)
    (base : Nat) (v : Value) (l : List UInt8) (hs : a.eval s = v) (hown : OwnB w base v l) (p : Addr) (c n : Nat) (m : List UInt8) (hx : a.eval x = .slice (some p) n c) (hn : n = m.length) (hu : At w p m) (hm : 0 < m.length) (hlen : l.length + m.length ≤ 1000000) (hbase : base ≤ w.heap.size)
    (h : ∀ v' w', OwnB w' base v' (l ++ m) → w.grownBy w' v.ownBlock → wpList Tryd.prog ops Q rest (a.put o.dst v') w') : wpList Tryd.prog ops Q (o :: rest) a w :=
  wpList_plain hgd fun _ hK => by
    subst hn
    obtain ⟨v', w', hr, h2, h3⟩ := run_appB w base v l hown p c m hu hm hlen hbase
    unfold Oper.wp execOp
    simp only [ho, hty, resolve, invoke, builtin, Sem.run_bind, Sem.run_pure, Result.andThen_ok, List.map_toArray, List.map_cons, List.map_nil, hs, hx, hr]
    exact hK _ _ (h v' w' h2 h3)
theorem OwnB.grown {w a b : World} {base : Nat} {v : Value} {l : List UInt8} (h : Gr w a) (ho : OwnB a base v l) (hg : a.grownBy b v.ownBlock) (hb : w.heap.size ≤ base) : Gr w b :=
  Below.grown h hg h.size fun j ej => by have := (ho.lt j ej).1; omega
/-- Some bytes in a new block. -/
theorem At.new1 (W : World) (g : Nat) (hg : g = W.heap.size) (x : UInt8) (n : Int) (hn : n = (x.toNat : Int)) (T : TypeId) : At (W.alloc (.cells #[.int .u8 n] T)) ⟨g, 0, none⟩ [x] := fun j y hj => by
  subst hg hn
  have : j = 0 := by
    have := (List.getElem?_eq_some_iff.1 hj).1
    simpa using this
  subst this
  obtain rfl : x = y := by simpa using hj
  rw [add0]
  exact World.cell?_alloc_mark W _ T (0, 0) 0
theorem OwnB.row {w : World} {base : Nat} {v : Value} {l : List UInt8} (h : OwnB w base v l) (h0 : 0 < l.length) : ∃ g cap, v = .slice (some ⟨g, 0, none⟩) l.length cap ∧ base ≤ g ∧ g < w.heap.size ∧ l.length ≤ cap ∧ cap ≤ 9223372036854775807 ∧ At w ⟨g, 0, none⟩ l := by
  rcases h with ⟨_, rfl⟩ | ⟨g, cap, h1, h2, h3, h4, h5, h6, _⟩
  · simp at h0
  · exact ⟨g, cap, h1, h2, h3, h4, h5, h6⟩
theorem OwnB.new1 (w : World) (x : UInt8) (n : Int) (hn : n = (x.toNat : Int)) (T : TypeId) : OwnB (w.alloc (.cells #[.int .u8 n] T)) w.heap.size (.slice (some ⟨w.heap.size, 0, none⟩) 1 1) [x] := by
  have hc : ∀ j, (w.alloc (.cells #[.int .u8 n] T)).cell? ⟨w.heap.size, j, none⟩ = #[.int .u8 n][j]? := fun j => World.cell?_alloc_mark w _ T (0, 0) j
  refine .inr ⟨w.heap.size, 1, rfl, Nat.le_refl _, by simp, Nat.le_refl _, by omega, At.new1 w _ rfl x n hn T, fun j hj => ?_, fun j hj => ?_⟩
  · obtain rfl : j = 0 := by omega
    rw [hc]; rfl
  · have h := World.frozen?_alloc_mark w #[.int .u8 n] T 0 0 j
    rw [show (w.alloc (.cells #[.int .u8 n] T)) = w.alloc (.cells #[.int .u8 n] T (0, 0)) from rfl, h]; simp
/-- A new slice that holds the bytes of a string. -/
theorem OwnB.conv (w : World) (s : ByteArray) (hs : s.size ≤ 9223372036854775807) : ∃ cap row fr, (convert 9 41 (.string s)).run Tryd.prog w = .ok (.slice (some ⟨w.heap.size, 0, none⟩) s.size cap) (w.drew.alloc (.cells row 5 fr)) ∧
    OwnB (w.drew.alloc (.cells row 5 fr)) w.heap.size (.slice (some ⟨w.heap.size, 0, none⟩) s.size cap) s.data.toList := by
  have hr := run_bytes_of_string (P := Tryd.prog) w 9 41 5 s Tryd.underlying9 Tryd.underlying41 Tryd.underlying5
  obtain ⟨cap, hcap⟩ : ∃ cap, cap = grownCap w s.size 0 5 := ⟨_, rfl⟩
  have hge : s.size ≤ cap := by rw [hcap]; exact grownCap_ge w s.size 0 5
  have hsz : (bytesRow s cap).size = cap := by
    have : s.data.size = s.size := rfl
    simp [bytesRow]; omega
  rw [← hcap, hsz] at hr
  refine ⟨cap, _, _, hr, ?_⟩
  have hlen : s.data.toList.length = s.size := by rw [Array.length_toList]; rfl
  have cell : ∀ j, (w.drew.alloc (.cells (bytesRow s cap) 5 (cap, cap + 1))).cell? ⟨w.heap.size, j, none⟩ = (bytesRow s cap)[j]? := fun j => World.cell?_alloc_mark w.drew (bytesRow s cap) 5 (cap, cap + 1) j
  refine .inr ⟨w.heap.size, cap, by rw [hlen], Nat.le_refl _, by simp, by omega, ?_, fun j x hx => ?_, fun j hj => by rw [cell]; simp [hsz, hj], fun j hj => ?_⟩
  · have := grownCap_le_maxLen w s.size 0 5 (by unfold maxLen; exact hs)
    rw [← hcap] at this
    unfold maxLen at this
    exact this
  · rw [add0, cell]
    have hj : j < s.data.size := by
      have := (List.getElem?_eq_some_iff.1 hx).1
      simpa using this
    rw [bytesRow_at s cap j hj]
    have : s.data[j] = x := by
      rw [Array.getElem?_toList, Array.getElem?_eq_getElem hj] at hx
      exact Option.some.inj hx
    rw [this]
  · have h := World.frozen?_alloc_mark w.drew (bytesRow s cap) 5 cap (cap + 1) j
    rw [show (⟨w.heap.size, j, none⟩ : Addr) = ⟨w.drew.heap.size, j, none⟩ from rfl, h]
    simp; omega
end Go.Proofs.YtblaimkcdhcclaaDoor
