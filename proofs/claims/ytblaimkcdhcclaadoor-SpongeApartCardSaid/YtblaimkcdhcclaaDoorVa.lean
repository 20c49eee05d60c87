/- A strings.Builder of the call's own: bytes and strings are written to it. -/
import Derived.Test.YtblaimkcdhcclaaDoorWk
import Derived.Test.YtblaimkcdhcclaaDoorWy
import Derived.Test.YtblaimkcdhcclaaDoorShelf
namespace Go.Proofs.YtblaimkcdhcclaaDoor
open Go.RowKit Oz
set_option linter.unusedVariables false
set_option linter.unusedSimpArgs false
theorem infoBld : (Tryd.prog.info? 48).map (fun i => decide (i.size ≠ 0)) = some true := by kernel_rfl
theorem info_bld : ∃ j : TypeInfo, Tryd.prog.info? 48 = some j ∧ j.size ≠ 0 := by
  have h := infoBld
  cases hi : Tryd.prog.info? 48 with
  | none => rw [hi] at h; cases h
  | some i =>
    rw [hi] at h
    exact ⟨i, rfl, by simpa using h⟩
theorem lies_bld : liesAt Tryd.prog Tryd.prog.depth 48 (2 / Tryd.prog.cellsOf 48) 0 48 1 = true := by kernel_rfl
abbrev IsBl (B b : Nat) (bs : List Value) (w : World) : Prop := Lib.IsBuilder 48 5 B b bs w
abbrev BlAt (B b : Nat) (bs : List Value) (w : World) : Prop := Lib.BuilderAt 48 5 B b (.pointer (some ⟨b, 0, none⟩)) bs w
set_option maxRecDepth 100000 in
set_option maxHeartbeats 4000000 in
theorem copy_any (B b : Nat) (bs : List Value) (w : World) (h : IsBl B b bs w) : Calls Tryd.prog 34 #[.pointer (some ⟨b, 0, none⟩)] w (fun e w' => e = .returned (.tuple #[]) ∧ BlAt B b bs w' ∧ Below B w w') := by
  obtain ⟨j, hj, hjs⟩ := info_bld
  rcases h with h | h
  · have h0 := h.cell0
    have hsh := h.shape
    have hfz := h.frozen0
    have HB := Lib.hid h
    clear h
    have r1 := Lib.run_to_unsafe (P := Tryd.prog) w ⟨b, 0, none⟩ Tryd.underlying46 Tryd.underlying70 hj hjs hsh (Nat.zero_lt_succ 1)
    have r2 := Lib.run_from_unsafe (P := Tryd.prog) w ⟨b, 0, none⟩ Tryd.underlying70 Tryd.underlying46 hj hsh lies_bld
    have r3 := fun (W : World) => Lib.run_neq_ptr_same (P := Tryd.prog) W ⟨b, 0, none⟩ Tryd.underlying46 hj
    go_enter Tryd.func34, Tryd.ntmps34
    go_wp2_with fail
    rw [run_callFunc_extern Tryd.func39 (by kernel_rfl) (by kernel_rfl) (by kernel_rfl) (e := Extern.AbiNoEscape.same) (by kernel_rfl), Lib.run_noEscape]
    simp only [Result.andThen]
    rw [Oper.upon_value]
    go_wp2_with fail
    go_end0
    exact ⟨rfl, HB.out.used _, (Below.refl B w).setCell (p := ⟨b, 0, none⟩) HB.out.1 _⟩
  · have h0 := h.cell0
    have HB := Lib.hid h
    clear h
    have r3 := fun (W : World) => Lib.run_neq_ptr_same (P := Tryd.prog) W ⟨b, 0, none⟩ Tryd.underlying46 hj
    go_enter Tryd.func34, Tryd.ntmps34
    go_wp2_with fail
    go_end0
    exact ⟨rfl, HB.out, Below.refl B _⟩
theorem one_new (W : World) (n : Int) (T : TypeId) : ∀ j u, [Value.int .u8 n][j]? = some u → (W.alloc (.cells #[.int .u8 n] T)).cell? ((⟨W.heap.size, 0, none⟩ : Addr).add j) = some u := fun j u hj => by
  match j, hj with
  | 0, hj => simp at hj; subst hj; simp [Addr.add]
theorem row_form {w : World} {B n : Nat} {v : Value} {xs : List Value} (h : w.ownsRow B 5 1 v n xs) : ∃ a c, v = .slice a n c := by
  rcases h.2 with ⟨rfl, h0⟩ | ⟨g, cap, cur, rfl, _⟩
  · exact ⟨none, 0, by rw [h0]⟩
  · exact ⟨_, _, rfl⟩
/-- Bytes that are appended. -/
theorem wbyte_any (B b : Nat) (l : List UInt8) (c : UInt8) (w : World) (h : IsBl B b (bcells l) w) (hl : l.length ≤ 900000) (hBw : B ≤ w.heap.size) : Calls Tryd.prog 25 #[.pointer (some ⟨b, 0, none⟩), .int .u8 (c.toNat : Int)] w (fun e w' => e = .returned .nilIface ∧ BlAt B b (bcells (l ++ [c])) w' ∧ Below B w w') := by
  obtain ⟨i, hi, hz, h1, hby⟩ := info_u8
  have HC := Lib.hid (copy_any B b (bcells l) w h)
  have HL := Lib.hid (And.intro hl hBw)
  clear h hl hBw
  go_enter Tryd.func25, Tryd.ntmps25
  go_wp2_with (first | (go_at_call 34; refine HC.out.mono ?_; rintro e w1 ⟨rfl, hb, hg⟩; (have HG := Lib.hid hg); obtain ⟨hB, v, hbk, hown, hne⟩ := hb; (have c0 : w1.cell? ⟨b, 0, none⟩ = some (.pointer (some ⟨b, 0, none⟩)) := by rw [Lib.cell_of_heap hbk]; rfl); (have c1 : w1.cell? ⟨b, 1, none⟩ = some v := by rw [Lib.cell_of_heap hbk]; rfl); (have HV := Lib.hid (And.intro hB (And.intro hbk (And.intro hown hne)))); clear hg hB hbk hown hne) | (at_builtin; refine wpList_append_own _ rfl _ _ 41 rfl B 5 i (.int .u8 0) 1 1 Tryd.underlying41 hi hz h1 hby rfl (by decide) _ _ _ rfl (HV.out.2.2.1.alloc _) ⟨w1.heap.size, 0, none⟩ 1 1 [.int .u8 (c.toNat : Int)] rfl rfl (one_new _ _ _) (by simp [Value.oneCell']) (by unfold maxLen; have := HL.out; rw [bcells_len]; omega) (by have := HL.out; rw [bcells_len]; omega) (by have := HG.out.size; have := HL.out; simp; omega) ?_; intro v' w2 hown' hgrow _; obtain ⟨a', c', rfl⟩ := row_form hown'; clear c0 c1; (have hlt : b < w1.heap.size := (Array.getElem?_eq_some_iff.1 HV.out.2.1).1); (have hb2 : w2.heap[b]? = some (.cells #[.pointer (some ⟨b, 0, none⟩), v] 48 (0, 0)) := by rw [hgrow.block b (by simp; omega) (fun e => HV.out.2.2.2 e.symm), Lib.alloc_old w1 _ b hlt]; exact HV.out.2.1); (have d0 : w2.cell? ⟨b, 0, none⟩ = some (.pointer (some ⟨b, 0, none⟩)) := by rw [Lib.cell_of_heap hb2]; rfl); (have d1 : w2.cell? ⟨b, 1, none⟩ = some v := by rw [Lib.cell_of_heap hb2]; rfl); (have f1 : w2.frozen? ⟨b, 1, none⟩ = false := Lib.frozen_of_heap hb2 1); (have HW := Lib.hid (And.intro hb2 (And.intro hown' hgrow))); clear hb2 hown' hgrow hlt))
  go_ret
  have h1 := HV.out
  have h2 := HW.out
  refine ⟨rfl, ?_, ?_⟩
  · rw [bcells_app]
    exact Lib.BuilderAt.put (T := 48) (e := 5) h1.1 h2.1 (bs' := bcells l ++ bcells [c]) (by have h3 := h2.2.1; rw [bcells_len] at h3; rw [List.length_append, bcells_len, bcells_len]; exact h3) (by decide)
  · exact ((HG.out.alloc (by have := HG.out.size; have := HL.out; omega) _).grown h2.2.2 (by have := HG.out.size; have := HL.out; simp; omega) (fun k hk => (h1.2.2.1.lt k hk).1)).setCell (p := ⟨b, 1, none⟩) h1.1 _
theorem wstr_any (B b : Nat) (l : List UInt8) (s : ByteArray) (w : World) (h : IsBl B b (bcells l) w) (hl : l.length + s.size ≤ 900000) (hBw : B ≤ w.heap.size) : Calls Tryd.prog 27 #[.pointer (some ⟨b, 0, none⟩), .string s] w (fun e w' => e = .returned (.tuple #[.int .i64 (s.size : Nat), .nilIface]) ∧ BlAt B b (bcells (l ++ s.data.toList)) w' ∧ Below B w w') := by
  obtain ⟨i, hi, hz, h1, hby⟩ := info_u8
  have HC := Lib.hid (copy_any B b (bcells l) w h)
  have HL := Lib.hid (And.intro hl hBw)
  clear h hl hBw
  go_enter Tryd.func27, Tryd.ntmps27
  go_wp2_with (first | (go_at_call 34; refine HC.out.mono ?_; rintro e w1 ⟨rfl, hb, hg⟩; (have HG := Lib.hid hg); obtain ⟨hB, v, hbk, hown, hne⟩ := hb; (have c0 : w1.cell? ⟨b, 0, none⟩ = some (.pointer (some ⟨b, 0, none⟩)) := by rw [Lib.cell_of_heap hbk]; rfl); (have c1 : w1.cell? ⟨b, 1, none⟩ = some v := by rw [Lib.cell_of_heap hbk]; rfl); (have HV := Lib.hid (And.intro hB (And.intro hbk (And.intro hown hne)))); clear hg hB hbk hown hne) | (at_builtin; refine Lib.wpList_append_own_string _ rfl _ _ 41 9 rfl B 5 i Tryd.underlying41 Tryd.underlying9 hi hz h1 hby _ _ _ rfl HV.out.2.2.1 s rfl (by unfold maxLen; have := HL.out; rw [bcells_len]; omega) (by have := HL.out; rw [bcells_len]; omega) (by have := HG.out.size; have := HL.out; omega) ?_; intro v' w2 hown' hgrow _; obtain ⟨a', c', rfl⟩ := row_form hown'; clear c0 c1; (have hlt : b < w1.heap.size := (Array.getElem?_eq_some_iff.1 HV.out.2.1).1); (have hb2 : w2.heap[b]? = some (.cells #[.pointer (some ⟨b, 0, none⟩), v] 48 (0, 0)) := by rw [hgrow.block b hlt (fun e => HV.out.2.2.2 e.symm)]; exact HV.out.2.1); (have d0 : w2.cell? ⟨b, 0, none⟩ = some (.pointer (some ⟨b, 0, none⟩)) := by rw [Lib.cell_of_heap hb2]; rfl); (have d1 : w2.cell? ⟨b, 1, none⟩ = some v := by rw [Lib.cell_of_heap hb2]; rfl); (have f1 : w2.frozen? ⟨b, 1, none⟩ = false := Lib.frozen_of_heap hb2 1); (have HW := Lib.hid (And.intro hb2 (And.intro hown' hgrow))); clear hb2 hown' hgrow hlt))
  go_ret2
  have h1 := HV.out
  have h2 := HW.out
  refine ⟨rfl, ?_, ?_⟩
  · rw [bcells_app, ← strCells_b]
    exact Lib.BuilderAt.put (T := 48) (e := 5) h1.1 h2.1 (bs' := bcells l ++ Lib.strCells s) (by rw [List.length_append, Lib.strCells_length]; exact h2.2.1) (by decide)
  · exact (HG.out.grown h2.2.2 (by have := HG.out.size; have := HL.out; omega) (fun k hk => (h1.2.2.1.lt k hk).1)).setCell (p := ⟨b, 1, none⟩) h1.1 _
end Go.Proofs.YtblaimkcdhcclaaDoor
