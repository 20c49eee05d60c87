/- slices.Clone of digits: a new row. -/
import Derived.Test.YtgalgldnhdiggaaDoorAddTo
import Derived.Maps.AppendAt
import Derived.Lib.SliceRun
namespace Go.Proofs.YtgalgldnhdiggaaDoor
open Go.RowKit
set_option linter.unusedVariables false

theorem infoU32 : (Tryd.prog.info? 59).map (fun i => (i.zero, i.size, i.bytes)) = some (some (.int .u32 0), 1, 4) := by kernel_rfl
/-- Digits as cells. -/
def wcells (l : List Nat) : List Value := l.map (fun x => .int .u32 (x : Nat))
theorem wcells_snoc (l : List Nat) (x : Nat) : wcells (l ++ [x]) = wcells l ++ [.int .u32 (x : Nat)] := by simp [wcells]
theorem wcells_at (l : List Nat) (i : Nat) (hi : i < l.length) : (wcells l)[i]? = some (.int .u32 ((l[i]?.getD 0 : Nat) : Int)) := by simp [wcells, hi]
theorem wcells_len (l : List Nat) : (wcells l).length = l.length := by simp [wcells]

/-- A slice of the call's own that holds digits. -/
def Own1 (W : World) (base : Nat) (v : Value) (l : List Nat) : Prop := Ow.Dg l ∧ W.ownsRow base 59 1 v l.length (wcells l)
theorem Own1.hasD {W : World} {base : Nat} {v : Value} {l : List Nat} (h : Own1 W base v l) : HasD W v l := by
  refine ⟨h.1, ?_⟩
  rcases h.2.2 with ⟨rfl, h0⟩ | ⟨g, cap, cur, rfl, _, hg, h1, h2, h3, h4⟩
  · exact ⟨none, 0, by rw [h0], by omega, by omega, fun i hi => by omega⟩
  · refine ⟨_, cap, rfl, h1, by unfold maxLen at h2; omega, fun i hi => ⟨g, 0, rfl, ?_⟩⟩
    have hc : W.cell? ⟨g, i, none⟩ = (wcells l)[i]? := by
      rw [← h4, List.getElem?_take_of_lt (by omega)]
      simp [World.cell?, hg]
    rw [Nat.zero_add, hc, wcells_at l i hi]
/-- Where it lies. -/
theorem Own1.lies {W : World} {base : Nat} {v : Value} {l : List Nat} (h : Own1 W base v l) (h0 : 0 < l.length) : ∃ g cap, v = .slice (some ⟨g, 0, none⟩) l.length cap ∧ base ≤ g ∧ g < W.heap.size ∧ l.length ≤ cap ∧ cap ≤ 9223372036854775807 ∧ Lies W g 0 l := by
  have hd := h.hasD
  rcases h.2.2 with ⟨rfl, h1⟩ | ⟨g, cap, cur, rfl, hb, hg, h1, h2, h3, h4⟩
  · omega
  · refine ⟨g, cap, rfl, hb, (Array.getElem?_eq_some_iff.1 hg).1, h1, by unfold maxLen at h2; omega, h.1, ⟨cur, hg, by omega⟩, fun i hi => ?_⟩
    obtain ⟨_, a, cap', e, _, _, hc⟩ := hd
    simp only [Value.slice.injEq] at e
    obtain ⟨rfl, -, -⟩ := e
    obtain ⟨g', o', e, hc⟩ := hc i hi
    simp only [Option.some.injEq, Addr.mk.injEq] at e
    obtain ⟨rfl, rfl, -⟩ := e
    exact hc

/-- A new slice of digits. -/
def NewPost (l : List Nat) (w : World) (e : Ending) (w' : World) : Prop := ∃ v, e = .returned v ∧ Own1 w' w.heap.size v l ∧ Gr w w'

theorem eql_nil (w : World) (a : Option Addr) (n c : Nat) : (binOp .eql 54 (.slice a n c) (.slice none 0 0)).run Tryd.prog w = .ok (.bool a.isNone) w :=
  Lib.run_eql_slice_nil w _ _ a n c 0 0 Tryd.underlying54

set_option maxRecDepth 100000 in
set_option maxHeartbeats 1000000 in
theorem clone_any (l : List Nat) (v : Value) (w : World) (h : HasD w v l) (hl : l.length ≤ 1000000) :
    Calls Tryd.prog 86 #[v] w (NewPost l w) := by
  obtain ⟨hd, a, cap, rfl, h1, h2, hc⟩ := h
  obtain ⟨i0, hi, hz0, hz1, hz2⟩ := info_parts infoU32
  have q := eql_nil
  obtain ⟨len, hlen⟩ : ∃ len, len = l.length := ⟨_, rfl⟩
  have HD := Lib.hid hd
  cases a with
  | none =>
    obtain rfl : l = [] := by
      cases l with
      | nil => rfl
      | cons d l => obtain ⟨g, o, e, _⟩ := hc 0 (by simp); cases e
    clear hc
    go_enter Tryd.func86, Tryd.ntmps86
    go_wp2_with fail
    go_ret
    exact ⟨_, rfl, ⟨HD.out, World.ownsRow_nil _ _ _ _⟩, Gr.refl _⟩
  | some ad =>
    have HC := Lib.hid hc
    rw [← hlen] at h1 hl ⊢
    have HLEN := Lib.hid hlen
    clear hc hlen hd
    have hnews : ∀ (o : Obj) j u, (wcells l)[j]? = some u → (w.alloc o).cell? (ad.add j) = some u := by
      intro o j u hu
      have hj : j < l.length := by have := (List.getElem?_eq_some_iff.1 hu).1; rwa [wcells_len] at this
      obtain ⟨g, p, e, hcell⟩ := HC.out j hj
      cases e
      rw [wcells_at l j hj] at hu
      have e2 : (⟨g, p, none⟩ : Addr).add j = ⟨g, p + j, none⟩ := by unfold Addr.add; split <;> simp_all
      rw [e2]
      have := (Gr.new w o).keeps hcell
      rw [this]; exact hu
    have HN := Lib.hid hnews
    clear hnews
    go_enter Tryd.func86, Tryd.ntmps86
    go_wp2_with (at_builtin; refine wpList_append_own _ rfl _ _ 54 rfl w.heap.size 59 i0 (.int .u32 0) 1 4 Tryd.underlying54 hi hz0 hz1 hz2 rfl (by decide) _ _ _ rfl (World.ownsRow_made w #[] 0 (Nat.le_refl _) (Nat.zero_le _) rfl) ad len cap (wcells l) rfl (by rw [wcells_len, ← HLEN.out, Nat.mul_one]) (HN.out _) (by intro u hu; obtain ⟨x, _, rfl⟩ := List.mem_map.1 hu; rfl) (by unfold maxLen; omega) (by omega) (by simp) ?_; intro v' w1 hown hgrow _; have HO := Lib.hid hown; have HG := Lib.hid (show Gr w w1 from Below.grown (Gr.new w (.cells #[] 59)) hgrow (by simp) (fun k e => by have e' : w.heap.size = k := Option.some.inj e; omega)); clear hown hgrow)
    go_ret
    exact ⟨_, rfl, ⟨HD.out, by have := HO.out; rw [Nat.zero_add, List.nil_append] at this; rw [← HLEN.out]; exact this⟩, HG.out⟩
end Go.Proofs.YtgalgldnhdiggaaDoor
