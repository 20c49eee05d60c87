import Derived.Test.YtlfiakpmnkhcdaaLWA
import Derived.Lib.EndianBits
import Derived.Maps.AppendAt
import Derived.Lib.SliceRun
import Derived.Laws.BitsLemmas
namespace Ow
set_option linter.unusedVariables false
def mg (l : List UInt8) : Nat := l.foldl (fun a b => a * 256 + b.toNat) 0
theorem mg_snoc (l : List UInt8) (b : UInt8) : mg (l ++ [b]) = mg l * 256 + b.toNat := by
  unfold mg; rw [List.foldl_append]; rfl
end Ow
namespace Go.Proofs.Ytlfiakpmnkhcdaa
open Go.RowKit
set_option linter.unusedVariables false
end Go.Proofs.Ytlfiakpmnkhcdaa
namespace Go.Proofs.Ytlfiakpmnkhcdaa
open Go.RowKit
set_option linter.unusedVariables false
end Go.Proofs.Ytlfiakpmnkhcdaa
namespace Ow
set_option linter.unusedVariables false
theorem val_take_succ : ∀ (l : List Nat) (k : Nat), val (l.take (k + 1)) = val (l.take k) + 4294967296 ^ k * (l[k]?.getD 0)
  | [], k => by simp [val]
  | d :: l, 0 => by simp [val]
  | d :: l, k + 1 => by
    have ih := val_take_succ l k
    simp only [List.take_succ_cons, val, List.getElem?_cons_succ]
    rw [ih, Nat.mul_add, Nat.pow_succ, Nat.mul_comm (4294967296 ^ k) 4294967296, Nat.mul_assoc]
    omega
theorem val_snoc : ∀ (l : List Nat) (d : Nat), val (l ++ [d]) = val l + 4294967296 ^ l.length * d
  | [], d => by simp [val]
  | e :: l, d => by
    simp only [List.cons_append, val, List.length_cons]
    rw [val_snoc l d, Nat.mul_add, Nat.pow_succ, Nat.mul_comm (4294967296 ^ l.length) 4294967296, Nat.mul_assoc]
    omega
theorem dg_snoc {l : List Nat} {d : Nat} (h : Dg l) (hd : d < 4294967296) : Dg (l ++ [d]) := fun x hx => by
  rcases List.mem_append.1 hx with h1 | h1
  · exact h x h1
  · simp at h1; omega
theorem dg_at {l : List Nat} (h : Dg l) (i : Nat) : l[i]?.getD 0 < 4294967296 := by
  by_cases hi : i < l.length
  · rw [List.getElem?_eq_getElem hi]; exact h _ (List.getElem_mem hi)
  · rw [List.getElem?_eq_none (by omega)]; simp
theorem dg_nil : Dg [] := fun x hx => (by cases hx)
def SumI (l m : List Nat) (k : Nat) (pre : List Nat) (c : Nat) : Prop := pre.length = k ∧ Dg pre ∧ c ≤ 1 ∧ val pre + c * 4294967296 ^ k = val (l.take k) + val (m.take k)
theorem SumI.start (l m : List Nat) : SumI l m 0 [] 0 := ⟨rfl, dg_nil, by omega, by simp [val]⟩
theorem SumI.step {l m : List Nat} {k c : Nat} {pre : List Nat} (h : SumI l m k pre c) (hl : Dg l) (hm : Dg m) :
    SumI l m (k + 1) (pre ++ [(l[k]?.getD 0 + m[k]?.getD 0 + c) % 4294967296]) ((l[k]?.getD 0 + m[k]?.getD 0 + c) / 4294967296) := by
  obtain ⟨h1, h2, h3, h4⟩ := h
  have a := dg_at hl k
  have b := dg_at hm k
  refine ⟨by simp [h1], dg_snoc h2 (Nat.mod_lt _ (by omega)), by omega, ?_⟩
  rw [val_snoc, h1, val_take_succ, val_take_succ]
  generalize l[k]?.getD 0 = x at *
  generalize m[k]?.getD 0 = y at *
  have e := Nat.div_add_mod (x + y + c) 4294967296
  generalize (x + y + c) / 4294967296 = q at *
  generalize (x + y + c) % 4294967296 = r at *
  rw [Nat.pow_succ]
  have : 4294967296 ^ k * r + q * (4294967296 ^ k * 4294967296) = 4294967296 ^ k * (x + y + c) := by
    rw [← e, Nat.mul_add, Nat.add_comm, Nat.mul_left_comm q, Nat.mul_comm q]
  rw [Nat.mul_add, Nat.mul_add, Nat.mul_comm _ c] at this
  omega
theorem SumI.all {l m : List Nat} {pre : List Nat} {c : Nat} (h : SumI l m l.length pre c) (hm : m.length ≤ l.length) : pre.length = l.length ∧ Dg pre ∧ c ≤ 1 ∧ val pre + c * 4294967296 ^ l.length = val l + val m := by
  obtain ⟨h1, h2, h3, h4⟩ := h
  rw [List.take_length, List.take_of_length_le hm] at h4
  exact ⟨h1, h2, h3, h4⟩
end Ow
namespace Go.Proofs.Ytlfiakpmnkhcdaa
open Go.RowKit
set_option linter.unusedVariables false
def Rw (W : World) (g : Nat) (cur : Array Value) : Prop := W.heap[g]? = some (.cells cur 22 (0, 0))
theorem Rw.cell {W : World} {g : Nat} {cur : Array Value} (h : Rw W g cur) (j : Nat) : W.cell? ⟨g, j, none⟩ = cur[j]? := by
  simp [World.cell?, show W.heap[g]? = _ from h]
theorem Rw.frozen {W : World} {g : Nat} {cur : Array Value} (h : Rw W g cur) (j : Nat) : W.frozen? ⟨g, j, none⟩ = false := by
  simp [World.frozen?, show W.heap[g]? = _ from h]
theorem Rw.set {W : World} {g : Nat} {cur : Array Value} (h : Rw W g cur) (j : Nat) (u : Value) : Rw (W.setCell ⟨g, j, none⟩ u) g (cur.setIfInBounds j u) := by
  obtain ⟨hlt, hk⟩ := Array.getElem?_eq_some_iff.1 (show W.heap[g]? = _ from h)
  show (W.heap.modify g _)[g]? = _
  rw [Array.getElem?_eq_getElem (by rw [Array.size_modify]; exact hlt), Array.getElem_modify_self, hk]
  rfl
structure Upd (g o : Nat) (l : List Nat) (W W' : World) : Prop where
  os : W'.os = W.os
  tape : W'.tape = W.tape
  output : W'.output = W.output
  size : W'.heap.size = W.heap.size
  block : ∀ k, k ≠ g → W'.heap[k]? = W.heap[k]?
  row : ∃ cur cur', Rw W g cur ∧ Rw W' g cur' ∧ cur'.size = cur.size ∧ o + l.length ≤ cur.size ∧ ∀ j, cur'[j]? = if o ≤ j ∧ j < o + l.length then some (.int .u32 ((l[j - o]?.getD 0 : Nat) : Int)) else cur[j]?
theorem Upd.start {W : World} {g o : Nat} {cur : Array Value} (h : Rw W g cur) (ho : o ≤ cur.size) : Upd g o [] W W :=
  ⟨rfl, rfl, rfl, rfl, fun _ _ => rfl, cur, cur, h, h, rfl, by simpa using ho, fun j => by rw [if_neg (by simp)]⟩
theorem Upd.step {W W' : World} {g o : Nat} {l : List Nat} (h : Upd g o l W W') {k d : Nat} (hk : l.length = k) {v : Value} (hc : W.cell? ⟨g, o + k, none⟩ = some v) : Upd g o (l ++ [d]) W (W'.setCell ⟨g, o + k, none⟩ (.int .u32 (d : Nat))) := by
  subst hk
  obtain ⟨h1, h2, h3, h4, h5, cur, cur', r1, r2, r3, r4, r5⟩ := h
  have hlt : o + l.length < cur.size := by
    rw [r1.cell] at hc
    exact (Array.getElem?_eq_some_iff.1 hc).1
  refine ⟨h1, h2, h3, by simpa using h4, fun k hk => ?_, cur, _, r1, r2.set _ _, by simpa using r3, by simp; omega, fun j => ?_⟩
  · rw [Below.heap_setCell _ _ _ _ hk]; exact h5 k hk
  · rw [Array.getElem?_setIfInBounds]
    by_cases e : o + l.length = j
    · subst e
      rw [if_pos rfl, if_pos (by omega), if_pos (by simp)]
      simp
    · rw [if_neg e, r5]
      by_cases e2 : o ≤ j ∧ j < o + l.length
      · rw [if_pos e2, if_pos (by simp; omega), List.getElem?_append_left (by omega)]
      · rw [if_neg e2, if_neg (by simp; omega)]
theorem Upd.cell_in {W W' : World} {g o : Nat} {l : List Nat} (h : Upd g o l W W') {j : Nat} (hj : j < l.length) : W'.cell? ⟨g, o + j, none⟩ = some (.int .u32 ((l[j]?.getD 0 : Nat) : Int)) := by
  obtain ⟨_, _, _, _, _, cur, cur', r1, r2, r3, r4, r5⟩ := h
  rw [r2.cell, r5, if_pos (by omega)]
  simp
theorem Upd.cell_out {W W' : World} {g o : Nat} {l : List Nat} (h : Upd g o l W W') {j : Nat} (hj : j < o ∨ o + l.length ≤ j) : W'.cell? ⟨g, j, none⟩ = W.cell? ⟨g, j, none⟩ := by
  obtain ⟨_, _, _, _, _, cur, cur', r1, r2, r3, r4, r5⟩ := h
  rw [r2.cell, r5, if_neg (by omega), r1.cell]
theorem Upd.cell_other {W W' : World} {g o : Nat} {l : List Nat} (h : Upd g o l W W') {p : Addr} (hp : p.block ≠ g) : W'.cell? p = W.cell? p := World.cell?_of_block (w := W) (h.block p.block hp)
theorem Upd.frozen {W W' : World} {g o : Nat} {l : List Nat} (h : Upd g o l W W') (j : Nat) : W'.frozen? ⟨g, j, none⟩ = false := by
  obtain ⟨_, _, _, _, _, cur, cur', r1, r2, _⟩ := h
  exact r2.frozen j
theorem Upd.gr {w W W' : World} {g o : Nat} {l : List Nat} (h : Upd g o l W W') (hg : Gr w W) (hs : w.heap.size ≤ g) : Gr w W' :=
  ⟨h.os.trans hg.os, h.tape.trans hg.tape, h.output.trans hg.output, by rw [h.size]; exact hg.size, fun k hk => (h.block k (by omega)).trans (hg.block k hk)⟩
end Go.Proofs.Ytlfiakpmnkhcdaa
namespace Go.Proofs.Ytlfiakpmnkhcdaa
open Go.RowKit
set_option linter.unusedVariables false
def Lies (W : World) (g o : Nat) (l : List Nat) : Prop := Ow.Dg l ∧ (∃ cur, Rw W g cur ∧ o + l.length ≤ cur.size) ∧ ∀ i, i < l.length → W.cell? ⟨g, o + i, none⟩ = some (.int .u32 ((l[i]?.getD 0 : Nat) : Int))
theorem Lies.upd {W W' : World} {g o : Nat} {l : List Nat} (h : Upd g o l W W') (hd : Ow.Dg l) : Lies W' g o l := by
  obtain ⟨_, _, _, _, _, cur, cur', r1, r2, r3, r4, r5⟩ := id h
  exact ⟨hd, ⟨cur', r2, by omega⟩, fun i hi => h.cell_in hi⟩
theorem Lies.hasD {W : World} {g o : Nat} {l : List Nat} (h : Lies W g o l) {cap : Nat} (h1 : l.length ≤ cap) (h2 : cap ≤ 9223372036854775807) : HasD W (.slice (some ⟨g, o, none⟩) l.length cap) l :=
  ⟨h.1, _, cap, rfl, h1, h2, fun i hi => ⟨g, o, rfl, h.2.2 i hi⟩⟩
def AddToPost (g o : Nat) (l m : List Nat) (w : World) (e : Ending) (w' : World) : Prop :=
  ∃ l' c, e = .returned (.bool (decide (0 < c))) ∧ l'.length = l.length ∧ Ow.Dg l' ∧ c ≤ 1 ∧ Ow.val l' + c * 4294967296 ^ l.length = Ow.val l + Ow.val m ∧ Upd g o l' w w'
set_option maxRecDepth 100000 in
set_option maxHeartbeats 2000000 in
theorem addTo_any (g o : Nat) (l m : List Nat) (cap : Nat) (v : Value) (w : World) (hl : Lies w g o l) (hcap : l.length ≤ cap) (hcap2 : cap ≤ 9223372036854775807) (hm : HasD w v m) (hv : 0 < m.length → v.ownBlock ≠ some g) (hlen : m.length ≤ l.length) :
    Calls Try.prog 93 #[.slice (some ⟨g, o, none⟩) l.length cap, v] w (AddToPost g o l m w) := by
  obtain ⟨dl, ⟨cur, hrow, hsz⟩, cl⟩ := hl
  have HM := Lib.hid hm
  obtain ⟨dm, b, cap', rfl, v1, v2, cm⟩ := hm
  obtain ⟨len, hlen1⟩ : ∃ len, len = l.length := ⟨_, rfl⟩
  obtain ⟨len', hlen2⟩ : ∃ len', len' = m.length := ⟨_, rfl⟩
  have hv : 0 < m.length → (Value.slice b m.length cap').ownBlock ≠ some g := hv
  have HV := Lib.hid hv
  rw [← hlen1] at hcap hlen ⊢
  rw [← hlen2] at v1 hlen HM ⊢
  have HL := Lib.hid hlen1
  have HL2 := Lib.hid hlen2
  have HDL := Lib.hid dl
  have HDM := Lib.hid dm
  have HCL := Lib.hid cl
  have HCM := Lib.hid cm
  have HROW := Lib.hid hrow
  have HSZ := Lib.hid hsz
  clear hlen1 hlen2 dl dm cl cm hrow hsz hv
  go_enter Try.func93, Try.ntmps93
  go_wp2_with fail
  go_loopw [5, 10] (fun t i wr => ∃ k c pre, t = .int .u32 (c : Nat) ∧ i = .int .i64 (k : Nat) ∧ k ≤ len ∧ Ow.SumI l m k pre c ∧ Upd g o pre w wr) (fun _ i _ => len - (intOf i).toNat)
  case atStart => exact ⟨0, 0, [], rfl, rfl, by omega, Ow.SumI.start l m, Upd.start HROW.out (by have := HSZ.out; omega)⟩
  case round =>
    obtain ⟨k, c, pre, rfl, rfl, hk, hsum, hupd⟩ := hrel
    have hc1 := hsum.2.2.1
    have hpl := hsum.1
    have HS := Lib.hid hsum
    have HU := Lib.hid hupd
    have HPL := Lib.hid hpl
    clear hsum hupd hpl
    by_cases hlt : k < len
    · have c0 := HCL.out k (by rw [← HL.out]; exact hlt)
      have c1 : wr.cell? ⟨g, o + k, none⟩ = some (.int .u32 ((l[k]?.getD 0 : Nat) : Int)) := (HU.out.cell_out (.inr (by rw [HPL.out]; omega))).trans c0
      have f1 : wr.frozen? ⟨g, o + k, none⟩ = false := HU.out.frozen _
      have hx := Ow.dg_at HDL.out k
      have hy := Ow.dg_at HDM.out k
      have HNX := Lib.hid (HS.out.step HDL.out HDM.out)
      have HC0 := Lib.hid c0
      obtain ⟨x, hxe⟩ : ∃ x, x = l[k]?.getD 0 := ⟨_, rfl⟩
      have i5 : (k : Int) < (len : Int) := by omega
      have i6 : (0 : Int) ≤ (k : Int) := by omega
      rw [← hxe] at c1 hx HNX
      clear hxe c0
      by_cases hb : k < len'
      · have hbi : (k : Int) < (len' : Int) := by omega
        obtain ⟨gb, ob, rfl, c2⟩ := HCM.out k (by rw [← HL2.out]; exact hb)
        have c2 : wr.cell? ⟨gb, ob + k, none⟩ = _ := (HU.out.cell_other (p := ⟨gb, ob + k, none⟩) (fun e => HV.out (by rw [← HL2.out]; omega) (by simp only [Value.ownBlock]; exact congrArg some e))).trans c2
        obtain ⟨y, hye⟩ : ∃ y, y = m[k]?.getD 0 := ⟨_, rfl⟩
        rw [← hye] at c2 hy HNX
        clear hye
        go_wp2_with fail
        refine (add32_any x y c _ hx hy hc1).mono ?_
        rintro e w' ⟨rfl, rfl⟩
        go_wp2_with fail
        go_roundw
        case rel => exact ⟨k + 1, _, _, rfl, by go_num, by omega, HNX.out, HU.out.step HPL.out HC0.out⟩
        case measure => simp [intOf]; omega
      · have hy0 : m[k]?.getD 0 = 0 := by rw [List.getElem?_eq_none (by rw [← HL2.out]; omega)]; rfl
        rw [hy0] at HNX
        clear hy hy0
        go_wp2_with fail
        refine (add32_any x 0 c _ hx (by omega) hc1).mono ?_
        rintro e w' ⟨rfl, rfl⟩
        go_wp2_with fail
        go_roundw
        case rel => exact ⟨k + 1, _, _, rfl, by go_num, by omega, HNX.out, HU.out.step HPL.out HC0.out⟩
        case measure => simp [intOf]; omega
    · obtain rfl : k = len := by omega
      have HA := Lib.hid (show pre.length = l.length ∧ Ow.Dg pre ∧ c ≤ 1 ∧ Ow.val pre + c * 4294967296 ^ l.length = Ow.val l + Ow.val m from Ow.SumI.all (by rw [← HL.out]; exact HS.out) (by rw [← HL.out, ← HL2.out]; omega))
      go_wp2_with fail
      go_ret
      exact ⟨pre, c, ret_bool (by simp), HA.out.1, HA.out.2.1, HA.out.2.2.1, HA.out.2.2.2, HU.out⟩
end Go.Proofs.Ytlfiakpmnkhcdaa
namespace Go.Proofs.Ytlfiakpmnkhcdaa
open Go.RowKit
set_option linter.unusedVariables false
theorem infoU32 : (Try.prog.info? 22).map (fun i => (i.zero, i.size, i.bytes)) = some (some (.int .u32 0), 1, 4) := by kernel_rfl
def wcells (l : List Nat) : List Value := l.map (fun x => .int .u32 (x : Nat))
theorem wcells_snoc (l : List Nat) (x : Nat) : wcells (l ++ [x]) = wcells l ++ [.int .u32 (x : Nat)] := by simp [wcells]
theorem wcells_at (l : List Nat) (i : Nat) (hi : i < l.length) : (wcells l)[i]? = some (.int .u32 ((l[i]?.getD 0 : Nat) : Int)) := by simp [wcells, hi]
theorem wcells_len (l : List Nat) : (wcells l).length = l.length := by simp [wcells]
def Own1 (W : World) (base : Nat) (v : Value) (l : List Nat) : Prop := Ow.Dg l ∧ W.ownsRow base 22 1 v l.length (wcells l)
theorem Own1.hasD {W : World} {base : Nat} {v : Value} {l : List Nat} (h : Own1 W base v l) : HasD W v l := by
  refine ⟨h.1, ?_⟩
  rcases h.2.2 with ⟨rfl, h0⟩ | ⟨g, cap, cur, rfl, _, hg, h1, h2, h3, h4⟩
  · exact ⟨none, 0, by rw [h0], by omega, by omega, fun i hi => by omega⟩
  · refine ⟨_, cap, rfl, h1, by unfold maxLen at h2; omega, fun i hi => ⟨g, 0, rfl, ?_⟩⟩
    have hc : W.cell? ⟨g, i, none⟩ = (wcells l)[i]? := by
      rw [← h4, List.getElem?_take_of_lt (by omega)]
      simp [World.cell?, hg]
    rw [Nat.zero_add, hc, wcells_at l i hi]
theorem Own1.lies {W : World} {base : Nat} {v : Value} {l : List Nat} (h : Own1 W base v l) (h0 : 0 < l.length) : ∃ g cap, v = .slice (some ⟨g, 0, none⟩) l.length cap ∧ base ≤ g ∧ g < W.heap.size ∧ l.length ≤ cap ∧ cap ≤ 9223372036854775807 ∧ Lies W g 0 l := by
  have hd := h.hasD
  rcases h.2.2 with ⟨rfl, h1⟩ | ⟨g, cap, cur, rfl, hb, hg, h1, h2, h3, h4⟩
  · omega
  · refine ⟨g, cap, rfl, hb, (Array.getElem?_eq_some_iff.1 hg).1, h1, by unfold maxLen at h2; omega, h.1, ⟨cur, hg, by omega⟩, fun i hi => ?_⟩
    obtain ⟨_, a, cap', e, _, _, hc⟩ := hd
    simp only [Value.slice.injEq] at e
    obtain ⟨rfl, -, -⟩ := e
    obtain ⟨g', o', e, hc⟩ := hc i hi
    simp only [Option.some.injEq, Addr.mk.injEq] at e
    obtain ⟨rfl, rfl, -⟩ := e
    exact hc
def NewPost (l : List Nat) (w : World) (e : Ending) (w' : World) : Prop := ∃ v, e = .returned v ∧ Own1 w' w.heap.size v l ∧ Gr w w'
theorem eql_nil (w : World) (a : Option Addr) (n c : Nat) : (binOp .eql 23 (.slice a n c) (.slice none 0 0)).run Try.prog w = .ok (.bool a.isNone) w :=
  Lib.run_eql_slice_nil w _ _ a n c 0 0 Try.underlying23
set_option maxRecDepth 100000 in
set_option maxHeartbeats 1000000 in
theorem clone_any (l : List Nat) (v : Value) (w : World) (h : HasD w v l) (hl : l.length ≤ 1000000) :
    Calls Try.prog 36 #[v] w (NewPost l w) := by
  obtain ⟨hd, a, cap, rfl, h1, h2, hc⟩ := h
  obtain ⟨i0, hi, hz0, hz1, hz2⟩ := info_parts infoU32
  have q := eql_nil
  obtain ⟨len, hlen⟩ : ∃ len, len = l.length := ⟨_, rfl⟩
  have HD := Lib.hid hd
  cases a with
  | none =>
    obtain rfl : l = [] := by
      cases l with
      | nil => rfl
      | cons d l => obtain ⟨g, o, e, _⟩ := hc 0 (by simp); cases e
    clear hc
    go_enter Try.func36, Try.ntmps36
    go_wp2_with fail
    go_ret
    exact ⟨_, rfl, ⟨HD.out, World.ownsRow_nil _ _ _ _⟩, Gr.refl _⟩
  | some ad =>
    have HC := Lib.hid hc
    rw [← hlen] at h1 hl ⊢
    have HLEN := Lib.hid hlen
    clear hc hlen hd
    have hnews : ∀ (o : Obj) j u, (wcells l)[j]? = some u → (w.alloc o).cell? (ad.add j) = some u := by
      intro o j u hu
      have hj : j < l.length := by have := (List.getElem?_eq_some_iff.1 hu).1; rwa [wcells_len] at this
      obtain ⟨g, p, e, hcell⟩ := HC.out j hj
      cases e
      rw [wcells_at l j hj] at hu
      have e2 : (⟨g, p, none⟩ : Addr).add j = ⟨g, p + j, none⟩ := by unfold Addr.add; split <;> simp_all
      rw [e2]
      have := (Gr.new w o).keeps hcell
      rw [this]; exact hu
    have HN := Lib.hid hnews
    clear hnews
    go_enter Try.func36, Try.ntmps36
    go_wp2_with (at_builtin; refine wpList_append_own _ rfl _ _ 23 rfl w.heap.size 22 i0 (.int .u32 0) 1 4 Try.underlying23 hi hz0 hz1 hz2 rfl (by decide) _ _ _ rfl (World.ownsRow_made w #[] 0 (Nat.le_refl _) (Nat.zero_le _) rfl) ad len cap (wcells l) rfl (by rw [wcells_len, ← HLEN.out, Nat.mul_one]) (HN.out _) (by intro u hu; obtain ⟨x, _, rfl⟩ := List.mem_map.1 hu; rfl) (by unfold maxLen; omega) (by omega) (by simp) ?_; intro v' w1 hown hgrow _; have HO := Lib.hid hown; have HG := Lib.hid (show Gr w w1 from Below.grown (Gr.new w (.cells #[] 22)) hgrow (by simp) (fun k e => by have e' : w.heap.size = k := Option.some.inj e; omega)); clear hown hgrow)
    go_ret
    exact ⟨_, rfl, ⟨HD.out, by have := HO.out; rw [Nat.zero_add, List.nil_append] at this; rw [← HLEN.out]; exact this⟩, HG.out⟩
end Go.Proofs.Ytlfiakpmnkhcdaa
namespace Ow
set_option linter.unusedVariables false
theorem dg_zero {l : List Nat} (h : Dg l) : Dg (l ++ [0]) := dg_snoc h (by omega)
theorem no_carry {l m l' : List Nat} {c n : Nat} (h : val l' + c * 4294967296 ^ (n + 1) = val l + val m) (hl : Dg l) (hm : Dg m) (hn : l.length ≤ n ∧ m.length ≤ n) : val l' = val l + val m := by
  have a := val_lt l hl
  have b := val_lt m hm
  have a2 : 4294967296 ^ l.length ≤ 4294967296 ^ n := Nat.pow_le_pow_right (by omega) hn.1
  have b2 : 4294967296 ^ m.length ≤ 4294967296 ^ n := Nat.pow_le_pow_right (by omega) hn.2
  rw [Nat.pow_succ] at h
  rcases Nat.eq_zero_or_pos c with rfl | hc
  · omega
  · have : 1 * (4294967296 ^ n * 4294967296) ≤ c * (4294967296 ^ n * 4294967296) := Nat.mul_le_mul_right _ hc
    omega
theorem val_zero (l : List Nat) : val (l ++ [0]) = val l := by rw [val_snoc]; omega
end Ow
namespace Go.Proofs.Ytlfiakpmnkhcdaa
open Go.RowKit
set_option linter.unusedVariables false
theorem grown_row {w a b : World} {b' : Obj} {e : TypeId} {size k base : Nat} {v : Value} {xs : List Value} (h : Gr w (a.alloc b')) (ho : a.ownsRow base e size v k xs) (hg : (a.alloc b').grownBy b v.ownBlock) (hb : w.heap.size ≤ base := by omega) : Gr w b := by
  refine Below.grown h hg h.size (fun j ej => ?_)
  rcases ho.2 with ⟨rfl, _⟩ | ⟨g, cap, cur, rfl, h1, _, _⟩
  · simp [Value.ownBlock] at ej
  · obtain rfl : g = j := by simpa [Value.ownBlock] using ej
    omega
theorem HasD.block {W : World} {v : Value} {l : List Nat} (h : HasD W v l) (h0 : 0 < l.length) : ∃ b, v.ownBlock = some b ∧ b < W.heap.size := by
  obtain ⟨_, a, cap, rfl, _, _, hc⟩ := h
  obtain ⟨g, o, rfl, hc0⟩ := hc 0 h0
  exact ⟨g, rfl, World.block_lt_of_cell? W _ hc0⟩
def DigPost (n : Nat) (w : World) (e : Ending) (w' : World) : Prop := ∃ v l, e = .returned v ∧ HasD w' v l ∧ Ow.Nm l ∧ Ow.val l = n ∧ Gr w w'
set_option maxRecDepth 100000 in
set_option maxHeartbeats 600000 in
theorem plus_ord (l m : List Nat) (u v : Value) (w : World) (hu : HasD w u l) (hv : HasD w v m) (hlen : m.length ≤ l.length) (hl : l.length ≤ 100000) (hm : m.length ≤ 100000) :
    Calls Try.prog 80 #[u, v] w (DigPost (Ow.val l + Ow.val m) w) := by
  have HU := Lib.hid hu
  have HV := Lib.hid hv
  obtain ⟨du, a, cap, rfl, u1, u2, -⟩ := hu
  obtain ⟨dv, b, cap', rfl, v1, v2, -⟩ := hv
  obtain ⟨i0, hi, hz0, hz1, hz2⟩ := info_parts infoU32
  obtain ⟨len, hlen1⟩ : ∃ len, len = l.length := ⟨_, rfl⟩
  obtain ⟨len', hlen2⟩ : ∃ len', len' = m.length := ⟨_, rfl⟩
  rw [← hlen1] at u1 hlen hl HU ⊢
  rw [← hlen2] at v1 hlen hm HV ⊢
  have HL := Lib.hid hlen1
  have HL2 := Lib.hid hlen2
  have HDU := Lib.hid du
  have HDV := Lib.hid dv
  clear hlen1 hlen2 du dv
  have t1 : decide ((len : Int) < (len' : Int)) = false := by simp; omega
  have t2 : decide (len < len') = false := by simp; omega
  go_enter Try.func80, Try.ntmps80
  go_wp2_with fail
  refine (clone_any l _ _ HU.out (by rw [← HL.out]; omega)).mono ?_
  rintro e w1 ⟨v1', rfl, hown, g1⟩
  have HOWN := Lib.hid hown
  clear hown
  have hb1 : l.length + 1 ≤ maxLen := by have := HL.out; unfold maxLen; omega
  have hb2 : (l.length + 1) * 4 ≤ 140737488355328 := by have := HL.out; omega
  have hs1 := g1.size
  go_wp2_with (at_builtin; refine wpList_append_own _ rfl _ _ 23 rfl w.heap.size 22 i0 (.int .u32 0) 1 4 Try.underlying23 hi hz0 hz1 hz2 rfl (by decide) _ _ _ rfl (HOWN.out.2.alloc _) ⟨w1.heap.size, 0, none⟩ 1 1 [.int .u32 0] rfl rfl (cell_one_new _ _ _) (by simp [Value.oneCell']) hb1 hb2 (by simp; omega) ?_; intro v' w2 hown' hgrow _; have HO := Lib.hid hown'; have HG := Lib.hid (grown_row (g1.alloc _) HOWN.out.2 hgrow); clear hown' hgrow)
  have HO1 : Own1 w2 w.heap.size v' (l ++ [0]) := ⟨Ow.dg_zero HDU.out, by rw [wcells_snoc, List.length_append]; exact HO.out⟩
  obtain ⟨g, cap2, rfl, hg1, hg2, hg3, hg4, hlies⟩ := HO1.lies (by simp)
  have HLIES := Lib.hid hlies
  have HG3 := Lib.hid hg3
  clear hlies HO HO1 hg3
  refine (addTo_any g 0 (l ++ [0]) m cap2 _ _ HLIES.out HG3.out hg4 (HV.out.later HG.out) (fun h0 e => ?_) (by have := HL.out; have := HL2.out; simp; omega)).mono ?_
  · obtain ⟨b2, e2, hb3⟩ := HV.out.block h0
    rw [e2] at e
    have := Option.some.inj e
    omega
  rintro e w3 ⟨l', c, rfl, p1, p2, p3, p4, p5⟩
  have hG3 : Gr w w3 := p5.gr HG.out hg1
  have hd := (Lies.upd p5 p2).hasD (cap := cap2) (by rw [p1]; exact HG3.out) hg4
  rw [p1, List.length_append, List.length_singleton] at hd
  have hval : Ow.val l' = Ow.val l + Ow.val m := Ow.no_carry (c := c) (n := l.length) (by have h := p4; rw [List.length_append, List.length_singleton, Ow.val_zero] at h; omega) HDU.out HDV.out (by have := HL.out; have := HL2.out; omega)
  have HD := Lib.hid hd
  have HVAL := Lib.hid hval
  have HP2 := Lib.hid p2
  clear hd hval p1 p2 p3 p4 p5
  go_wp2_with fail
  refine (trim_any l' _ _ HD.out).mono ?_
  rintro e w4 ⟨⟨v3, rfl, hcut⟩, rfl⟩
  have HCUT := Lib.hid hcut
  clear hcut
  go_wp2_with fail
  go_ret
  exact ⟨_, Ow.tr l', rfl, HCUT.out _ HD.out, Ow.nm_tr HP2.out, by rw [Ow.val_tr]; exact HVAL.out, hG3⟩
set_option maxRecDepth 100000 in
set_option maxHeartbeats 600000 in
theorem plus_swap (l m : List Nat) (u v : Value) (w : World) (hu : HasD w u l) (hv : HasD w v m) (hlen : l.length < m.length) (hl : l.length ≤ 100000) (hm : m.length ≤ 100000) :
    Calls Try.prog 80 #[u, v] w (DigPost (Ow.val l + Ow.val m) w) := by
  have HU := Lib.hid hu
  have HV := Lib.hid hv
  obtain ⟨du, a, cap, rfl, u1, u2, -⟩ := hu
  obtain ⟨dv, b, cap', rfl, v1, v2, -⟩ := hv
  obtain ⟨i0, hi, hz0, hz1, hz2⟩ := info_parts infoU32
  obtain ⟨len, hlen1⟩ : ∃ len, len = l.length := ⟨_, rfl⟩
  obtain ⟨len', hlen2⟩ : ∃ len', len' = m.length := ⟨_, rfl⟩
  rw [← hlen1] at u1 hlen hl HU ⊢
  rw [← hlen2] at v1 hlen hm HV ⊢
  have HL := Lib.hid hlen1
  have HL2 := Lib.hid hlen2
  have HDU := Lib.hid du
  have HDV := Lib.hid dv
  clear hlen1 hlen2 du dv
  have t1 : decide ((len : Int) < (len' : Int)) = true := by simp; omega
  have t2 : decide (len < len') = true := by simp; omega
  go_enter Try.func80, Try.ntmps80
  go_wp2_with fail
  refine (clone_any m _ _ HV.out (by rw [← HL2.out]; omega)).mono ?_
  rintro e w1 ⟨v1', rfl, hown, g1⟩
  have HOWN := Lib.hid hown
  clear hown
  have hb1 : m.length + 1 ≤ maxLen := by have := HL2.out; unfold maxLen; omega
  have hb2 : (m.length + 1) * 4 ≤ 140737488355328 := by have := HL2.out; omega
  have hs1 := g1.size
  go_wp2_with (at_builtin; refine wpList_append_own _ rfl _ _ 23 rfl w.heap.size 22 i0 (.int .u32 0) 1 4 Try.underlying23 hi hz0 hz1 hz2 rfl (by decide) _ _ _ rfl (HOWN.out.2.alloc _) ⟨w1.heap.size, 0, none⟩ 1 1 [.int .u32 0] rfl rfl (cell_one_new _ _ _) (by simp [Value.oneCell']) hb1 hb2 (by simp; omega) ?_; intro v' w2 hown' hgrow _; have HO := Lib.hid hown'; have HG := Lib.hid (grown_row (g1.alloc _) HOWN.out.2 hgrow); clear hown' hgrow)
  have HO1 : Own1 w2 w.heap.size v' (m ++ [0]) := ⟨Ow.dg_zero HDV.out, by rw [wcells_snoc, List.length_append]; exact HO.out⟩
  obtain ⟨g, cap2, rfl, hg1, hg2, hg3, hg4, hlies⟩ := HO1.lies (by simp)
  have HLIES := Lib.hid hlies
  have HG3 := Lib.hid hg3
  clear hlies HO HO1 hg3
  refine (addTo_any g 0 (m ++ [0]) l cap2 _ _ HLIES.out HG3.out hg4 (HU.out.later HG.out) (fun h0 e => ?_) (by have := HL.out; have := HL2.out; simp; omega)).mono ?_
  · obtain ⟨b2, e2, hb3⟩ := HU.out.block h0
    rw [e2] at e
    have := Option.some.inj e
    omega
  rintro e w3 ⟨l', c, rfl, p1, p2, p3, p4, p5⟩
  have hG3 : Gr w w3 := p5.gr HG.out hg1
  have hd := (Lies.upd p5 p2).hasD (cap := cap2) (by rw [p1]; exact HG3.out) hg4
  rw [p1, List.length_append, List.length_singleton] at hd
  have hval : Ow.val l' = Ow.val l + Ow.val m := Ow.no_carry (c := c) (n := m.length) (by have h := p4; rw [List.length_append, List.length_singleton, Ow.val_zero] at h; omega) HDU.out HDV.out (by have := HL.out; have := HL2.out; omega)
  have HD := Lib.hid hd
  have HVAL := Lib.hid hval
  have HP2 := Lib.hid p2
  clear hd hval p1 p2 p3 p4 p5
  go_wp2_with fail
  refine (trim_any l' _ _ HD.out).mono ?_
  rintro e w4 ⟨⟨v3, rfl, hcut⟩, rfl⟩
  have HCUT := Lib.hid hcut
  clear hcut
  go_wp2_with fail
  go_ret
  exact ⟨_, Ow.tr l', rfl, HCUT.out _ HD.out, Ow.nm_tr HP2.out, by rw [Ow.val_tr]; exact HVAL.out, hG3⟩
theorem plus_any (l m : List Nat) (u v : Value) (w : World) (hu : HasD w u l) (hv : HasD w v m) (hl : l.length ≤ 100000) (hm : m.length ≤ 100000) :
    Calls Try.prog 80 #[u, v] w (DigPost (Ow.val l + Ow.val m) w) := by
  by_cases h : m.length ≤ l.length
  · exact plus_ord l m u v w hu hv h hl hm
  · exact plus_swap l m u v w hu hv (by omega) hl hm
end Go.Proofs.Ytlfiakpmnkhcdaa
namespace Ow
set_option linter.unusedVariables false
def brw (x y : Nat) : Nat := if x < y then 1 else 0
theorem brw_le (x y : Nat) : brw x y ≤ 1 := by unfold brw; split <;> omega
theorem top_bit (n : Nat) : n.testBit 31 = decide (n / 2147483648 % 2 = 1) := Nat.testBit_eq_decide_div_mod_eq
theorem top_val (n : Nat) (h : n < 4294967296) : n / 2147483648 = if n.testBit 31 then 1 else 0 := by
  rw [top_bit]
  by_cases h1 : n / 2147483648 % 2 = 1
  · rw [if_pos (by simpa using h1)]; omega
  · rw [if_neg (by simpa using h1)]; omega
theorem borrow_bit (x y d : Nat) (hx : x < 4294967296) (hy : y < 4294967296) (hd : d = (x + 4294967296 - y) % 4294967296) :
    (((4294967295 ^^^ x) &&& y) ||| ((4294967295 ^^^ (x ^^^ y)) &&& d)) / 2147483648 = brw x y := by
  have hd1 : d < 4294967296 := by omega
  have h1 : ((4294967295 ^^^ x) &&& y) ||| ((4294967295 ^^^ (x ^^^ y)) &&& d) < 2 ^ 32 :=
    Nat.or_lt_two_pow (Nat.and_lt_two_pow _ (by omega)) (Nat.and_lt_two_pow _ (by omega))
  rw [top_val _ (by omega), Nat.testBit_or, Nat.testBit_and, Nat.testBit_and, Nat.testBit_xor, Nat.testBit_xor, Nat.testBit_xor, top_bit x, top_bit y, top_bit d, top_bit 4294967295]
  unfold brw
  have e0 : decide (4294967295 / 2147483648 % 2 = 1) = true := by decide
  rw [e0]
  have vx : x / 2147483648 % 2 = 0 ∨ x / 2147483648 % 2 = 1 := by omega
  have vy : y / 2147483648 % 2 = 0 ∨ y / 2147483648 % 2 = 1 := by omega
  have vd : d / 2147483648 % 2 = 0 ∨ d / 2147483648 % 2 = 1 := by omega
  rcases vx with vx | vx <;> rcases vy with vy | vy <;> rcases vd with vd | vd <;> rw [vx, vy, vd] <;> simp <;> omega
end Ow
namespace Go.Proofs.Ytlfiakpmnkhcdaa
open Go.RowKit
set_option linter.unusedVariables false
theorem wraps_u32 (n : Int) (h0 : 0 ≤ n) (h1 : n < 2 ^ 32) : IntKind.u32.wrap n = n := by
  simp only [IntKind.wrap, IntKind.bits, IntKind.signed]
  simp
  omega
theorem bits32 (a b : Nat) (ha : a < 4294967296) (hb : b < 4294967296) : bits .and .u32 a b = ((a &&& b : Nat) : Int) ∧ bits .or .u32 a b = ((a ||| b : Nat) : Int) :=
  bits_nat .u32 32 (by decide) wraps_u32 a b (by omega) (by omega)
theorem xor32 (a b : Nat) (ha : a < 4294967296) (hb : b < 4294967296) : bits .xor .u32 a b = ((a ^^^ b : Nat) : Int) := by
  have h1 : (BitVec.ofInt 32 (a : Int)).toNat = a := by
    rw [BitVec.ofInt_natCast, BitVec.toNat_ofNat]; exact Nat.mod_eq_of_lt (by omega)
  have h2 : (BitVec.ofInt 32 (b : Int)).toNat = b := by
    rw [BitVec.ofInt_natCast, BitVec.toNat_ofNat]; exact Nat.mod_eq_of_lt (by omega)
  have h3 : a ^^^ b < 2 ^ 32 := Nat.xor_lt_two_pow (by omega) (by omega)
  show IntKind.u32.wrap ((BitVec.ofInt 32 (a : Int) ^^^ BitVec.ofInt 32 (b : Int)).toNat : Int) = _
  rw [BitVec.toNat_xor, h1, h2]
  exact wraps_u32 _ (by omega) (by omega)
theorem borrow_int (x y d : Nat) (hx : x < 4294967296) (hy : y < 4294967296) (hd : d = (x + 4294967296 - y) % 4294967296) :
    bits .or .u32 (bits .and .u32 (bits .xor .u32 4294967295 (x : Int)) (y : Int)) (bits .and .u32 (bits .xor .u32 4294967295 (bits .xor .u32 (x : Int) (y : Int))) (d : Int)) / 2147483648 = ((Ow.brw x y : Nat) : Int) := by
  have hd1 : d < 4294967296 := by omega
  have a1 : x ^^^ y < 2 ^ 32 := Nat.xor_lt_two_pow (by omega) (by omega)
  have a2 : 4294967295 ^^^ x < 2 ^ 32 := Nat.xor_lt_two_pow (by omega) (by omega)
  have a3 : 4294967295 ^^^ (x ^^^ y) < 2 ^ 32 := Nat.xor_lt_two_pow (by omega) a1
  have a4 : (4294967295 ^^^ x) &&& y < 2 ^ 32 := Nat.and_lt_two_pow _ (by omega)
  have a5 : (4294967295 ^^^ (x ^^^ y)) &&& d < 2 ^ 32 := Nat.and_lt_two_pow _ (by omega)
  rw [xor32 x y hx hy, show (4294967295 : Int) = ((4294967295 : Nat) : Int) from rfl, xor32 4294967295 x (by omega) hx, xor32 4294967295 (x ^^^ y) (by omega) (by omega), (bits32 _ _ (by omega) hy).1, (bits32 _ _ (by omega) hd1).1, (bits32 _ _ (by omega) (by omega)).2,
    show (2147483648 : Int) = ((2147483648 : Nat) : Int) from rfl, ← Int.natCast_ediv, Ow.borrow_bit x y d hx hy hd]
def SubPost (x y : Nat) (w : World) (e : Ending) (w' : World) : Prop := e = .returned (.tuple #[.int .u32 (((x + 4294967296 - y) % 4294967296 : Nat) : Int), .int .u32 ((Ow.brw x y : Nat) : Int)]) ∧ w = w'
set_option maxRecDepth 100000 in
set_option maxHeartbeats 1000000 in
theorem sub32_any (x y : Nat) (w : World) (hx : x < 4294967296) (hy : y < 4294967296) :
    Calls Try.prog 99 #[.int .u32 x, .int .u32 y, .int .u32 0] w (SubPost x y w) := by
  have hs : IntKind.u32.signed = false := rfl
  have hm : IntKind.u32.max = 4294967295 := rfl
  have hd : ((x : Int) - (y : Int)) % 4294967296 = (((x + 4294967296 - y) % 4294967296 : Nat) : Int) := by omega
  have HB := Lib.hid (borrow_int x y _ hx hy rfl)
  have HD := Lib.hid hd
  clear hd
  go_enter Try.func99, Try.ntmps99
  go_wp2_with fail
  go_ret2
  refine ⟨?_, rfl⟩
  have hb := HB.out
  rw [← HD.out] at hb ⊢
  rw [← hb]
  rfl
end Go.Proofs.Ytlfiakpmnkhcdaa
namespace Ow
set_option linter.unusedVariables false
def DifI (l m : List Nat) (F k : Nat) (pre : List Nat) (T : Nat) : Prop := pre.length = k ∧ Dg pre ∧ T ≤ 4294967296 ∧ val (l.take k) + T * 4294967296 ^ k = val pre + F * val (m.take k)
theorem DifI.start (l m : List Nat) (F : Nat) : DifI l m F 0 [] 0 := ⟨rfl, dg_nil, by omega, by simp [val]⟩
theorem mul_digit {y F : Nat} (hy : y < 4294967296) (hF : F < 4294967296) : y * F ≤ 18446744065119617025 := Nat.mul_le_mul (show y ≤ 4294967295 by omega) (show F ≤ 4294967295 by omega)
theorem DifI.step {l m : List Nat} {F k T : Nat} {pre : List Nat} (h : DifI l m F k pre T) (hm : Dg m) (hl : Dg l) (hF : F < 4294967296) {s : Nat} (hs : s = T + m[k]?.getD 0 * F) :
    DifI l m F (k + 1) (pre ++ [(l[k]?.getD 0 + 4294967296 - s % 4294967296) % 4294967296]) (s / 4294967296 + brw (l[k]?.getD 0) (s % 4294967296)) := by
  obtain ⟨h1, h2, h3, h4⟩ := h
  have a := dg_at hl k
  have b := mul_digit (dg_at hm k) hF
  have c := brw_le (l[k]?.getD 0) (s % 4294967296)
  refine ⟨by simp [h1], dg_snoc h2 (Nat.mod_lt _ (by omega)), by omega, ?_⟩
  rw [val_snoc, h1, val_take_succ, val_take_succ]
  generalize l[k]?.getD 0 = x at *
  generalize m[k]?.getD 0 = y at *
  have hd : (x + 4294967296 - s % 4294967296) % 4294967296 + s % 4294967296 = x + brw x (s % 4294967296) * 4294967296 := by
    unfold brw; split <;> omega
  have he := Nat.div_add_mod s 4294967296
  generalize (x + 4294967296 - s % 4294967296) % 4294967296 = d at *
  generalize brw x (s % 4294967296) = w at *
  generalize s % 4294967296 = lo at *
  generalize s / 4294967296 = hi at *
  have key : d + s = x + (hi + w) * 4294967296 := by omega
  have k2 : 4294967296 ^ k * d + 4294967296 ^ k * s = 4294967296 ^ k * x + (hi + w) * (4294967296 ^ k * 4294967296) := by
    rw [← Nat.mul_add, key, Nat.mul_add, Nat.mul_left_comm (4294967296 ^ k)]
  rw [hs, Nat.mul_add, Nat.mul_comm (4294967296 ^ k) T] at k2
  rw [Nat.pow_succ, Nat.mul_add F, show F * (4294967296 ^ k * y) = 4294967296 ^ k * (y * F) by rw [Nat.mul_left_comm, Nat.mul_comm F]]
  omega
theorem DifI.all {l m : List Nat} {F T : Nat} {pre : List Nat} (h : DifI l m F l.length pre T) (hm : m.length ≤ l.length) : pre.length = l.length ∧ Dg pre ∧ T ≤ 4294967296 ∧ val l + T * 4294967296 ^ l.length = val pre + F * val m := by
  obtain ⟨h1, h2, h3, h4⟩ := h
  rw [List.take_length, List.take_of_length_le hm] at h4
  exact ⟨h1, h2, h3, h4⟩
theorem no_borrow {l m l' : List Nat} {T : Nat} (h : val l + T * 4294967296 ^ l.length = val l' + 1 * val m) (hl' : Dg l') (hn : l'.length = l.length) (hle : val m ≤ val l) : val l' = val l - val m := by
  have a := val_lt l' hl'
  rw [hn] at a
  rcases Nat.eq_zero_or_pos T with rfl | hT
  · omega
  · have : 1 * 4294967296 ^ l.length ≤ T * 4294967296 ^ l.length := Nat.mul_le_mul_right _ hT
    omega
end Ow
namespace Go.Proofs.Ytlfiakpmnkhcdaa
open Go.RowKit
set_option linter.unusedVariables false
def TakePost (g o : Nat) (l m : List Nat) (F : Nat) (w : World) (e : Ending) (w' : World) : Prop :=
  ∃ l' T, e = .returned (.bool (decide (0 < T))) ∧ l'.length = l.length ∧ Ow.Dg l' ∧ T ≤ 4294967296 ∧ Ow.val l + T * 4294967296 ^ l.length = Ow.val l' + F * Ow.val m ∧ Upd g o l' w w'
set_option maxRecDepth 100000 in
set_option maxHeartbeats 1000000 in
theorem takeFrom_any (g o : Nat) (l m : List Nat) (cap : Nat) (v : Value) (F : Nat) (w : World) (hl : Lies w g o l) (hcap : l.length ≤ cap) (hcap2 : cap ≤ 9223372036854775807) (hm : HasD w v m) (hv : 0 < m.length → v.ownBlock ≠ some g) (hlen : m.length ≤ l.length) (hF : F < 4294967296) :
    Calls Try.prog 94 #[.slice (some ⟨g, o, none⟩) l.length cap, v, .int .u32 F] w (TakePost g o l m F w) := by
  obtain ⟨dl, ⟨cur, hrow, hsz⟩, cl⟩ := hl
  obtain ⟨dm, b, cap', rfl, v1, v2, cm⟩ := hm
  obtain ⟨len, hlen1⟩ : ∃ len, len = l.length := ⟨_, rfl⟩
  obtain ⟨len', hlen2⟩ : ∃ len', len' = m.length := ⟨_, rfl⟩
  have HV := Lib.hid (show 0 < m.length → (Value.slice b m.length cap').ownBlock ≠ some g from hv)
  rw [← hlen1] at hcap hlen ⊢
  rw [← hlen2] at v1 hlen ⊢
  have HL := Lib.hid hlen1
  have HL2 := Lib.hid hlen2
  have HDL := Lib.hid dl
  have HDM := Lib.hid dm
  have HCL := Lib.hid cl
  have HCM := Lib.hid cm
  have HROW := Lib.hid hrow
  have HSZ := Lib.hid hsz
  clear hlen1 hlen2 dl dm cl cm hrow hsz hv
  go_enter Try.func94, Try.ntmps94
  go_wp2_with fail
  go_loopw [7, 13] (fun t i wr => ∃ k T pre, t = .int .u64 (T : Nat) ∧ i = .int .i64 (k : Nat) ∧ k ≤ len ∧ Ow.DifI l m F k pre T ∧ Upd g o pre w wr) (fun _ i _ => len - (intOf i).toNat)
  case atStart => exact ⟨0, 0, [], rfl, rfl, by omega, Ow.DifI.start l m F, Upd.start HROW.out (by have := HSZ.out; omega)⟩
  case round =>
    obtain ⟨k, T, pre, rfl, rfl, hk, hdif, hupd⟩ := hrel
    have hT := hdif.2.2.1
    have hpl := hdif.1
    have HS := Lib.hid hdif
    have HU := Lib.hid hupd
    have HPL := Lib.hid hpl
    clear hdif hupd hpl
    by_cases hlt : k < len
    · have c0 := HCL.out k (by rw [← HL.out]; exact hlt)
      have c1 : wr.cell? ⟨g, o + k, none⟩ = some (.int .u32 ((l[k]?.getD 0 : Nat) : Int)) := (HU.out.cell_out (.inr (by rw [HPL.out]; omega))).trans c0
      have f1 : wr.frozen? ⟨g, o + k, none⟩ = false := HU.out.frozen _
      have hx := Ow.dg_at HDL.out k
      have hy := Ow.dg_at HDM.out k
      obtain ⟨s, hse⟩ : ∃ s, s = T + m[k]?.getD 0 * F := ⟨_, rfl⟩
      have hmul := Ow.mul_digit hy hF
      have HNX := Lib.hid (HS.out.step HDM.out HDL.out hF hse)
      have HC0 := Lib.hid c0
      have hsb : s ≤ 18446744069414584321 := by omega
      have hbw := Ow.brw_le (l[k]?.getD 0) (s % 4294967296)
      obtain ⟨x, hxe⟩ : ∃ x, x = l[k]?.getD 0 := ⟨_, rfl⟩
      have i5 : (k : Int) < (len : Int) := by omega
      have i6 : (0 : Int) ≤ (k : Int) := by omega
      rw [← hxe] at c1 hx HNX hbw
      clear hxe c0
      have e1 : (s : Int) % 4294967296 = ((s % 4294967296 : Nat) : Int) := by omega
      have E1 := Lib.hid e1
      have e3 : ((s / 4294967296 : Nat) : Int) = (s : Int) / 4294967296 := by omega
      have E3 := Lib.hid e3
      clear e1 e3
      by_cases hb : k < len'
      · have hbi : (k : Int) < (len' : Int) := by omega
        obtain ⟨gb, ob, rfl, c2⟩ := HCM.out k (by rw [← HL2.out]; exact hb)
        have c2 : wr.cell? ⟨gb, ob + k, none⟩ = _ := (HU.out.cell_other (p := ⟨gb, ob + k, none⟩) (fun e => HV.out (by rw [← HL2.out]; omega) (by simp only [Value.ownBlock]; exact congrArg some e))).trans c2
        obtain ⟨y, hye⟩ : ∃ y, y = m[k]?.getD 0 := ⟨_, rfl⟩
        rw [← hye] at c2 hy hse hmul
        have hsi : (T : Int) + (y : Int) * (F : Int) = (s : Int) := by rw [hse, Int.natCast_add, Int.natCast_mul]
        have p0 : (0 : Int) ≤ (y : Int) * (F : Int) := by rw [← Int.natCast_mul]; omega
        have p1 : (y : Int) * (F : Int) ≤ 18446744065119617025 := by rw [← Int.natCast_mul]; omega
        clear hye hse hmul
        go_wp2_with fail
        rw [E1.out]
        refine (sub32_any x (s % 4294967296) _ hx (Nat.mod_lt _ (by omega))).mono ?_
        rintro e w' ⟨rfl, rfl⟩
        clear hsi p0 p1
        go_wp2_with fail
        go_roundw
        case rel => exact ⟨k + 1, _, _, by rw [← E3.out]; rfl, by go_num, by omega, HNX.out, HU.out.step HPL.out HC0.out⟩
        case measure => simp [intOf]; omega
      · have hy0 : m[k]?.getD 0 = 0 := by rw [List.getElem?_eq_none (by rw [← HL2.out]; omega)]; rfl
        rw [hy0, Nat.zero_mul, Nat.add_zero] at hse
        subst hse
        clear hy hy0 hmul
        go_wp2_with fail
        rw [E1.out]
        refine (sub32_any x (s % 4294967296) _ hx (Nat.mod_lt _ (by omega))).mono ?_
        rintro e w' ⟨rfl, rfl⟩
        go_wp2_with fail
        go_roundw
        case rel => exact ⟨k + 1, _, _, by rw [← E3.out]; rfl, by go_num, by omega, HNX.out, HU.out.step HPL.out HC0.out⟩
        case measure => simp [intOf]; omega
    · obtain rfl : k = len := by omega
      have HA := Lib.hid (show pre.length = l.length ∧ Ow.Dg pre ∧ T ≤ 4294967296 ∧ Ow.val l + T * 4294967296 ^ l.length = Ow.val pre + F * Ow.val m from Ow.DifI.all (by rw [← HL.out]; exact HS.out) (by rw [← HL.out, ← HL2.out]; omega))
      go_wp2_with fail
      go_ret
      exact ⟨pre, T, ret_bool (by simp), HA.out.1, HA.out.2.1, HA.out.2.2.1, HA.out.2.2.2, HU.out⟩
theorem takeFrom_nil (a : Option Addr) (cap : Nat) (v : Value) (F : Int) (w : World) :
    Calls Try.prog 94 #[.slice a 0 cap, v, .int .u32 F] w fun e w' => e = .returned (.bool false) ∧ w = w' := by
  go_enter Try.func94, Try.ntmps94
  go_wp2_with fail
  go_loop [7, 13] (fun t i => t = .int .u64 0 ∧ i = .int .i64 0) (fun _ _ => 0)
  case atStart => exact ⟨rfl, rfl⟩
  case round =>
    obtain ⟨rfl, rfl⟩ := hrel
    go_wp2_with fail
    go_ret
    exact ⟨rfl, rfl⟩
set_option maxRecDepth 100000 in
set_option maxHeartbeats 600000 in
theorem minus_any (l m : List Nat) (u v : Value) (w : World) (hu : HasD w u l) (hv : HasD w v m) (hl : l.length ≤ 100000) (hlen : m.length ≤ l.length) (hle : Ow.val m ≤ Ow.val l) :
    Calls Try.prog 81 #[u, v] w (DigPost (Ow.val l - Ow.val m) w) := by
  have HU := Lib.hid hu
  have HV := Lib.hid hv
  have HLE := Lib.hid hle
  clear hu hv hle
  go_enter Try.func81, Try.ntmps81
  go_wp2_with fail
  refine (clone_any l _ _ HU.out (by omega)).mono ?_
  rintro e w1 ⟨v1', rfl, hown, g1⟩
  rcases Nat.eq_zero_or_pos l.length with h0 | h0
  · obtain rfl : l = [] := List.length_eq_zero_iff.1 h0
    obtain rfl : m = [] := List.length_eq_zero_iff.1 (by omega)
    have hd := hown.hasD
    obtain ⟨-, a, cap, rfl, -, -, -⟩ := id hd
    have HD := Lib.hid hd
    clear hd hown
    go_wp2_with fail
    refine (takeFrom_nil a cap _ _ _).mono ?_
    rintro e w3 ⟨rfl, rfl⟩
    go_wp2_with fail
    refine (trim_any [] _ _ HD.out).mono ?_
    rintro e w4 ⟨⟨v3, rfl, hcut⟩, rfl⟩
    have HCUT := Lib.hid hcut
    clear hcut
    go_wp2_with fail
    go_ret
    exact ⟨_, _, rfl, HCUT.out _ HD.out, Ow.nm_tr Ow.dg_nil, rfl, g1⟩
  · obtain ⟨g, cap2, rfl, hg1, hg2, hg3, hg4, hlies⟩ := hown.lies h0
    have HLIES := Lib.hid hlies
    clear hlies hown
    go_wp2_with fail
    refine (takeFrom_any g 0 l m cap2 _ 1 _ HLIES.out hg3 hg4 (HV.out.later g1) (fun h0 e => ?_) hlen (by omega)).mono ?_
    · obtain ⟨b2, e2, hb3⟩ := HV.out.block h0
      rw [e2] at e
      have := Option.some.inj e
      omega
    rintro e w3 ⟨l', c, rfl, p1, p2, p3, p4, p5⟩
    have hG3 : Gr w w3 := p5.gr g1 hg1
    have hd := (Lies.upd p5 p2).hasD (cap := cap2) (by rw [p1]; exact hg3) hg4
    rw [p1] at hd
    have hval := Ow.no_borrow p4 p2 p1 HLE.out
    have HD := Lib.hid hd
    have HVAL := Lib.hid hval
    have HP2 := Lib.hid p2
    clear hd hval p1 p2 p3 p4 p5
    go_wp2_with fail
    refine (trim_any l' _ _ HD.out).mono ?_
    rintro e w4 ⟨⟨v3, rfl, hcut⟩, rfl⟩
    have HCUT := Lib.hid hcut
    clear hcut
    go_wp2_with fail
    go_ret
    exact ⟨_, Ow.tr l', rfl, HCUT.out _ HD.out, Ow.nm_tr HP2.out, by rw [Ow.val_tr]; exact HVAL.out, hG3⟩
end Go.Proofs.Ytlfiakpmnkhcdaa
