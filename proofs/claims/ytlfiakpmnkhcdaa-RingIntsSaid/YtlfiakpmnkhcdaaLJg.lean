import Derived.Test.YtlfiakpmnkhcdaaLJf
import Derived.RangeFuncNested
import Derived.RangeFuncBound
import Derived.RangeFuncCalls
import Derived.RangeFuncLeaves
import Derived.RangeFuncBox
import Derived.Shelf.Abstract
import Derived.Shelf.RegionOpen
import Derived.OwnWalkIn
import Derived.TacticsInMore
import Derived.LoopNIn
import Derived.LoopIn
namespace Oj
open Op
set_option linter.unusedVariables false
def mods (ch : List Int) (S : Int) (lv : Nat) (sp : Bool) : List Int := ch.take lv ++ (if sp then [S] else [])
theorem mods_len {ch : List Int} {S : Int} {lv : Nat} {sp : Bool} (h : lv ≤ ch.length) : (mods ch S lv sp).length = lv + (if sp then 1 else 0) := by
  unfold mods
  rw [List.length_append, List.length_take]
  cases sp <;> simp <;> omega
theorem mods_lo {ch : List Int} {S : Int} {lv : Nat} {sp : Bool} {i : Nat} (h : lv ≤ ch.length) (hi : i < lv) : cf (mods ch S lv sp) i = cf ch i := by
  unfold mods
  rw [cf_append, if_pos (by rw [List.length_take]; omega), cf_take, if_pos hi]
theorem mods_hi {ch : List Int} {S : Int} {lv : Nat} (h : lv ≤ ch.length) : cf (mods ch S lv true) lv = S := by
  unfold mods
  rw [cf_append, if_neg (by rw [List.length_take]; omega), List.length_take, show lv - min lv ch.length = 0 by omega]; rfl
abbrev Pl (n : Nat) := { x : Nat // x < n }
def idx {n : Nat} (l : List (Pl n)) : List Nat := l.map (·.1)
end Oj
namespace Go.Proofs.Ytlfiakpmnkhcdaa.Mo
open Go.RowKit Go.Shelf
set_option linter.unusedVariables false
attribute [local go_sem] Oper.semAt_some
theorem HasP.kept {W W' : World} {row : Option Nat} {u : Value} {l : List Int} (h : HasP W u l) (hg : W.grownBy W' row) (hr : ∀ r, row = some r → ∃ o : Obj, W.heap[r]? = some o ∧ o.isCells = false) : HasP W' u l := by
  obtain ⟨hd, a, cap, rfl, h1, h2, h3⟩ := h
  refine ⟨hd, a, cap, rfl, h1, h2, fun i hi => ?_⟩
  obtain ⟨g, o, e, hc⟩ := h3 i hi
  exact ⟨g, o, e, cell_kept hc hg hr⟩
structure MI (B : Nat) (xC : Option Addr) (nC cC : Nat) (S : Int) (lv : Nat) (sp : Bool) (ch : List Int) (W : World) : Prop where
  c3 : W.cell? ⟨B, 3, none⟩ = some (.slice xC nC cC)
  c4 : W.cell? ⟨B, 4, none⟩ = some (.int .u32 S)
  cl : W.cell? ⟨B + 1, 0, none⟩ = some (.int .i64 lv)
  cs : W.cell? ⟨B + 2, 0, none⟩ = some (.bool sp)
  hp : HasP W (.slice xC nC cC) ch
theorem MI.gr {B : Nat} {xC : Option Addr} {nC cC : Nat} {S : Int} {lv : Nat} {sp : Bool} {ch : List Int} {W W' : World} (h : MI B xC nC cC S lv sp ch W) (hg : Gr W W') : MI B xC nC cC S lv sp ch W' :=
  ⟨hg.keeps h.c3, hg.keeps h.c4, hg.keeps h.cl, hg.keeps h.cs, h.hp.later hg⟩
theorem MI.kept {B : Nat} {xC : Option Addr} {nC cC : Nat} {S : Int} {lv : Nat} {sp : Bool} {ch : List Int} {W W' : World} {row : Option Nat} (h : MI B xC nC cC S lv sp ch W) (hg : W.grownBy W' row) (hr : ∀ r, row = some r → ∃ o : Obj, W.heap[r]? = some o ∧ o.isCells = false) : MI B xC nC cC S lv sp ch W' :=
  ⟨cell_kept h.c3 hg hr, cell_kept h.c4 hg hr, cell_kept h.cl hg hr, cell_kept h.cs hg hr, h.hp.kept hg hr⟩
theorem MI.row {B : Nat} {xC : Option Addr} {nC cC : Nat} {S : Int} {lv : Nat} {sp : Bool} {ch : List Int} {W W' : World} {row : Option Nat} (h : MI B xC nC cC S lv sp ch W) (hg : W.grownBy W' row) (hr : ∀ r, row = some r → (r < B ∨ B + 3 ≤ r) ∧ ∀ p, (Value.slice xC nC cC).ownBlock = some p → p ≠ r) : MI B xC nC cC S lv sp ch W' := by
  have key : ∀ (b o : Nat) (v : Value), (b = B ∨ b = B + 1 ∨ b = B + 2) → W.cell? ⟨b, o, none⟩ = some v → W'.cell? ⟨b, o, none⟩ = some v := fun b o v hb hc => hg.cell hc (fun e => by
    have := (hr b e.symm).1
    omega)
  exact ⟨key _ _ _ (.inl rfl) h.c3, key _ _ _ (.inl rfl) h.c4, key _ _ _ (.inr (.inl rfl)) h.cl, key _ _ _ (.inr (.inr rfl)) h.cs, h.hp.grown hg fun _ p hp e => (hr p e.symm).2 p hp rfl⟩
set_option maxRecDepth 100000 in
theorem moduli_any (N p1 p2 : Int) (xC : Option Addr) (nC cC : Nat) (S p5 p6 : Int) (lv : Int) (sp : Bool) (w : World) :
    Calls Try.prog 21 #[.agg #[.int .i64 N, .int .u32 p1, .int .i64 p2, .slice xC nC cC, .int .u32 S, .int .i64 p5, .int .u32 p6], .int .i64 lv, .bool sp] w fun e w' => e = .returned (.func (.func 38) #[] #[.pointer (some ⟨w.heap.size, 0, none⟩), .pointer (some ⟨w.heap.size + 1, 0, none⟩), .pointer (some ⟨w.heap.size + 2, 0, none⟩)]) ∧
      ((w.alloc (.cells #[.int .i64 N, .int .u32 p1, .int .i64 p2, .slice xC nC cC, .int .u32 S, .int .i64 p5, .int .u32 p6] 25)).alloc (.cells #[.int .i64 lv] 3)).alloc (.cells #[.bool sp] 4) = w' := by
  go_enter Try.func21, Try.ntmps21
  go_wp2_with fail
  go_ret
  exact ⟨rfl, rfl⟩
theorem MI.new (N p1 p2 : Int) (xC : Option Addr) (nC cC : Nat) (S p5 p6 : Int) (lv : Nat) (sp : Bool) (ch : List Int) (w : World) (hc : HasP w (.slice xC nC cC) ch) :
    MI w.heap.size xC nC cC S lv sp ch (((w.alloc (.cells #[.int .i64 N, .int .u32 p1, .int .i64 p2, .slice xC nC cC, .int .u32 S, .int .i64 p5, .int .u32 p6] 25)).alloc (.cells #[.int .i64 lv] 3)).alloc (.cells #[.bool sp] 4)) :=
  ⟨by simp [go_sem], by simp [go_sem], by simp [go_sem], by simp [go_sem], hc.later (((Gr.new w _).alloc _).alloc _)⟩
def MK (B : Nat) (xC : Option Addr) (nC cC : Nat) (S : Int) (lv : Nat) (sp : Bool) (ch : List Int) (W W' : World) : Prop := MI B xC nC cC S lv sp ch W → MI B xC nC cC S lv sp ch W'
theorem map_range_snoc {n : Nat} {pre : List (Oj.Pl n)} {x : Oj.Pl n} {i : Nat} (h : Oj.idx pre = List.range i) (hx : x.1 = i) : Oj.idx (pre ++ [x]) = List.range (i + 1) := by
  have h' : pre.map (·.1) = List.range i := h
  rw [Oj.idx, List.map_append, h', List.range_succ, List.map_cons, List.map_nil, hx]
theorem len_range {n : Nat} {pre : List (Oj.Pl n)} {i : Nat} (h : Oj.idx pre = List.range i) : pre.length = i := by
  have := congrArg List.length h
  rw [Oj.idx, List.length_map, List.length_range] at this
  exact this
theorem in_order {n : Nat} {pre : List (Oj.Pl n)} {x : Oj.Pl n} {i : Nat} (h : Oj.idx pre = List.range i) (hx : x.1 = i) : Oj.idx (pre ++ [x]) = List.range (pre ++ [x]).length := by
  have h1 := map_range_snoc h hx
  rw [h1, len_range h1]
set_option maxRecDepth 100000 in
set_option maxHeartbeats 1000000 in
theorem moduli1_in (n : Nat) (hn : 1 ≤ n) (B : Nat) (xC : Option Addr) (nC cC : Nat) (S : Int) (lv : Nat) (sp : Bool) (ch : List Int) (h1 : 1 ≤ lv) (h2 : lv ≤ ch.length) (l : Nat) (J Jx : List (Oj.Pl (Oj.mods ch S lv sp).length) → World → Prop)
    (hY : ∀ pre (x : Oj.Pl (Oj.mods ch S lv sp).length) W, J pre W → pre.length < (Oj.mods ch S lv sp).length → YieldAt Fence.wide (n - 1) Try.prog l #[.int .u32 (Op.cf (Oj.mods ch S lv sp) x.1)] W fun e W' =>
      (e = .returned (.bool true) ∧ J (pre ++ [x]) W' ∧ MK B xC nC cC S lv sp ch W W') ∨ (e = .returned (.bool false) ∧ Jx (pre ++ [x]) W'))
    (W : World) (hmi : MI B xC nC cC S lv sp ch W) (h0 : J [] W) :
    CallsIn Fence.wide n Try.prog 38 #[.func (.yield l) #[] #[], .pointer (some ⟨B, 0, none⟩), .pointer (some ⟨B + 1, 0, none⟩), .pointer (some ⟨B + 2, 0, none⟩)] W fun e W' => (∃ v, e = .returned v) ∧
      ((∃ ys : List (Oj.Pl (Oj.mods ch S lv sp).length), Oj.idx ys = List.range (Oj.mods ch S lv sp).length ∧ J ys W') ∨ (∃ pre : List (Oj.Pl (Oj.mods ch S lv sp).length), Oj.idx pre = List.range pre.length ∧ Jx pre W')) := by
  have HY := Lib.hid hY
  have HMI := Lib.hid hmi
  obtain ⟨hcl, hcc⟩ := hmi.hp.len
  have hcap : cC ≤ 9223372036854775807 := by obtain ⟨_, a, c, e, _, h, _⟩ := hmi.hp; cases e; exact h
  have c3 := hmi.c3
  have cl := hmi.cl
  have hML := Oj.mods_len (S := S) (sp := sp) h2
  have HML := Lib.hid hML
  have hlvm : lv ≤ (Oj.mods ch S lv sp).length := by rw [hML]; omega
  have HLM := Lib.hid hlvm
  have hlvc : (lv : Int) ≤ (cC : Int) := by omega
  have HLV := Lib.hid h2
  clear hY hmi hcl hML hlvm h2
  refine callsIn_of_wp Try.func38 rfl trivial ?_ rfl
  simp only [Try.ntmps38, List.size_toArray, List.length_cons, List.length_nil, Nat.reduceAdd, Nat.reduceSub, Array.replicate_succ, Array.replicate_zero, List.push_toArray, List.append_toArray, List.nil_append, List.cons_append]
  gi_wp2
  gi_loopw [6, 12] (fun _ t wr => ∃ (i : Nat) (pre : List (Oj.Pl (Oj.mods ch S lv sp).length)), t = .int .i64 i ∧ i ≤ lv ∧ Oj.idx pre = List.range i ∧ J pre wr ∧ MI B xC nC cC S lv sp ch wr) (fun _ t _ => lv - (intOf t).toNat)
  case atStart => exact ⟨0, [], rfl, by omega, rfl, h0, HMI.out⟩
  case round =>
    clear c3 cl
    obtain ⟨i, pre, rfl, hi, hpre, hJ, hmi⟩ := hrel
    have HC := Lib.hid hpre
    have HM := Lib.hid hmi
    clear hpre hmi
    by_cases hlt : i < lv
    · have i1 : (i : Int) < (lv : Int) := by omega
      obtain ⟨x, hx⟩ : ∃ x : Oj.Pl (Oj.mods ch S lv sp).length, x.1 = i := ⟨⟨i, Nat.lt_of_lt_of_le hlt HLM.out⟩, rfl⟩
      obtain ⟨gx, ox, rfl, hcx⟩ := HM.out.hp.at_ (i := i) (Nat.lt_of_lt_of_le hlt HLV.out)
      obtain ⟨fn, tmps, assign, body, hy, hR⟩ := HY.out pre x wr hJ (by rw [len_range HC.out]; exact Nat.lt_of_lt_of_le hlt HLM.out)
      rw [hx, Oj.mods_lo HLV.out hlt] at hy
      have HX := Lib.hid hx
      clear hx
      obtain ⟨z, hz⟩ : ∃ z, z = Op.cf ch i := ⟨_, rfl⟩
      rw [← hz] at hy hcx
      clear hz
      gi_wp2
      refine hR.mono ?_
      rintro e W4 (⟨rfl, hJ4, hk4⟩ | ⟨rfl, hJx4⟩)
      · have HM4 := Lib.hid (hk4 HM.out)
        clear hR hy hk4
        gi_wp2
        go_roundw
        case rel => exact ⟨i + 1, _, by simp, by omega, map_range_snoc HC.out HX.out, hJ4, HM4.out⟩
        case measure => simp [intOf]; omega
      · gi_wp2
        refine bodyPost_ret (results_none rfl _ _ _) rfl ?_
        exact ⟨⟨_, rfl⟩, .inr ⟨_, in_order HC.out HX.out, hJx4⟩⟩
    · have HI := Lib.hid (show i = lv by omega)
      have i1 : ¬ (i : Int) < (lv : Int) := by omega
      have cs := HM.out.cs
      have c4 := HM.out.c4
      cases sp with
      | false =>
        gi_wp2
        go_end0
        exact ⟨⟨_, rfl⟩, .inl ⟨pre, by rw [HC.out, HI.out, HML.out]; rfl, hJ⟩⟩
      | true =>
        have HLL := Lib.hid (show lv < (Oj.mods ch S lv true).length from by have := HML.out; simp at this; omega)
        obtain ⟨x, hx⟩ : ∃ x : Oj.Pl (Oj.mods ch S lv true).length, x.1 = lv := ⟨⟨lv, HLL.out⟩, rfl⟩
        obtain ⟨fn, tmps, assign, body, hy, hR⟩ := HY.out pre x wr hJ (by rw [len_range HC.out, HI.out]; exact HLL.out)
        rw [hx, Oj.mods_hi HLV.out] at hy
        have HX := Lib.hid hx
        clear hx
        gi_wp2
        refine hR.mono ?_
        rintro e W4 (⟨rfl, hJ4, hk4⟩ | ⟨rfl, hJx4⟩)
        · clear hR hy hk4
          gi_wp2
          go_end0
          exact ⟨⟨_, rfl⟩, .inl ⟨_, by rw [map_range_snoc HC.out (HX.out.trans HI.out.symm), HI.out, HML.out]; rfl, hJ4⟩⟩
        · gi_wp2
          go_end0
          exact ⟨⟨_, rfl⟩, .inr ⟨_, in_order HC.out (HX.out.trans HI.out.symm), hJx4⟩⟩
theorem moduli_stops (n : Nat) (hn : 1 ≤ n) (B : Nat) (xC : Option Addr) (nC cC : Nat) (S : Int) (lv : Nat) (sp : Bool) (ch : List Int) (h1 : 1 ≤ lv) (h2 : lv ≤ ch.length) (w : World) (hm : MI B xC nC cC S lv sp ch w) :
    SeqStopsK Fence.wide n Try.prog 38 #[.pointer (some ⟨B, 0, none⟩), .pointer (some ⟨B + 1, 0, none⟩), .pointer (some ⟨B + 2, 0, none⟩)] (fun x : Oj.Pl (Oj.mods ch S lv sp).length => #[Value.int .u32 (Op.cf (Oj.mods ch S lv sp) x.1)]) (MK B xC nC cC S lv sp ch) (fun ys => Oj.idx ys = List.range (Oj.mods ch S lv sp).length) (fun pre => Oj.idx pre = List.range pre.length) (Oj.mods ch S lv sp).length w :=
  fun l J Jx W hW _ _ hY h0 => moduli1_in n hn B xC nC cC S lv sp ch h1 h2 l J Jx hY W (hm.gr hW) h0
end Go.Proofs.Ytlfiakpmnkhcdaa.Mo
