import Derived.Test.YtlfiakpmnkhcdaaGreatLJc
import Derived.Test.YtlfiakpmnkhcdaaGreatShelf
import Derived.Laws.Bits64b
import Derived.RangeFuncNested
import Derived.RangeFuncBound
import Derived.RangeFuncCalls
import Derived.RangeFuncLeaves
import Derived.RangeFuncBox
import Derived.Shelf.Abstract
import Derived.Shelf.RegionOpen
import Derived.OwnWalkIn
import Derived.TacticsInMore
import Derived.LoopNIn
import Derived.LoopIn
namespace Go.Proofs.YtlfiakpmnkhcdaaGreat.Mo
open Go.RowKit
set_option linter.unusedVariables false
theorem HasP.at_ {W : World} {xa : Option Addr} {n c : Nat} {l : List Int} (h : HasP W (.slice xa n c) l) {i : Nat} (hi : i < l.length) : ∃ g o, xa = some ⟨g, o, none⟩ ∧ W.cell? ⟨g, o + i, none⟩ = some (.int .u32 (Op.cf l i)) := by
 obtain ⟨_, a, c', e, _, _, h3⟩ := h
 cases e
 exact h3 i hi
theorem HasQ_at {W : World} {xa : Option Addr} {n c : Nat} {l : List Int} (h : Lo.HasQ W (.slice xa n c) l) {i : Nat} (hi : i < l.length) : ∃ g o, xa = some ⟨g, o, none⟩ ∧ W.cell? ⟨g, o + i, none⟩ = some (.int .i64 (Op.cf l i)) := by
 obtain ⟨_, a, c', e, _, _, h3⟩ := h
 cases e
 exact h3 i hi
def okM' (m : Int) : Prop := 3 ≤ m ∧ m ≤ 2147483647
theorem okM'.p {m : Int} (h : okM' m) : okP m := ⟨by have := h.1; omega, h.2⟩
def hasB (m : Int) (l : List Int) : Bool := decide (∀ i, i < l.length → Op.cf l i < m)
set_option maxRecDepth 100000 in
set_option maxHeartbeats 1000000 in
theorem mhas_any (m : Int) (l : List Int) (v : Value) (w : World) (hv : HasP w v l) :
  Calls Tryz.prog 94 #[.int .u32 m, v] w (fun e w' => e = .returned (.bool (hasB m l)) ∧ w = w') := by
 obtain ⟨-, xa, ca, rfl, a1, a2, -⟩ := id hv
 obtain ⟨n, hn⟩ : ∃ n, n = l.length := ⟨_, rfl⟩
 rw [← hn] at hv a1 ⊢
 have HV := Lib.hid hv
 have HN := Lib.hid hn
 clear hv hn
 go_enter Tryz.func94, Tryz.ntmps94
 go_wp2_with fail
 go_loop [6, 9] (fun _ t => ∃ k : Nat, t = .int .i64 k ∧ k ≤ n ∧ ∀ j, j < k → Op.cf l j < m) (fun _ t => n - (intOf t).toNat)
 case atStart => exact ⟨0, rfl, by omega, fun j hj => by omega⟩
 case round =>
  obtain ⟨k, rfl, hk, hlow⟩ := hrel
  have HLOW := Lib.hid hlow
  clear hlow
  by_cases hlt : k < n
  ·have hk1 : (k : Int) < (n : Int) := by omega
   obtain ⟨gx, ox, rfl, hcx⟩ := HV.out.at_ (i := k) (by rw [← HN.out]; exact hlt)
   obtain ⟨a, ha⟩ : ∃ a, a = Op.cf l k := ⟨_, rfl⟩
   rw [← ha] at hcx
   have HA := Lib.hid ha
   clear ha
   by_cases hge : m ≤ a
   ·have h2 : decide (m ≤ a) = true := by simpa using hge
    have h3 : decide (a ≥ m) = true := h2
    go_wp2_with fail
    go_ret
    refine ⟨ret_bool (Eq.symm (decide_eq_false fun h => ?_)), rfl⟩
    have := h k (by have := HN.out; omega)
    have := HA.out
    omega
   ·have h2 : decide (m ≤ a) = false := by simpa using hge
    have h3 : decide (a ≥ m) = false := h2
    go_wp2_with fail
    go_round
    case rel =>
     refine ⟨k + 1, by go_num, by omega, fun j hj => ?_⟩
     by_cases hjk : j = k
     ·subst hjk; rw [← HA.out]; omega
     ·exact HLOW.out j (by omega)
    case measure => simp [intOf]; omega
  ·obtain rfl : k = n := by omega
   go_wp2_with fail
   go_ret
   exact ⟨ret_bool (Eq.symm (decide_eq_true (by rw [← HN.out]; exact HLOW.out))), rfl⟩
set_option maxRecDepth 100000 in
set_option maxHeartbeats 1000000 in
theorem mresidue_any (v m : Int) (w : World) (hp : okP m) (hv : isW v) : Calls Tryz.prog 95 #[.int .u32 m, .int .i64 v] w (IntU (v % m) w) := by
 have HP := Lib.hid hp
 have HV := Lib.hid hv
 clear hp hv
 go_enter Tryz.func95, Tryz.ntmps95
 go_wp2_with fail
 refine (of_ok v m _ HP.out.1 HP.out.2 HV.out.1 HV.out.2).mono ?_
 rintro e w' ⟨rfl, hg⟩
 have HG := Lib.hid hg
 clear hg
 go_wp2_with fail
 go_ret
 exact ⟨rfl, HG.out⟩
def resR (n : Nat) (m : Int) (l : List Int) : List Int := Oj.rowL n (fun i => Op.cf l i % m)
theorem mod_u32 {x m : Int} (h : okM' m) : 0 ≤ x % m ∧ x % m < 4294967296 := by
 have h1 := h.1; have h2 := h.2
 have := emod_lo x m (by omega)
 have := emod_hi x m (by omega)
 omega
theorem row_done {k : Nat} {cur : List Int} {f : Nat → Int} (h1 : cur.length = k) (h2 : ∀ j, j < k → Op.cf cur j = f j) : cur = Oj.rowL k f := Op.ext_cf (by rw [Oj.rowL_len]; exact h1) (fun i => by
 by_cases hi : i < k
 ·rw [Oj.rowL_at k f hi]; exact h2 i hi
 ·rw [Op.cf_out (by omega), Oj.rowL_out k f (by omega)])
theorem row_step {k n : Nat} {cur : List Int} {f : Nat → Int} {y : Int} (h1 : cur.length = n) (hk : k < n) (h2 : ∀ j, j < k → Op.cf cur j = f j) (hy : y = f k) : (put cur k [y]).length = n ∧ ∀ j, j < k + 1 → Op.cf (put cur k [y]) j = f j := by
 refine ⟨by rw [put_len (by simp; omega)]; exact h1, fun j hj => ?_⟩
 rw [cf_put1 (by omega)]
 by_cases hjk : j = k
 ·subst hjk; rw [if_pos rfl, hy]
 ·rw [if_neg hjk]; exact h2 j (by omega)
set_option maxRecDepth 100000 in
set_option maxHeartbeats 2000000 in
theorem mresidues_any (m : Int) (l : List Int) (v : Value) (w : World) (hm : okM' m) (hv : Lo.HasQ w v l) (hl : l.length ≤ 1000) :
  Calls Tryz.prog 50 #[.int .u32 m, v] w (NewP (resR l.length m l) w) := by
 have hi64 := hv.1
 obtain ⟨-, xa, ca, rfl, a1, a2, -⟩ := id hv
 obtain ⟨n, hn⟩ : ∃ n, n = l.length := ⟨_, rfl⟩
 rw [← hn] at hv a1 hl ⊢
 have HV := Lib.hid hv
 have HN := Lib.hid hn
 have HM := Lib.hid hm
 have HI := Lib.hid hi64
 have hmk := mk_row n (n : Int) rfl (by omega)
 clear hv hn hm hi64
 go_enter Tryz.func50, Tryz.ntmps50
 go_wp2_with fail
 clear hmk
 obtain ⟨W, hW⟩ : ∃ W : World, W = w.alloc (.cells (zrow n) 22) := ⟨_, rfl⟩
 rw [← hW]
 have HR0 := Lib.hid (show Row W w.heap.size (List.replicate n 0) by rw [hW]; exact Row.zeros w n)
 have HG0 := Lib.hid (show Gr w W by rw [hW]; exact Gr.new w _)
 clear hW
 go_loopw [6, 7, 13] (fun _ _ t wr => ∃ (k : Nat) (cur : List Int), t = .int .i64 k ∧ k ≤ n ∧ cur.length = n ∧ (∀ j, j < k → Op.cf cur j = Op.cf l j % m) ∧ Row wr w.heap.size cur ∧ Gr w wr) (fun _ _ t _ => n - (intOf t).toNat)
 case atStart => exact ⟨0, List.replicate n 0, rfl, by omega, by simp, fun j hj => by omega, HR0.out, HG0.out⟩
 case round =>
  obtain ⟨k, cur, rfl, hk, hcl, hcf, hrow, hg⟩ := hrel
  have HCL := Lib.hid hcl
  have HCF := Lib.hid hcf
  have HROW := Lib.hid hrow
  have HG := Lib.hid hg
  clear hcl hcf hrow hg
  by_cases hlt : k < n
  ·have hk0 : (0 : Int) ≤ (k : Int) := by omega
   have hk1 : (k : Int) < (n : Int) := by omega
   obtain ⟨gx, ox, rfl, hcx⟩ := HasQ_at (HV.out.later HG.out) (i := k) (by rw [← HN.out]; exact hlt)
   obtain ⟨a, ha⟩ : ∃ a, a = Op.cf l k := ⟨_, rfl⟩
   have hab := HI.out.at_ k
   rw [← ha] at hcx hab
   have HA := Lib.hid ha
   have HAW := Lib.hid (show isW a from ⟨by omega, by omega⟩)
   have HST := Lib.hid (row_step (y := a % m) HCL.out hlt HCF.out (by rw [HA.out]))
   clear ha hab
   go_wp2_with fail
   refine (mresidue_any a m _ HM.out.p HAW.out).mono ?_
   rintro e w1 ⟨rfl, hg⟩
   have HG1 := Lib.hid (HG.out.trans hg)
   have HR1 := Lib.hid (HROW.out.later hg)
   have hc := HR1.out.cell (j := k) (by rw [HCL.out]; exact hlt)
   have hf := HR1.out.frozen k
   clear hg
   go_wp2_with fail
   go_roundw
   case rel =>
    exact ⟨k + 1, put cur k [a % m], by go_num, by omega, HST.out.1, HST.out.2, HR1.out.store (by rw [HCL.out]; exact hlt) (mod_u32 HM.out), HG1.out.setCell (Nat.le_refl _) _⟩
   case measure => simp [intOf]; omega
  ·obtain rfl : k = n := by omega
   have hk1 : ¬ (k : Int) < (k : Int) := by omega
   go_wp2_with fail
   go_ret
   have he : cur = resR k m l := row_done HCL.out HCF.out
   have hp := HROW.out.hasP (cap := k) (by rw [HCL.out]; exact Nat.le_refl _) (by omega)
   rw [HCL.out, he] at hp
   exact ⟨_, _, _, rfl, hp, fun p hp => (by cases hp; exact Nat.le_refl _), HG.out⟩
theorem cf_set (l : List Int) (x : Int) : ∀ (j i : Nat), j < l.length → Op.cf (l.set j x) i = if i = j then x else Op.cf l i := by
 intro j i hj
 rw [← Op.cf_at, ← Op.cf_at]
 by_cases h : i = j
 ·subst h; rw [if_pos rfl]; simp [hj]
 ·rw [if_neg h, List.getElem?_set_ne (fun e => h e.symm)]
theorem U32.set {l : List Int} (h : U32 l) {x : Int} (hx : 0 ≤ x ∧ x < 4294967296) (j : Nat) : U32 (l.set j x) := fun y hy => by
 rcases List.mem_or_eq_of_mem_set hy with h1 | h1
 ·exact h y h1
 ·rw [h1]; exact hx
theorem Own1.cell {W : World} {base g n c : Nat} {l : List Int} (h : Own1 W base (.slice (some ⟨g, 0, none⟩) n c) l) {j : Nat} (hj : j < l.length) : W.cell? ⟨g, j, none⟩ = some (.int .u32 (Op.cf l j)) := by
 obtain ⟨g', c', e, _, _, _, hr⟩ := h.row (by omega)
 cases e
 exact hr.cell hj
def mulR (n : Nat) (m s : Int) (a : List Int) : List Int := Oj.rowL n (fun i => s * Op.cf a i % m)
end Go.Proofs.YtlfiakpmnkhcdaaGreat.Mo
namespace Oj
open Op
set_option linter.unusedVariables false
def sg (n : Nat) (m : Int) (b : List Int) : List Int := Go.Proofs.YtlfiakpmnkhcdaaGreat.Mo.mulR n m (-1) b ++ b
end Oj
namespace Go.Proofs.YtlfiakpmnkhcdaaGreat.Mo
open Go.RowKit
set_option linter.unusedVariables false
end Go.Proofs.YtlfiakpmnkhcdaaGreat.Mo
namespace Oj
open Op
set_option linter.unusedVariables false
def mods (ch : List Int) (S : Int) (lv : Nat) (sp : Bool) : List Int := ch.take lv ++ (if sp then [S] else [])
theorem mods_len {ch : List Int} {S : Int} {lv : Nat} {sp : Bool} (h : lv ≤ ch.length) : (mods ch S lv sp).length = lv + (if sp then 1 else 0) := by
 unfold mods
 rw [List.length_append, List.length_take]
 cases sp <;> simp <;> omega
theorem mods_lo {ch : List Int} {S : Int} {lv : Nat} {sp : Bool} {i : Nat} (h : lv ≤ ch.length) (hi : i < lv) : cf (mods ch S lv sp) i = cf ch i := by
 unfold mods
 rw [cf_append, if_pos (by rw [List.length_take]; omega), cf_take, if_pos hi]
theorem mods_hi {ch : List Int} {S : Int} {lv : Nat} (h : lv ≤ ch.length) : cf (mods ch S lv true) lv = S := by
 unfold mods
 rw [cf_append, if_neg (by rw [List.length_take]; omega), List.length_take, show lv - min lv ch.length = 0 by omega]; rfl
abbrev Pl (n : Nat) := { x : Nat // x < n }
def idx {n : Nat} (l : List (Pl n)) : List Nat := l.map (·.1)
end Oj
namespace Go.Proofs.YtlfiakpmnkhcdaaGreat.Mo
open Go.RowKit Go.Shelf
set_option linter.unusedVariables false
attribute [local go_sem] Oper.semAt_some
theorem HasP.kept {W W' : World} {row : Option Nat} {u : Value} {l : List Int} (h : HasP W u l) (hg : W.grownBy W' row) (hr : ∀ r, row = some r → ∃ o : Obj, W.heap[r]? = some o ∧ o.isCells = false) : HasP W' u l := by
 obtain ⟨hd, a, cap, rfl, h1, h2, h3⟩ := h
 refine ⟨hd, a, cap, rfl, h1, h2, fun i hi => ?_⟩
 obtain ⟨g, o, e, hc⟩ := h3 i hi
 exact ⟨g, o, e, cell_kept hc hg hr⟩
structure MI (B : Nat) (xC : Option Addr) (nC cC : Nat) (S : Int) (lv : Nat) (sp : Bool) (ch : List Int) (W : World) : Prop where
 c3 : W.cell? ⟨B, 3, none⟩ = some (.slice xC nC cC)
 c4 : W.cell? ⟨B, 4, none⟩ = some (.int .u32 S)
 cl : W.cell? ⟨B + 1, 0, none⟩ = some (.int .i64 lv)
 cs : W.cell? ⟨B + 2, 0, none⟩ = some (.bool sp)
 hp : HasP W (.slice xC nC cC) ch
theorem MI.gr {B : Nat} {xC : Option Addr} {nC cC : Nat} {S : Int} {lv : Nat} {sp : Bool} {ch : List Int} {W W' : World} (h : MI B xC nC cC S lv sp ch W) (hg : Gr W W') : MI B xC nC cC S lv sp ch W' :=
 ⟨hg.keeps h.c3, hg.keeps h.c4, hg.keeps h.cl, hg.keeps h.cs, h.hp.later hg⟩
theorem MI.kept {B : Nat} {xC : Option Addr} {nC cC : Nat} {S : Int} {lv : Nat} {sp : Bool} {ch : List Int} {W W' : World} {row : Option Nat} (h : MI B xC nC cC S lv sp ch W) (hg : W.grownBy W' row) (hr : ∀ r, row = some r → ∃ o : Obj, W.heap[r]? = some o ∧ o.isCells = false) : MI B xC nC cC S lv sp ch W' :=
 ⟨cell_kept h.c3 hg hr, cell_kept h.c4 hg hr, cell_kept h.cl hg hr, cell_kept h.cs hg hr, h.hp.kept hg hr⟩
theorem MI.row {B : Nat} {xC : Option Addr} {nC cC : Nat} {S : Int} {lv : Nat} {sp : Bool} {ch : List Int} {W W' : World} {row : Option Nat} (h : MI B xC nC cC S lv sp ch W) (hg : W.grownBy W' row) (hr : ∀ r, row = some r → (r < B ∨ B + 3 ≤ r) ∧ ∀ p, (Value.slice xC nC cC).ownBlock = some p → p ≠ r) : MI B xC nC cC S lv sp ch W' := by
 have key : ∀ (b o : Nat) (v : Value), (b = B ∨ b = B + 1 ∨ b = B + 2) → W.cell? ⟨b, o, none⟩ = some v → W'.cell? ⟨b, o, none⟩ = some v := fun b o v hb hc => hg.cell hc (fun e => by
  have := (hr b e.symm).1
  omega)
 exact ⟨key _ _ _ (.inl rfl) h.c3, key _ _ _ (.inl rfl) h.c4, key _ _ _ (.inr (.inl rfl)) h.cl, key _ _ _ (.inr (.inr rfl)) h.cs, h.hp.grown hg fun _ p hp e => (hr p e.symm).2 p hp rfl⟩
set_option maxRecDepth 100000 in
theorem moduli_any (N p1 p2 : Int) (xC : Option Addr) (nC cC : Nat) (S p5 p6 : Int) (lv : Int) (sp : Bool) (w : World) :
  Calls Tryz.prog 76 #[.agg #[.int .i64 N, .int .u32 p1, .int .i64 p2, .slice xC nC cC, .int .u32 S, .int .i64 p5, .int .u32 p6], .int .i64 lv, .bool sp] w fun e w' => e = .returned (.func (.func 103) #[] #[.pointer (some ⟨w.heap.size, 0, none⟩), .pointer (some ⟨w.heap.size + 1, 0, none⟩), .pointer (some ⟨w.heap.size + 2, 0, none⟩)]) ∧
   ((w.alloc (.cells #[.int .i64 N, .int .u32 p1, .int .i64 p2, .slice xC nC cC, .int .u32 S, .int .i64 p5, .int .u32 p6] 25)).alloc (.cells #[.int .i64 lv] 3)).alloc (.cells #[.bool sp] 4) = w' := by
 go_enter Tryz.func76, Tryz.ntmps76
 go_wp2_with fail
 go_ret
 exact ⟨rfl, rfl⟩
theorem MI.new (N p1 p2 : Int) (xC : Option Addr) (nC cC : Nat) (S p5 p6 : Int) (lv : Nat) (sp : Bool) (ch : List Int) (w : World) (hc : HasP w (.slice xC nC cC) ch) :
  MI w.heap.size xC nC cC S lv sp ch (((w.alloc (.cells #[.int .i64 N, .int .u32 p1, .int .i64 p2, .slice xC nC cC, .int .u32 S, .int .i64 p5, .int .u32 p6] 25)).alloc (.cells #[.int .i64 lv] 3)).alloc (.cells #[.bool sp] 4)) :=
 ⟨by simp [go_sem], by simp [go_sem], by simp [go_sem], by simp [go_sem], hc.later (((Gr.new w _).alloc _).alloc _)⟩
def MK (B : Nat) (xC : Option Addr) (nC cC : Nat) (S : Int) (lv : Nat) (sp : Bool) (ch : List Int) (W W' : World) : Prop := MI B xC nC cC S lv sp ch W → MI B xC nC cC S lv sp ch W'
theorem map_range_snoc {n : Nat} {pre : List (Oj.Pl n)} {x : Oj.Pl n} {i : Nat} (h : Oj.idx pre = List.range i) (hx : x.1 = i) : Oj.idx (pre ++ [x]) = List.range (i + 1) := by
 have h' : pre.map (·.1) = List.range i := h
 rw [Oj.idx, List.map_append, h', List.range_succ, List.map_cons, List.map_nil, hx]
theorem len_range {n : Nat} {pre : List (Oj.Pl n)} {i : Nat} (h : Oj.idx pre = List.range i) : pre.length = i := by
 have := congrArg List.length h
 rw [Oj.idx, List.length_map, List.length_range] at this
 exact this
theorem in_order {n : Nat} {pre : List (Oj.Pl n)} {x : Oj.Pl n} {i : Nat} (h : Oj.idx pre = List.range i) (hx : x.1 = i) : Oj.idx (pre ++ [x]) = List.range (pre ++ [x]).length := by
 have h1 := map_range_snoc h hx
 rw [h1, len_range h1]
set_option maxRecDepth 100000 in
set_option maxHeartbeats 1000000 in
theorem moduli1_in (n : Nat) (hn : 1 ≤ n) (B : Nat) (xC : Option Addr) (nC cC : Nat) (S : Int) (lv : Nat) (sp : Bool) (ch : List Int) (h1 : 1 ≤ lv) (h2 : lv ≤ ch.length) (l : Nat) (J Jx : List (Oj.Pl (Oj.mods ch S lv sp).length) → World → Prop)
  (hY : ∀ pre (x : Oj.Pl (Oj.mods ch S lv sp).length) W, J pre W → pre.length < (Oj.mods ch S lv sp).length → YieldAt Fence.wide (n - 1) Tryz.prog l #[.int .u32 (Op.cf (Oj.mods ch S lv sp) x.1)] W fun e W' =>
   (e = .returned (.bool true) ∧ J (pre ++ [x]) W' ∧ MK B xC nC cC S lv sp ch W W') ∨ (e = .returned (.bool false) ∧ Jx (pre ++ [x]) W'))
  (W : World) (hmi : MI B xC nC cC S lv sp ch W) (h0 : J [] W) :
  CallsIn Fence.wide n Tryz.prog 103 #[.func (.yield l) #[] #[], .pointer (some ⟨B, 0, none⟩), .pointer (some ⟨B + 1, 0, none⟩), .pointer (some ⟨B + 2, 0, none⟩)] W fun e W' => (∃ v, e = .returned v) ∧
   ((∃ ys : List (Oj.Pl (Oj.mods ch S lv sp).length), Oj.idx ys = List.range (Oj.mods ch S lv sp).length ∧ J ys W') ∨ (∃ pre : List (Oj.Pl (Oj.mods ch S lv sp).length), Oj.idx pre = List.range pre.length ∧ Jx pre W')) := by
 have HY := Lib.hid hY
 have HMI := Lib.hid hmi
 obtain ⟨hcl, hcc⟩ := hmi.hp.len
 have hcap : cC ≤ 9223372036854775807 := by obtain ⟨_, a, c, e, _, h, _⟩ := hmi.hp; cases e; exact h
 have c3 := hmi.c3
 have cl := hmi.cl
 have hML := Oj.mods_len (S := S) (sp := sp) h2
 have HML := Lib.hid hML
 have hlvm : lv ≤ (Oj.mods ch S lv sp).length := by rw [hML]; omega
 have HLM := Lib.hid hlvm
 have hlvc : (lv : Int) ≤ (cC : Int) := by omega
 have HLV := Lib.hid h2
 clear hY hmi hcl hML hlvm h2
 refine callsIn_of_wp Tryz.func103 rfl trivial ?_ rfl
 simp only [Tryz.ntmps103, List.size_toArray, List.length_cons, List.length_nil, Nat.reduceAdd, Nat.reduceSub, Array.replicate_succ, Array.replicate_zero, List.push_toArray, List.append_toArray, List.nil_append, List.cons_append]
 gi_wp2
 gi_loopw [6, 12] (fun _ t wr => ∃ (i : Nat) (pre : List (Oj.Pl (Oj.mods ch S lv sp).length)), t = .int .i64 i ∧ i ≤ lv ∧ Oj.idx pre = List.range i ∧ J pre wr ∧ MI B xC nC cC S lv sp ch wr) (fun _ t _ => lv - (intOf t).toNat)
 case atStart => exact ⟨0, [], rfl, by omega, rfl, h0, HMI.out⟩
 case round =>
  clear c3 cl
  obtain ⟨i, pre, rfl, hi, hpre, hJ, hmi⟩ := hrel
  have HC := Lib.hid hpre
  have HM := Lib.hid hmi
  clear hpre hmi
  by_cases hlt : i < lv
  ·have i1 : (i : Int) < (lv : Int) := by omega
   obtain ⟨x, hx⟩ : ∃ x : Oj.Pl (Oj.mods ch S lv sp).length, x.1 = i := ⟨⟨i, Nat.lt_of_lt_of_le hlt HLM.out⟩, rfl⟩
   obtain ⟨gx, ox, rfl, hcx⟩ := HM.out.hp.at_ (i := i) (Nat.lt_of_lt_of_le hlt HLV.out)
   obtain ⟨fn, tmps, assign, body, hy, hR⟩ := HY.out pre x wr hJ (by rw [len_range HC.out]; exact Nat.lt_of_lt_of_le hlt HLM.out)
   rw [hx, Oj.mods_lo HLV.out hlt] at hy
   have HX := Lib.hid hx
   clear hx
   obtain ⟨z, hz⟩ : ∃ z, z = Op.cf ch i := ⟨_, rfl⟩
   rw [← hz] at hy hcx
   clear hz
   gi_wp2
   refine hR.mono ?_
   rintro e W4 (⟨rfl, hJ4, hk4⟩ | ⟨rfl, hJx4⟩)
   ·have HM4 := Lib.hid (hk4 HM.out)
    clear hR hy hk4
    gi_wp2
    go_roundw
    case rel => exact ⟨i + 1, _, by simp, by omega, map_range_snoc HC.out HX.out, hJ4, HM4.out⟩
    case measure => simp [intOf]; omega
   ·gi_wp2
    refine bodyPost_ret (results_none rfl _ _ _) rfl ?_
    exact ⟨⟨_, rfl⟩, .inr ⟨_, in_order HC.out HX.out, hJx4⟩⟩
  ·have HI := Lib.hid (show i = lv by omega)
   have i1 : ¬ (i : Int) < (lv : Int) := by omega
   have cs := HM.out.cs
   have c4 := HM.out.c4
   cases sp with
   | false =>
    gi_wp2
    go_end0
    exact ⟨⟨_, rfl⟩, .inl ⟨pre, by rw [HC.out, HI.out, HML.out]; rfl, hJ⟩⟩
   | true =>
    have HLL := Lib.hid (show lv < (Oj.mods ch S lv true).length from by have := HML.out; simp at this; omega)
    obtain ⟨x, hx⟩ : ∃ x : Oj.Pl (Oj.mods ch S lv true).length, x.1 = lv := ⟨⟨lv, HLL.out⟩, rfl⟩
    obtain ⟨fn, tmps, assign, body, hy, hR⟩ := HY.out pre x wr hJ (by rw [len_range HC.out, HI.out]; exact HLL.out)
    rw [hx, Oj.mods_hi HLV.out] at hy
    have HX := Lib.hid hx
    clear hx
    gi_wp2
    refine hR.mono ?_
    rintro e W4 (⟨rfl, hJ4, hk4⟩ | ⟨rfl, hJx4⟩)
    ·clear hR hy hk4
     gi_wp2
     go_end0
     exact ⟨⟨_, rfl⟩, .inl ⟨_, by rw [map_range_snoc HC.out (HX.out.trans HI.out.symm), HI.out, HML.out]; rfl, hJ4⟩⟩
    ·gi_wp2
     go_end0
     exact ⟨⟨_, rfl⟩, .inr ⟨_, in_order HC.out (HX.out.trans HI.out.symm), hJx4⟩⟩
theorem moduli_stops (n : Nat) (hn : 1 ≤ n) (B : Nat) (xC : Option Addr) (nC cC : Nat) (S : Int) (lv : Nat) (sp : Bool) (ch : List Int) (h1 : 1 ≤ lv) (h2 : lv ≤ ch.length) (w : World) (hm : MI B xC nC cC S lv sp ch w) :
  SeqStopsK Fence.wide n Tryz.prog 103 #[.pointer (some ⟨B, 0, none⟩), .pointer (some ⟨B + 1, 0, none⟩), .pointer (some ⟨B + 2, 0, none⟩)] (fun x : Oj.Pl (Oj.mods ch S lv sp).length => #[Value.int .u32 (Op.cf (Oj.mods ch S lv sp) x.1)]) (MK B xC nC cC S lv sp ch) (fun ys => Oj.idx ys = List.range (Oj.mods ch S lv sp).length) (fun pre => Oj.idx pre = List.range pre.length) (Oj.mods ch S lv sp).length w :=
 fun l J Jx W hW _ _ hY h0 => moduli1_in n hn B xC nC cC S lv sp ch h1 h2 l J Jx hY W (hm.gr hW) h0
end Go.Proofs.YtlfiakpmnkhcdaaGreat.Mo
namespace Oj
set_option linter.unusedVariables false
def vals (M : List Int) (pre : List (Pl M.length)) : List Int := pre.map (fun x => Op.cf M x.1)
theorem vals_len (M : List Int) (pre : List (Pl M.length)) : (vals M pre).length = pre.length := by simp [vals]
theorem vals_snoc (M : List Int) (pre : List (Pl M.length)) (x : Pl M.length) : vals M (pre ++ [x]) = vals M pre ++ [Op.cf M x.1] := by simp [vals]
theorem vals_all {M : List Int} {ys : List (Pl M.length)} (h : idx ys = List.range M.length) : vals M ys = M := by
 have e : vals M ys = (idx ys).map (fun i => Op.cf M i) := by unfold vals idx; rw [List.map_map]; rfl
 rw [e, h]
 apply Op.ext_cf
 ·simp
 ·intro i
  by_cases hi : i < M.length
  ·rw [← Op.cf_at]; simp [hi]
  ·rw [Op.cf_out (by simp; omega), Op.cf_out (by omega)]
end Oj
namespace Go.Proofs.YtlfiakpmnkhcdaaGreat.Mo
open Go.RowKit Go.Shelf
set_option linter.unusedVariables false
attribute [local go_sem] Oper.semAt_some
theorem gr_from {B : Nat} {W W' : World} (h : Gr W W') : KeepsFrom B W W' := ⟨h.size, fun k o _ hk _ => (h.block k (Array.getElem?_eq_some_iff.1 hk).1).trans hk⟩
theorem boxed_gr {W W' : World} {B : Nat} {t : TypeId} {v : Value} (h : Boxed W B t v) (hg : Gr W W') : Boxed W' B t v := (hg.block B h.lt).trans h
theorem boxed_kept {W W' : World} {row : Option Nat} {B : Nat} {t : TypeId} {v : Value} (h : Boxed W B t v) (hg : W.grownBy W' row) (hrow : ∀ l, row = some l → ∃ o, W.heap[l]? = some o ∧ o.isCells = false) : Boxed W' B t v :=
 h.kept hg (fun e => by obtain ⟨o, ho, hc⟩ := hrow B e.symm; rw [show W.heap[B]? = _ from h] at ho; cases ho; cases hc)
theorem mods_u32 {ch : List Int} {S : Int} {lv : Nat} {sp : Bool} (h : U32 ch) (hS : 0 ≤ S ∧ S < 4294967296) : U32 (Oj.mods ch S lv sp) := by
 unfold Oj.mods
 cases sp with
 | false => exact (h.take lv).app U32.nil
 | true => exact (h.take lv).app (U32.one hS)
theorem wpListIn_app {F : Fence} {n : Nat} {ops : Array Oper} {rest : List Oper} {o : Oper} {a : Act} {w : World} {Q : Exit → Act → World → Prop} (hgd : o.guard = none) (s x : Operand)
  (ho : o.op = .call { callee := .builtin .append, args := #[s, x], argTypes := #[23, 23] }) (hty : o.type = 23)
  (base : Nat) (v : Value) (l0 : List Int) (hs : a.eval s = v) (hown : Own1 w base v l0) (u : Value) (m : List Int) (hx : a.eval x = u) (hu : HasP w u m) (hlen : l0.length + m.length ≤ 1000000) (hbase : base ≤ w.heap.size)
  (h : ∀ v' w', Own1 w' base v' (l0 ++ m) → w.grownBy w' v.ownBlock → wpListIn F n Tryz.prog ops Q rest (a.put o.dst v') w') : wpListIn F n Tryz.prog ops Q (o :: rest) a w := by
 refine wpListIn_plain hgd fun K hK => ?_
 obtain ⟨v', w', hr, h2, h3⟩ := run_app w base v l0 hown u m hu hlen hbase
 unfold Oper.wpIn
 refine ⟨?_, ?_⟩
 ·simp [Oper.about, ho, resolve, Target.leads, Sem.run_pure]
 ·rw [Oper.semAt_plain F _ _ (by rw [ho]; intro c hc'; cases hc')]
  simp only [execOp, ho, hty, resolve, invoke, builtin, Sem.run_bind, Sem.run_pure, Result.andThen_ok, List.map_toArray, List.map_cons, List.map_nil, hs, hx, hr]
  exact hK _ _ (h v' w' h2 h3)
theorem keeps_grown {B : Nat} {W W' : World} {row : Option Nat} (hg : W.grownBy W' row) (hr : ∀ r, row = some r → ∃ o : Obj, W.heap[r]? = some o ∧ o.isCells = true) : KeepsFrom B W W' :=
 ⟨hg.size, fun k o _ hk ho => (hg.block k (Array.getElem?_eq_some_iff.1 hk).1 (fun e => by
  obtain ⟨o', h1, h2⟩ := hr k e.symm
  rw [hk] at h1; cases h1; rw [ho] at h2; cases h2)).trans hk⟩
theorem row_cells {W : World} {base : Nat} {e : TypeId} {size n : Nat} {v : Value} {xs : List Value} (h : W.ownsRow base e size v n xs) : ∀ r, v.ownBlock = some r → ∃ o : Obj, W.heap[r]? = some o ∧ o.isCells = true := fun r hr => by
 rcases h.2 with ⟨rfl, _⟩ | ⟨g, cap, cur, rfl, _, hg, _⟩
 ·simp [Value.ownBlock] at hr
 ·simp [Value.ownBlock] at hr
  subst hr
  exact ⟨_, hg, rfl⟩
theorem Own1.kept {W W' : World} {base : Nat} {v : Value} {l : List Int} {row : Option Nat} (h : Own1 W base v l) (hg : W.grownBy W' row) (hr : ∀ r, row = some r → r < base ∨ ∃ o : Obj, W.heap[r]? = some o ∧ o.isCells = false) : Own1 W' base v l := by
 refine ⟨h.1, h.2.kept hg ?_⟩
 cases hv : v.ownBlock with
 | none => exact .inl rfl
 | some k =>
  refine .inr fun e => ?_
  rcases hr k e.symm with h1 | ⟨o, h1, h2⟩
  ·have := (h.2.lt k hv).1; omega
  ·obtain ⟨o', h3, h4⟩ := row_cells h.2 k hv
   rw [h1] at h3; cases h3; rw [h4] at h2; cases h2
theorem MI.above {B : Nat} {xC : Option Addr} {nC cC : Nat} {S : Int} {lv : Nat} {sp : Bool} {ch : List Int} {W : World} (h : MI B xC nC cC S lv sp ch W) (hl : 1 ≤ ch.length) : B + 3 ≤ W.heap.size ∧ ∀ p, (Value.slice xC nC cC).ownBlock = some p → p < W.heap.size :=
 ⟨by have := World.block_lt_of_cell? W _ h.cs; simp at this; omega, fun p hp => h.hp.lt hl p hp⟩
set_option maxRecDepth 100000 in
set_option maxHeartbeats 2000000 in
theorem appendSeq_any (B : Nat) (xC : Option Addr) (nC cC : Nat) (S : Int) (lv : Nat) (sp : Bool) (ch : List Int) (w : World) (h1 : 1 ≤ lv) (h2 : lv ≤ ch.length) (h3 : ch.length ≤ 1000) (hS : 0 ≤ S ∧ S < 4294967296) (hm : MI B xC nC cC S lv sp ch w) :
  Calls Tryz.prog 102 #[.slice none 0 0, .func (.func 103) #[] #[.pointer (some ⟨B, 0, none⟩), .pointer (some ⟨B + 1, 0, none⟩), .pointer (some ⟨B + 2, 0, none⟩)]] w (NewP (Oj.mods ch S lv sp) w) := by
 have hML := Oj.mods_len (S := S) (sp := sp) h2
 have hMl : (Oj.mods ch S lv sp).length ≤ 1001 := by rw [hML]; split <;> omega
 have hMU := mods_u32 (lv := lv) (sp := sp) hm.hp.1 hS
 have HM := Lib.hid hm
 have HMU := Lib.hid hMU
 have HML := Lib.hid hMl
 have HAB := Lib.hid (hm.above (by omega))
 have HM1 := Lib.hid (hm.gr (Gr.new w (.cells #[.slice none 0 0] 23)))
 clear hm hML hMU hMl
 obtain ⟨M, hMM⟩ : ∃ M, M = Oj.mods ch S lv sp := ⟨_, rfl⟩
 refine (callsIn_wide (n := 9)).1 ?_
 refine callsIn_of_wp_marks Tryz.func102 rfl trivial ?_ rfl
 simp only [Tryz.ntmps102, List.size_toArray, List.length_cons, List.length_nil, Nat.reduceAdd, Nat.reduceSub, Array.replicate_succ, Array.replicate_zero, List.push_toArray, List.append_toArray, List.nil_append, List.cons_append]
 gi_wp2
 refine wpIn_rangeFunc_ownG rfl (by omega) (gf := 103) (lb := #[.pointer (some ⟨B, 0, none⟩), .pointer (some ⟨B + 1, 0, none⟩), .pointer (some ⟨B + 2, 0, none⟩)]) rfl trivial (enters_of Tryz.func103 (by kernel_rfl) rfl)
  (moduli_stops (9 - 1) (by omega) B xC nC cC S lv sp ch h1 h2 _ HM1.out) (fun h k m => k (h m)) (fun W l o o' hl ho hc _ m => m.kept (grownBy_putObj' W l o') (fun r e => by cases e; exact ⟨o, ho, hc⟩)) (Below.refl _ _) (fun _ => rfl)
  (fun pre W => (∃ v, Boxed W w.heap.size 23 v ∧ Own1 W (w.heap.size + 1) v (Oj.vals _ pre)) ∧ Below w.heap.size w W)
  (fun c pre W => False)
  (OwnFrom.and (Own.from (fun s X Y row h hg hr => by
   obtain ⟨v, k1, k2⟩ := h
   exact ⟨v, boxed_kept k1 hg hr, k2.kept hg (fun r e => .inr (hr r e))⟩) _) (ownFrom_below (Nat.le_refl _) (by simp)))
  (fun c s X Y row h hg hr => h)
  ⟨⟨_, Boxed.new w _ _, Own1.nil _ _⟩, (Gr.new w _)⟩
  (fun x => { tmps := #[.slice none 0 0, .func (.func 103) #[] #[.pointer (some ⟨B, 0, none⟩), .pointer (some ⟨B + 1, 0, none⟩), .pointer (some ⟨B + 2, 0, none⟩)], .pointer (some ⟨w.heap.size, 0, none⟩), undef, .slice none 0 0, .int .u32 (Op.cf (Oj.mods ch S lv sp) x.1), .func (.func 103) #[] #[.pointer (some ⟨B, 0, none⟩), .pointer (some ⟨B + 1, 0, none⟩), .pointer (some ⟨B + 2, 0, none⟩)], .int .u32 (Op.cf (Oj.mods ch S lv sp) x.1), undef, undef, undef, undef, undef], defers := [] }) ?assign ?body ?done ?stop
 case assign =>
  intro l x W K hK
  gi_wp2
  exact hK
 case stop =>
  intro D c pre W hD _ h hK
  exact h.elim
 case body =>
  rintro l pre x W ⟨⟨v, hbx, hown⟩, hb⟩ hlt
  have hcl := hbx.cell
  obtain ⟨av, cv, hv, -, -⟩ := hown.form
  rw [Oj.vals_len] at hv
  subst hv
  have HBX := Lib.hid hbx
  have HOW := Lib.hid hown
  have HBL := Lib.hid hb
  have hsz := Below.size hb
  obtain ⟨z, hz⟩ : ∃ z, z = Op.cf (Oj.mods ch S lv sp) x.1 := ⟨_, rfl⟩
  have hzb := HMU.out.at_ x.1
  rw [← hz] at hzb
  rw [← hz]
  have HZ := Lib.hid hz
  have HON := Lib.hid (show HasP (W.alloc (.cells #[.int .u32 z] 22)) (.slice (some ⟨W.heap.size, 0, none⟩) 1 1) [z] from one_hasP' W z _ rfl hzb)
  have HLN := Lib.hid (show (Oj.vals _ pre).length + ([z] : List Int).length ≤ 1000000 from by rw [Oj.vals_len]; have := HML.out; simp; omega)
  have HOA := Lib.hid (HOW.out.alloc (.cells #[.int .u32 z] 22))
  have HBS := Lib.hid (show w.heap.size + 1 ≤ (W.alloc (.cells #[.int .u32 z] 22)).heap.size from by have := HBX.out.lt; simp; omega)
  clear hz hbx hown hb
  gi_wp2_with (gi_at_builtin; refine wpListIn_app rfl (.tmp 8) (.tmp 10) rfl rfl (w.heap.size + 1) _ _ rfl HOA.out _ [z] rfl HON.out HLN.out HBS.out ?_; intro v' w1 hown' hgrow; have HO1 := Lib.hid hown'; have HGR := Lib.hid hgrow; have hb1 : Boxed w1 w.heap.size 23 (.slice av pre.length cv) := (HBX.out.alloc _).kept hgrow (fun e => by have := (HOA.out.2.lt _ e.symm).1; omega); have hc1 := hb1.cell; have hf1 := hb1.frozen; have HB1 := Lib.hid hb1; obtain ⟨a', c', hv', -, -⟩ := hown'.form; rw [List.length_append, show ([z] : List Int).length = 1 from rfl] at hv'; subst hv'; clear hown' hgrow hb1)
  have g0 := World.grownBy_alloc W (.cells #[.int .u32 z] 22) none
  have hk : ∀ k, KeepsFrom k W w1 := fun k => KeepsFrom.trans (gr_from (Gr.new W _)) (keeps_grown HGR.out (row_cells HOA.out.2))
  have hmi1 : MI B xC nC cC S lv sp ch W → MI B xC nC cC S lv sp ch w1 := fun hm => (hm.gr (Gr.new W _)).row HGR.out (fun r e => by
   have h5 := (HOA.out.2.lt r e).1
   have h6 := HAB.out
   exact ⟨.inr (by omega), fun p hp => by have := h6.2 p hp; omega⟩)
  refine ⟨(hk _).trans ((KeepsOthers.setCell w1 _ _).from _), fun hm => (hmi1 hm).row (grown_cell w1 w.heap.size 0 _) (fun r e => by
   cases e
   have h6 := HAB.out
   exact ⟨.inr h6.1, fun p hp => by have := h6.2 p hp; omega⟩), ⟨_, HB1.out.set _, ?_⟩, ?_⟩
  ·rw [Oj.vals_snoc, ← HZ.out]
   exact HO1.out.kept (grown_cell w1 w.heap.size 0 _) (fun r e => by cases e; exact .inl (by omega))
  ·exact Gr.setCell (grown_own (show Gr w (W.alloc (.cells #[.int .u32 z] 22)) from Gr.alloc HBL.out _) HOA.out HGR.out (by omega)) (p := ⟨w.heap.size, 0, none⟩) (Nat.le_refl _) _
 case done =>
  rintro D ys W hD hall ⟨⟨v, hbx, hown⟩, hb⟩ hK
  have hcl := hbx.cell
  have HOW := Lib.hid hown
  have HBL := Lib.hid hb
  have HALL := Lib.hid (Oj.vals_all hall)
  clear hown hb hall
  gi_wp2
  refine ⟨by simp, .inl ⟨_, _, rfl, run_takeDeferred hK, ?_⟩⟩
  have ho := HOW.out
  rw [HALL.out] at ho
  have ho2 := ho.kept (grownBy_putObj' W D (.deferred none)) (fun r e => by cases e; exact .inr ⟨_, hK, rfl⟩)
  have hg2 : Gr w (W.putObj D (.deferred none)) := HBL.out.trans (belowK_b (w := w) (Nat.le_refl _) W D _ _ (by simp at hD; omega) hK rfl rfl)
  obtain ⟨a', c', rfl, -, -⟩ := ho2.form
  exact ⟨_, results_tmp rfl _ _ _, a', _, c', rfl, ho2.hasP, fun p hp => Nat.le_trans (Nat.le_succ _) (ho2.fresh rfl p hp), hg2⟩
set_option maxRecDepth 100000 in
set_option maxHeartbeats 1000000 in
theorem collect_any (B : Nat) (xC : Option Addr) (nC cC : Nat) (S : Int) (lv : Nat) (sp : Bool) (ch : List Int) (w : World) (h1 : 1 ≤ lv) (h2 : lv ≤ ch.length) (h3 : ch.length ≤ 1000) (hS : 0 ≤ S ∧ S < 4294967296) (hm : MI B xC nC cC S lv sp ch w) :
  Calls Tryz.prog 75 #[.func (.func 103) #[] #[.pointer (some ⟨B, 0, none⟩), .pointer (some ⟨B + 1, 0, none⟩), .pointer (some ⟨B + 2, 0, none⟩)]] w (NewP (Oj.mods ch S lv sp) w) := by
 have H := Lib.hid (appendSeq_any B xC nC cC S lv sp ch w h1 h2 h3 hS hm)
 clear hm h1 h2 h3
 go_enter Tryz.func75, Tryz.ntmps75
 go_wp2_with fail
 refine H.out.mono ?_
 rintro e w1 ⟨a, n, c, rfl, hp, hf, hg⟩
 have HP := Lib.hid hp
 have HF := Lib.hid hf
 have HG := Lib.hid hg
 clear hp hf hg
 go_wp2_with fail
 go_ret
 exact ⟨a, n, c, rfl, HP.out, HF.out, HG.out⟩
end Go.Proofs.YtlfiakpmnkhcdaaGreat.Mo
