/- The blocks of a string, of the program: an iterator. -/
import Derived.RangeFuncNested
import Derived.RangeFuncBound
import Derived.RangeFuncCalls
import Derived.RangeFuncLeaves
import Derived.RangeFuncBox
import Derived.Shelf.Abstract
import Derived.Shelf.RegionOpen
import Derived.OwnWalkIn
import Derived.TacticsInMore
import Derived.LoopNIn
import Derived.LoopIn
import Derived.Maps.AppendAt
import Derived.Test.YtblaimkcdhcclaaDoorWv
namespace Go.Proofs.YtblaimkcdhcclaaDoor
open Go.RowKit Go.Shelf Oz
set_option linter.unusedVariables false
set_option linter.unusedSimpArgs false
attribute [local go_sem] Oper.semAt_some
/-- Cell B is as it was. -/
def One (B : Nat) (W W' : World) : Prop := W'.cell? ⟨B, 0, none⟩ = W.cell? ⟨B, 0, none⟩
theorem One.trans {B : Nat} {X Y Z : World} (h : One B X Y) (k : One B Y Z) : One B X Z := Eq.trans k h
theorem One.of_gr {B : Nat} {X Y : World} (h : Gr X Y) (hB : B < X.heap.size) : One B X Y := h.cell (p := ⟨B, 0, none⟩) hB
theorem One.put {B : Nat} {w : World} (hB : B < w.heap.size) (W : World) (l : Nat) (o o' : Obj) (hl : w.heap.size ≤ l) (h : W.heap[l]? = some o) (_ : o.isCells = false) (_ : o.isWalk = false) : One B W (W.putObj l o') :=
  World.cell?_of_block (w := W) (World.putObj_heap_other (by show B ≠ l; omega))
theorem blocks_any (s : ByteArray) (w : World) : Calls Tryd.prog 32 #[.string s] w fun e w' => e = .returned (.func (.func 37) #[] #[.pointer (some ⟨w.heap.size, 0, none⟩)]) ∧ w.alloc (.cells #[.string s] 9) = w' := by
  go_enter Tryd.func32, Tryd.ntmps32
  go_wp2_with fail
  go_ret
  exact ⟨rfl, rfl⟩
/-- The words that come, all of them. -/
def all (s : ByteArray) : List (BitVec 64) := wds s.data.toList (s.size / 8 + 1)
set_option maxRecDepth 100000 in
set_option maxHeartbeats 4000000 in
theorem blocks1_in (n : Nat) (hn : 1 ≤ n) (s : ByteArray) (hs : s.size ≤ 400000) (l B : Nat) (J Jx : List (BitVec 64) → World → Prop)
    (hY : ∀ pre (x : BitVec 64) W, J pre W → pre.length < 1000000 → YieldAt Fence.wide (n - 1) Tryd.prog l #[.int .u64 (nv x)] W fun e W' =>
      (e = .returned (.bool true) ∧ J (pre ++ [x]) W' ∧ One B W W') ∨ (e = .returned (.bool false) ∧ Jx (pre ++ [x]) W'))
    (W : World) (c1 : W.cell? ⟨B, 0, none⟩ = some (.string s)) (h0 : J [] W) :
    CallsIn Fence.wide n Tryd.prog 37 #[.func (.yield l) #[] #[], .pointer (some ⟨B, 0, none⟩)] W fun e W' => (∃ v, e = .returned v) ∧
      ((∃ ys, ys = all s ∧ J ys W') ∨ (∃ pre, True ∧ Jx pre W')) := by
  have HY := Lib.hid hY
  obtain ⟨J0, hJ0⟩ : ∃ J0, J0 = s.size / 8 := ⟨_, rfl⟩
  obtain ⟨F, hF⟩ : ∃ F, F = J0 * 8 := ⟨_, rfl⟩
  have hdv : (s.size : Int) / 8 = (J0 : Int) := by omega
  have hml : (J0 : Int) * 8 = (F : Int) := by omega
  have hJb : (J0 : Int) ≤ 50000 := by omega
  have hsi : (s.size : Int) ≤ 400000 := by omega
  have HF := Lib.hid (And.intro hF hJ0)
  have HS := Lib.hid hs
  clear hY hF hJ0 hs
  refine callsIn_of_wp Tryd.func37 rfl trivial ?_ rfl
  simp only [Tryd.ntmps37, List.size_toArray, List.length_cons, List.length_nil, Nat.reduceAdd, Nat.reduceSub, Array.replicate_succ, Array.replicate_zero, List.push_toArray, List.append_toArray, List.nil_append, List.cons_append]
  gi_wp2
  clear hdv hml hJb
  gi_loopw [4] (fun t wr => ∃ j : Nat, t = .int .i64 ((8 * j : Nat) : Int) ∧ j ≤ J0 ∧ J (wds s.data.toList j) wr ∧ wr.cell? ⟨B, 0, none⟩ = some (.string s)) (fun t _ => F - (intOf t).toNat)
  case atStart => exact ⟨0, rfl, by omega, h0, c1⟩
  case round =>
    clear c1
    obtain ⟨j, rfl, hj, hJ, c1⟩ := hrel
    obtain ⟨i, hi⟩ : ∃ i, i = 8 * j := ⟨_, rfl⟩
    rw [← hi]
    have HI := Lib.hid hi
    have HJ := Lib.hid hJ
    have hcase : j < J0 ∨ ¬ j < J0 := Classical.em _
    rcases hcase with hc | hc
    · have hiF : (i : Int) < (F : Int) := by have := HF.out.1; omega
      have hib : i + 8 ≤ s.size := by have := HF.out.2; omega
      have hi8 : (i : Int) + 8 ≤ (s.size : Int) := by omega
      have hsl : ∀ (w : World), (Instr.slice 9 (.string s) (some (.int .i64 (i : Nat))) (some (.int .i64 ((i : Int) + 8))) none).run Tryd.prog w = .ok (.string (s.extract i (i + 8))) w := fun w => by
        rw [run_slice_string_if (P := Tryd.prog) w 9 s .i64 .i64 (i : Int) ((i : Int) + 8) Tryd.underlying9, if_pos ⟨by omega, hi8⟩, if_pos ⟨by omega, by omega⟩]
        rfl
      have HW := Lib.hid (fun w => by have := word_any (s.extract i (i + 8)) (by rw [ByteArray.size_extract]; omega) w; rw [wk_mid s i hib, hi] at this; exact this)
      obtain ⟨u, hu⟩ : ∃ u, u = s.extract i (i + 8) := ⟨_, rfl⟩
      rw [← hi, ← hu] at HW
      rw [← hu] at hsl
      obtain ⟨x, hx⟩ : ∃ x, x = wk (pad s.data.toList) i 8 := ⟨_, rfl⟩
      rw [← hx] at HW
      have HX := Lib.hid (show wds s.data.toList (j + 1) = wds s.data.toList j ++ [x] from by rw [hx, hi]; rfl)
      have HLJ := Lib.hid (show (wds s.data.toList j).length < 1000000 from by rw [wds_len]; have := HS.out; have := HF.out.2; omega)
      obtain ⟨fn, tmps, assign, body, hy, hR⟩ := HY.out _ x wr HJ.out HLJ.out
      clear hi hib hJ hu hx hc
      gi_wp2_with (first | (refine ⟨trivial, ?_⟩; gi_at_call 38; refine (callsIn_wide.2 (HW.out _)).mono ?_; rintro e w5 ⟨rfl, rfl⟩))
      refine hR.mono ?_
      rintro e W4 (⟨rfl, hJ4, hk4⟩ | ⟨rfl, hJx4⟩)
      · clear hR hy
        have c3 := Eq.trans hk4 c1
        gi_wp2
        go_roundw
        case rel => exact ⟨j + 1, by have := HI.out; simp; omega, by have := HF.out.1; have := HI.out; omega, by rw [HX.out]; exact hJ4, c3⟩
        case measure => simp [intOf]; omega
      · gi_wp2
        refine bodyPost_ret (results_none rfl _ _ _) rfl ?_
        exact ⟨⟨_, rfl⟩, .inr ⟨_, trivial, hJx4⟩⟩
    · obtain rfl : j = J0 := by omega
      have hiF : ¬ (i : Int) < (F : Int) := by have := HF.out.1; omega
      have hfs : F ≤ s.size := by have := HF.out; omega
      have hF1 : (F : Int) ≤ (s.size : Int) := by omega
      have hsl : ∀ (w : World), (Instr.slice 9 (.string s) (some (.int .i64 (F : Nat))) none none).run Tryd.prog w = .ok (.string (s.extract F s.size)) w := fun w => by
        rw [run_slice_string_from_if (P := Tryd.prog) w 9 s .i64 (F : Int) Tryd.underlying9, if_pos ⟨by omega, hF1⟩]
        rfl
      have hre : (s.extract F s.size).size = s.size - F := by rw [ByteArray.size_extract]; omega
      obtain ⟨r, hr⟩ : ∃ r, r = s.size - F := ⟨_, rfl⟩
      have hr8 : r < 8 := by have := HF.out; omega
      have hpd : ∀ (w : World), (Instr.slice 9 (.string ⟨#[128, 0, 0, 0, 0, 0, 0, 0]⟩) none (some (.int .i64 (8 - (r : Int)))) none).run Tryd.prog w = .ok (.string (padS.extract 0 (8 - r))) w := fun w => by
        rw [run_slice_string_to_if (P := Tryd.prog) w 9 ⟨#[128, 0, 0, 0, 0, 0, 0, 0]⟩ .i64 (8 - (r : Int)) Tryd.underlying9, if_pos ⟨by omega, by show 8 - (r : Int) ≤ ((8 : Nat) : Int); omega⟩]
        rw [show (8 - (r : Int)).toNat = 8 - r from by omega]
        rfl
      have hpe : (padS.extract 0 (8 - r)).size = 8 - r := by rw [ByteArray.size_extract]; show min (8 - r) 8 - 0 = 8 - r; omega
      have hcat : ∀ (w : World), (Op.stringOp .add (s.extract F s.size) (padS.extract 0 (8 - r))).run Tryd.prog w = .ok (.string (s.extract F s.size ++ padS.extract 0 (8 - r))) w := fun w => run_string_add_sum (P := Tryd.prog) w _ _ (by rw [hre, hpe]; omega)
      have HW := Lib.hid (fun w => by have := word_any (s.extract F s.size ++ padS.extract 0 (8 - r)) (by rw [ByteArray.size_append, hre, hpe]; omega) w; rw [hr, wk_end s F (by rw [HF.out.1, ← HF.out.2])] at this; rw [← hr] at this; exact this)
      rw [← hr] at hre
      obtain ⟨u, hu⟩ : ∃ u, u = s.extract F s.size := ⟨_, rfl⟩
      rw [← hu] at hsl hre hcat HW
      obtain ⟨u2, hu2⟩ : ∃ u2, u2 = padS.extract 0 (8 - r) := ⟨_, rfl⟩
      rw [← hu2] at hpd hpe hcat HW
      obtain ⟨u3, hu3⟩ : ∃ u3, u3 = u ++ u2 := ⟨_, rfl⟩
      rw [← hu3] at hcat HW
      obtain ⟨x, hx⟩ : ∃ x, x = wk (pad s.data.toList) F 8 := ⟨_, rfl⟩
      rw [← hx] at HW
      have HX := Lib.hid (show all s = wds s.data.toList j ++ [x] from by rw [hx, all, HF.out.1, Nat.mul_comm, ← HF.out.2]; rfl)
      have HLJ := Lib.hid (show (wds s.data.toList j).length < 1000000 from by rw [wds_len]; have := HS.out; have := HF.out.2; omega)
      obtain ⟨fn, tmps, assign, body, hy, hR⟩ := HY.out _ x wr HJ.out HLJ.out
      have hui : (u.size : Int) = (r : Int) := by omega
      clear hi hJ hu hu2 hu3 hx hc hj hfs hre hr hpe
      gi_wp2_with (first | (refine ⟨trivial, ?_⟩; gi_at_call 38; refine (callsIn_wide.2 (HW.out _)).mono ?_; rintro e w5 ⟨rfl, rfl⟩))
      refine hR.mono ?_
      rintro e W4 (⟨rfl, hJ4, hk4⟩ | ⟨rfl, hJx4⟩)
      · clear hR hy
        gi_wp2
        go_end0
        exact ⟨⟨_, rfl⟩, .inl ⟨_, rfl, by rw [HX.out]; exact hJ4⟩⟩
      · clear hR hy
        gi_wp2
        go_end0
        exact ⟨⟨_, rfl⟩, .inr ⟨_, trivial, hJx4⟩⟩
theorem blocks_stops (s : ByteArray) (hs : s.size ≤ 400000) (B : Nat) (w : World) (hB : B < w.heap.size) (c1 : w.cell? ⟨B, 0, none⟩ = some (.string s)) :
    SeqStopsK Fence.wide (9 - 1) Tryd.prog 37 #[.pointer (some ⟨B, 0, none⟩)] (fun x : BitVec 64 => #[Value.int .u64 (nv x)]) (One B) (fun ys => ys = all s) (fun _ => True) 1000000 w :=
  fun l J Jx W hW _ _ hY h0 => blocks1_in (9 - 1) (by omega) s hs l B J Jx hY W ((hW.cell (p := ⟨B, 0, none⟩) hB).trans c1) h0
end Go.Proofs.YtblaimkcdhcclaaDoor
