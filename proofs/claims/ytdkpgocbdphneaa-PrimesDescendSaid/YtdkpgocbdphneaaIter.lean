/- The iterator over the divisors that Factors tries: 2 and the odd numbers up to 65535, or a beginning of them where the loop's body says 'no more'. -/
import Derived.RangeFuncNested
import Derived.RangeFuncBound
import Derived.RangeFuncCalls
import Derived.RangeFuncLeaves
import Derived.RangeFuncBox
import Derived.Shelf.Abstract
import Derived.Shelf.RegionOpen
import Derived.OwnWalkIn
import Derived.TacticsInMore
import Derived.LoopNIn
import Derived.LoopIn
import Derived.Maps.AppendAt
import Derived.Test.YtdkpgocbdphneaaPrime
import Derived.Test.YtdkpgocbdphneaaFz
namespace Go.Proofs.Ytdkpgocbdphneaa
open Go.RowKit Go.Shelf
set_option linter.unusedVariables false
attribute [local go_sem] Oper.semAt_some

/-- A number that may be tried. -/
abbrev Dv := { x : Nat // 2 ≤ x ∧ x ≤ 65535 }
/-- What has come, the last one first. -/
def came (pre : List Dv) : List Nat := (pre.map (·.1)).reverse
theorem came_snoc (pre : List Dv) (x : Dv) : came (pre ++ [x]) = x.1 :: came pre := by simp [came]
theorem came_nil : came [] = [] := rfl
/-- All of them. -/
def allTried : List Nat := Ob.tried 32767

set_option maxRecDepth 100000 in
set_option maxHeartbeats 1000000 in
theorem divisors1_in (n : Nat) (hn : 1 ≤ n) (l n₀ : Nat) (J Jx : List Dv → World → Prop)
    (hY : ∀ pre (x : Dv) W, J pre W → pre.length < 32768 → YieldAt Fence.wide (n - 1) Try.prog l #[.int .u32 (x.1 : Nat)] W fun e W' =>
      (e = .returned (.bool true) ∧ J (pre ++ [x]) W' ∧ Below n₀ W W') ∨ (e = .returned (.bool false) ∧ Jx (pre ++ [x]) W'))
    (W : World) (h0 : J [] W) :
    CallsIn Fence.wide n Try.prog 41 #[.func (.yield l) #[] #[]] W fun e W' => (∃ v, e = .returned v) ∧
      ((∃ ys, came ys = allTried ∧ J ys W') ∨ (∃ pre, (∃ m, m ≤ 32767 ∧ came pre = Ob.tried m) ∧ Jx pre W')) := by
  refine callsIn_of_wp Try.func41 rfl trivial ?_ rfl
  simp only [Try.ntmps41, List.size_toArray, List.length_cons, List.length_nil, Nat.reduceAdd, Nat.reduceSub, Array.replicate_succ, Array.replicate_zero, List.push_toArray, List.append_toArray, List.nil_append, List.cons_append]
  obtain ⟨fn, tmps, assign, body, hy, hR⟩ := hY [] ⟨2, by omega, by omega⟩ W h0 (by simp)
  have HY := Lib.hid hY
  clear hY
  dsimp only at hy
  rw [show ((2 : Nat) : Int) = 2 from rfl] at hy
  gi_wp2
  refine hR.mono ?_
  rintro e W3 (⟨rfl, hJ3, hk3⟩ | ⟨rfl, hJx3⟩)
  · clear hR hy
    gi_wp2
    gi_loopw [2] (fun d wr => ∃ (m : Nat) (pre : List Dv), d = .int .u32 (2 * (m : Int) + 3) ∧ m ≤ 32767 ∧ pre.length = m + 1 ∧ came pre = Ob.tried m ∧ J pre wr) (fun d _ => (70000 - intOf d).toNat)
    case atStart => exact ⟨0, _, rfl, by omega, rfl, rfl, hJ3⟩
    case round =>
      obtain ⟨m, pre, rfl, hm, hlen, hc, hJp⟩ := hrel
      have HL := Lib.hid hlen
      have HC := Lib.hid hc
      clear hlen hc
      by_cases hlt : m < 32767
      · obtain ⟨x, hx⟩ : ∃ x : Dv, x.1 = 2 * m + 3 := ⟨⟨2 * m + 3, by omega, by omega⟩, rfl⟩
        obtain ⟨fn, tmps, assign, body, hy, hR⟩ := HY.out pre x wr hJp (by rw [HL.out]; omega)
        rw [hx, show ((2 * m + 3 : Nat) : Int) = 2 * (m : Int) + 3 from by omega] at hy
        have HX := Lib.hid hx
        clear hx
        generalize hd : 2 * (m : Int) + 3 = d at hy ⊢
        have HD := Lib.hid hd
        have hd1 : d ≤ 65535 := by omega
        have hd0 : 0 ≤ d := by omega
        have HLT := Lib.hid hlt
        have HMM := Lib.hid hm
        clear hd hlt hm
        gi_wp2
        refine hR.mono ?_
        rintro e W4 (⟨rfl, hJ4, hk4⟩ | ⟨rfl, hJx4⟩)
        · clear hR hy
          gi_wp2
          go_roundw
          case rel => exact ⟨m + 1, _, by rw [← HD.out]; go_num, by have := HLT.out; omega, by simp [HL.out], by rw [came_snoc, HC.out, HX.out]; rfl, hJ4⟩
          case measure => have := HD.out; simp [intOf]; omega
        · gi_wp2
          refine bodyPost_ret (results_none rfl _ _ _) rfl ?_
          exact ⟨⟨_, rfl⟩, .inr ⟨_, ⟨m + 1, by have := HLT.out; omega, by rw [came_snoc, HC.out, HX.out]; rfl⟩, hJx4⟩⟩
      · have HM := Lib.hid (show m = 32767 by omega)
        have hd1 : ¬ 2 * (m : Int) + 3 ≤ 65535 := by omega
        generalize 2 * (m : Int) + 3 = d at hd1 ⊢
        clear hlt hm
        gi_wp2
        go_end0
        exact ⟨⟨_, rfl⟩, .inl ⟨pre, by rw [HC.out, HM.out]; rfl, hJp⟩⟩
  · gi_wp2
    refine bodyPost_ret (results_none rfl _ _ _) rfl ?_
    exact ⟨⟨_, rfl⟩, .inr ⟨_, ⟨0, by omega, rfl⟩, hJx3⟩⟩

theorem divisors_any (w : World) : Calls Try.prog 34 #[] w fun e w' => e = .returned (.func (.func 41) #[] #[]) ∧ w = w' := by
  go_enter Try.func34, Try.ntmps34
  go_wp2
  go_ret
  exact ⟨rfl, rfl⟩

theorem divisors_stops (n : Nat) (hn : 1 ≤ n) (n₀ : Nat) (w : World) :
    SeqStopsK Fence.wide n Try.prog 41 #[] (fun x : Dv => #[Value.int .u32 (x.1 : Nat)]) (Below n₀) (fun ys => came ys = allTried) (fun pre => ∃ m, m ≤ 32767 ∧ came pre = Ob.tried m) 32768 w :=
  fun l J Jx W _ _ _ hY h0 => divisors1_in n hn l n₀ J Jx hY W h0
end Go.Proofs.Ytdkpgocbdphneaa
