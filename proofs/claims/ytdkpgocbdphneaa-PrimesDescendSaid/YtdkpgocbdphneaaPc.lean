/- The iterators over candidates, and the first prime of them. -/
import Derived.Test.YtdkpgocbdphneaaPa
namespace Ob
set_option linter.unusedVariables false
/-- A number of 32 bits. -/
abbrev U32 := { x : Nat // x ≤ 4294967295 }
/-- The numbers that have come are these. -/
def Come (f : Nat → Nat) (pre : List U32) : Prop := ∀ i (h : i < pre.length), (pre[i]).1 = f i
theorem Come.nil (f : Nat → Nat) : Come f [] := fun i h => by simp at h
theorem Come.snoc {f : Nat → Nat} {pre : List U32} {x : U32} (h : Come f pre) (hx : x.1 = f pre.length) : Come f (pre ++ [x]) := fun i hi => by
  rw [List.getElem_append]
  split
  · exact h i _
  · have : i = pre.length := by simp at hi; omega
    subst this; simpa using hx
theorem Come.mem {f : Nat → Nat} {pre : List U32} (h : Come f pre) {i : Nat} (hi : i < pre.length) : ∃ x ∈ pre, x.1 = f i := ⟨pre[i], List.getElem_mem _, h i hi⟩
theorem Come.last {f : Nat → Nat} {pre : List U32} {x : U32} (h : Come f (pre ++ [x])) : x.1 = f pre.length := by
  have := h pre.length (by simp)
  simpa using this
theorem Come.init {f : Nat → Nat} {pre : List U32} {x : U32} (h : Come f (pre ++ [x])) : Come f pre := fun i hi => by
  have := h i (by simp; omega)
  rwa [List.getElem_append_left hi] at this
end Ob
namespace Go.Proofs.Ytdkpgocbdphneaa
open Go.RowKit Go.Shelf
set_option linter.unusedVariables false
attribute [local go_sem] Oper.semAt_some

/-- The two cells from B on are as they were. -/
def Two2 (B : Nat) (W W' : World) : Prop := W'.cell? ⟨B, 0, none⟩ = W.cell? ⟨B, 0, none⟩ ∧ W'.cell? ⟨B + 1, 0, none⟩ = W.cell? ⟨B + 1, 0, none⟩
theorem Two2.refl (B : Nat) (W : World) : Two2 B W W := ⟨rfl, rfl⟩
theorem Two2.trans {B : Nat} {X Y Z : World} (h : Two2 B X Y) (k : Two2 B Y Z) : Two2 B X Z := ⟨k.1.trans h.1, k.2.trans h.2⟩
theorem Two2.of_gr {B : Nat} {X Y : World} (h : Gr X Y) (hB : B + 1 < X.heap.size) : Two2 B X Y := ⟨h.cell (p := ⟨B, 0, none⟩) (by show B < _; omega), h.cell (p := ⟨B + 1, 0, none⟩) hB⟩
theorem Two2.put {B : Nat} {w : World} (hB : B + 1 < w.heap.size) (W : World) (l : Nat) (o o' : Obj) (hl : w.heap.size ≤ l) (h : W.heap[l]? = some o) (_ : o.isCells = false) (_ : o.isWalk = false) : Two2 B W (W.putObj l o') := by
  have hg := grownBy_putObj' W l o'
  have h1 : ∀ k, k < w.heap.size → (W.putObj l o').heap[k]? = W.heap[k]? := fun k hk => World.putObj_heap_other (by omega)
  exact ⟨World.cell?_of_block (w := W) (h1 B (by omega)), World.cell?_of_block (w := W) (h1 (B + 1) hB)⟩

theorem falling_any (l s : Int) (w : World) : Calls Try.prog 22 #[.int .u32 l, .int .u64 s] w fun e w' => e = .returned (.func (.func 31) #[] #[.pointer (some ⟨w.heap.size, 0, none⟩), .pointer (some ⟨w.heap.size + 1, 0, none⟩)]) ∧ (w.alloc (.cells #[.int .u32 l] 22)).alloc (.cells #[.int .u64 s] 35) = w' := by
  go_enter Try.func22, Try.ntmps22
  go_wp2_with fail
  go_ret
  exact ⟨rfl, rfl⟩
theorem rising_any (l s : Int) (w : World) : Calls Try.prog 23 #[.int .u32 l, .int .u64 s] w fun e w' => e = .returned (.func (.func 32) #[] #[.pointer (some ⟨w.heap.size, 0, none⟩), .pointer (some ⟨w.heap.size + 1, 0, none⟩)]) ∧ (w.alloc (.cells #[.int .u32 l] 22)).alloc (.cells #[.int .u64 s] 35) = w' := by
  go_enter Try.func23, Try.ntmps23
  go_wp2_with fail
  go_ret
  exact ⟨rfl, rfl⟩

/-- How many candidates there are below a limit. -/
def fallK (l s : Nat) : Nat := (l - 2) / s
def fallF (l s i : Nat) : Nat := (fallK l s - i) * s + 1
/-- What has come of the falling candidates: a part, or all. -/
def FallSome (l s : Nat) (pre : List Ob.U32) : Prop := pre.length ≤ fallK l s ∧ Ob.Come (fallF l s) pre
def FallAll (l s : Nat) (pre : List Ob.U32) : Prop := pre.length = fallK l s ∧ Ob.Come (fallF l s) pre

set_option maxRecDepth 100000 in
set_option maxHeartbeats 1000000 in
theorem falling1_in (n : Nat) (hn : 1 ≤ n) (lim s : Nat) (hl : lim ≤ 2147483648) (hs : 1 ≤ s) (l B : Nat) (J Jx : List Ob.U32 → World → Prop)
    (hY : ∀ pre (x : Ob.U32) W, J pre W → pre.length < 2147483648 → YieldAt Fence.wide (n - 1) Try.prog l #[.int .u32 (x.1 : Nat)] W fun e W' =>
      (e = .returned (.bool true) ∧ J (pre ++ [x]) W' ∧ Two2 B W W') ∨ (e = .returned (.bool false) ∧ Jx (pre ++ [x]) W'))
    (W : World) (c1 : W.cell? ⟨B, 0, none⟩ = some (.int .u32 (lim : Nat))) (c2 : W.cell? ⟨B + 1, 0, none⟩ = some (.int .u64 (s : Nat))) (h0 : J [] W) :
    CallsIn Fence.wide n Try.prog 31 #[.func (.yield l) #[] #[], .pointer (some ⟨B, 0, none⟩), .pointer (some ⟨B + 1, 0, none⟩)] W fun e W' => (∃ v, e = .returned v) ∧
      ((∃ ys, FallAll lim s ys ∧ J ys W') ∨ (∃ pre, FallSome lim s pre ∧ Jx pre W')) := by
  have HY := Lib.hid hY
  clear hY
  by_cases h2 : lim < 2
  · refine callsIn_of_wp Try.func31 rfl trivial ?_ rfl
    simp only [Try.ntmps31, List.size_toArray, List.length_cons, List.length_nil, Nat.reduceAdd, Nat.reduceSub, Array.replicate_succ, Array.replicate_zero, List.push_toArray, List.append_toArray, List.nil_append, List.cons_append]
    gi_wp2
    refine bodyPost_ret (results_none rfl _ _ _) rfl ?_
    refine ⟨⟨_, rfl⟩, .inl ⟨[], ⟨?_, Ob.Come.nil _⟩, h0⟩⟩
    unfold fallK; rw [show lim - 2 = 0 by omega, Nat.zero_div]; rfl
  have hl2 : (lim : Int) - 2 = ((lim - 2 : Nat) : Int) := by omega
  have d0 : 0 ≤ ((lim : Int) - 2) / (s : Int) := Int.ediv_nonneg (by omega) (by omega)
  have d1 : ((lim : Int) - 2) / (s : Int) ≤ 18446744073709551615 := by rw [hl2, ← Int.natCast_ediv]; have := Nat.div_le_self (lim - 2) s; omega
  have hK : ((lim : Int) - 2) / (s : Int) = ((fallK lim s : Nat) : Int) := by rw [hl2, ← Int.natCast_ediv]; rfl
  have HK := Lib.hid hK
  clear hl2 hK
  refine callsIn_of_wp Try.func31 rfl trivial ?_ rfl
  simp only [Try.ntmps31, List.size_toArray, List.length_cons, List.length_nil, Nat.reduceAdd, Nat.reduceSub, Array.replicate_succ, Array.replicate_zero, List.push_toArray, List.append_toArray, List.nil_append, List.cons_append]
  gi_wp2
  clear d0 d1
  gi_loopw [4] (fun t wr => ∃ (k : Nat) (pre : List Ob.U32), t = .int .u64 k ∧ pre.length + k = fallK lim s ∧ Ob.Come (fallF lim s) pre ∧ J pre wr ∧ wr.cell? ⟨B, 0, none⟩ = some (.int .u32 (lim : Nat)) ∧ wr.cell? ⟨B + 1, 0, none⟩ = some (.int .u64 (s : Nat))) (fun t _ => (intOf t).toNat)
  case atStart => exact ⟨fallK lim s, [], by rw [HK.out], by simp, Ob.Come.nil _, h0, c1, c2⟩
  case round =>
    clear c1 c2
    obtain ⟨k, pre, rfl, hlen, hcome, hJ, c1, c2⟩ := hrel
    have hkK : k ≤ (lim - 2) / s := by unfold fallK at hlen; omega
    have hks := Ob.mul_lt_of_div hs hkK
    have HC := Lib.hid hcome
    by_cases h0 : 0 < k
    · have p0 : (0 : Int) ≤ (k : Int) * s := by rw [← Int.natCast_mul]; omega
      have p1 : (k : Int) * s ≤ 2147483646 := by rw [← Int.natCast_mul]; omega
      obtain ⟨v, hv⟩ : ∃ v, v = k * s + 1 := ⟨_, rfl⟩
      have hvi : (k : Int) * s + 1 = (v : Int) := by rw [hv, ← Int.natCast_mul]; omega
      have hvf : v = fallF lim s pre.length := by unfold fallF; rw [← hlen, Nat.add_sub_cancel_left]; exact hv
      have hkk : k ≤ 2147483646 := by have : k * 1 ≤ k * s := Nat.mul_le_mul_left k hs; omega
      have hpl : pre.length < 2147483648 := by
        have := Nat.div_le_self (lim - 2) s
        unfold fallK at hlen; omega
      obtain ⟨x, hx⟩ : ∃ x : Ob.U32, x.1 = v := ⟨⟨v, by omega⟩, rfl⟩
      obtain ⟨fn, tmps, assign, body, hy, hR⟩ := HY.out pre x wr hJ hpl
      rw [hx, ← hvi] at hy
      have HV := Lib.hid hvi
      have HVF := Lib.hid hvf
      have HX := Lib.hid hx
      have HLEN := Lib.hid hlen
      clear hv hvi hvf hks hkK hpl hlen hcome hx
      gi_wp2
      refine hR.mono ?_
      rintro e W4 (⟨rfl, hJ4, hk4⟩ | ⟨rfl, hJx4⟩)
      · clear hR hy
        have c3 := hk4.1.trans c1
        have c4 := hk4.2.trans c2
        gi_wp2
        go_roundw
        case rel => exact ⟨k - 1, _, congrArg _ (by omega), by have := HLEN.out; simp; omega, HC.out.snoc (by rw [HX.out, HVF.out]), hJ4, c3, c4⟩
        case measure => simp [intOf]; omega
      · gi_wp2
        refine bodyPost_ret (results_none rfl _ _ _) rfl ?_
        exact ⟨⟨_, rfl⟩, .inr ⟨_, ⟨by have := HLEN.out; simp; omega, HC.out.snoc (by rw [HX.out, HVF.out])⟩, hJx4⟩⟩
    · obtain rfl : k = 0 := by omega
      clear hks hkK
      have HLEN := Lib.hid hlen
      clear hlen hcome
      gi_wp2
      go_end0
      exact ⟨⟨_, rfl⟩, .inl ⟨pre, ⟨HLEN.out, HC.out⟩, hJ⟩⟩
end Go.Proofs.Ytdkpgocbdphneaa
