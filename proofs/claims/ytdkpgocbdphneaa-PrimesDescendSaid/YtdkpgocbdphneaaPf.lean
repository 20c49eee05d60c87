/- Below and Next of package primes. -/
import Derived.Test.YtdkpgocbdphneaaPd
namespace Go.Proofs.Ytdkpgocbdphneaa
open Go.RowKit Go.Shelf
set_option linter.unusedVariables false
attribute [local go_sem] Oper.semAt_some

theorem falling_stops (lim s : Nat) (hl : lim ≤ 2147483648) (hs : 1 ≤ s) (B : Nat) (w : World) (hB : B + 1 < w.heap.size) (c1 : w.cell? ⟨B, 0, none⟩ = some (.int .u32 (lim : Nat))) (c2 : w.cell? ⟨B + 1, 0, none⟩ = some (.int .u64 (s : Nat))) (w0 : World) (hw : Below w.heap.size w w0) :
    SeqStopsK Fence.wide (9 - 1) Try.prog 31 #[.pointer (some ⟨B, 0, none⟩), .pointer (some ⟨B + 1, 0, none⟩)] (fun x : Ob.U32 => #[Value.int .u32 (x.1 : Nat)]) (Two2 B) (FallAll lim s) (FallSome lim s) 2147483648 w0 :=
  fun l J Jx W hW _ _ hY h0 => falling1_in (9 - 1) (by omega) lim s hl hs l B J Jx hY W
    ((hW.cell (p := ⟨B, 0, none⟩) (by have := hw.size; show B < _; omega)).trans ((hw.cell (p := ⟨B, 0, none⟩) (by show B < _; omega)).trans c1))
    ((hW.cell (p := ⟨B + 1, 0, none⟩) (by have := hw.size; show B + 1 < _; omega)).trans ((hw.cell (p := ⟨B + 1, 0, none⟩) hB).trans c2)) h0

/-- The first of the rising candidates. -/
def riseK (a s : Nat) : Nat := (max a 2 - 2) / s + 1
def riseF (a s i : Nat) : Nat := (riseK a s + i) * s + 1
def RiseSome (a s : Nat) (pre : List Ob.U32) : Prop := (∀ i, i < pre.length → riseF a s i ≤ 2147483647) ∧ Ob.Come (riseF a s) pre
def RiseAll (a s : Nat) (pre : List Ob.U32) : Prop := 2147483647 < riseF a s pre.length ∧ Ob.Come (riseF a s) pre

theorem riseF_succ (a s i : Nat) : riseF a s (i + 1) = riseF a s i + s := by
  unfold riseF; rw [← Nat.add_assoc, Nat.add_mul (riseK a s + i)]; omega

set_option maxRecDepth 100000 in
set_option maxHeartbeats 1000000 in
theorem rising1_in (n : Nat) (hn : 1 ≤ n) (a s : Nat) (ha : a ≤ 4294967295) (hs : 1 ≤ s) (hs' : s ≤ 4294967295) (l B : Nat) (J Jx : List Ob.U32 → World → Prop)
    (hY : ∀ pre (x : Ob.U32) W, J pre W → pre.length < 2147483648 → YieldAt Fence.wide (n - 1) Try.prog l #[.int .u32 (x.1 : Nat)] W fun e W' =>
      (e = .returned (.bool true) ∧ J (pre ++ [x]) W' ∧ Two2 B W W') ∨ (e = .returned (.bool false) ∧ Jx (pre ++ [x]) W'))
    (W : World) (c1 : W.cell? ⟨B, 0, none⟩ = some (.int .u32 (a : Nat))) (c2 : W.cell? ⟨B + 1, 0, none⟩ = some (.int .u64 (s : Nat))) (h0 : J [] W) :
    CallsIn Fence.wide n Try.prog 32 #[.func (.yield l) #[] #[], .pointer (some ⟨B, 0, none⟩), .pointer (some ⟨B + 1, 0, none⟩)] W fun e W' => (∃ v, e = .returned v) ∧
      ((∃ ys, RiseAll a s ys ∧ J ys W') ∨ (∃ pre, RiseSome a s pre ∧ Jx pre W')) := by
  have HY := Lib.hid hY
  clear hY
  obtain ⟨F0, hF0⟩ : ∃ F0, F0 = riseF a s 0 := ⟨_, rfl⟩
  have loop : ∀ F : Int, F = (F0 : Int) → ∃ k : Nat, F = (k : Int) ∧ k = F0 := fun F h => ⟨F0, h, rfl⟩
  clear loop
  by_cases h2 : 2 ≤ a
  · have hmax : max a 2 = a := by omega
    have hn2 : ((a : Int) - 2) = ((a - 2 : Nat) : Int) := by omega
    have d0 : (0 : Int) ≤ ((a : Int) - 2) / (s : Int) := Int.ediv_nonneg (by omega) (by omega)
    have d1 : ((a : Int) - 2) / (s : Int) ≤ 4294967293 := by rw [hn2, ← Int.natCast_ediv]; have := Nat.div_le_self (a - 2) s; omega
    have p0 : (0 : Int) ≤ (((a : Int) - 2) / (s : Int) + 1) * (s : Int) := Int.mul_nonneg (by omega) (by omega)
    have hmul : (a - 2) / s * s ≤ a - 2 := Nat.div_mul_le_self _ s
    have p1 : (((a : Int) - 2) / (s : Int) + 1) * (s : Int) ≤ 8589934588 := by
      rw [Int.add_mul, hn2, ← Int.natCast_ediv, ← Int.natCast_mul]; omega
    have hE : (((a : Int) - 2) / (s : Int) + 1) * (s : Int) + 1 = (F0 : Int) := by
      have e1 : riseF a s 0 = ((a - 2) / s + 1) * s + 1 := by unfold riseF riseK; rw [hmax]
      rw [hF0, e1, hn2, ← Int.natCast_ediv, Int.natCast_add (_ * _), Int.natCast_mul, Int.natCast_add]; rfl
    have hF1 : F0 ≤ 8589934589 := by omega
    have HE := Lib.hid hE
    have HF := Lib.hid hF0
    clear hmul hE hF0 hn2 hmax
    refine callsIn_of_wp Try.func32 rfl trivial ?_ rfl
    simp only [Try.ntmps32, List.size_toArray, List.length_cons, List.length_nil, Nat.reduceAdd, Nat.reduceSub, Array.replicate_succ, Array.replicate_zero, List.push_toArray, List.append_toArray, List.nil_append, List.cons_append]
    gi_wp2
    clear d0 d1 p0 p1
    gi_loopw [5] (fun t wr => ∃ (c : Nat) (pre : List Ob.U32), t = .int .u64 c ∧ c = riseF a s pre.length ∧ c ≤ 8589934589 ∧ (∀ i, i < pre.length → riseF a s i ≤ 2147483647) ∧ Ob.Come (riseF a s) pre ∧ J pre wr ∧ wr.cell? ⟨B, 0, none⟩ = some (.int .u32 (a : Nat)) ∧ wr.cell? ⟨B + 1, 0, none⟩ = some (.int .u64 (s : Nat))) (fun t _ => 8589934590 - (intOf t).toNat)
    case atStart => exact ⟨F0, [], by rw [HE.out], HF.out, hF1, fun i hi => by simp at hi, Ob.Come.nil _, h0, c1, c2⟩
    case round =>
      clear c1 c2
      obtain ⟨c, pre, rfl, hc, hcb, hle, hcome, hJ, c1, c2⟩ := hrel
      have HC := Lib.hid hcome
      have HL := Lib.hid hle
      have HCE := Lib.hid hc
      have hlow : riseF a s pre.length = riseF a s 0 + pre.length * s := by
        unfold riseF; rw [Nat.add_mul, Nat.add_mul]; omega
      have hpp : pre.length * 1 ≤ pre.length * s := Nat.mul_le_mul_left _ hs
      have hr0 : 1 ≤ riseF a s 0 := by unfold riseF; omega
      by_cases hlt : c ≤ 2147483647
      · have hpl : pre.length < 2147483648 := by omega
        clear hc hle hcome hlow hpp hr0
        obtain ⟨x, hx⟩ : ∃ x : Ob.U32, x.1 = c := ⟨⟨c, by omega⟩, rfl⟩
        obtain ⟨fn, tmps, assign, body, hy, hR⟩ := HY.out pre x wr hJ hpl
        rw [hx] at hy
        have HX := Lib.hid hx
        clear hx hpl
        have hnx : ∀ i, i < pre.length + 1 → riseF a s i ≤ 2147483647 := fun i hi => by
          by_cases e : i = pre.length
          · rw [e, ← HCE.out]; exact hlt
          · exact HL.out i (by omega)
        have HN := Lib.hid hnx
        clear hnx
        gi_wp2
        refine hR.mono ?_
        rintro e W4 (⟨rfl, hJ4, hk4⟩ | ⟨rfl, hJx4⟩)
        · clear hR hy
          have c3 := hk4.1.trans c1
          have c4 := hk4.2.trans c2
          gi_wp2
          go_roundw
          case rel => exact ⟨c + s, pre ++ [x], by go_num, by rw [List.length_append, HCE.out, List.length_singleton, riseF_succ], by omega, by simpa using HN.out, HC.out.snoc (by rw [HX.out, HCE.out]), hJ4, c3, c4⟩
          case measure => simp [intOf]; omega
        · gi_wp2
          refine bodyPost_ret (results_none rfl _ _ _) rfl ?_
          exact ⟨⟨_, rfl⟩, .inr ⟨_, ⟨by simpa using HN.out, HC.out.snoc (by rw [HX.out, HCE.out])⟩, hJx4⟩⟩
      · clear hc hle hcome hlow hpp hr0
        gi_wp2
        go_end0
        exact ⟨⟨_, rfl⟩, .inl ⟨pre, ⟨by rw [← HCE.out]; omega, HC.out⟩, hJ⟩⟩
  · have hE : (s : Int) + 1 = (F0 : Int) := by
      rw [hF0]; unfold riseF riseK; rw [show max a 2 - 2 = 0 by omega, Nat.zero_div]; omega
    have hF1 : F0 ≤ 8589934589 := by omega
    have HE := Lib.hid hE
    have HF := Lib.hid hF0
    clear hE hF0
    refine callsIn_of_wp Try.func32 rfl trivial ?_ rfl
    simp only [Try.ntmps32, List.size_toArray, List.length_cons, List.length_nil, Nat.reduceAdd, Nat.reduceSub, Array.replicate_succ, Array.replicate_zero, List.push_toArray, List.append_toArray, List.nil_append, List.cons_append]
    gi_wp2
    gi_loopw [5] (fun t wr => ∃ (c : Nat) (pre : List Ob.U32), t = .int .u64 c ∧ c = riseF a s pre.length ∧ c ≤ 8589934589 ∧ (∀ i, i < pre.length → riseF a s i ≤ 2147483647) ∧ Ob.Come (riseF a s) pre ∧ J pre wr ∧ wr.cell? ⟨B, 0, none⟩ = some (.int .u32 (a : Nat)) ∧ wr.cell? ⟨B + 1, 0, none⟩ = some (.int .u64 (s : Nat))) (fun t _ => 8589934590 - (intOf t).toNat)
    case atStart => exact ⟨F0, [], by rw [HE.out], HF.out, hF1, fun i hi => by simp at hi, Ob.Come.nil _, h0, c1, c2⟩
    case round =>
      clear c1 c2
      obtain ⟨c, pre, rfl, hc, hcb, hle, hcome, hJ, c1, c2⟩ := hrel
      have HC := Lib.hid hcome
      have HL := Lib.hid hle
      have HCE := Lib.hid hc
      have hlow : riseF a s pre.length = riseF a s 0 + pre.length * s := by
        unfold riseF; rw [Nat.add_mul, Nat.add_mul]; omega
      have hpp : pre.length * 1 ≤ pre.length * s := Nat.mul_le_mul_left _ hs
      have hr0 : 1 ≤ riseF a s 0 := by unfold riseF; omega
      by_cases hlt : c ≤ 2147483647
      · have hpl : pre.length < 2147483648 := by omega
        clear hc hle hcome hlow hpp hr0
        obtain ⟨x, hx⟩ : ∃ x : Ob.U32, x.1 = c := ⟨⟨c, by omega⟩, rfl⟩
        obtain ⟨fn, tmps, assign, body, hy, hR⟩ := HY.out pre x wr hJ hpl
        rw [hx] at hy
        have HX := Lib.hid hx
        clear hx hpl
        have hnx : ∀ i, i < pre.length + 1 → riseF a s i ≤ 2147483647 := fun i hi => by
          by_cases e : i = pre.length
          · rw [e, ← HCE.out]; exact hlt
          · exact HL.out i (by omega)
        have HN := Lib.hid hnx
        clear hnx
        gi_wp2
        refine hR.mono ?_
        rintro e W4 (⟨rfl, hJ4, hk4⟩ | ⟨rfl, hJx4⟩)
        · clear hR hy
          have c3 := hk4.1.trans c1
          have c4 := hk4.2.trans c2
          gi_wp2
          go_roundw
          case rel => exact ⟨c + s, pre ++ [x], by go_num, by rw [List.length_append, HCE.out, List.length_singleton, riseF_succ], by omega, by simpa using HN.out, HC.out.snoc (by rw [HX.out, HCE.out]), hJ4, c3, c4⟩
          case measure => simp [intOf]; omega
        · gi_wp2
          refine bodyPost_ret (results_none rfl _ _ _) rfl ?_
          exact ⟨⟨_, rfl⟩, .inr ⟨_, ⟨by simpa using HN.out, HC.out.snoc (by rw [HX.out, HCE.out])⟩, hJx4⟩⟩
      · clear hc hle hcome hlow hpp hr0
        gi_wp2
        go_end0
        exact ⟨⟨_, rfl⟩, .inl ⟨pre, ⟨by rw [← HCE.out]; omega, HC.out⟩, hJ⟩⟩

theorem rising_stops (a s : Nat) (ha : a ≤ 4294967295) (hs : 1 ≤ s) (hs' : s ≤ 4294967295) (B : Nat) (w : World) (hB : B + 1 < w.heap.size) (c1 : w.cell? ⟨B, 0, none⟩ = some (.int .u32 (a : Nat))) (c2 : w.cell? ⟨B + 1, 0, none⟩ = some (.int .u64 (s : Nat))) (w0 : World) (hw : Below w.heap.size w w0) :
    SeqStopsK Fence.wide (9 - 1) Try.prog 32 #[.pointer (some ⟨B, 0, none⟩), .pointer (some ⟨B + 1, 0, none⟩)] (fun x : Ob.U32 => #[Value.int .u32 (x.1 : Nat)]) (Two2 B) (RiseAll a s) (RiseSome a s) 2147483648 w0 :=
  fun l J Jx W hW _ _ hY h0 => rising1_in (9 - 1) (by omega) a s ha hs hs' l B J Jx hY W
    ((hW.cell (p := ⟨B, 0, none⟩) (by have := hw.size; show B < _; omega)).trans ((hw.cell (p := ⟨B, 0, none⟩) (by show B < _; omega)).trans c1))
    ((hW.cell (p := ⟨B + 1, 0, none⟩) (by have := hw.size; show B + 1 < _; omega)).trans ((hw.cell (p := ⟨B + 1, 0, none⟩) hB).trans c2)) h0

theorem fall_first {l s v c : Nat} (hs : 1 ≤ s) (h : FirstR (FallAll l s) (FallSome l s) v c) : Ob.FallR l s v c := by
  rcases h with ⟨pre, x, ⟨h1, h2⟩, h3, h4, rfl, rfl⟩ | ⟨ys, ⟨h1, h2⟩, h3, rfl, rfl⟩
  · have hl : pre.length + 1 ≤ fallK l s := by simpa using h1
    have hx := h2.last
    have hi := h2.init
    have hk : (fallK l s - pre.length) * s ≤ l - 2 := Ob.mul_lt_of_div hs (show fallK l s - pre.length ≤ fallK l s from Nat.sub_le _ _)
    have hk1 : 1 * s ≤ (fallK l s - pre.length) * s := Nat.mul_le_mul_right s (by omega)
    refine .inl ⟨fallK l s - pre.length, by omega, hx, by rw [hx]; unfold fallF; omega, h4, rfl, fun j h5 h6 => ?_⟩
    have h7 := Ob.div_of_mul_lt hs (by omega) h6
    have h8 : fallK l s - j < pre.length := by unfold fallK at *; omega
    obtain ⟨y, hy, e⟩ := hi.mem h8
    have := h3 y hy
    rw [e] at this
    unfold fallF at this
    rwa [show fallK l s - (fallK l s - j) = j by unfold fallK at *; omega] at this
  · refine .inr ⟨rfl, rfl, fun j h5 h6 => ?_⟩
    have h7 := Ob.div_of_mul_lt hs h5 h6
    have h8 : fallK l s - j < ys.length := by rw [h1]; unfold fallK; omega
    obtain ⟨y, hy, e⟩ := h2.mem h8
    have := h3 y hy
    rw [e] at this
    unfold fallF at this
    rwa [show fallK l s - (fallK l s - j) = j by unfold fallK at *; omega] at this

theorem rise_low {a s j : Nat} (hs : 1 ≤ s) (hj : 1 ≤ j) (h : a ≤ j * s + 1) : riseK a s ≤ j := by
  have h1 : 1 * s ≤ j * s := Nat.mul_le_mul_right s hj
  have h2 : (max a 2 - 2) / s < j := by
    rw [Nat.div_lt_iff_lt_mul hs]
    omega
  unfold riseK; omega
theorem rise_at {a s : Nat} (hs : 1 ≤ s) : a ≤ riseK a s * s + 1 := by
  unfold riseK
  have h1 := Nat.div_add_mod (max a 2 - 2) s
  have h2 := Nat.mod_lt (max a 2 - 2) (show 0 < s by omega)
  rw [Nat.add_mul, Nat.mul_comm]
  omega

theorem rise_first {a s v c : Nat} (hs : 1 ≤ s) (h : FirstR (RiseAll a s) (RiseSome a s) v c) : Ob.RiseR a s v c := by
  rcases h with ⟨pre, x, ⟨h1, h2⟩, h3, h4, rfl, rfl⟩ | ⟨ys, ⟨h1, h2⟩, h3, rfl, rfl⟩
  · have hx := h2.last
    have hi := h2.init
    have hb := h1 pre.length (by simp)
    refine .inl ⟨riseK a s + pre.length, by have : 1 ≤ riseK a s := Nat.le_add_left 1 _; omega, hx, ?_, by rw [hx]; exact hb, h4, rfl, fun j h5 h6 h7 => ?_⟩
    · rw [hx]; unfold riseF
      have := rise_at (a := a) hs
      have h8 : riseK a s * s ≤ (riseK a s + pre.length) * s := Nat.mul_le_mul_right s (by omega)
      omega
    · have h8 := rise_low hs h5 h7
      obtain ⟨y, hy, e⟩ := hi.mem (i := j - riseK a s) (by omega)
      have := h3 y hy
      rw [e] at this
      unfold riseF at this
      rwa [show riseK a s + (j - riseK a s) = j by omega] at this
  · refine .inr ⟨rfl, rfl, fun j h5 h6 h7 => ?_⟩
    have h8 := rise_low hs h5 h6
    have h9 : j - riseK a s < ys.length := by
      apply Classical.byContradiction; intro hn
      have : (riseK a s + ys.length) * s ≤ j * s := Nat.mul_le_mul_right s (by omega)
      unfold riseF at h1; omega
    obtain ⟨y, hy, e⟩ := h2.mem h9
    have := h3 y hy
    rw [e] at this
    unfold riseF at this
    rwa [show riseK a s + (j - riseK a s) = j by omega] at this

set_option maxHeartbeats 1000000 in
theorem below_any (l s : Nat) (w : World) (hl : l ≤ 4294967295) (hs' : s ≤ 4294967295) :
    Calls Try.prog 8 #[.int .u32 l, .int .u32 s] w (NumPost (BelowR l s) w) := by
  by_cases hs : s = 0
  · subst hs
    go_enter Try.func8, Try.ntmps8
    go_wp2_with fail
    go_ret2
    exact ⟨0, 2, rfl, .inl ⟨.inl rfl, rfl, rfl⟩, Gr.refl _⟩
  have hs1 : 1 ≤ s := by omega
  have t1 : ((s : Int) == 0) = false := by simp; omega
  clear hs
  by_cases hl2 : 2147483648 < l
  · go_enter Try.func8, Try.ntmps8
    go_wp2_with fail
    go_ret2
    exact ⟨0, 2, rfl, .inl ⟨.inr hl2, rfl, rfl⟩, Gr.refl _⟩
  go_enter Try.func8, Try.ntmps8
  go_wp2_with fail
  refine (falling_any _ _ _).mono ?_
  rintro e w1 ⟨rfl, rfl⟩
  have c1 := (Boxed.new w 22 (.int .u32 (l : Nat))).alloc (.cells #[.int .u64 (s : Nat)] 35)
  have c2 := Boxed.new (w.alloc (.cells #[.int .u32 (l : Nat)] 22)) 35 (.int .u64 (s : Nat))
  rw [World.size_alloc] at c2
  have g1 : Gr w ((w.alloc (.cells #[.int .u32 (l : Nat)] 22)).alloc (.cells #[.int .u64 (s : Nat)] 35)) := (Gr.new w _).alloc _
  have hB : w.heap.size + 1 < ((w.alloc (.cells #[.int .u32 (l : Nat)] 22)).alloc (.cells #[.int .u64 (s : Nat)] 35)).heap.size := by simp
  have hf := first_any 31 #[.pointer (some ⟨w.heap.size, 0, none⟩), .pointer (some ⟨w.heap.size + 1, 0, none⟩)] (enters_of Try.func31 (by kernel_rfl) rfl) (FallAll l s) (FallSome l s) w.heap.size _ hB (falling_stops l s (by omega) hs1 w.heap.size _ hB c1.cell c2.cell)
  have HF := Lib.hid hf
  clear hf c1 c2 hB
  go_wp2_with fail
  refine HF.out.mono ?_
  rintro e w2 ⟨v, c, rfl, hr, g2⟩
  have HR := Lib.hid (fall_first hs1 hr)
  clear hr
  go_wp2_with fail
  go_ret2
  exact ⟨v, c, rfl, .inr ⟨hs1, by omega, HR.out⟩, g1.trans g2⟩

set_option maxHeartbeats 1000000 in
theorem next_any (a s : Nat) (w : World) (ha : a ≤ 4294967295) (hs' : s ≤ 4294967295) :
    Calls Try.prog 10 #[.int .u32 a, .int .u32 s] w (NumPost (NextR a s) w) := by
  by_cases hs : s = 0
  · subst hs
    go_enter Try.func10, Try.ntmps10
    go_wp2_with fail
    go_ret2
    exact ⟨0, 2, rfl, .inl ⟨rfl, rfl, rfl⟩, Gr.refl _⟩
  have hs1 : 1 ≤ s := by omega
  have t1 : ((s : Int) == 0) = false := by simp; omega
  clear hs
  go_enter Try.func10, Try.ntmps10
  go_wp2_with fail
  refine (rising_any _ _ _).mono ?_
  rintro e w1 ⟨rfl, rfl⟩
  have c1 := (Boxed.new w 22 (.int .u32 (a : Nat))).alloc (.cells #[.int .u64 (s : Nat)] 35)
  have c2 := Boxed.new (w.alloc (.cells #[.int .u32 (a : Nat)] 22)) 35 (.int .u64 (s : Nat))
  rw [World.size_alloc] at c2
  have g1 : Gr w ((w.alloc (.cells #[.int .u32 (a : Nat)] 22)).alloc (.cells #[.int .u64 (s : Nat)] 35)) := (Gr.new w _).alloc _
  have hB : w.heap.size + 1 < ((w.alloc (.cells #[.int .u32 (a : Nat)] 22)).alloc (.cells #[.int .u64 (s : Nat)] 35)).heap.size := by simp
  have hf := first_any 32 #[.pointer (some ⟨w.heap.size, 0, none⟩), .pointer (some ⟨w.heap.size + 1, 0, none⟩)] (enters_of Try.func32 (by kernel_rfl) rfl) (RiseAll a s) (RiseSome a s) w.heap.size _ hB (rising_stops a s ha hs1 hs' w.heap.size _ hB c1.cell c2.cell)
  have HF := Lib.hid hf
  clear hf c1 c2 hB
  go_wp2_with fail
  refine HF.out.mono ?_
  rintro e w2 ⟨v, c, rfl, hr, g2⟩
  have HR := Lib.hid (rise_first hs1 hr)
  clear hr
  go_wp2_with fail
  go_ret2
  exact ⟨v, c, rfl, .inr ⟨hs1, HR.out⟩, g1.trans g2⟩
end Go.Proofs.Ytdkpgocbdphneaa
