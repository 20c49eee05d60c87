import Derived.Test.YtaenjbemkeghgaaPdivi
import Derived.OrdersIn
import Derived.OrdersHeld
import Derived.RangeFuncCalls
import Derived.RangeFuncNested
import Derived.RangeFuncBound
import Derived.RangeFuncLeaves
import Derived.RangeFuncBox
import Derived.Shelf.Abstract
import Derived.Shelf.RegionOpen
import Derived.OwnWalkIn
import Derived.TacticsInMore
import Derived.LoopNIn
import Derived.LoopIn
import Derived.Test.YtaenjbemkeghgaaPexq
/- A region that draws its order inside the round of a range over a function: by the plain walk of its orders. -/
namespace Go.Proofs.Ytaenjbemkeghgaa
open Go.RowKit
set_option linter.unusedVariables false

/-- Q, but nothing at 'no room'. -/
def NoOut (Q : Exit → Act → World → Prop) : Exit → Act → World → Prop
  | .outgrown, _, _ => False
  | e, a, w => Q e a w
theorem noOut_none {Q : Exit → Act → World → Prop} (h : LetsOut (NoOut Q)) : False := h.elim fun _ h => h.elim fun _ h => h

theorem about_wide {P : Program} {o : Oper} {w : World} {ρ : Operand → Value} {l : Nat} : ∀ f, o.about P w ρ = some f → (Fence.wide.inRound l).fn f := fun _ _ => trivial

theorem wpOp_round {P : Program} {ops : Array Oper} {Q : Exit → Act → World → Prop} {l n : Nat} (hd : ∀ (i : Nat) (o : Oper) (c : Call), ops[i]? = some o → o.op ≠ Op.defer c) {i : Nat} {K K' : Act → World → Prop} (hK : ∀ a w, K a w → K' a w) {a : Act} {w : World}
    (h : wpOp P ops (NoOut Q) i K a w) : wpOpIn (Fence.wide.inRound l) n P ops Q i K' a w := by
  unfold wpOp at h
  unfold wpOpIn
  split
  · rename_i ho
    simp only [ho] at h
    exact hK _ _ h
  · rename_i o ho
    simp only [ho] at h
    split
    · rename_i hw
      simp only [hw, if_true] at h
      rcases h with h | h
      · unfold Oper.wp at h
        unfold Oper.wpIn
        refine ⟨about_wide, ?_⟩
        rw [Oper.semAt_eq _ _ _ (fun c => hd i o c ho)]
        generalize (execOp a.eval o).run P w = r at *
        cases r with
        | ok x w' =>
          cases x <;> simp only [Oper.upon, Oper.uponIn] at h ⊢
          case value u => exact hK _ _ h
          case skip => exact hK _ _ h
          case defer d => exact hK _ _ h
          case enter f args =>
            refine ⟨fun e => (by cases e), CallsIn.inRound l (callsIn_wide.2 (Calls.mono h fun e w'' he => ?_))⟩
            cases e with
            | returned u => exact hK _ _ he
            | panicked c => exact he
            | outgrown => exact (noOut_none he).elim
          case row row args =>
            refine ⟨fun e => (by cases e), fun c cs _ => ?_⟩
            obtain ⟨v, w'', r, s⟩ := h c cs
            exact ⟨v, w'', hK _ _ r, stepsIn_wide.2 s⟩
        | halt x w' =>
          cases x <;> simp only [Oper.upon, Oper.uponIn] at h ⊢
          case panic u => exact h
      · exact (noOut_none h.2).elim
    · rename_i hw
      simp only [hw] at h
      exact ⟨about_wide, hK _ _ h⟩

theorem wpAny_round {P : Program} {md : Region.Mode} {ops : Array Oper} {Q : Exit → Act → World → Prop} {l n : Nat} (hd : ∀ (i : Nat) (o : Oper) (c : Call), ops[i]? = some o → o.op ≠ Op.defer c) :
    ∀ (fuel : Nat) (listed : Array Bool) (a : Act) (w : World), wpAny P md ops (NoOut Q) fuel listed a w → wpAnyIn (Fence.wide.inRound l) n P md ops Q fuel listed a w
  | 0, _, _, _, h => h
  | fuel + 1, _, _, _, h => ⟨h.1, fun i hi => wpOp_round hd (fun a w => wpAny_round hd fuel _ a w) (h.2 i hi)⟩

/-- The beginning: S is shown of the world behind the draw, once, and handed on. -/
theorem region_round {P : Program} {ops : Array Oper} {Q : Exit → Act → World → Prop} {l n id : Nat} {a : Act} {w : World} (S : World → Prop) (hm : P.follows .mixedOrders = true) (hd : ∀ (i : Nat) (o : Oper) (c : Call), ops[i]? = some o → o.op ≠ Op.defer c) (hS : S w.drew)
    (h : S w.drew → wpAnyH P .any ops (NoOut Q) S ops.size (Array.replicate ops.size false) a w.drew) : (Code.region id ops true).wpIn (Fence.wide.inRound l) n P Q a w :=
  wpIn_region_any hm (wpAny_round hd _ _ _ _ (wpAny_of_held _ _ _ _ (h hS)))
/-- No operation defers. -/
def noDefer (ops : Array Oper) : Bool := ops.toList.all fun o => match o.op with
  | .defer _ => false
  | _ => true
theorem noDefer_spec {ops : Array Oper} (h : noDefer ops = true) (i : Nat) (o : Oper) (c : Call) (hi : ops[i]? = some o) : o.op ≠ Op.defer c := fun e => by
  have h1 := List.all_eq_true.1 h o (by
    have h2 := Array.getElem?_eq_some_iff.1 hi
    obtain ⟨h3, h4⟩ := h2
    rw [← h4]; exact Array.getElem_mem_toList h3)
  simp only [e] at h1
  cases h1
end Go.Proofs.Ytaenjbemkeghgaa
/- The iterator over pairs of places. -/
namespace Op
set_option linter.unusedVariables false
/-- A pair of places below N. -/
abbrev PR (N : Nat) := { x : Nat × Nat // x.2 < x.1 ∧ x.1 < N }
/-- What has come, the last one first. -/
def came {N : Nat} (pre : List (PR N)) : List (Nat × Nat) := (pre.map (·.1)).reverse
theorem came_snoc {N : Nat} (pre : List (PR N)) (x : PR N) : came (pre ++ [x]) = x.1 :: came pre := by simp [came]
theorem came_nil {N : Nat} : came ([] : List (PR N)) = [] := rfl
theorem came_len {N : Nat} (pre : List (PR N)) : (came pre).length = pre.length := by simp [came]
/-- The pairs (i, k) with k < j in front of others. -/
def prow (i : Nat) : Nat → List (Nat × Nat) → List (Nat × Nat)
  | 0, l => l
  | j + 1, l => (i, j) :: prow i j l
/-- All pairs below i. -/
def psq : Nat → List (Nat × Nat)
  | 0 => []
  | i + 1 => prow i i (psq i)
theorem prow_len (i : Nat) (l : List (Nat × Nat)) : ∀ j, (prow i j l).length = j + l.length
  | 0 => by simp [prow]
  | j + 1 => by simp [prow, prow_len i l j]; omega
theorem psq_len : ∀ i, i ≤ 256 → (psq i).length ≤ i * 256
  | 0, _ => by simp [psq]
  | i + 1, h => by
    have := psq_len i (by omega)
    rw [psq, prow_len]; omega
end Op
namespace Go.Proofs.Ytaenjbemkeghgaa
open Go.RowKit Go.Shelf
set_option linter.unusedVariables false
attribute [local go_sem] Oper.semAt_some

theorem pairs_any (N : Int) (w : World) : Calls Try.prog 74 #[.int .i64 N] w fun e w' => e = .returned (.func (.func 79) #[] #[.pointer (some ⟨w.heap.size, 0, none⟩)]) ∧ w.alloc (.cells #[.int .i64 N] 3) = w' := by
  go_enter Try.func74, Try.ntmps74
  go_wp2_with fail
  go_ret
  exact ⟨rfl, rfl⟩

set_option maxRecDepth 100000 in
set_option maxHeartbeats 1000000 in
theorem pairs1_in (n : Nat) (hn : 1 ≤ n) (N : Nat) (hN : N ≤ 256) (l B : Nat) (J Jx : List (Op.PR N) → World → Prop)
    (hY : ∀ pre (x : Op.PR N) W, J pre W → pre.length < 65536 → YieldAt Fence.wide (n - 1) Try.prog l #[.int .i64 (x.1.1 : Nat), .int .i64 (x.1.2 : Nat)] W fun e W' =>
      (e = .returned (.bool true) ∧ J (pre ++ [x]) W' ∧ True) ∨ (e = .returned (.bool false) ∧ Jx (pre ++ [x]) W'))
    (W : World) (c1 : W.cell? ⟨B, 0, none⟩ = some (.int .i64 (N : Nat))) (h0 : J [] W) :
    CallsIn Fence.wide n Try.prog 79 #[.func (.yield l) #[] #[], .pointer (some ⟨B, 0, none⟩)] W fun e W' => (∃ v, e = .returned v) ∧
      ((∃ ys, Op.came ys = Op.psq N ∧ J ys W') ∨ (∃ pre : List (Op.PR N), True ∧ Jx pre W')) := by
  have HY := Lib.hid hY
  clear hY
  refine callsIn_of_wp Try.func79 rfl trivial ?_ rfl
  simp only [Try.ntmps79, List.size_toArray, List.length_cons, List.length_nil, Nat.reduceAdd, Nat.reduceSub, Array.replicate_succ, Array.replicate_zero, List.push_toArray, List.append_toArray, List.nil_append, List.cons_append]
  gi_wp2
  gi_loopw [6] (fun t wr => ∃ (i : Nat) (pre : List (Op.PR N)), t = .int .i64 i ∧ i ≤ N ∧ Op.came pre = Op.psq i ∧ J pre wr) (fun t _ => N - (intOf t).toNat)
  case atStart => exact ⟨0, [], rfl, by omega, rfl, h0⟩
  case round =>
    clear c1
    obtain ⟨i, pre, rfl, hi, hcm, hJ⟩ := hrel
    have HC := Lib.hid hcm
    clear hcm
    by_cases hlt : i < N
    · gi_wp2
      gi_loopw [10] (fun t wr => ∃ (j : Nat) (pre : List (Op.PR N)), t = .int .i64 j ∧ j ≤ i ∧ Op.came pre = Op.prow i j (Op.psq i) ∧ J pre wr) (fun t _ => i - (intOf t).toNat)
      case atStart => exact ⟨0, pre, rfl, by omega, HC.out, hJ⟩
      case round =>
        clear hJ
        obtain ⟨j, pre2, rfl, hj, hcm, hJ⟩ := hrel
        have HC2 := Lib.hid hcm
        clear hcm
        by_cases hjl : j < i
        · obtain ⟨x, hx⟩ : ∃ x : Op.PR N, x.1 = (i, j) := ⟨⟨(i, j), hjl, hlt⟩, rfl⟩
          have hpl : pre2.length < 65536 := by
            have h1 := Op.came_len pre2
            rw [HC2.out, Op.prow_len] at h1
            have h2 := Op.psq_len i (by omega)
            omega
          obtain ⟨fn, tmps, assign, body, hy, hR⟩ := HY.out pre2 x wr hJ hpl
          rw [hx] at hy
          dsimp only at hy
          have HX := Lib.hid hx
          clear hx hpl
          gi_wp2
          refine hR.mono ?_
          rintro e W4 (⟨rfl, hJ4, -⟩ | ⟨rfl, hJx4⟩)
          · clear hR hy
            gi_wp2
            go_roundw
            case rel => exact ⟨j + 1, _, by simp, by omega, by rw [Op.came_snoc, HC2.out, HX.out]; rfl, hJ4⟩
            case measure => simp [intOf]; omega
          · gi_wp2
            refine bodyPost_ret (results_none rfl _ _ _) rfl ?_
            exact ⟨⟨_, rfl⟩, .inr ⟨_, trivial, hJx4⟩⟩
        · have HIJ := Lib.hid (show j = i by omega)
          gi_wp2
          go_roundw
          case rel => exact ⟨i + 1, pre2, by simp, by omega, by rw [HC2.out, HIJ.out]; rfl, hJ⟩
          case measure => simp [intOf]; omega
    · have HI := Lib.hid (show i = N by omega)
      gi_wp2
      go_end0
      exact ⟨⟨_, rfl⟩, .inl ⟨pre, by rw [HC.out, HI.out], hJ⟩⟩

theorem pairs_stops (n : Nat) (hn : 1 ≤ n) (N : Nat) (hN : N ≤ 256) (B : Nat) (w : World) (c1 : ∀ W, Below w.heap.size w W → W.cell? ⟨B, 0, none⟩ = some (.int .i64 (N : Nat))) :
    SeqStopsK Fence.wide n Try.prog 79 #[.pointer (some ⟨B, 0, none⟩)] (fun x : Op.PR N => #[Value.int .i64 (x.1.1 : Nat), Value.int .i64 (x.1.2 : Nat)]) (fun _ _ => True) (fun ys => Op.came ys = Op.psq N) (fun _ => True) 65536 w :=
  fun l J Jx W hW _ _ hY h0 => pairs1_in n hn N hN l B J Jx hY W (c1 W hW) h0
end Go.Proofs.Ytaenjbemkeghgaa
/- Newton's numbers, as the program makes them pair by pair; the answers of Interpolate are determined. No walk here. -/
namespace Go.Proofs.Ytaenjbemkeghgaa
open Go.RowKit
set_option linter.unusedVariables false

/-- What the numbers are behind some pairs (the last one first). -/
def Rn (m : Int) (xs ys : List Int) : List (Nat × Nat) → List Int → Prop
  | [], cs => cs = ys
  | (i, j) :: l, cs => ∃ ds v, Rn m xs ys l ds ∧ cs = put ds i [v] ∧ m ∣ (Op.cf xs i - Op.cf xs j) * v - (Op.cf ds i - Op.cf ds j)

theorem rn_row {m : Int} {xs ys : List Int} {i : Nat} (hi : i < ys.length) {l : List (Nat × Nat)}
    (h0 : ∀ cs, Rn m xs ys l cs → cs.length = ys.length ∧ (∀ k, k < i → Op.Ch m xs cs (Op.cf xs k) (Op.cf ys k) k (Op.cf cs k)) ∧ (∀ k, i ≤ k → Op.cf cs k = Op.cf ys k)) :
    ∀ j cs, j ≤ i → Rn m xs ys (Op.prow i j l) cs → cs.length = ys.length ∧ (∀ k, k < i → Op.Ch m xs cs (Op.cf xs k) (Op.cf ys k) k (Op.cf cs k)) ∧ Op.Ch m xs cs (Op.cf xs i) (Op.cf ys i) j (Op.cf cs i) ∧ (∀ k, i < k → Op.cf cs k = Op.cf ys k)
  | 0, cs, _, h => by
    obtain ⟨h1, h2, h3⟩ := h0 cs h
    exact ⟨h1, h2, by show m ∣ _; rw [h3 i (Nat.le_refl _), Int.sub_self]; exact ⟨0, by simp⟩, fun k hk => h3 k (by omega)⟩
  | j + 1, cs, hj, hh => by
    obtain ⟨ds, v, h, rfl, hv⟩ := hh
    obtain ⟨h1, h2, h3, h4⟩ := rn_row hi h0 j ds (by omega) h
    have hl : ([v] : List Int).length = 1 := rfl
    have hp : ∀ k, Op.cf (put ds i [v]) k = if k = i then v else Op.cf ds k := fun k => by
      rw [cf_put (by rw [hl]; omega), hl]
      by_cases hk : k = i
      · subst hk; rw [if_pos (by omega), if_pos rfl, Nat.sub_self]; rfl
      · rw [if_neg (by omega), if_neg hk]
    have hsame : ∀ k, k ≠ i → Op.cf ds k = Op.cf (put ds i [v]) k := fun k hk => by rw [hp, if_neg hk]
    refine ⟨by rw [put_len (by rw [hl]; omega)]; exact h1, fun k hk => ?_, ?_, fun k hk => by rw [hp, if_neg (by omega)]; exact h4 k hk⟩
    · rw [← hsame k (by omega)]
      exact Op.Ch.cong (fun k' hk' => hsame k' (by omega)) (h2 k hk)
    · refine ⟨Op.cf ds i, Op.Ch.cong (fun k' hk' => hsame k' (by omega)) h3, ?_⟩
      rw [hp i, if_pos rfl, ← hsame j (by omega)]
      exact hv
theorem rn_all {m : Int} {xs ys : List Int} : ∀ i, i ≤ ys.length → ∀ cs, Rn m xs ys (Op.psq i) cs → cs.length = ys.length ∧ (∀ k, k < i → Op.Ch m xs cs (Op.cf xs k) (Op.cf ys k) k (Op.cf cs k)) ∧ (∀ k, i ≤ k → Op.cf cs k = Op.cf ys k)
  | 0, _, cs, h => by
    have e : cs = ys := h
    subst e
    exact ⟨rfl, fun k hk => by omega, fun _ _ => rfl⟩
  | i + 1, hi, cs, h => by
    obtain ⟨h1, h2, h3, h4⟩ := rn_row (by omega) (rn_all i (by omega)) i cs (Nat.le_refl _) h
    refine ⟨h1, fun k hk => ?_, fun k hk => h4 k (by omega)⟩
    by_cases hki : k = i
    · subst hki; exact h3
    · exact h2 k (by omega)

/-- A polynomial with few elements and the values ys at xs. -/
def Thr (m : Int) (xs ys a : List Int) : Prop := Op.Nf m a ∧ a.length ≤ xs.length ∧ ∀ i, i < xs.length → m ∣ Op.ev a (Op.cf xs i) - Op.cf ys i
theorem Thr.unique {m : Int} (hm : 0 < m) {xs ys a b : List Int} (hA : Op.Au m xs) (h : Thr m xs ys a) (k : Thr m xs ys b) : a = b :=
  Op.points_unique hm hA h.1 k.1 h.2.1 k.2.1 (fun i hi => by
    have e : Op.ev a (Op.cf xs i) - Op.ev b (Op.cf xs i) = (Op.ev a (Op.cf xs i) - Op.cf ys i) - (Op.ev b (Op.cf xs i) - Op.cf ys i) := by omega
    rw [e]; exact Int.dvd_sub (h.2.2 i hi) (k.2.2 i hi))
theorem res_len {m : Int} (hm : 0 < m) {a xs cs : List Int} {n d : Nat} (h : Op.Nf m a) (k : Op.Cg m a (Op.nw xs cs n d)) : a.length ≤ d :=
  Op.len_deg h.2 (fun i hi => by
    have h1 := k i
    rw [Op.nw_deg xs cs n d i hi, Int.sub_zero] at h1
    have h2 := Op.rs_cf hm h.1 i
    have h3 := Int.emod_eq_zero_of_dvd h1
    rwa [Int.emod_eq_of_lt h2.1 h2.2] at h3)
theorem thr_of {m : Int} (hm : 0 < m) {xs ys cs a : List Int} (hl : ys.length = xs.length) (h : Op.Nf m a) (k : Op.Cg m a (Op.nw xs cs xs.length xs.length)) (hc : Rn m xs ys (Op.psq xs.length) cs) : Thr m xs ys a := by
  refine ⟨h, res_len hm h k, fun i hi => ?_⟩
  have h1 := (rn_all xs.length (by omega) cs hc).2.1 i hi
  have h2 := Op.nw_at hi h1
  have h3 := Op.ev_cg (Op.cf xs i) k
  have e : Op.ev a (Op.cf xs i) - Op.cf ys i = (Op.ev a (Op.cf xs i) - Op.ev (Op.nw xs cs xs.length xs.length) (Op.cf xs i)) + (Op.ev (Op.nw xs cs xs.length xs.length) (Op.cf xs i) - Op.cf ys i) := by omega
  rw [e]; exact Int.dvd_add h3 h2
/-- The next step of Newton's sum. -/
theorem res_step {m : Int} {a xs cs : List Int} {n d : Nat} {L c : Int} (hL : m ∣ L - (-Op.cf xs (n - (d + 1)))) (hc : c = Op.cf cs (n - (d + 1))) (k : Op.Cg m a (Op.nw xs cs n d)) :
    Op.Cg m (Op.nf m (Op.add (Op.nf m (Op.mul a [L, 1])) (Op.sc c [1]))) (Op.nw xs cs n (d + 1)) := by
  refine (Op.nf_cg m _).trans ?_
  rw [Op.nw]
  refine ((Op.nf_cg m _).trans (k.mul ?_)).add ?_
  · intro i
    cases i with
    | zero => exact hL
    | succ i => exact ⟨0, by rw [Op.cf_succ, Op.cf_succ]; omega⟩
  · refine Op.Cg.of (fun i => ?_)
    rw [Op.cf_sc, hc]
    cases i with
    | zero => simp
    | succ i => simp

/-- The answer of Interpolate. -/
noncomputable def itE (m : Int) (xs ys : List Int) : Int :=
  open Classical in if ¬ (okM m ∧ xs.length = ys.length) then 2 else if 256 < xs.length then 3 else if ¬ (Op.Rs m xs ∧ Op.Rs m ys) then 2 else if ¬ Op.Au m xs then 7 else 0
def ItR (m : Int) (xs ys a : List Int) (E : Int) : Prop := E = itE m xs ys ∧ (E ≠ 0 → a = []) ∧ (E = 0 → Thr m xs ys a)
theorem itE_au {m : Int} {xs ys : List Int} (h : itE m xs ys = 0) : okM m ∧ xs.length = ys.length ∧ xs.length ≤ 256 ∧ Op.Rs m xs ∧ Op.Rs m ys ∧ Op.Au m xs := by
  unfold itE at h
  split at h
  · omega
  · rename_i h1
    split at h
    · omega
    · split at h
      · omega
      · rename_i h3
        split at h
        · omega
        · rename_i h4
          have h1 := Classical.not_not.1 h1
          have h3 := Classical.not_not.1 h3
          have h4 := Classical.not_not.1 h4
          exact ⟨h1.1, h1.2, by omega, h3.1, h3.2, h4⟩
theorem ItR.unique {m : Int} {xs ys a b : List Int} {E F : Int} (h : ItR m xs ys a E) (k : ItR m xs ys b F) : a = b ∧ E = F := by
  have e : E = F := h.1.trans k.1.symm
  subst e
  refine ⟨?_, rfl⟩
  by_cases h0 : E = 0
  · have h1 := itE_au (h.1.symm.trans h0)
    exact Thr.unique (by have := h1.1; unfold okM at this; omega) h1.2.2.2.2.2 (h.2.2 h0) (k.2.2 h0)
  · rw [h.2.1 h0, k.2.1 h0]
end Go.Proofs.Ytaenjbemkeghgaa
