import Derived.RangeFuncNested
import Derived.RangeFuncBound
import Derived.RangeFuncCalls
import Derived.RangeFuncLeaves
import Derived.RangeFuncBox
import Derived.Shelf.Abstract
import Derived.Shelf.RegionOpen
import Derived.OwnWalkIn
import Derived.TacticsInMore
import Derived.LoopNIn
import Derived.LoopIn
import Derived.Maps.AppendAt
import Derived.Test.YtfmmkdmnondomaaLMB
/- The factors of a number as a relation: the least divisor above 1 with its exponent first. It determines the list. Trial division, by all numbers or by 2 and the odd ones, comes to it. -/
namespace Ob
set_option linter.unusedVariables false

/-- L are the factors of n, ascending, with their exponents. -/
inductive Fz : Nat → List (Nat × Nat) → Prop
  | one : Fz 1 []
  | cons (p e m : Nat) (L : List (Nat × Nat)) : 2 ≤ p → (∀ d, 2 ≤ d → d < p → ¬ d ∣ p ^ e * m) → 1 ≤ e → ¬ p ∣ m → Fz m L → Fz (p ^ e * m) ((p, e) :: L)

theorem Fz.pos {n : Nat} {L : List (Nat × Nat)} (h : Fz n L) : 1 ≤ n := by
  induction h with
  | one => omega
  | cons p e m L hp _ _ _ _ ih => exact Nat.mul_pos (Nat.pow_pos (by omega)) ih

theorem exp_unique {p : Nat} (hp : 2 ≤ p) : ∀ {e f m k : Nat}, p ^ e * m = p ^ f * k → ¬ p ∣ m → ¬ p ∣ k → e = f ∧ m = k := by
  intro e
  induction e with
  | zero =>
    intro f m k h hm hk
    rcases f with _ | f
    · simp at h; exact ⟨rfl, h⟩
    · exfalso; apply hm; simp at h; rw [h, Nat.pow_succ, Nat.mul_comm _ p, Nat.mul_assoc]; exact Nat.dvd_mul_right _ _
  | succ e ih =>
    intro f m k h hm hk
    rcases f with _ | f
    · exfalso; apply hk; simp at h; rw [← h, Nat.pow_succ, Nat.mul_comm _ p, Nat.mul_assoc]; exact Nat.dvd_mul_right _ _
    · rw [Nat.pow_succ, Nat.pow_succ, Nat.mul_comm _ p, Nat.mul_comm _ p, Nat.mul_assoc, Nat.mul_assoc] at h
      obtain ⟨h1, h2⟩ := ih (Nat.eq_of_mul_eq_mul_left (by omega) h) hm hk
      exact ⟨by omega, h2⟩

theorem dvd_front {p e m : Nat} (he : 1 ≤ e) : p ∣ p ^ e * m := by
  obtain ⟨f, rfl⟩ : ∃ f, e = f + 1 := ⟨e - 1, by omega⟩
  rw [Nat.pow_succ, Nat.mul_comm _ p, Nat.mul_assoc]; exact Nat.dvd_mul_right _ _

theorem Fz.unique {n : Nat} {L : List (Nat × Nat)} (h : Fz n L) : ∀ {M : List (Nat × Nat)}, Fz n M → L = M := by
  induction h with
  | one =>
    intro M hM
    generalize hn : 1 = n at hM
    cases hM with
    | one => rfl
    | cons p e m L hp hd he hm hL =>
      have h1 : 1 ≤ m := hL.pos
      have h2 : p ∣ p ^ e * m := dvd_front he
      rw [← hn] at h2
      have := Nat.le_of_dvd (by omega) h2
      omega
  | cons p e m L hp hd he hm hL ih =>
    intro M hM
    generalize hn : p ^ e * m = n at hM
    cases hM with
    | one =>
      have h2 : p ∣ p ^ e * m := dvd_front he
      rw [hn] at h2
      have := Nat.le_of_dvd (by omega) h2
      omega
    | cons q f k K hq hd' hf hk hK =>
      have hpq : p = q := by
        have h1 : ¬ q < p := fun hlt => hd q hq hlt (by rw [hn]; exact dvd_front hf)
        have h2 : ¬ p < q := fun hlt => hd' p hp hlt (by rw [← hn]; exact dvd_front he)
        omega
      subst hpq
      obtain ⟨rfl, rfl⟩ := exp_unique hp hn hm hk
      rw [ih hK]

theorem Fz.prime {r : Nat} (h1 : 2 ≤ r) (h : ∀ d, 2 ≤ d → d < r → ¬ d ∣ r) : Fz r [(r, 1)] := by
  have := Fz.cons r 1 1 [] h1 (by simpa using h) (by omega) (by intro hd; have := Nat.le_of_dvd (by omega) hd; omega) Fz.one
  simpa using this

/-- If no number below d divides r, and r is below d², r is 1 or a prime. -/
theorem small_rest {r d : Nat} (h : ∀ x, 2 ≤ x → x < d → ¬ x ∣ r) (hr : r < d * d) : ∀ x, 2 ≤ x → x < r → ¬ x ∣ r := by
  intro x hx hxr hd
  by_cases hxd : x < d
  · exact h x hx hxd hd
  · obtain ⟨y, hy⟩ := hd
    have hy2 : 2 ≤ y := by
      rcases y with _ | _ | y
      · simp at hy; omega
      · simp at hy; omega
      · omega
    have hyd : y < d := by
      apply Classical.byContradiction
      intro hn
      have h1 : d * d ≤ x * y := Nat.mul_le_mul (by omega) (by omega)
      omega
    exact h y hy2 hyd ⟨x, by rw [hy, Nat.mul_comm]⟩

/-- Where trial division stands: what has been found, and what is left; the last divisor tried first. -/
def St (n : Nat) : List Nat → List (Nat × Nat) → Nat → Prop
  | [], acc, r => acc = [] ∧ r = n
  | x :: l, acc, r => (¬ x ∣ r ∧ St n l acc r) ∨ (∃ acc' e, acc = acc' ++ [(x, e)] ∧ 1 ≤ e ∧ ¬ x ∣ r ∧ St n l acc' (x ^ e * r))

theorem St.not_dvd {n x : Nat} {l : List Nat} {acc : List (Nat × Nat)} {r : Nat} (h : St n (x :: l) acc r) : ¬ x ∣ r := by
  rcases h with h | ⟨_, _, _, _, h, _⟩
  · exact h.1
  · exact h

theorem St.len {n : Nat} : ∀ {l : List Nat} {acc : List (Nat × Nat)} {r : Nat}, St n l acc r → acc.length ≤ l.length
  | [], _, _, h => by simp [h.1]
  | x :: l, acc, r, h => by
    rcases h with ⟨_, h⟩ | ⟨acc', e, rfl, _, _, h⟩
    · have := St.len h; simp; omega
    · have := St.len h; simp; omega

/-- What is left is at most n, and at least 1. -/
theorem St.le {n : Nat} (hn : 1 ≤ n) : ∀ {l : List Nat} {acc : List (Nat × Nat)} {r : Nat}, (∀ x ∈ l, 2 ≤ x) → St n l acc r → 1 ≤ r ∧ r ≤ n
  | [], _, _, _, h => by rw [h.2]; omega
  | x :: l, acc, r, hl, h => by
    have hl' : ∀ y ∈ l, 2 ≤ y := fun y hy => hl y (List.mem_cons_of_mem _ hy)
    rcases h with ⟨_, h⟩ | ⟨acc', e, rfl, _, _, h⟩
    · exact St.le hn hl' h
    · have h3 := St.le hn hl' h
      have hx := hl x (List.mem_cons_self ..)
      have hp : 1 ≤ x ^ e := Nat.pow_pos (by omega)
      have hr : 1 ≤ r := by
        rcases r with _ | r
        · simp at h3
        · omega
      have : 1 * r ≤ x ^ e * r := Nat.mul_le_mul_right _ hp
      omega

/-- The divisors that are tried, the last one first: m odd ones behind 2. -/
def tried : Nat → List Nat
  | 0 => [2]
  | m + 1 => (2 * m + 3) :: tried m

/-- A divisor of what is left that is below the next odd one: there is none. -/
theorem St.none {n : Nat} : ∀ {m : Nat} {acc : List (Nat × Nat)} {r : Nat}, St n (tried m) acc r → ∀ x, 2 ≤ x → x < 2 * m + 3 → ¬ x ∣ r
  | 0, acc, r, h, x, h1, h2, hd => by
    obtain rfl : x = 2 := by omega
    exact h.not_dvd hd
  | m + 1, acc, r, h, x, h1, h2, hd => by
    have hx := h.not_dvd
    -- the state before
    have hbefore : ∃ acc' r', St n (tried m) acc' r' ∧ r ∣ r' := by
      rcases h with ⟨_, h⟩ | ⟨acc', e, rfl, _, _, h⟩
      · exact ⟨acc, r, h, Nat.dvd_refl _⟩
      · exact ⟨acc', _, h, Nat.dvd_mul_left _ _⟩
    obtain ⟨acc', r', h', hrr⟩ := hbefore
    have ih := St.none h'
    by_cases hx1 : x < 2 * m + 3
    · exact ih x h1 hx1 (Nat.dvd_trans hd hrr)
    · by_cases hx2 : x = 2 * m + 3
      · subst hx2; exact hx hd
      · obtain rfl : x = 2 * m + 4 := by omega
        exact ih 2 (by omega) (by omega) (Nat.dvd_trans (Nat.dvd_trans ⟨m + 2, by omega⟩ hd) hrr)

/-- What has been found, with the factors of what is left, are the factors. -/
theorem St.fz {n : Nat} : ∀ {m : Nat} {acc : List (Nat × Nat)} {r : Nat}, St n (tried m) acc r → ∀ L, Fz r L → Fz n (acc ++ L)
  | 0, acc, r, h, L, hL => by
    rcases h with ⟨_, h1, rfl⟩ | ⟨acc', e, rfl, he, hd, h1, h2⟩
    · rw [h1]; exact hL
    · rw [h1, ← h2]
      exact Fz.cons 2 e r L (by omega) (by intro d h3 h4; omega) he hd hL
  | m + 1, acc, r, h, L, hL => by
    rcases h with ⟨_, h⟩ | ⟨acc', e, rfl, he, hd, h⟩
    · exact St.fz h L hL
    · rw [List.append_assoc]
      refine St.fz h _ (Fz.cons _ e r L (by omega) (fun d h3 h4 => St.none h d h3 h4) he hd hL)

/-- The end of trial division. -/
theorem St.end {n m : Nat} {acc : List (Nat × Nat)} {r : Nat} (hn : 1 ≤ n) (h : St n (tried m) acc r) (hr : r < (2 * m + 3) * (2 * m + 3)) :
    (r = 1 → Fz n acc) ∧ (1 < r → Fz n (acc ++ [(r, 1)])) := by
  constructor
  · rintro rfl; have := St.fz h [] Fz.one; simpa using this
  · intro h1; exact St.fz h _ (Fz.prime h1 (small_rest (St.none h) hr))

/-- The end at the first divisor, 2. -/
theorem St.end0 {n : Nat} (hr : n < 4) (hn : 1 ≤ n) : (n = 1 → Fz n []) ∧ (1 < n → Fz n [(n, 1)]) := by
  constructor
  · rintro rfl; exact Fz.one
  · intro h; refine Fz.prime h ?_
    intro d h1 h2 hd
    obtain rfl : d = 2 := by omega
    obtain rfl : n = 3 := by omega
    omega
end Ob
namespace Ob
/-- Where trial division by all numbers stands before d. -/
def Tr (n : Nat) (acc : List (Nat × Nat)) (r d : Nat) : Prop := (∀ x, 2 ≤ x → x < d → ¬ x ∣ r) ∧ (∀ L, Fz r L → Fz n (acc ++ L))

theorem Tr.start (n : Nat) : Tr n [] n 2 := ⟨fun x h1 h2 => by omega, fun L h => h⟩
theorem Tr.le {n : Nat} {acc : List (Nat × Nat)} {r d : Nat} (h : Tr n acc r d) (hr : 1 < r) : d ≤ r := by
  apply Classical.byContradiction; intro hd; exact h.1 r hr (by omega) (Nat.dvd_refl _)
theorem Tr.skip {n : Nat} {acc : List (Nat × Nat)} {r d : Nat} (h : Tr n acc r d) (hd : ¬ d ∣ r) : Tr n acc r (d + 1) := by
  refine ⟨fun x h1 h2 => ?_, h.2⟩
  by_cases e : x = d
  · rw [e]; exact hd
  · exact h.1 x h1 (by omega)
theorem Tr.end {n : Nat} {acc : List (Nat × Nat)} {d : Nat} (h : Tr n acc 1 d) : Fz n acc := by simpa using h.2 [] Fz.one

end Ob
/- The iterator over the divisors that Factors tries: 2 and the odd numbers up to 65535, or a beginning of them where the loop's body says 'no more'. -/
namespace Go.Proofs.Ytfmmkdmnondomaa
open Go.RowKit Go.Shelf
set_option linter.unusedVariables false
attribute [local go_sem] Oper.semAt_some

/-- A number that may be tried. -/
abbrev Dv := { x : Nat // 2 ≤ x ∧ x ≤ 65535 }
/-- What has come, the last one first. -/
def came (pre : List Dv) : List Nat := (pre.map (·.1)).reverse
theorem came_snoc (pre : List Dv) (x : Dv) : came (pre ++ [x]) = x.1 :: came pre := by simp [came]
/-- All of them. -/
def allTried : List Nat := Ob.tried 32767

set_option maxRecDepth 100000 in
set_option maxHeartbeats 1000000 in
theorem divisors1_in (n : Nat) (hn : 1 ≤ n) (l n₀ : Nat) (J Jx : List Dv → World → Prop)
    (hY : ∀ pre (x : Dv) W, J pre W → pre.length < 32768 → YieldAt Fence.wide (n - 1) Try.prog l #[.int .u32 (x.1 : Nat)] W fun e W' =>
      (e = .returned (.bool true) ∧ J (pre ++ [x]) W' ∧ Below n₀ W W') ∨ (e = .returned (.bool false) ∧ Jx (pre ++ [x]) W'))
    (W : World) (h0 : J [] W) :
    CallsIn Fence.wide n Try.prog 95 #[.func (.yield l) #[] #[]] W fun e W' => (∃ v, e = .returned v) ∧
      ((∃ ys, came ys = allTried ∧ J ys W') ∨ (∃ pre, (∃ m, m ≤ 32767 ∧ came pre = Ob.tried m) ∧ Jx pre W')) := by
  refine callsIn_of_wp Try.func95 rfl trivial ?_ rfl
  simp only [Try.ntmps95, List.size_toArray, List.length_cons, List.length_nil, Nat.reduceAdd, Nat.reduceSub, Array.replicate_succ, Array.replicate_zero, List.push_toArray, List.append_toArray, List.nil_append, List.cons_append]
  obtain ⟨fn, tmps, assign, body, hy, hR⟩ := hY [] ⟨2, by omega, by omega⟩ W h0 (by simp)
  have HY := Lib.hid hY
  clear hY
  dsimp only at hy
  rw [show ((2 : Nat) : Int) = 2 from rfl] at hy
  gi_wp2
  refine hR.mono ?_
  rintro e W3 (⟨rfl, hJ3, hk3⟩ | ⟨rfl, hJx3⟩)
  · clear hR hy
    gi_wp2
    gi_loopw [2] (fun d wr => ∃ (m : Nat) (pre : List Dv), d = .int .u32 (2 * (m : Int) + 3) ∧ m ≤ 32767 ∧ pre.length = m + 1 ∧ came pre = Ob.tried m ∧ J pre wr) (fun d _ => (70000 - intOf d).toNat)
    case atStart => exact ⟨0, _, rfl, by omega, rfl, rfl, hJ3⟩
    case round =>
      obtain ⟨m, pre, rfl, hm, hlen, hc, hJp⟩ := hrel
      have HL := Lib.hid hlen
      have HC := Lib.hid hc
      clear hlen hc
      by_cases hlt : m < 32767
      · obtain ⟨x, hx⟩ : ∃ x : Dv, x.1 = 2 * m + 3 := ⟨⟨2 * m + 3, by omega, by omega⟩, rfl⟩
        obtain ⟨fn, tmps, assign, body, hy, hR⟩ := HY.out pre x wr hJp (by rw [HL.out]; omega)
        rw [hx, show ((2 * m + 3 : Nat) : Int) = 2 * (m : Int) + 3 from by omega] at hy
        have HX := Lib.hid hx
        clear hx
        generalize hd : 2 * (m : Int) + 3 = d at hy ⊢
        have HD := Lib.hid hd
        have hd1 : d ≤ 65535 := by omega
        have hd0 : 0 ≤ d := by omega
        have HLT := Lib.hid hlt
        have HMM := Lib.hid hm
        clear hd hlt hm
        gi_wp2
        refine hR.mono ?_
        rintro e W4 (⟨rfl, hJ4, hk4⟩ | ⟨rfl, hJx4⟩)
        · clear hR hy
          gi_wp2
          go_roundw
          case rel => exact ⟨m + 1, _, by rw [← HD.out]; go_num, by have := HLT.out; omega, by simp [HL.out], by rw [came_snoc, HC.out, HX.out]; rfl, hJ4⟩
          case measure => have := HD.out; simp [intOf]; omega
        · gi_wp2
          refine bodyPost_ret (results_none rfl _ _ _) rfl ?_
          exact ⟨⟨_, rfl⟩, .inr ⟨_, ⟨m + 1, by have := HLT.out; omega, by rw [came_snoc, HC.out, HX.out]; rfl⟩, hJx4⟩⟩
      · have HM := Lib.hid (show m = 32767 by omega)
        have hd1 : ¬ 2 * (m : Int) + 3 ≤ 65535 := by omega
        generalize 2 * (m : Int) + 3 = d at hd1 ⊢
        clear hlt hm
        gi_wp2
        go_end0
        exact ⟨⟨_, rfl⟩, .inl ⟨pre, by rw [HC.out, HM.out]; rfl, hJp⟩⟩
  · gi_wp2
    refine bodyPost_ret (results_none rfl _ _ _) rfl ?_
    exact ⟨⟨_, rfl⟩, .inr ⟨_, ⟨0, by omega, rfl⟩, hJx3⟩⟩

theorem divisors_any (w : World) : Calls Try.prog 93 #[] w fun e w' => e = .returned (.func (.func 95) #[] #[]) ∧ w = w' := by
  go_enter Try.func93, Try.ntmps93
  go_wp2
  go_ret
  exact ⟨rfl, rfl⟩

theorem divisors_stops (n : Nat) (hn : 1 ≤ n) (n₀ : Nat) (w : World) :
    SeqStopsK Fence.wide n Try.prog 95 #[] (fun x : Dv => #[Value.int .u32 (x.1 : Nat)]) (Below n₀) (fun ys => came ys = allTried) (fun pre => ∃ m, m ≤ 32767 ∧ came pre = Ob.tried m) 32768 w :=
  fun l J Jx W _ _ _ hY h0 => divisors1_in n hn l n₀ J Jx hY W h0
end Go.Proofs.Ytfmmkdmnondomaa
/- What Factors of package modular returns: a new slice of the factors. -/
namespace Go.Proofs.Ytfmmkdmnondomaa
open Go.RowKit Go.Shelf
set_option linter.unusedVariables false
attribute [local go_sem] Oper.semAt_some

/-- The cells of a list of factors. -/
def fcells : List (Nat × Nat) → List Value
  | [] => []
  | (p, e) :: l => .int .u32 (p : Nat) :: .int .i64 (e : Nat) :: fcells l
theorem fcells_append : ∀ a b, fcells (a ++ b) = fcells a ++ fcells b
  | [], b => rfl
  | (p, e) :: a, b => by simp [fcells, fcells_append a b]

/-- What the variables of Factors hold: the list, and what is left. -/
structure FacW (B : Nat) (v : Value) (acc : List (Nat × Nat)) (r : Nat) (W : World) : Prop where
  list : Boxed W B 108 v
  rest : Boxed W (B + 1) 22 (.int .u32 (r : Nat))
  row : W.ownsRow B 120 2 v acc.length (fcells acc)

theorem FacW.kept {B : Nat} {v : Value} {acc : List (Nat × Nat)} {r : Nat} {X Y : World} {row : Option Nat} (h : FacW B v acc r X) (hg : X.grownBy Y row) (hrow : ∀ l, row = some l → ∃ o, X.heap[l]? = some o ∧ o.isCells = false) : FacW B v acc r Y := by
  refine ⟨h.list.kept hg (fun e' => ?_), h.rest.kept hg (fun e' => ?_), h.row.kept hg ?_⟩
  · obtain ⟨o, ho, hc⟩ := hrow B e'.symm
    rw [show X.heap[B]? = _ from h.list] at ho; cases ho; cases hc
  · obtain ⟨o, ho, hc⟩ := hrow (B + 1) e'.symm
    rw [show X.heap[B + 1]? = _ from h.rest] at ho; cases ho; cases hc
  · rcases h.row.2 with ⟨rfl, _⟩ | ⟨g, cap, cur, rfl, _, hgb, _⟩
    · exact .inl rfl
    · refine .inr fun e' => ?_
      obtain ⟨o, ho, hc⟩ := hrow g (by simpa [Value.ownBlock] using e'.symm)
      rw [hgb] at ho; cases ho; cases hc

theorem FacW.setRest {B : Nat} {v : Value} {acc : List (Nat × Nat)} {r : Nat} {W : World} (h : FacW B v acc r W) (r2 : Nat) : FacW B v acc r2 (W.setCell ⟨B + 1, 0, none⟩ (.int .u32 (r2 : Nat))) :=
  ⟨h.list.kept (grownBy_setCell' W (B + 1) _) (by simp), h.rest.set _, h.row.kept (grownBy_setCell' W (B + 1) _) (.inr (h.rest.not_row (by decide) h.row).symm)⟩

theorem two_new (w : World) (a b : Value) (t : TypeId) (j : Nat) (u : Value) (h : [a, b][j]? = some u) : (w.alloc (.cells #[a, b] t)).cell? (Addr.add ⟨w.heap.size, 0, none⟩ j) = some u := by
  rcases j with _ | _ | j
  · simp at h; subst h; simp [go_sem, Addr.add]
  · simp at h; subst h; simp [go_sem, Addr.add]
  · simp at h

def FacI (n B : Nat) (pre : List Dv) (W : World) : Prop := ∃ v acc r, Ob.St n (came pre) acc r ∧ FacW B v acc r W
def FacX (n B : Nat) (c : Code) (pre : List Dv) (W : World) : Prop := c = .exit 0 ∧ ∃ pre' x v acc r, pre = pre' ++ [x] ∧ Ob.St n (came pre') acc r ∧ r < x.1 * x.1 ∧ FacW B v acc r W

theorem FacI.own (n B : Nat) : Own (FacI n B) := by
  rintro s X Y row ⟨v, acc, r, hs, hw⟩ hg hrow
  exact ⟨v, acc, r, hs, hw.kept hg hrow⟩
theorem FacX.own (n B : Nat) (c : Code) : Own (FacX n B c) := by
  rintro s X Y row ⟨hc, p, x, v, acc, r, hp, hs, hlt, hw⟩ hg hrow
  exact ⟨hc, p, x, v, acc, r, hp, hs, hlt, hw.kept hg hrow⟩

theorem came_two (pre : List Dv) : ∀ x ∈ came pre, 2 ≤ x := by
  intro x hx
  simp only [came, List.mem_reverse, List.mem_map] at hx
  obtain ⟨y, _, rfl⟩ := hx
  exact y.2.1

theorem sq_of_div {r d : Nat} (hd : 2 ≤ d) (h : (r : Int) / (d : Int) < d) : r < d * d := by
  have h1 : r / d < d := by omega
  exact (Nat.div_lt_iff_lt_mul (by omega)).1 h1

theorem div_fits (r d : Nat) (h : r ≤ 4294967295) : (0 : Int) ≤ (r : Int) / (d : Int) ∧ (r : Int) / (d : Int) ≤ 4294967295 := by
  have h1 : r / d ≤ r := Nat.div_le_self _ _
  exact ⟨Int.ediv_nonneg (by omega) (by omega), by omega⟩
theorem mod_fits (r d : Nat) (h : r ≤ 4294967295) : (0 : Int) ≤ (r : Int) % (d : Int) ∧ (r : Int) % (d : Int) ≤ 4294967295 := by
  have h1 : r % d ≤ r := Nat.mod_le _ _
  omega

/-- The number that a cell holds. -/
def cellNat (W : World) (a : Addr) : Nat := match W.cell? a with | some (.int _ r) => r.toNat | _ => 0
theorem cellNat_eq {W : World} {a : Addr} {k : IntKind} {r : Nat} (h : W.cell? a = some (.int k r)) : cellNat W a = r := by
  simp [cellNat, h]

theorem tried_len : ∀ m, (Ob.tried m).length = m + 1
  | 0 => rfl
  | m + 1 => by simp [Ob.tried, tried_len m]

/-- How the factors end. -/
def FacEnd (n : Nat) (acc : List (Nat × Nat)) (r : Nat) : Prop := (r = 1 → Ob.Fz n acc) ∧ (1 < r → Ob.Fz n (acc ++ [(r, 1)]))

theorem fac_all {n : Nat} (hn : 1 ≤ n) (hn' : n ≤ 4294967295) {ys : List Dv} (hall : came ys = allTried) {acc : List (Nat × Nat)} {r : Nat} (h : Ob.St n (came ys) acc r) : FacEnd n acc r := by
  have h2 := (Ob.St.le hn (came_two ys) h).2
  rw [hall] at h
  exact Ob.St.end hn (m := 32767) h (by omega)

theorem fac_part {n : Nat} (hn : 1 ≤ n) {pre pre' : List Dv} {x : Dv} {m : Nat} (hc : came pre = Ob.tried m) (hp : pre = pre' ++ [x]) {acc : List (Nat × Nat)} {r : Nat} (h : Ob.St n (came pre') acc r) (hlt : r < x.1 * x.1) : FacEnd n acc r := by
  rw [hp, came_snoc] at hc
  rcases m with _ | m
  · simp only [Ob.tried, List.cons.injEq] at hc
    obtain ⟨hx, hc⟩ := hc
    rw [hc] at h
    obtain ⟨rfl, rfl⟩ := h
    rw [hx] at hlt
    exact Ob.St.end0 hlt hn
  · simp only [Ob.tried, List.cons.injEq] at hc
    obtain ⟨hx, hc⟩ := hc
    rw [hc] at h
    rw [hx] at hlt
    exact Ob.St.end hn h hlt

theorem infoPower : (Try.prog.info? 120).map (fun i => (i.zero, i.size, i.bytes)) = some (some (.agg #[.int .u32 0, .int .i64 0]), 2, 16) := by kernel_rfl

/-- The factors are returned, in new memory. -/
def FacPost (n : Nat) (w : World) (e : Ending) (w' : World) : Prop :=
  ∃ v L, e = .returned (.tuple #[v, .int .i64 0]) ∧ Ob.Fz n L ∧ w'.ownsRow w.heap.size 120 2 v L.length (fcells L) ∧ Gr w w'

set_option maxRecDepth 100000 in
set_option maxHeartbeats 2000000 in
theorem factors_any (n : Nat) (w : World) (hn : 1 ≤ n) (hn' : n ≤ 4294967295) :
    Calls Try.prog 85 #[.int .u32 n] w (FacPost n w) := by
  obtain ⟨i0, hi, hz0, hz1, hz2⟩ := info_parts infoPower
  have h0 : ((n : Int) == 0) = false := by simp; omega
  refine (callsIn_wide (n := 9)).1 ?_
  refine callsIn_of_wp_marks Try.func85 rfl trivial ?_ rfl
  simp only [Try.ntmps85, List.size_toArray, List.length_cons, List.length_nil, Nat.reduceAdd, Nat.reduceSub, Array.replicate_succ, Array.replicate_zero, List.push_toArray, List.append_toArray, List.nil_append, List.cons_append]
  gi_wp2_with (refine ⟨trivial, ?_⟩; gi_at_call 93; refine (callsIn_wide.2 (divisors_any _)).mono ?_; rintro e w' ⟨rfl, rfl⟩)
  have bL := Boxed.new w 108 (.slice none 0 0)
  have bR := Boxed.new (w.alloc (.cells #[.slice none 0 0] 108)) 22 (.int .u32 (n : Nat))
  rw [World.size_alloc] at bR
  have hB0 : Below w.heap.size w ((w.alloc (.cells #[.slice none 0 0] 108)).alloc (.cells #[.int .u32 (n : Nat)] 22)) := ((Below.refl _ w).alloc (Nat.le_refl _) _).alloc (by simp) _
  refine wpIn_rangeFunc_ownG rfl (by omega) (gf := 95) (lb := #[]) rfl trivial (enters_of Try.func95 (by kernel_rfl) rfl)
    (divisors_stops (9 - 1) (by omega) w.heap.size _) belowK_t (belowK_b (by simp; omega)) (Below.refl _ _) (fun _ => rfl)
    (fun pre W => FacI n w.heap.size pre W ∧ Below w.heap.size w W)
    (fun c pre W => FacX n w.heap.size c pre W ∧ Below w.heap.size w W)
    (OwnFrom.and (Own.from (FacI.own n w.heap.size) _) (ownFrom_below (Nat.le_refl _) (by simp; omega)))
    (fun c => OwnFrom.and (Own.from (FacX.own n w.heap.size c) _) (ownFrom_below (Nat.le_refl _) (by simp; omega)))
    ⟨⟨_, [], n, ⟨rfl, rfl⟩, bL.alloc _, bR, World.ownsRow_nil _ _ _ _⟩, hB0⟩
    (fun x => { tmps := #[.int .u32 (n : Nat), undef, .slice none 0 0, .int .i64 0, .pointer (some ⟨w.heap.size, 0, none⟩), .pointer (some ⟨w.heap.size + 1, 0, none⟩), .int .u32 (x.1 : Nat), undef, .int .u32 (n : Nat), .bool false, .int .u32 (n : Nat), .func (.func 95) #[] #[], .int .u32 (x.1 : Nat), undef, undef, undef, undef, undef, undef, undef, undef, undef, undef, undef, undef, undef, undef, undef, undef, undef, undef, undef, undef, undef, undef, undef, undef, undef, undef, undef, undef, undef, undef], defers := [] }) ?assign ?body ?done ?stop
  case assign =>
    intro l x W K hK
    gi_wp2
    exact hK
  case body =>
    rintro l pre ⟨d, hd2, hd3⟩ W ⟨⟨v, acc, r, hst, hW⟩, hB⟩ hlt
    dsimp only
    obtain ⟨hr1, hr2⟩ := Ob.St.le hn (came_two pre) hst
    have hlen := hst.len
    have cL := hW.list.cell
    have cR := hW.rest.cell
    have fR := hW.rest.frozen
    have HST := Lib.hid hst
    have HW := Lib.hid hW
    have HB := Lib.hid hB
    have HLEN := Lib.hid hlen
    clear hst hW hB hlen
    obtain ⟨q0, q1⟩ := div_fits r d (by omega)
    by_cases hbr : (r : Int) / (d : Int) < d
    · gi_wp2
      exact ⟨KeepsFrom.refl _ _, ⟨rfl, pre, _, v, acc, r, rfl, HST.out, sq_of_div hd2 hbr, HW.out⟩, HB.out⟩
    · gi_wp2
      gi_loopw [7] (fun e W' => ∃ k r' : Nat, e = .int .i64 k ∧ r = d ^ k * r' ∧ 1 ≤ r' ∧ FacW w.heap.size v acc r' W' ∧ Below w.heap.size w W' ∧ Below w.heap.size W W' ∧ KeepsOthers W W') (fun _ W' => cellNat W' ⟨w.heap.size + 1, 0, none⟩)
      case atStart => exact ⟨0, r, rfl, by simp, hr1, HW.out, HB.out, Below.refl _ _, KeepsOthers.refl _⟩
      case round =>
        obtain ⟨k, r', rfl, hrk, hr', hW', hB', hBW, hKO⟩ := hrel
        have hr'2 : r' ≤ r := by rw [hrk]; exact Nat.le_mul_of_pos_left _ (Nat.pow_pos (by omega))
        have hk : k < r := by
          have h1 : k < d ^ k := Nat.lt_pow_self (by omega)
          have h2 : d ^ k * 1 ≤ d ^ k * r' := Nat.mul_le_mul_left _ hr'
          omega
        have cL' := hW'.list.cell
        have cR' := hW'.rest.cell
        have fR' := hW'.rest.frozen
        obtain ⟨q0, q1⟩ := div_fits r' d (by omega)
        obtain ⟨m0, m1⟩ := mod_fits r' d (by omega)
        have HRK := Lib.hid hrk
        have HW' := Lib.hid hW'
        have HB' := Lib.hid hB'
        have HBW := Lib.hid hBW
        have HKO := Lib.hid hKO
        clear hrk hW' hB' hBW hKO cL cR fR
        by_cases hdv : r' % d = 0
        · have hb0 : ((r' : Int) % (d : Int) == 0) = true := by simp; omega
          have HDV := Lib.hid hdv
          clear hdv
          gi_wp2
          go_roundw
          case rel =>
            refine ⟨k + 1, r' / d, by go_num, ?_, ?_, by have := HW'.out.setRest (r' / d); rwa [Int.natCast_ediv] at this, HB'.out.setCell (p := ⟨w.heap.size + 1, 0, none⟩) (by simp) _, HBW.out.setCell (p := ⟨w.heap.size + 1, 0, none⟩) (by simp) _, HKO.out.trans (KeepsOthers.setCell _ _ _)⟩
            · rw [HRK.out, Nat.pow_succ, Nat.mul_assoc, Nat.mul_div_cancel' (Nat.dvd_of_mod_eq_zero HDV.out)]
            · exact Nat.div_pos (Nat.le_of_dvd (by omega) (Nat.dvd_of_mod_eq_zero HDV.out)) (by omega)
          case measure =>
            have e1 := cellNat_eq (HW'.out.setRest (r' / d)).rest.cell
            have e2 := cellNat_eq HW'.out.rest.cell
            rw [Int.natCast_ediv] at e1
            rw [e1, e2]
            exact Nat.div_lt_self (by omega) (by omega)
        · have hb0 : ((r' : Int) % (d : Int) == 0) = false := by simp; omega
          have HDV := Lib.hid hdv
          clear hdv
          by_cases hk0 : 0 < k
          · have hsz := HB'.out.size
            have hal : acc.length ≤ 32768 := by have h1 := HLEN.out; simp only [came, List.length_reverse, List.length_map] at h1; omega
            have hb1 : acc.length + 1 ≤ maxLen := by unfold maxLen; omega
            have hb2 : (acc.length + 1) * 16 ≤ 140737488355328 := by omega
            gi_wp2_with (gi_at_builtin; refine wpListIn_append_own _ rfl _ _ 108 rfl w.heap.size 120 i0 (.agg #[.int .u32 0, .int .i64 0]) 2 16 Try.underlying108 hi hz0 hz1 hz2 rfl (by decide) _ _ _ rfl (HW'.out.row.alloc _) ⟨wr.heap.size, 0, none⟩ 1 1 [.int .u32 (d : Nat), .int .i64 (k : Nat)] rfl rfl (two_new _ _ _ _) (by simp [Value.oneCell']) hb1 hb2 (by simp; omega) ?_; intro v' w1 hown' hgrow _; obtain ⟨g', cap', rfl⟩ := ownsRow_succ hown'; obtain ⟨hv1, hv2, hr2, hk2, hb2⟩ := HW'.out.list.appended (by decide) HW'.out.row hsz (Nat.le_refl _) hown' hgrow; have hc1 := hv1.cell; have hf1 := hv1.frozen)
            refine ⟨(HKO.out.trans hk2).from _, HBW.out.trans hb2, ⟨_, acc ++ [(d, k)], r', ?_, hv2, ?_, ?_⟩, HB'.out.trans hb2⟩
            · rw [came_snoc]; exact .inr ⟨acc, k, rfl, hk0, fun h => HDV.out (Nat.mod_eq_zero_of_dvd h), by rw [← HRK.out]; exact HST.out⟩
            · exact ((HW'.out.rest.alloc _).kept hgrow (HW'.out.rest.not_row (by decide) HW'.out.row)).kept (grownBy_setCell' w1 w.heap.size _) (by simp)
            · rw [fcells_append, List.length_append]; exact hr2
          · obtain rfl : k = 0 := by omega
            gi_wp2
            refine ⟨HKO.out.from _, HBW.out, ⟨v, acc, r', ?_, HW'.out⟩, HB'.out⟩
            rw [came_snoc]; exact .inl ⟨fun h => HDV.out (Nat.mod_eq_zero_of_dvd h), by have := HST.out; rw [HRK.out] at this; simpa using this⟩
  case done =>
    rintro D ys W hD hall ⟨⟨v, acc, r, hst, hW⟩, hB⟩ hK
    obtain ⟨hr1, hr2⟩ := Ob.St.le hn (came_two ys) hst
    have hcl : (came ys).length = 32768 := by rw [hall]; exact tried_len 32767
    have hfin := fac_all hn hn' hall hst
    have hsz := hB.size
    have hal : acc.length ≤ 32769 := by have h1 := hst.len; rw [hcl] at h1; omega
    have hb1 : acc.length + 1 ≤ maxLen := by unfold maxLen; omega
    have hb2 : (acc.length + 1) * 16 ≤ 140737488355328 := by omega
    have cL := hW.list.cell
    have cR := hW.rest.cell
    have HF := Lib.hid hfin
    have HW := Lib.hid hW
    have HB := Lib.hid hB
    clear hst hW hB hfin hcl
    by_cases hr : 1 < r
    · gi_wp2_with (gi_at_builtin; refine wpListIn_append_own _ rfl _ _ 108 rfl w.heap.size 120 i0 (.agg #[.int .u32 0, .int .i64 0]) 2 16 Try.underlying108 hi hz0 hz1 hz2 rfl (by decide) _ _ _ rfl (HW.out.row.alloc _) ⟨W.heap.size, 0, none⟩ 1 1 [.int .u32 (r : Nat), .int .i64 1] rfl rfl (two_new _ _ _ _) (by simp [Value.oneCell']) hb1 hb2 (by simp; omega) ?_; intro v' w1 hown' hgrow _; obtain ⟨g', cap', rfl⟩ := ownsRow_succ hown'; obtain ⟨hv1, hv2, hr2, hk2, hb2⟩ := HW.out.list.appended (by decide) HW.out.row hsz (Nat.le_refl _) hown' hgrow; have hc1 := hv1.cell; have hf1 := hv1.frozen)
      have hK' := hk2.same D _ hK rfl
      refine ⟨by simp, .inl ⟨_, _, rfl, run_takeDeferred hK', ?_⟩⟩
      exact ⟨_, results_tmp2 rfl _ _ _, _, acc ++ [(r, 1)], rfl, HF.out.2 hr, by rw [fcells_append, List.length_append]; exact ownsRow_putObj hr2 _ hK' rfl, (HB.out.trans hb2).trans (belowK_b (w := w) (Nat.le_refl _) _ D _ _ (by simp at hD; omega) hK' rfl rfl)⟩
    · gi_wp2
      refine ⟨by simp, .inl ⟨_, _, rfl, run_takeDeferred hK, ?_⟩⟩
      exact ⟨_, results_tmp2 rfl _ _ _, _, acc, rfl, HF.out.1 (by omega), ownsRow_putObj HW.out.row _ hK rfl, HB.out.trans (belowK_b (w := w) (Nat.le_refl _) W D _ _ (by simp at hD; omega) hK rfl rfl)⟩
  case stop =>
    rintro D c pre W hD ⟨m, hm, hcame⟩ ⟨⟨rfl, pre', x, v, acc, r, hp, hst, hlt, hW⟩, hB⟩ hK
    obtain ⟨hr1, hr2⟩ := Ob.St.le hn (came_two pre') hst
    have hcl : (came pre').length = m := by have h1 := congrArg List.length hcame; rw [hp, came_snoc, tried_len] at h1; simpa using h1
    have hfin := fac_part hn hcame hp hst hlt
    clear hcame hp hlt
    have hsz := hB.size
    have hal : acc.length ≤ 32769 := by have h1 := hst.len; rw [hcl] at h1; omega
    have hb1 : acc.length + 1 ≤ maxLen := by unfold maxLen; omega
    have hb2 : (acc.length + 1) * 16 ≤ 140737488355328 := by omega
    have cL := hW.list.cell
    have cR := hW.rest.cell
    have HF := Lib.hid hfin
    have HW := Lib.hid hW
    have HB := Lib.hid hB
    clear hst hW hB hfin hcl
    by_cases hr : 1 < r
    · gi_wp2_with (gi_at_builtin; refine wpListIn_append_own _ rfl _ _ 108 rfl w.heap.size 120 i0 (.agg #[.int .u32 0, .int .i64 0]) 2 16 Try.underlying108 hi hz0 hz1 hz2 rfl (by decide) _ _ _ rfl (HW.out.row.alloc _) ⟨W.heap.size, 0, none⟩ 1 1 [.int .u32 (r : Nat), .int .i64 1] rfl rfl (two_new _ _ _ _) (by simp [Value.oneCell']) hb1 hb2 (by simp; omega) ?_; intro v' w1 hown' hgrow _; obtain ⟨g', cap', rfl⟩ := ownsRow_succ hown'; obtain ⟨hv1, hv2, hr2, hk2, hb2⟩ := HW.out.list.appended (by decide) HW.out.row hsz (Nat.le_refl _) hown' hgrow; have hc1 := hv1.cell; have hf1 := hv1.frozen)
      have hK' := hk2.same D _ hK rfl
      refine ⟨by simp, .inl ⟨_, _, rfl, run_takeDeferred hK', ?_⟩⟩
      exact ⟨_, results_tmp2 rfl _ _ _, _, acc ++ [(r, 1)], rfl, HF.out.2 hr, by rw [fcells_append, List.length_append]; exact ownsRow_putObj hr2 _ hK' rfl, (HB.out.trans hb2).trans (belowK_b (w := w) (Nat.le_refl _) _ D _ _ (by simp at hD; omega) hK' rfl rfl)⟩
    · gi_wp2
      refine ⟨by simp, .inl ⟨_, _, rfl, run_takeDeferred hK, ?_⟩⟩
      exact ⟨_, results_tmp2 rfl _ _ _, _, acc, rfl, HF.out.1 (by omega), ownsRow_putObj HW.out.row _ hK rfl, HB.out.trans (belowK_b (w := w) (Nat.le_refl _) W D _ _ (by simp at hD; omega) hK rfl rfl)⟩
end Go.Proofs.Ytfmmkdmnondomaa
