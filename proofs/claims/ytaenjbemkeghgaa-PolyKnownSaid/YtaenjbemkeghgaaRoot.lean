import Derived.RangeFuncNested
import Derived.RangeFuncBound
import Derived.RangeFuncCalls
import Derived.RangeFuncLeaves
import Derived.RangeFuncBox
import Derived.Shelf.Abstract
import Derived.Shelf.RegionOpen
import Derived.OwnWalkIn
import Derived.TacticsInMore
import Derived.LoopNIn
import Derived.LoopIn
import Derived.Maps.AppendAt
import Derived.Test.YtaenjbemkeghgaaPrime
import Derived.Test.YtaenjbemkeghgaaFz
/- The iterator over the divisors that Factors tries: 2 and the odd numbers up to 65535, or a beginning of them where the loop's body says 'no more'. -/
namespace Go.Proofs.Ytaenjbemkeghgaa
open Go.RowKit Go.Shelf
set_option linter.unusedVariables false
attribute [local go_sem] Oper.semAt_some

/-- A number that may be tried. -/
abbrev Dv := { x : Nat // 2 ≤ x ∧ x ≤ 65535 }
/-- What has come, the last one first. -/
def came (pre : List Dv) : List Nat := (pre.map (·.1)).reverse
theorem came_snoc (pre : List Dv) (x : Dv) : came (pre ++ [x]) = x.1 :: came pre := by simp [came]
theorem came_nil : came [] = [] := rfl
/-- All of them. -/
def allTried : List Nat := Ob.tried 32767

end Go.Proofs.Ytaenjbemkeghgaa
/- What Factors of package modular returns: a new slice of the factors. -/
namespace Go.Proofs.Ytaenjbemkeghgaa
open Go.RowKit Go.Shelf
set_option linter.unusedVariables false
attribute [local go_sem] Oper.semAt_some

/-- The cells of a list of factors. -/
def fcells : List (Nat × Nat) → List Value
  | [] => []
  | (p, e) :: l => .int .u32 (p : Nat) :: .int .i64 (e : Nat) :: fcells l
theorem fcells_append : ∀ a b, fcells (a ++ b) = fcells a ++ fcells b
  | [], b => rfl
  | (p, e) :: a, b => by simp [fcells, fcells_append a b]

theorem two_new (w : World) (a b : Value) (t : TypeId) (j : Nat) (u : Value) (h : [a, b][j]? = some u) : (w.alloc (.cells #[a, b] t)).cell? (Addr.add ⟨w.heap.size, 0, none⟩ j) = some u := by
  rcases j with _ | _ | j
  · simp at h; subst h; simp [go_sem, Addr.add]
  · simp at h; subst h; simp [go_sem, Addr.add]
  · simp at h

theorem came_two (pre : List Dv) : ∀ x ∈ came pre, 2 ≤ x := by
  intro x hx
  simp only [came, List.mem_reverse, List.mem_map] at hx
  obtain ⟨y, _, rfl⟩ := hx
  exact y.2.1

theorem sq_of_div {r d : Nat} (hd : 2 ≤ d) (h : (r : Int) / (d : Int) < d) : r < d * d := by
  have h1 : r / d < d := by omega
  exact (Nat.div_lt_iff_lt_mul (by omega)).1 h1

theorem div_fits (r d : Nat) (h : r ≤ 4294967295) : (0 : Int) ≤ (r : Int) / (d : Int) ∧ (r : Int) / (d : Int) ≤ 4294967295 := by
  have h1 : r / d ≤ r := Nat.div_le_self _ _
  exact ⟨Int.ediv_nonneg (by omega) (by omega), by omega⟩
theorem mod_fits (r d : Nat) (h : r ≤ 4294967295) : (0 : Int) ≤ (r : Int) % (d : Int) ∧ (r : Int) % (d : Int) ≤ 4294967295 := by
  have h1 : r % d ≤ r := Nat.mod_le _ _
  omega

/-- The number that a cell holds. -/
def cellNat (W : World) (a : Addr) : Nat := match W.cell? a with | some (.int _ r) => r.toNat | _ => 0
theorem cellNat_eq {W : World} {a : Addr} {k : IntKind} {r : Nat} (h : W.cell? a = some (.int k r)) : cellNat W a = r := by
  simp [cellNat, h]

theorem tried_len : ∀ m, (Ob.tried m).length = m + 1
  | 0 => rfl
  | m + 1 => by simp [Ob.tried, tried_len m]

/-- How the factors end. -/
def FacEnd (n : Nat) (acc : List (Nat × Nat)) (r : Nat) : Prop := (r = 1 → Ob.Fz n acc) ∧ (1 < r → Ob.Fz n (acc ++ [(r, 1)]))

theorem fac_all {n : Nat} (hn : 1 ≤ n) (hn' : n ≤ 4294967295) {ys : List Dv} (hall : came ys = allTried) {acc : List (Nat × Nat)} {r : Nat} (h : Ob.St n (came ys) acc r) : FacEnd n acc r := by
  have h2 := (Ob.St.le hn (came_two ys) h).2
  rw [hall] at h
  exact Ob.St.end hn (m := 32767) h (by omega)

theorem fac_part {n : Nat} (hn : 1 ≤ n) {pre pre' : List Dv} {x : Dv} {m : Nat} (hc : came pre = Ob.tried m) (hp : pre = pre' ++ [x]) {acc : List (Nat × Nat)} {r : Nat} (h : Ob.St n (came pre') acc r) (hlt : r < x.1 * x.1) : FacEnd n acc r := by
  rw [hp, came_snoc] at hc
  rcases m with _ | m
  · simp only [Ob.tried, List.cons.injEq] at hc
    obtain ⟨hx, hc⟩ := hc
    rw [hc] at h
    obtain ⟨rfl, rfl⟩ := h
    rw [hx] at hlt
    exact Ob.St.end0 hlt hn
  · simp only [Ob.tried, List.cons.injEq] at hc
    obtain ⟨hx, hc⟩ := hc
    rw [hc] at h
    rw [hx] at hlt
    exact Ob.St.end hn h hlt

end Go.Proofs.Ytaenjbemkeghgaa
/- What the functions of package modular that look for roots of unity return. -/
namespace Go.Proofs.Ytaenjbemkeghgaa
open Go.RowKit
set_option linter.unusedVariables false

/-- A slice holds a list of factors. -/
def HasFac (W : World) (v : Value) (L : List (Nat × Nat)) : Prop :=
  (v = .slice none 0 0 ∧ L = []) ∨ ∃ g cap, v = .slice (some ⟨g, 0, none⟩) L.length cap ∧ L.length ≤ cap ∧ cap ≤ maxLen ∧
    ∀ i, i < L.length → W.cell? ⟨g, i * 2, none⟩ = some (.int .u32 (((L.map (·.1))[i]?.getD 0 : Nat) : Int)) ∧ W.cell? ⟨g, i * 2 + 1, none⟩ = some (.int .i64 (((L.map (·.2))[i]?.getD 0 : Nat) : Int))

theorem fcells_len : ∀ L, (fcells L).length = L.length * 2
  | [] => rfl
  | (p, e) :: L => by simp [fcells, fcells_len L]; omega

theorem fcells_at : ∀ (L : List (Nat × Nat)) (i : Nat), i < L.length → (fcells L)[i * 2]? = some (.int .u32 (((L.map (·.1))[i]?.getD 0 : Nat) : Int)) ∧ (fcells L)[i * 2 + 1]? = some (.int .i64 (((L.map (·.2))[i]?.getD 0 : Nat) : Int))
  | [], i, h => by simp at h
  | (p, e) :: L, 0, h => by simp [fcells]
  | (p, e) :: L, i + 1, h => by
    have := fcells_at L i (by simpa using h)
    have e1 : (i + 1) * 2 = i * 2 + 1 + 1 := by omega
    rw [e1]
    simpa [fcells] using this

theorem HasFac.later {W W' : World} {v : Value} {L : List (Nat × Nat)} (h : HasFac W v L) (hg : Gr W W') : HasFac W' v L := by
  rcases h with h | ⟨g, cap, rfl, h1, h2, h3⟩
  · exact .inl h
  · exact .inr ⟨g, cap, rfl, h1, h2, fun i hi => ⟨hg.keeps (h3 i hi).1, hg.keeps (h3 i hi).2⟩⟩

/-- x has no lesser order that divides 'order' by one of its primes. -/
def Prim (n order : Nat) (L : List (Nat × Nat)) (x : Nat) : Prop := ∀ i, i < L.length → x ^ (order / (L.map (·.1))[i]?.getD 0) % n ≠ 1

theorem cast_pow' (x n o : Nat) : (x : Int) ^ (o : Int).toNat % n = ((x ^ o % n : Nat) : Int) := by
  rw [Int.toNat_natCast, Int.natCast_emod, Int.natCast_pow]

/-- What someRoot returns: the power of the first candidate that is primitive, or 0 if there is none. -/
def SomeRoot (n order : Nat) (L : List (Nat × Nat)) (x : Nat) : Prop :=
  (∃ a, 1 ≤ a ∧ a < n ∧ x = a ^ ((n - 1) / order) % n ∧ Prim n order L x ∧ ∀ b, 1 ≤ b → b < a → ¬ Prim n order L (b ^ ((n - 1) / order) % n)) ∨
  (x = 0 ∧ ∀ b, 1 ≤ b → b < n → ¬ Prim n order L (b ^ ((n - 1) / order) % n))
def SomePost (n order : Nat) (w : World) (e : Ending) (w' : World) : Prop := ∃ L x : _, Ob.Fz order L ∧ e = .returned (.int .u32 (x : Nat)) ∧ SomeRoot n order L x ∧ x < n ∧ Gr w w'

theorem fz_le {n : Nat} {L : List (Nat × Nat)} (h : Ob.Fz n L) : ∀ p ∈ L.map (·.1), 1 ≤ p ∧ p ≤ n := by
  induction h with
  | one => simp
  | cons p e m L hp hd he hm hL ih =>
    intro q hq
    simp only [List.map_cons, List.mem_cons] at hq
    have h1 : 1 ≤ m := hL.pos
    have hpe : 1 ≤ p ^ e := Nat.pow_pos (by omega)
    rcases hq with rfl | hq
    · exact ⟨by omega, Nat.le_of_dvd (Nat.mul_pos hpe h1) (Ob.dvd_front he)⟩
    · have := ih q hq
      have h2 : 1 * m ≤ p ^ e * m := Nat.mul_le_mul_right _ hpe
      omega

end Go.Proofs.Ytaenjbemkeghgaa
