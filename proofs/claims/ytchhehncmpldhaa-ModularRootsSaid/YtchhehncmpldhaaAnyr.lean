/- Order and Root, of both sides, for whatever arguments: the answers are determined. -/
import Derived.Test.YtchhehncmpldhaaRoots
namespace Ob
set_option linter.unusedVariables false

theorem Ord.pow_coprime {p x m j : Nat} (hp : 2 ≤ p) (h : Ord p x m) (hj : Nat.gcd j m = 1) : Ord p (x ^ j % p) m := by
  refine ⟨?_, fun k hk => ?_⟩
  · rw [← Nat.pow_mod, ← Nat.pow_mul, Nat.mul_comm]; exact pow_one_mod hp h.1 j
  · rw [← Nat.pow_mod, ← Nat.pow_mul] at hk
    exact Nat.Coprime.dvd_of_dvd_mul_left (Nat.Coprime.symm hj) (h.2 _ hk)

/-- m is the least residue of an order. -/
def LeastOrd (n order m : Nat) : Prop := Ord n m order ∧ m < n ∧ ∀ v, v < n → Ord n v order → m ≤ v
theorem LeastOrd.unique {n order m m' : Nat} (h : LeastOrd n order m) (h' : LeastOrd n order m') : m = m' :=
  Nat.le_antisymm (h.2.2 _ h'.2.1 h'.1) (h'.2.2 _ h.2.1 h.1)

theorem RLeast.leastOrd {n order v l : Nat} (hp : Pr n) (ho0 : 1 ≤ order) (hv : Ord n v order) (hvn : v < n) (h : RLeast n order v (order + 1) l) : LeastOrd n order l := by
  have hn := hp.1
  obtain ⟨b1, b2, b3⟩ := h
  refine ⟨?_, ?_, fun u hu hou => ?_⟩
  · rcases b3 with rfl | ⟨j, _, _, hg, rfl⟩
    · exact hv
    · exact hv.pow_coprime hn hg
  · omega
  · obtain ⟨k, hk, hgk, e⟩ := hv.power hp ho0 hou (Nat.gcd_one_left order)
    rw [Nat.pow_one, Nat.mod_eq_of_lt hu] at e
    rw [e]
    rcases Nat.eq_zero_or_pos k with rfl | hk0
    · rw [Nat.gcd_zero_left] at hgk
      have h3 := b2 1 (by omega) (by omega) (Nat.gcd_one_left _)
      have h4 := hv.1
      rw [hgk] at h4
      rw [h4] at h3
      rw [Nat.pow_zero, Nat.mod_eq_of_lt (by omega)]
      exact h3
    · exact b2 k hk0 (by omega) hgk
end Ob
namespace Go.Proofs.Ytchhehncmpldhaa
open Go.RowKit
set_option linter.unusedVariables false

theorem Least.leastOrd {n order x m : Nat} (hp : Ob.Pr n) (ho0 : 1 ≤ order) (hx : Ob.Ord n x order) (h : Least n order x order m) : Ob.LeastOrd n order m := by
  have hn := hp.1
  obtain ⟨a1, a2⟩ := h
  have hle : ∀ u, u < n → Ob.Ord n u order → m ≤ u := fun u hu hou => by
    obtain ⟨k, hk, hgk, e⟩ := hx.power hp ho0 hou (Nat.gcd_one_left order)
    rw [Nat.pow_one, Nat.mod_eq_of_lt hu] at e
    rw [e]; exact a1 k hk hgk
  have hxo : Ob.Ord n (x ^ 1 % n) order := hx.pow_coprime hn (Nat.gcd_one_left order)
  have hlt := hle _ (Nat.mod_lt _ (by omega)) hxo
  have hlt2 : x ^ 1 % n < n := Nat.mod_lt _ (by omega)
  refine ⟨?_, by omega, hle⟩
  rcases a2 with rfl | ⟨j, _, hg, rfl⟩
  · omega
  · exact hx.pow_coprime hn hg

def OrdRes (n a o : Nat) (c : Int) : Prop := ((n ≤ 2147483647 ∧ Prm n ∧ 1 ≤ a ∧ a < n) ∧ c = 0 ∧ Ob.Ord n a o) ∨ (¬ (n ≤ 2147483647 ∧ Prm n ∧ 1 ≤ a ∧ a < n) ∧ c = 2 ∧ o = 0)
theorem OrdRes.unique {n a o o' : Nat} {c c' : Int} (h : OrdRes n a o c) (h' : OrdRes n a o' c') : o = o' ∧ c = c' := by
  rcases h with ⟨h1, rfl, h2⟩ | ⟨h1, rfl, rfl⟩ <;> rcases h' with ⟨h3, rfl, h4⟩ | ⟨h3, rfl, rfl⟩
  · exact ⟨h2.unique h4, rfl⟩
  · exact absurd h1 h3
  · exact absurd h3 h1
  · exact ⟨rfl, rfl⟩
def OrdAny (n a : Nat) (w : World) (e : Ending) (w' : World) : Prop := ∃ (o : Nat) (c : Int), e = .returned (.tuple #[.int .u32 o, .int .i64 c]) ∧ OrdRes n a o c ∧ Gr w w'

theorem order_any (a n : Nat) (w : World) (hn : n ≤ 4294967295) (ha : a ≤ 4294967295) : Calls Try.prog 31 #[.int .u32 a, .int .u32 n] w (OrdAny n a w) := by
  by_cases h : n ≤ 2147483647 ∧ Prm n ∧ 1 ≤ a ∧ a < n
  · exact (order_ok a n w h.1 ((prm_pr hn).1 h.2.1) h.2.2.1 h.2.2.2).mono fun e w' ⟨o, h1, _, _, h2, g⟩ => ⟨o, 0, h1, .inl ⟨h, rfl, h2⟩, g⟩
  · exact (order_bad a n w hn ha h).mono fun e w' ⟨h1, g⟩ => ⟨0, 2, h1, .inr ⟨h, rfl, rfl⟩, g⟩
theorem rorder_any (a n : Nat) (w : World) (hn : n ≤ 4294967295) (ha : a ≤ 4294967295) : Calls Try.prog 32 #[.int .u32 a, .int .u32 n] w (OrdAny n a w) := by
  by_cases h : n ≤ 2147483647 ∧ Prm n ∧ 1 ≤ a ∧ a < n
  · exact (rorder_ok a n w h.1 ((prm_pr hn).1 h.2.1) h.2.2.1 h.2.2.2).mono fun e w' ⟨o, h1, _, _, h2, g⟩ => ⟨o, 0, h1, .inl ⟨h, rfl, h2⟩, g⟩
  · exact (rorder_bad a n w hn ha h).mono fun e w' ⟨h1, g⟩ => ⟨0, 2, h1, .inr ⟨h, rfl, rfl⟩, g⟩

def RootOk (n order : Nat) : Prop := (n ≤ 2147483647 ∧ Ob.Pr n) ∧ 1 ≤ order ∧ order ≤ 65536 ∧ (n - 1) % order = 0
def RootRes (n order m : Nat) (c : Int) : Prop :=
  ((¬ (n ≤ 2147483647 ∧ Ob.Pr n) ∨ order < 1) ∧ m = 0 ∧ c = 2) ∨ (((n ≤ 2147483647 ∧ Ob.Pr n) ∧ 65536 < order) ∧ m = 0 ∧ c = 3) ∨
  (((n ≤ 2147483647 ∧ Ob.Pr n) ∧ 1 ≤ order ∧ order ≤ 65536 ∧ (n - 1) % order ≠ 0) ∧ m = 0 ∧ c = 4) ∨ (RootOk n order ∧ c = 0 ∧ Ob.LeastOrd n order m)
theorem RootRes.unique {n order m m' : Nat} {c c' : Int} (h : RootRes n order m c) (h' : RootRes n order m' c') : m = m' ∧ c = c' := by
  rcases h with ⟨h1, rfl, rfl⟩ | ⟨⟨h1, h2⟩, rfl, rfl⟩ | ⟨⟨h1, h2, h3, h4⟩, rfl, rfl⟩ | ⟨⟨h1, h2, h3, h4⟩, rfl, h5⟩ <;>
    rcases h' with ⟨k1, rfl, rfl⟩ | ⟨⟨k1, k2⟩, rfl, rfl⟩ | ⟨⟨k1, k2, k3, k4⟩, rfl, rfl⟩ | ⟨⟨k1, k2, k3, k4⟩, rfl, k5⟩
  · exact ⟨rfl, rfl⟩
  · rcases h1 with h1 | h1
    · exact absurd k1 h1
    · omega
  · rcases h1 with h1 | h1
    · exact absurd k1 h1
    · omega
  · rcases h1 with h1 | h1
    · exact absurd k1 h1
    · omega
  · rcases k1 with k1 | k1
    · exact absurd h1 k1
    · omega
  · exact ⟨rfl, rfl⟩
  · omega
  · omega
  · rcases k1 with k1 | k1
    · exact absurd h1 k1
    · omega
  · omega
  · exact ⟨rfl, rfl⟩
  · exact absurd k4 h4
  · rcases k1 with k1 | k1
    · exact absurd h1 k1
    · omega
  · omega
  · exact absurd h4 k4
  · exact ⟨h5.unique k5, rfl⟩
def RootAny (n order : Nat) (w : World) (e : Ending) (w' : World) : Prop := ∃ (m : Nat) (c : Int), e = .returned (.tuple #[.int .u32 m, .int .i64 c]) ∧ RootRes n order m c ∧ Gr w w'

theorem root_any (order n : Nat) (w : World) (ho : order ≤ 4294967295) (hn : n ≤ 4294967295) : Calls Try.prog 33 #[.int .u32 order, .int .u32 n] w (RootAny n order w) := by
  by_cases hp : n ≤ 2147483647 ∧ Ob.Pr n
  · have hp' : n ≤ 2147483647 ∧ Prm n := ⟨hp.1, pr_prm hp.2⟩
    by_cases h1 : order < 1
    · exact (root_arg order n w ho hn (.inr h1)).mono fun e w' ⟨h, g⟩ => ⟨0, 2, h, .inl ⟨.inr h1, rfl, rfl⟩, g⟩
    by_cases h2 : 65536 < order
    · exact (root_long order n w ho hn hp' h2).mono fun e w' ⟨h, g⟩ => ⟨0, 3, h, .inr (.inl ⟨⟨hp, h2⟩, rfl, rfl⟩), g⟩
    by_cases h3 : (n - 1) % order = 0
    · refine (root_ok order n w hn hp' (by omega) (by omega) h3).mono fun e w' ⟨L, x, m, hL, hs, hx, hl, hm, h, g⟩ => ?_
      have hox := someRoot_ord hp.2 hL (Nat.dvd_of_mod_eq_zero h3) (by omega) hs
      exact ⟨m, 0, h, .inr (.inr (.inr ⟨⟨hp, by omega, by omega, h3⟩, rfl, hl.leastOrd hp.2 (by omega) hox⟩)), g⟩
    · exact (root_none order n w hn hp' (by omega) (by omega) h3).mono fun e w' ⟨h, g⟩ => ⟨0, 4, h, .inr (.inr (.inl ⟨⟨hp, by omega, by omega, h3⟩, rfl, rfl⟩)), g⟩
  · exact (root_arg order n w ho hn (.inl fun h => hp ⟨h.1, (prm_pr hn).1 h.2⟩)).mono fun e w' ⟨h, g⟩ => ⟨0, 2, h, .inl ⟨.inl hp, rfl, rfl⟩, g⟩

theorem rroot_any (order n : Nat) (w : World) (ho : order ≤ 4294967295) (hn : n ≤ 4294967295) : Calls Try.prog 34 #[.int .u32 order, .int .u32 n] w (RootAny n order w) := by
  by_cases hp : n ≤ 2147483647 ∧ Ob.Pr n
  · by_cases h1 : order < 1
    · exact (rroot_arg order n w ho hn (.inr h1)).mono fun e w' ⟨h, g⟩ => ⟨0, 2, h, .inl ⟨.inr h1, rfl, rfl⟩, g⟩
    by_cases h2 : 65536 < order
    · exact (rroot_long order n w ho hp.1 hp.2 h2).mono fun e w' ⟨h, g⟩ => ⟨0, 3, h, .inr (.inl ⟨⟨hp, h2⟩, rfl, rfl⟩), g⟩
    by_cases h3 : (n - 1) % order = 0
    · refine (rroot_ok order n w hp.1 hp.2 (by omega) (by omega) h3).mono fun e w' ⟨v, l, hv, hvn, hl, h, g⟩ => ?_
      exact ⟨l, 0, h, .inr (.inr (.inr ⟨⟨hp, by omega, by omega, h3⟩, rfl, hl.leastOrd hp.2 (by omega) hv hvn⟩)), g⟩
    · exact (rroot_none order n w hp.1 hp.2 (by omega) (by omega) h3).mono fun e w' ⟨h, g⟩ => ⟨0, 4, h, .inr (.inr (.inl ⟨⟨hp, by omega, by omega, h3⟩, rfl, rfl⟩)), g⟩
  · exact (rroot_arg order n w ho hn (.inl fun h => hp ⟨h.1, (prm_pr hn).1 h.2⟩)).mono fun e w' ⟨h, g⟩ => ⟨0, 2, h, .inl ⟨.inl hp, rfl, rfl⟩, g⟩

set_option maxRecDepth 100000 in
set_option maxHeartbeats 1000000 in
theorem orders_all (a order n : Nat) (w : World) (ha : a ≤ 4294967295) (ho : order ≤ 4294967295) (hn : n ≤ 4294967295) : Calls Try.prog 7 #[.int .u32 a, .int .u32 order, .int .u32 n] w (Truth w) := by
  go_enter Try.func7, Try.ntmps7
  go_wp2_with fail
  refine (order_any a n _ hn ha).mono ?_
  rintro e w1 ⟨o, c, rfl, h1, g1⟩
  have H1 := Lib.hid h1
  clear h1
  go_wp2_with fail
  refine (rorder_any a n _ hn ha).mono ?_
  rintro e w2 ⟨o', c', rfl, h2, g2⟩
  obtain ⟨rfl, rfl⟩ := H1.out.unique h2
  clear h2
  go_wp2_with fail
  refine (root_any order n _ ho hn).mono ?_
  rintro e w3 ⟨m, d, rfl, h3, g3⟩
  have H3 := Lib.hid h3
  clear h3
  go_wp2_with fail
  refine (rroot_any order n _ ho hn).mono ?_
  rintro e w4 ⟨m', d', rfl, h4, g4⟩
  obtain ⟨rfl, rfl⟩ := H3.out.unique h4
  clear h4
  go_wp2_with fail
  refine (shown_any _).mono ?_
  rintro e w5 ⟨rfl, g5⟩
  go_wp2_with fail
  go_ret
  exact ⟨rfl, (((g1.trans g2).trans g3).trans g4).trans g5⟩
end Go.Proofs.Ytchhehncmpldhaa
