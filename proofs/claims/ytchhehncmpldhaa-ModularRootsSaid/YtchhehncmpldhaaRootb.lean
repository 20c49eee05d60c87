/- What leastRoot and Root of package modular return. -/
import Derived.Test.YtchhehncmpldhaaRoot
namespace Go.Proofs.Ytchhehncmpldhaa
open Go.RowKit
set_option linter.unusedVariables false

/-- m is the least power of x with an exponent below k that has no common divisor with 'order', or n if there is none. -/
def Least (n order x k m : Nat) : Prop := (∀ j, j < k → Nat.gcd j order = 1 → m ≤ x ^ j % n) ∧ (m = n ∨ ∃ j, j < k ∧ Nat.gcd j order = 1 ∧ m = x ^ j % n)

theorem Least.zero (n order x : Nat) : Least n order x 0 n := ⟨fun j hj => by omega, .inl rfl⟩
theorem Least.skip {n order x k m : Nat} (h : Least n order x k m) (hg : Nat.gcd k order ≠ 1 ∨ m ≤ x ^ k % n) : Least n order x (k + 1) m := by
  refine ⟨fun j hj hjg => ?_, ?_⟩
  · by_cases e : j = k
    · subst e; rcases hg with hg | hg
      · exact absurd hjg hg
      · exact hg
    · exact h.1 j (by omega) hjg
  · rcases h.2 with h | ⟨j, h1, h2⟩
    · exact .inl h
    · exact .inr ⟨j, by omega, h2⟩
theorem Least.take {n order x k m : Nat} (h : Least n order x k m) (hg : Nat.gcd k order = 1) (hm : x ^ k % n < m) : Least n order x (k + 1) (x ^ k % n) := by
  refine ⟨fun j hj hjg => ?_, .inr ⟨k, by omega, hg, rfl⟩⟩
  by_cases e : j = k
  · subst e; exact Nat.le_refl _
  · have := h.1 j (by omega) hjg; omega

set_option maxHeartbeats 1000000 in
theorem leastRoot_any (x order n : Nat) (w : World) (hn : 2 ≤ n) (hn' : n ≤ 2147483647) (ho : 1 ≤ order) (ho' : order ≤ 65536) (hx : x < n) :
    Calls Try.prog 51 #[.int .u32 x, .int .u32 order, .int .u32 n] w fun e w' => (∃ m : Nat, e = .returned (.int .u32 m) ∧ Least n order x order m ∧ m ≤ n) ∧ Gr w w' := by
  go_enter Try.func51, Try.ntmps51
  go_wp2_with fail
  refine (products_any n _).mono ?_
  rintro e w' ⟨rfl, rfl⟩
  have hB := cell_new w (.int .u32 n) 22
  have hg : Gr w (w.alloc (.cells #[.int .u32 n] 22)) := Gr.new _ _
  generalize hW : w.alloc (.cells #[.int .u32 n] 22) = W at *
  clear hW
  have HB := Lib.hid hB
  clear hB
  go_wp2_with fail
  go_loop [8, 9, 17] (fun a b c => ∃ m p k : Nat, a = .int .u32 m ∧ b = .int .u32 p ∧ c = .int .u32 k ∧ k ≤ order ∧ p < n ∧ m ≤ n ∧ p = x ^ k % n ∧ Least n order x k m) (fun _ _ c => order - (intOf c).toNat)
  case atStart => exact ⟨n, 1, 0, rfl, rfl, rfl, by omega, by omega, by omega, by simp; rw [Nat.mod_eq_of_lt (by omega)], Least.zero _ _ _⟩
  case round =>
    obtain ⟨m, p, k, rfl, rfl, rfl, hk, hp, hm, hpp, hl⟩ := hrel
    have HP := Lib.hid hpp
    have HL := Lib.hid hl
    clear hpp hl
    by_cases hlt : k < order
    · have hm0 := emod_lo ((p : Int) * x) n (by omega)
      have hm1 := emod_hi ((p : Int) * x) n (by omega)
      go_wp2_with fail
      refine (bezout_any k order _ (by omega) (by omega) (by omega)).mono ?_
      rintro e w' ⟨ξ, rfl, -, hx1, hx2, rfl⟩
      have hstep : ((p * x % n : Nat) : Int) = (p : Int) * x % n := by rw [Int.natCast_emod, Int.natCast_mul]
      have HS := Lib.hid hstep
      have hnext : p * x % n = x ^ (k + 1) % n := by
        rw [HP.out, Nat.pow_succ, Nat.mul_mod, Nat.mod_mod, ← Nat.mul_mod]
      have HN := Lib.hid hnext
      clear hstep hnext
      by_cases hgc : Nat.gcd k order = 1
      · rw [hgc]
        have HG := Lib.hid hgc
        clear hgc
        by_cases hpm : p < m
        · go_wp2_with fail
          refine (times_any p x n w.heap.size _ (by omega) (by omega) (by omega) (by omega) (by omega) (by omega) HB.out).mono ?_
          rintro e w' ⟨rfl, rfl⟩
          go_wp2_with fail
          refine ⟨⟨p, p * x % n, k + 1, rfl, by rw [HS.out], by go_num, by omega, Nat.mod_lt _ (by omega), by omega, HN.out, ?_⟩, by simp [intOf]; omega⟩
          have h1 := HL.out.take HG.out (by rw [← HP.out]; exact hpm)
          rwa [← HP.out] at h1
        · go_wp2_with fail
          refine (times_any p x n w.heap.size _ (by omega) (by omega) (by omega) (by omega) (by omega) (by omega) HB.out).mono ?_
          rintro e w' ⟨rfl, rfl⟩
          go_wp2_with fail
          exact ⟨⟨m, p * x % n, k + 1, rfl, by rw [HS.out], by go_num, by omega, Nat.mod_lt _ (by omega), hm, HN.out, HL.out.skip (.inr (by rw [← HP.out]; omega))⟩, by simp [intOf]; omega⟩
      · generalize hgg : Nat.gcd k order = gg at *
        have hgb : ((gg : Int) == 1) = false := by simp; omega
        have HG := Lib.hid hgc
        have HGG := Lib.hid hgg
        clear hgc hgg
        go_wp2_with fail
        refine (times_any p x n w.heap.size _ (by omega) (by omega) (by omega) (by omega) (by omega) (by omega) HB.out).mono ?_
        rintro e w' ⟨rfl, rfl⟩
        go_wp2_with fail
        exact ⟨⟨m, p * x % n, k + 1, rfl, by rw [HS.out], by go_num, by omega, Nat.mod_lt _ (by omega), hm, HN.out, HL.out.skip (.inl (by rw [HGG.out]; exact HG.out))⟩, by simp [intOf]; omega⟩
    · go_wp2_with fail
      go_ret
      exact ⟨⟨m, rfl, by have := HL.out; rwa [show k = order by omega] at this, hm⟩, hg⟩

/-- Root's result for a prime that is a modulus and an order that divides n - 1. -/
def RootPost (n order : Nat) (w : World) (e : Ending) (w' : World) : Prop :=
  ∃ L x m, Ob.Fz order L ∧ SomeRoot n order L x ∧ x < n ∧ Least n order x order m ∧ m ≤ n ∧ e = .returned (.tuple #[.int .u32 (m : Nat), .int .i64 0]) ∧ Gr w w'

theorem root_arg (order n : Nat) (w : World) (ho' : order ≤ 4294967295) (hn' : n ≤ 4294967295) (h : ¬ (n ≤ 2147483647 ∧ Prm n) ∨ order < 1) :
    Calls Try.prog 33 #[.int .u32 order, .int .u32 n] w (Two 0 2 w) := by
  by_cases hp : n ≤ 2147483647 ∧ Prm n
  · have ho : order < 1 := by rcases h with h | h; exact absurd hp h; exact h
    have HP := Lib.hid hp
    clear h hp
    go_enter Try.func33, Try.ntmps33
    go_wp2_with fail
    refine (primeModulus_any n _ hn').mono ?_
    rintro e w' ⟨r, rfl, hr, hg⟩
    obtain rfl : r = true := hr.2 HP.out
    clear hr
    go_wp2_with fail
    go_ret2
    exact ⟨rfl, hg⟩
  · have HP := Lib.hid hp
    clear h hp
    go_enter Try.func33, Try.ntmps33
    go_wp2_with fail
    refine (primeModulus_any n _ hn').mono ?_
    rintro e w' ⟨r, rfl, hr, hg⟩
    obtain rfl : r = false := by cases r; rfl; exact absurd (hr.1 rfl) HP.out
    clear hr
    go_wp2_with fail
    go_ret2
    exact ⟨rfl, hg⟩

theorem root_long (order n : Nat) (w : World) (ho' : order ≤ 4294967295) (hn' : n ≤ 4294967295) (hp : n ≤ 2147483647 ∧ Prm n) (ho : 65536 < order) :
    Calls Try.prog 33 #[.int .u32 order, .int .u32 n] w (Two 0 3 w) := by
  have HP := Lib.hid hp
  clear hp
  go_enter Try.func33, Try.ntmps33
  go_wp2_with fail
  refine (primeModulus_any n _ hn').mono ?_
  rintro e w' ⟨r, rfl, hr, hg⟩
  obtain rfl : r = true := hr.2 HP.out
  clear hr
  go_wp2_with fail
  go_ret2
  exact ⟨rfl, hg⟩

theorem root_none (order n : Nat) (w : World) (hn' : n ≤ 4294967295) (hp : n ≤ 2147483647 ∧ Prm n) (ho : 1 ≤ order) (ho' : order ≤ 65536) (hd : (n - 1) % order ≠ 0) :
    Calls Try.prog 33 #[.int .u32 order, .int .u32 n] w (Two 0 4 w) := by
  have h2 : 2 ≤ n := by rcases hp.2 with h | h <;> omega
  have HP := Lib.hid hp
  have HD := Lib.hid hd
  clear hp hd
  obtain ⟨m0, m1⟩ := mod_fits (n - 1) order (by omega)
  have hb : ((((n : Int) - 1) % (order : Int)) != 0) = true := by
    rw [show (n : Int) - 1 = ((n - 1 : Nat) : Int) from by omega]
    have := HD.out
    simp; omega
  rw [show ((n - 1 : Nat) : Int) = (n : Int) - 1 from by omega] at m0 m1
  go_enter Try.func33, Try.ntmps33
  go_wp2_with fail
  refine (primeModulus_any n _ hn').mono ?_
  rintro e w' ⟨r, rfl, hr, hg⟩
  obtain rfl : r = true := hr.2 HP.out
  clear hr
  go_wp2_with fail
  go_ret2
  exact ⟨rfl, hg⟩

set_option maxHeartbeats 1000000 in
theorem root_ok (order n : Nat) (w : World) (hn' : n ≤ 4294967295) (hp : n ≤ 2147483647 ∧ Prm n) (ho : 1 ≤ order) (ho' : order ≤ 65536) (hd : (n - 1) % order = 0) :
    Calls Try.prog 33 #[.int .u32 order, .int .u32 n] w (RootPost n order w) := by
  have h2 : 2 ≤ n := by rcases hp.2 with h | h <;> omega
  have h3 := hp.1
  have HP := Lib.hid hp
  have HD := Lib.hid hd
  clear hp hd
  obtain ⟨m0, m1⟩ := mod_fits (n - 1) order (by omega)
  have hb : ((((n : Int) - 1) % (order : Int)) != 0) = false := by
    rw [show (n : Int) - 1 = ((n - 1 : Nat) : Int) from by omega]
    have := HD.out
    simp; omega
  rw [show ((n - 1 : Nat) : Int) = (n : Int) - 1 from by omega] at m0 m1
  go_enter Try.func33, Try.ntmps33
  go_wp2_with fail
  refine (primeModulus_any n _ hn').mono ?_
  rintro e w' ⟨r, rfl, hr, hg⟩
  obtain rfl : r = true := hr.2 HP.out
  clear hr
  go_wp2_with fail
  refine (someRoot_any order n _ h2 h3 ho (by omega)).mono ?_
  rintro e w2 ⟨L, x, hL, rfl, hs, hx, hg2⟩
  go_wp2_with fail
  refine (leastRoot_any x order n _ h2 h3 ho ho' hx).mono ?_
  rintro e w3 ⟨⟨m, rfl, hl, hm⟩, hg3⟩
  go_wp2_with fail
  go_ret2
  exact ⟨L, x, m, hL, hs, hx, hl, hm, rfl, (hg.trans hg2).trans hg3⟩
end Go.Proofs.Ytchhehncmpldhaa
