import Derived.Test.YtaenjbemkeghgaaRoot
import Derived.Deep.QuietTactic
import Derived.BigQuiet
import Derived.WalkSmall
import Derived.Test.YtaenjbemkeghgaaAddm
import Derived.Test.YtaenjbemkeghgaaExi
/- What leastRoot and Root of package modular return. -/
namespace Go.Proofs.Ytaenjbemkeghgaa
open Go.RowKit
set_option linter.unusedVariables false

/-- m is the least power of x with an exponent below k that has no common divisor with 'order', or n if there is none. -/
def Least (n order x k m : Nat) : Prop := (∀ j, j < k → Nat.gcd j order = 1 → m ≤ x ^ j % n) ∧ (m = n ∨ ∃ j, j < k ∧ Nat.gcd j order = 1 ∧ m = x ^ j % n)

theorem Least.zero (n order x : Nat) : Least n order x 0 n := ⟨fun j hj => by omega, .inl rfl⟩
theorem Least.skip {n order x k m : Nat} (h : Least n order x k m) (hg : Nat.gcd k order ≠ 1 ∨ m ≤ x ^ k % n) : Least n order x (k + 1) m := by
  refine ⟨fun j hj hjg => ?_, ?_⟩
  · by_cases e : j = k
    · subst e; rcases hg with hg | hg
      · exact absurd hjg hg
      · exact hg
    · exact h.1 j (by omega) hjg
  · rcases h.2 with h | ⟨j, h1, h2⟩
    · exact .inl h
    · exact .inr ⟨j, by omega, h2⟩
theorem Least.take {n order x k m : Nat} (h : Least n order x k m) (hg : Nat.gcd k order = 1) (hm : x ^ k % n < m) : Least n order x (k + 1) (x ^ k % n) := by
  refine ⟨fun j hj hjg => ?_, .inr ⟨k, by omega, hg, rfl⟩⟩
  by_cases e : j = k
  · subst e; exact Nat.le_refl _
  · have := h.1 j (by omega) hjg; omega

/-- Root's result for a prime that is a modulus and an order that divides n - 1. -/
def RootPost (n order : Nat) (w : World) (e : Ending) (w' : World) : Prop :=
  ∃ L x m, Ob.Fz order L ∧ SomeRoot n order L x ∧ x < n ∧ Least n order x order m ∧ m ≤ n ∧ e = .returned (.tuple #[.int .u32 (m : Nat), .int .i64 0]) ∧ Gr w w'

end Go.Proofs.Ytaenjbemkeghgaa
/- The examples that each statement asks for first: they are as the document has them. -/
namespace Ob
set_option linter.unusedVariables false

/-- Powers modulo n by squaring. -/
def pm (n : Nat) : Nat → Nat → Nat → Nat → Nat
  | 0, _, _, r => r
  | f + 1, a, e, r => bif e == 0 then r else pm n f (a * a % n) (e / 2) (bif e % 2 == 1 then r * a % n else r)

theorem pm_eq (n : Nat) : ∀ (f a e r : Nat), e < 2 ^ f → pm n f a e r % n = r * a ^ e % n
  | 0, a, e, r, h => by
    obtain rfl : e = 0 := by simpa using h
    simp [pm]
  | f + 1, a, e, r, h => by
    unfold pm
    by_cases he : e = 0
    · simp [he]
    · rw [show (e == 0) = false from by simp [he]]
      simp only [cond_false]
      have h2 : e / 2 < 2 ^ f := by rw [Nat.pow_succ] at h; omega
      rw [pm_eq n f _ _ _ h2]
      have hsq : (a * a % n) ^ (e / 2) % n = (a * a) ^ (e / 2) % n := by rw [← Nat.pow_mod]
      rcases Nat.mod_two_eq_zero_or_one e with ho | ho
      · rw [show (e % 2 == 1) = false from by simp [ho]]
        simp only [cond_false]
        rw [Nat.mul_mod, hsq, ← Nat.mul_mod]
        congr 2
        rw [← Nat.pow_two, ← Nat.pow_mul, show 2 * (e / 2) = e by omega]
      · rw [show (e % 2 == 1) = true from by simp [ho]]
        simp only [cond_true]
        rw [Nat.mul_mod, hsq, Nat.mod_mod, ← Nat.mul_mod, Nat.mul_assoc]
        congr 2
        rw [← Nat.pow_two, ← Nat.pow_mul, Nat.mul_comm a, ← Nat.pow_succ]
        congr 1
        omega

theorem pow_of_pm {n f a e x : Nat} (h : e < 2 ^ f) (hp : pm n f a e 1 % n = x) : a ^ e % n = x := by
  rw [← hp, pm_eq n f a e 1 h, Nat.one_mul]

/-- A check of the strong test, by squaring. -/
def spC (n b o t i : Nat) : Bool := (n - 1 == o * 2 ^ t) && (o % 2 == 1) && Nat.blt (o * 2 ^ i) (2 ^ 40) && Nat.blt o (2 ^ 40) && ((pm n 40 b o 1 % n == 1) || (Nat.blt i t && (pm n 40 b (o * 2 ^ i) 1 % n == n - 1)))

theorem sp_of {n b o t i : Nat} (h : spC n b o t i = true) : SP n b := by
  simp only [spC, Bool.and_eq_true, Bool.or_eq_true, beq_iff_eq, Nat.blt_eq] at h
  obtain ⟨⟨⟨⟨h1, h2⟩, h3⟩, h4⟩, h5⟩ := h
  refine ⟨o, t, h1, h2, ?_⟩
  rcases h5 with h5 | ⟨h5, h6⟩
  · exact .inl (pow_of_pm h4 h5)
  · exact .inr ⟨i, h5, pow_of_pm h3 h6⟩

theorem sp_m2 : SP 2147483647 2 := sp_of (o := 1073741823) (t := 1) (i := 0) (by decide +kernel)
theorem sp_m7 : SP 2147483647 7 := sp_of (o := 1073741823) (t := 1) (i := 0) (by decide +kernel)
theorem sp_m61 : SP 2147483647 61 := sp_of (o := 1073741823) (t := 1) (i := 0) (by decide +kernel)
theorem sp_17_2 : SP 17 2 := sp_of (o := 1) (t := 4) (i := 2) (by decide +kernel)
theorem sp_17_7 : SP 17 7 := sp_of (o := 1) (t := 4) (i := 3) (by decide +kernel)
theorem sp_17_61 : SP 17 61 := sp_of (o := 1) (t := 4) (i := 3) (by decide +kernel)

theorem fz8 : Fz 8 [(2, 3)] := by
  have := Fz.cons 2 3 1 [] (by omega) (by intro d h1 h2; omega) (by omega) (by omega) Fz.one
  simpa using this
end Ob
namespace Go.Proofs.Ytaenjbemkeghgaa
open Go.RowKit
set_option linter.unusedVariables false

theorem prm17 : Prm 17 := .inr ⟨by omega, by omega, .inr Ob.sp_17_2, .inr Ob.sp_17_7, .inr Ob.sp_17_61⟩
theorem prmM : Prm 2147483647 := .inr ⟨by omega, by omega, .inr Ob.sp_m2, .inr Ob.sp_m7, .inr Ob.sp_m61⟩

theorem prim8 (x : Nat) : Prim 17 8 [(2, 3)] x ↔ x ^ 4 % 17 ≠ 1 := by
  unfold Prim
  constructor
  · intro h; have := h 0 (by simp); simpa using this
  · intro h i hi
    obtain rfl : i = 0 := by simpa using hi
    simpa using h

theorem root_8_17 {L : List (Nat × Nat)} {x m : Nat} (hL : Ob.Fz 8 L) (hs : SomeRoot 17 8 L x) (hl : Least 17 8 x 8 m) : m = 2 := by
  obtain rfl := Ob.fz8.unique hL
  have h3 : Prim 17 8 [(2, 3)] (3 ^ 2 % 17) := (prim8 _).2 (by decide)
  obtain rfl : x = 9 := by
    rcases hs with ⟨a, h1, h2, rfl, hp, hall⟩ | ⟨_, hall⟩
    · have ha : ¬ 3 < a := fun h => hall 3 (by omega) h h3
      have h12 : a = 1 ∨ a = 2 ∨ a = 3 := by omega
      rcases h12 with rfl | rfl | rfl
      · exact absurd rfl ((prim8 _).1 hp)
      · exact absurd rfl ((prim8 _).1 hp)
      · rfl
    · exact absurd h3 (hall 3 (by omega) (by omega))
  have h7 := hl.1 7 (by omega) (by decide)
  have e7 : 9 ^ 7 % 17 = 2 := by decide
  rw [e7] at h7
  rcases hl.2 with h | ⟨j, h1, h2, h3⟩
  · omega
  · have hj : j = 0 ∨ j = 1 ∨ j = 2 ∨ j = 3 ∨ j = 4 ∨ j = 5 ∨ j = 6 ∨ j = 7 := by omega
    rcases hj with rfl | rfl | rfl | rfl | rfl | rfl | rfl | rfl <;> first | (simp at h3; omega) | (simp at h2)

end Go.Proofs.Ytaenjbemkeghgaa
/- What the reference's Factors returns: the same factors. -/
namespace Go.Proofs.Ytaenjbemkeghgaa
open Go.RowKit
set_option linter.unusedVariables false
theorem grown_row {w a b : World} {b' : Obj} {e : TypeId} {size k : Nat} {v : Value} {xs : List Value} (h : Gr w (a.alloc b')) (ho : a.ownsRow w.heap.size e size v k xs) (hg : (a.alloc b').grownBy b v.ownBlock) : Gr w b := by
  refine Below.grown h hg h.size (fun j ej => ?_)
  rcases ho.2 with ⟨rfl, _⟩ | ⟨g, cap, cur, rfl, hb, _, _⟩
  · simp [Value.ownBlock] at ej
  · obtain rfl : g = j := by simpa [Value.ownBlock] using ej
    exact hb

theorem cast_lt_sq {r d : Nat} (h : r < d * d) : (r : Int) < (d : Int) * d := by
  rw [← Int.natCast_mul]; omega
theorem cast_sq_le {d : Nat} (h : d * d ≤ 18446744065119617025) : (d : Int) * d ≤ 18446744065119617025 := by
  rw [← Int.natCast_mul]; omega
theorem cast_sq_not {r d : Nat} (h : ¬ r < d * d) : ¬ (r : Int) < (d : Int) * d := by
  rw [← Int.natCast_mul]; omega

theorem rpow_step {r d k r' : Nat} (h : r = d ^ k * r') (hd : r' % d = 0) : r = d ^ (k + 1) * (r' / d) := by
  rw [h, Nat.pow_succ, Nat.mul_assoc, Nat.mul_div_cancel' (Nat.dvd_of_mod_eq_zero hd)]

/-- The measure of the reference's outer loop. -/
def rm (n : Nat) (x d : Int) : Nat := if x ≤ 1 then 0 else n + 1 - d.toNat
def rmeas (n : Nat) (x d : Value) : Nat := rm n (intOf x) (intOf d)
theorem rm_lt {n r r' d d' : Nat} (hr : 1 < r) (hd : d ≤ n) (hd' : 1 < r' → d + 1 ≤ d') : rm n (r' : Nat) (d' : Nat) < rm n (r : Nat) (d : Nat) := by
  unfold rm
  rw [if_neg (by omega : ¬ ((r : Int) ≤ 1))]
  by_cases h : (r' : Int) ≤ 1
  · rw [if_pos h]; omega
  · rw [if_neg h]; have := hd' (by omega); omega
theorem rmeas_lt {n r r' d d' : Nat} (hr : 1 < r) (hd : d ≤ n) (hd' : 1 < r' → d + 1 ≤ d') : rmeas n (.int .u32 (r' : Nat)) (.int .u64 (d' : Nat)) < rmeas n (.int .u32 (r : Nat)) (.int .u64 (d : Nat)) := rm_lt hr hd hd'
theorem rmeas_lt' {n r r' d d' : Nat} {x y : Int} (hx : x = (r' : Nat)) (hy : y = (d' : Nat)) (hr : 1 < r) (hd : d ≤ n) (hd' : 1 < r' → d + 1 ≤ d') : rmeas n (.int .u32 x) (.int .u64 y) < rmeas n (.int .u32 (r : Nat)) (.int .u64 (d : Nat)) := by
  rw [hx, hy]; exact rmeas_lt hr hd hd'

end Go.Proofs.Ytaenjbemkeghgaa
/- The law ModularPrimes returns true, whatever its argument. -/
namespace Go.Proofs.Ytaenjbemkeghgaa
open Go.RowKit
set_option linter.unusedVariables false



theorem dvd_of_pow_mod {n b k p : Nat} (hp : p ∣ n) (hb : p ∣ b) (hk : 1 ≤ k) (hn : 2 ≤ n) (h : b ^ k % n = 1 ∨ b ^ k % n = n - 1) : p ∣ 1 := by
  have h1 : p ∣ b ^ k := by
    obtain ⟨j, rfl⟩ : ∃ j, k = j + 1 := ⟨k - 1, by omega⟩
    rw [Nat.pow_succ]; exact Nat.dvd_mul_left_of_dvd hb _
  have h2 : p ∣ b ^ k % n := (Nat.dvd_mod_iff hp).2 h1
  rcases h with h | h
  · rwa [h] at h2
  · rw [h] at h2
    have h3 : n = (n - 1) + 1 := by omega
    rw [h3] at hp
    exact (Nat.dvd_add_right h2).1 hp

theorem sp_not_dvd {n b p : Nat} (hn : 3 ≤ n) (hp : p ∣ n) (hb : p ∣ b) (h : Ob.SP n b) : p ∣ 1 := by
  obtain ⟨o, t, h1, h2, h3⟩ := h
  rcases h3 with h3 | ⟨i, hi, h3⟩
  · exact dvd_of_pow_mod hp hb (by omega) (by omega) (.inl h3)
  · exact dvd_of_pow_mod hp hb (Nat.mul_pos (by omega) (Nat.two_pow_pos i)) (by omega) (.inr h3)

theorem sp_7_2 : Ob.SP 7 2 := Ob.sp_of (o := 3) (t := 1) (i := 0) (by decide +kernel)
theorem sp_7_61 : Ob.SP 7 61 := Ob.sp_of (o := 3) (t := 1) (i := 0) (by decide +kernel)
theorem sp_61_2 : Ob.SP 61 2 := Ob.sp_of (o := 15) (t := 2) (i := 1) (by decide +kernel)
theorem sp_61_7 : Ob.SP 61 7 := Ob.sp_of (o := 15) (t := 2) (i := 1) (by decide +kernel)

theorem prm_iff (n : Nat) : Prm n ↔ RPrm n := by
  constructor
  · rintro (h | ⟨hn, ho, h2, h7, h61⟩)
    · exact .inl (.inl h)
    · by_cases e7 : n = 7
      · exact .inl (.inr (.inl e7))
      by_cases e61 : n = 61
      · exact .inl (.inr (.inr e61))
      have s2 : Ob.SP n 2 := by
        rcases h2 with h2 | h2
        · rw [Nat.mod_eq_of_lt (by omega)] at h2; omega
        · exact h2
      have s7 : Ob.SP n 7 := by
        rcases h7 with h7 | h7
        · have := Nat.le_of_dvd (by omega) (Nat.dvd_of_mod_eq_zero h7)
          have h5 : n = 3 ∨ n = 5 := by omega
          rcases h5 with rfl | rfl <;> omega
        · exact h7
      have s61 : Ob.SP n 61 := by
        rcases h61 with h61 | h61
        · have h1 := Nat.dvd_of_mod_eq_zero h61
          have h2 := Nat.le_of_dvd (by omega) h1
          obtain ⟨c, hc⟩ := h1
          exfalso
          have hc2 : c < 21 := by
            apply Classical.byContradiction; intro hcc
            have := Nat.mul_le_mul hn (show 21 ≤ c by omega)
            omega
          have key : ∀ m, m < 61 → 3 ≤ m → ∀ c, c < 21 → 61 ≠ m * c := by decide
          exact key n (by omega) hn c hc2 hc
        · exact h61
      refine .inr ⟨hn, ho, ?_, ?_, s2, s7, s61⟩
      · apply Nat.pos_of_ne_zero; intro h
        have := Nat.le_of_dvd (by omega) (sp_not_dvd hn (Nat.dvd_of_mod_eq_zero h) (Nat.dvd_refl 7) s7); omega
      · apply Nat.pos_of_ne_zero; intro h
        have := Nat.le_of_dvd (by omega) (sp_not_dvd hn (Nat.dvd_of_mod_eq_zero h) (Nat.dvd_refl 61) s61); omega
  · rintro ((rfl | rfl | rfl) | ⟨hn, ho, _, _, s2, s7, s61⟩)
    · exact .inl rfl
    · exact .inr ⟨by omega, by omega, .inr sp_7_2, .inl rfl, .inr sp_7_61⟩
    · exact .inr ⟨by omega, by omega, .inr sp_61_2, .inr sp_61_7, .inl rfl⟩
    · exact .inr ⟨hn, ho, .inr s2, .inr s7, .inr s61⟩

theorem HasFac.form {W : World} {v : Value} {L : List (Nat × Nat)} (h : HasFac W v L) : ∃ a cap, v = .slice a L.length cap ∧ L.length ≤ cap ∧ cap ≤ 9223372036854775807 ∧
    ∀ i, i < L.length → ∃ g, a = some ⟨g, 0, none⟩ ∧ W.cell? ⟨g, i * 2, none⟩ = some (.int .u32 (((L.map (·.1))[i]?.getD 0 : Nat) : Int)) ∧ W.cell? ⟨g, i * 2 + 1, none⟩ = some (.int .i64 (((L.map (·.2))[i]?.getD 0 : Nat) : Int)) := by
  rcases h with ⟨rfl, rfl⟩ | ⟨g, cap, rfl, h1, h2, h3⟩
  · exact ⟨none, 0, rfl, Nat.le_refl _, by omega, fun i hi => absurd hi (by simp)⟩
  · exact ⟨_, cap, rfl, h1, by unfold maxLen at h2; omega, fun i hi => ⟨g, rfl, h3 i hi⟩⟩

end Go.Proofs.Ytaenjbemkeghgaa
/- The reference's trial division returns whether a number is a prime. -/
namespace Ob
/-- No number from 2 to d - 1 divides n. -/
def NoDiv (n d : Nat) : Prop := ∀ k, 2 ≤ k → k < d → ¬ k ∣ n

theorem NoDiv.two (n : Nat) : NoDiv n 2 := fun k h1 h2 => by omega
theorem NoDiv.next {n d : Nat} (h : NoDiv n d) (hd : n % d ≠ 0) : NoDiv n (d + 1) := fun k h1 h2 hk => by
  by_cases e : k = d
  · exact hd (Nat.mod_eq_zero_of_dvd (e ▸ hk))
  · exact h k h1 (by omega) hk
theorem NoDiv.pr {n d : Nat} (h : NoDiv n d) (hn : 2 ≤ n) (hd : n < d * d) : Pr n := by
  refine ⟨hn, fun k h1 h2 hk => ?_⟩
  by_cases e : k < d
  · exact h k h1 e hk
  · obtain ⟨j, hj⟩ := hk
    have hj2 : 2 ≤ j := by
      rcases j with _ | _ | j
      · omega
      · omega
      · omega
    by_cases f : j < d
    · exact h j hj2 f ⟨k, by rw [hj, Nat.mul_comm]⟩
    · have := Nat.mul_le_mul (show d ≤ k by omega) (show d ≤ j by omega)
      omega
theorem not_pr {n d : Nat} (h2 : 2 ≤ d) (hd : d * d ≤ n) (h : n % d = 0) : ¬ Pr n := fun hp => by
  have : d * 2 ≤ d * d := Nat.mul_le_mul_left d h2
  exact hp.2 d h2 (by omega) (Nat.dvd_of_mod_eq_zero h)
theorem sq_small {d : Nat} (h : d * d ≤ 4294967295) : d ≤ 65535 := by
  apply Classical.byContradiction
  intro hn
  have := Nat.mul_le_mul (show 65536 ≤ d by omega) (show 65536 ≤ d by omega)
  omega
end Ob
namespace Go.Proofs.Ytaenjbemkeghgaa
open Go.RowKit
set_option linter.unusedVariables false
end Go.Proofs.Ytaenjbemkeghgaa
/- The law ModularTrials returns true, whatever its argument: what passes the strong tests is a prime. -/
namespace Go.Proofs.Ytaenjbemkeghgaa
open Go.RowKit
set_option linter.unusedVariables false

theorem pr7 : Ob.Pr 7 := ⟨by omega, fun d h1 h2 => (by decide +kernel : ∀ d, d < 7 → 2 ≤ d → ¬ d ∣ 7) d h2 h1⟩
theorem pr61 : Ob.Pr 61 := ⟨by omega, fun d h1 h2 => (by decide +kernel : ∀ d, d < 61 → 2 ≤ d → ¬ d ∣ 61) d h2 h1⟩
theorem pr2 : Ob.Pr 2 := ⟨by omega, fun d h1 h2 => by omega⟩

theorem dvd_prime {n b : Nat} (hb : Ob.Pr b) (hn : 3 ≤ n) (h : b % n = 0) : n = b := by
  have hd := Nat.dvd_of_mod_eq_zero h
  have hle := Nat.le_of_dvd (by have := hb.1; omega) hd
  apply Classical.byContradiction
  intro hne
  exact hb.2 n (by omega) (by omega) hd

/-- What the program takes for a prime is one. -/
theorem prm_pr {n : Nat} (hn : n ≤ 4294967295) : Prm n ↔ Ob.Pr n := by
  refine ⟨?_, pr_prm⟩
  rintro (rfl | ⟨h3, ho, a, b, c⟩)
  · exact pr2
  · rcases a with a | a
    · have := dvd_prime pr2 h3 a; omega
    rcases b with b | b
    · have := dvd_prime pr7 h3 b; rw [this]; exact pr7
    rcases c with c | c
    · have := dvd_prime pr61 h3 c; rw [this]; exact pr61
    exact Ob.exact_tests h3 ho (by omega) ⟨a, b, c⟩

end Go.Proofs.Ytaenjbemkeghgaa
