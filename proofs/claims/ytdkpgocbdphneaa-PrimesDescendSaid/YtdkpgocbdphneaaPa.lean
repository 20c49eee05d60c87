/- Layer 3: both tests for primes by the primes themselves; what the answers of Below and Next are, as relations that determine them; the reference's Below and Next. -/
import Derived.Test.YtdkpgocbdphneaaRroot
import Derived.Test.YtdkpgocbdphneaaPrimes
namespace Ob
set_option linter.unusedVariables false

/-- v is the greatest prime below l that is 1 modulo s, with the code 0; or there is none: 0, with the code 4. -/
def FallR (l s v c : Nat) : Prop := (∃ k, 1 ≤ k ∧ v = k * s + 1 ∧ v < l ∧ Pr v ∧ c = 0 ∧ ∀ j, k < j → j * s + 1 < l → ¬ Pr (j * s + 1)) ∨ (v = 0 ∧ c = 4 ∧ ∀ j, 1 ≤ j → j * s + 1 < l → ¬ Pr (j * s + 1))
/-- v is the least prime from a to the limit that is 1 modulo s, with the code 0; or there is none: 0, with the code 4. -/
def RiseR (a s v c : Nat) : Prop := (∃ k, 1 ≤ k ∧ v = k * s + 1 ∧ a ≤ v ∧ v ≤ 2147483647 ∧ Pr v ∧ c = 0 ∧ ∀ j, 1 ≤ j → j < k → a ≤ j * s + 1 → ¬ Pr (j * s + 1)) ∨ (v = 0 ∧ c = 4 ∧ ∀ j, 1 ≤ j → a ≤ j * s + 1 → j * s + 1 ≤ 2147483647 → ¬ Pr (j * s + 1))

theorem FallR.unique {l s v c v' c' : Nat} (h : FallR l s v c) (h' : FallR l s v' c') : v = v' ∧ c = c' := by
  rcases h with ⟨k, h1, rfl, h3, h4, rfl, h6⟩ | ⟨rfl, rfl, h⟩ <;> rcases h' with ⟨k', g1, rfl, g3, g4, rfl, g6⟩ | ⟨rfl, rfl, g⟩
  · rcases Nat.lt_trichotomy k k' with e | e | e
    · exact absurd g4 (h6 _ e g3)
    · rw [e]; exact ⟨rfl, rfl⟩
    · exact absurd h4 (g6 _ e h3)
  · exact absurd h4 (g _ h1 h3)
  · exact absurd g4 (h _ g1 g3)
  · exact ⟨rfl, rfl⟩

theorem RiseR.unique {a s v c v' c' : Nat} (h : RiseR a s v c) (h' : RiseR a s v' c') : v = v' ∧ c = c' := by
  rcases h with ⟨k, h1, rfl, h2, h3, h4, rfl, h6⟩ | ⟨rfl, rfl, h⟩ <;> rcases h' with ⟨k', g1, rfl, g2, g3, g4, rfl, g6⟩ | ⟨rfl, rfl, g⟩
  · rcases Nat.lt_trichotomy k k' with e | e | e
    · exact absurd h4 (g6 _ h1 e h2)
    · rw [e]; exact ⟨rfl, rfl⟩
    · exact absurd g4 (h6 _ g1 e g2)
  · exact absurd h4 (g _ h1 h2 h3)
  · exact absurd g4 (h _ g1 g2 g3)
  · exact ⟨rfl, rfl⟩

theorem mul_lt_of_div {l s k : Nat} (hs : 1 ≤ s) (h : k ≤ (l - 2) / s) : k * s ≤ l - 2 := (Nat.le_div_iff_mul_le hs).1 h
theorem div_of_mul_lt {l s k : Nat} (hs : 1 ≤ s) (hk : 1 ≤ k) (h : k * s + 1 < l) : k ≤ (l - 2) / s := (Nat.le_div_iff_mul_le hs).2 (by omega)
end Ob
namespace Go.Proofs.Ytdkpgocbdphneaa
open Go.RowKit
set_option linter.unusedVariables false

theorem prime_pr (n : Nat) (w : World) (hn : n ≤ 4294967295) : Calls Try.prog 25 #[.int .u32 n] w (BoolPost (Ob.Pr n) w) :=
  (prime_any n w hn).mono fun _ _ ⟨r, he, hr, hg⟩ => ⟨r, he, hr.trans (prm_pr hn), hg⟩
theorem rprime_pr (n : Nat) (w : World) (hn : n ≤ 4294967295) : Calls Try.prog 20 #[.int .u32 n] w (BoolPost (Ob.Pr n) w) :=
  (rprime_any n w hn).mono fun _ _ ⟨r, he, hr, hg⟩ => ⟨r, he, hr.trans ((prm_iff n).symm.trans (prm_pr hn)), hg⟩

/-- Two numbers are returned, of which R says what they are; nothing that was there has changed. -/
def NumPost (R : Nat → Nat → Prop) (w : World) (e : Ending) (w' : World) : Prop := ∃ v c : Nat, e = .returned (.tuple #[.int .u32 (v : Nat), .int .i64 (c : Nat)]) ∧ R v c ∧ Gr w w'
def BelowR (l s v c : Nat) : Prop := ((s = 0 ∨ 2147483648 < l) ∧ v = 0 ∧ c = 2) ∨ (1 ≤ s ∧ l ≤ 2147483648 ∧ Ob.FallR l s v c)
def NextR (a s v c : Nat) : Prop := (s = 0 ∧ v = 0 ∧ c = 2) ∨ (1 ≤ s ∧ Ob.RiseR a s v c)
theorem BelowR.unique {l s v c v' c' : Nat} (h : BelowR l s v c) (h' : BelowR l s v' c') : v = v' ∧ c = c' := by
  rcases h with ⟨h1, rfl, rfl⟩ | ⟨h1, h2, h3⟩ <;> rcases h' with ⟨g1, rfl, rfl⟩ | ⟨g1, g2, g3⟩
  · exact ⟨rfl, rfl⟩
  · omega
  · omega
  · exact h3.unique g3
theorem NextR.unique {l s v c v' c' : Nat} (h : NextR l s v c) (h' : NextR l s v' c') : v = v' ∧ c = c' := by
  rcases h with ⟨h1, rfl, rfl⟩ | ⟨h1, h3⟩ <;> rcases h' with ⟨g1, rfl, rfl⟩ | ⟨g1, g3⟩
  · exact ⟨rfl, rfl⟩
  · omega
  · omega
  · exact h3.unique g3

set_option maxHeartbeats 1000000 in
theorem rbelow_any (l s : Nat) (w : World) (hl : l ≤ 4294967295) (hs' : s ≤ 4294967295) :
    Calls Try.prog 9 #[.int .u32 l, .int .u32 s] w (NumPost (BelowR l s) w) := by
  by_cases hs : s = 0
  · subst hs
    go_enter Try.func9, Try.ntmps9
    go_wp2_with fail
    go_ret2
    exact ⟨0, 2, rfl, .inl ⟨.inl rfl, rfl, rfl⟩, Gr.refl _⟩
  have hs1 : 1 ≤ s := by omega
  have t1 : ((s : Int) == 0) = false := by simp; omega
  clear hs
  by_cases hl2 : 2147483648 < l
  · go_enter Try.func9, Try.ntmps9
    go_wp2_with fail
    go_ret2
    exact ⟨0, 2, rfl, .inl ⟨.inr hl2, rfl, rfl⟩, Gr.refl _⟩
  by_cases hl3 : l < 3
  · go_enter Try.func9, Try.ntmps9
    go_wp2_with fail
    go_ret2
    refine ⟨0, 4, rfl, .inr ⟨hs1, by omega, .inr ⟨rfl, rfl, fun j h1 h2 => ?_⟩⟩, Gr.refl _⟩
    have : 1 * s ≤ j * s := Nat.mul_le_mul_right s h1
    omega
  have h2 : (l : Int) - 2 = ((l - 2 : Nat) : Int) := by omega
  have d0 : 0 ≤ ((l : Int) - 2) / (s : Int) := Int.ediv_nonneg (by omega) (by omega)
  have d1 : ((l : Int) - 2) / (s : Int) ≤ 4294967295 := by rw [h2, ← Int.natCast_ediv]; have := Nat.div_le_self (l - 2) s; omega
  have H2 := Lib.hid h2
  clear h2
  go_enter Try.func9, Try.ntmps9
  go_wp2_with fail
  clear t1 d0 d1
  go_loopw [6] (fun t wr => ∃ k : Nat, t = .int .u32 k ∧ k ≤ (l - 2) / s ∧ (∀ j, k < j → j * s + 1 < l → ¬ Ob.Pr (j * s + 1)) ∧ Gr w wr) (fun t _ => (intOf t).toNat)
  case atStart =>
    refine ⟨(l - 2) / s, by rw [H2.out, ← Int.natCast_ediv], by omega, fun j h1 h3 => ?_, Gr.refl _⟩
    have := Ob.div_of_mul_lt hs1 (Nat.lt_of_le_of_lt (Nat.zero_le _) h1) h3
    omega
  case round =>
    obtain ⟨k, rfl, hk, hall, hg⟩ := hrel
    have HA := Lib.hid hall
    clear hall
    have hks := Ob.mul_lt_of_div hs1 hk
    have HK := Lib.hid hk
    clear hk
    by_cases h0 : 0 < k
    · have p0 : (0 : Int) ≤ (k : Int) * s := by rw [← Int.natCast_mul]; omega
      have p1 : (k : Int) * s ≤ 2147483646 := by rw [← Int.natCast_mul]; omega
      obtain ⟨v, hv⟩ : ∃ v, v = k * s + 1 := ⟨_, rfl⟩
      have hvi : (k : Int) * s + 1 = (v : Int) := by rw [hv, ← Int.natCast_mul]; omega
      have HV := Lib.hid hvi
      have hv2 : v < l := by omega
      have hkk : k ≤ 2147483646 := by have : k * 1 ≤ k * s := Nat.mul_le_mul_left k hs1; omega
      have HVN := Lib.hid hv
      clear hv hvi hks
      go_wp2_with fail
      rw [HV.out]
      refine (rprime_pr v _ (by omega)).mono ?_
      rintro e w1 ⟨r, rfl, hr, g1⟩
      have HR := Lib.hid hr
      clear hr
      cases r with
      | true =>
        go_wp2_with fail
        go_ret2
        exact ⟨v, 0, by rw [HV.out]; rfl, .inr ⟨hs1, by omega, .inl ⟨k, h0, HVN.out, hv2, HR.out.1 (by simp), rfl, HA.out⟩⟩, hg.trans g1⟩
      | false =>
        go_wp2_with fail
        go_roundw
        case rel =>
          refine ⟨k - 1, congrArg _ (by omega), by have := HK.out; omega, fun j h3 h4 => ?_, hg.trans g1⟩
          by_cases e : j = k
          · rw [e, ← HVN.out]; exact fun h => absurd (HR.out.2 h) (by simp)
          · exact HA.out j (by omega) h4
        case measure => simp [intOf]; omega
    · obtain rfl : k = 0 := by omega
      clear hks
      go_wp2_with fail
      go_ret2
      exact ⟨0, 4, rfl, .inr ⟨hs1, by omega, .inr ⟨rfl, rfl, fun j h1 h2 => HA.out j (by omega) h2⟩⟩, hg⟩
end Go.Proofs.Ytdkpgocbdphneaa
