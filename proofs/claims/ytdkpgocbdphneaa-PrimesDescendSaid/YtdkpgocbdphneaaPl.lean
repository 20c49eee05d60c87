/- The examples that each statement asks for first; equal lists. -/
import Derived.Test.YtdkpgocbdphneaaPk
import Derived.Test.YtdkpgocbdphneaaPir
import Derived.Test.YtdkpgocbdphneaaPh
import Derived.Deep.QuietTactic
import Derived.BigQuiet
namespace Ob
set_option linter.unusedVariables false
theorem pr_dec (p : Nat) (h : (decide (2 ≤ p) && (List.range p).all (fun d => decide (d < 2) || decide (p % d ≠ 0))) = true) : Pr p := by
  simp only [Bool.and_eq_true, decide_eq_true_eq, List.all_eq_true, List.mem_range, Bool.or_eq_true] at h
  refine ⟨h.1, fun d h1 h2 h3 => ?_⟩
  rcases h.2 d h2 with h | h
  · omega
  · exact h (Nat.mod_eq_zero_of_dvd h3)
theorem not_pr3 {p d : Nat} (h1 : 2 ≤ d) (h2 : d < p) (h3 : p % d = 0) : ¬ Pr p := fun h => h.2 d h1 h2 (Nat.dvd_of_mod_eq_zero h3)
theorem pr97 : Pr 97 := pr_dec 97 (by decide +kernel)
theorem pr17 : Pr 17 := pr_dec 17 (by decide +kernel)
theorem fz16 : Fz 16 [(2, 4)] := by
  have := Fz.cons 2 4 1 [] (by omega) (by intro d h1 h2; omega) (by omega) (by omega) Fz.one
  simpa using this
theorem gen17 : GenL 17 3 := by
  refine ⟨[(2, 4)], fz16, by omega, by omega, ?_, ?_⟩
  · intro i hi
    obtain rfl : i = 0 := by simpa using hi
    decide
  · intro h h1 h2 h3
    have h4 := h3 0 (by simp)
    have h12 : h = 1 ∨ h = 2 := by omega
    rcases h12 with rfl | rfl
    · exact h4 (by decide)
    · exact h4 (by decide)
end Ob
namespace Go.Proofs.Ytdkpgocbdphneaa
open Go.RowKit
set_option linter.unusedVariables false

theorem below97 : BelowR 100 8 97 0 := by
  refine .inr ⟨by omega, by omega, .inl ⟨12, by omega, rfl, by omega, Ob.pr97, rfl, fun j h1 h2 => by omega⟩⟩
theorem next97 : NextR 18 16 97 0 := by
  refine .inr ⟨by omega, .inl ⟨6, by omega, rfl, by omega, by omega, Ob.pr97, rfl, fun j h1 h2 h3 => ?_⟩⟩
  have h4 : j = 2 ∨ j = 3 ∨ j = 4 ∨ j = 5 := by omega
  rcases h4 with rfl | rfl | rfl | rfl
  · exact Ob.not_pr3 (d := 3) (by omega) (by omega) (by omega)
  · exact Ob.not_pr3 (d := 7) (by omega) (by omega) (by omega)
  · exact Ob.not_pr3 (d := 5) (by omega) (by omega) (by omega)
  · exact Ob.not_pr3 (d := 3) (by omega) (by omega) (by omega)
theorem gen3 : GenR 17 3 0 := .inr ⟨⟨by omega, Ob.pr17⟩, Ob.gen17, rfl⟩
theorem plain4913 : PlainR 8 17 3 4913 0 := .inr (.inr ⟨⟨.inr (.inl rfl), Ob.pr17, by decide, by omega⟩, by decide, by decide, rfl⟩)
theorem chain2 : ChainR 4 16 1 [] 2 := .inl ⟨fun h => by have := h.2.2.2.1; omega, rfl, rfl⟩

set_option maxRecDepth 100000 in
set_option maxHeartbeats 1000000 in
theorem shown_any (w : World) : Calls Try.prog 12 #[] w fun e w' => e = .returned (.bool true) ∧ Gr w w' := by
  go_enter Try.func12, Try.ntmps12
  go_wp2_with fail
  refine (below_any 100 8 _ (by omega) (by omega)).mono ?_
  rintro e w1 ⟨v, c, rfl, h, g1⟩
  obtain ⟨rfl, rfl⟩ := h.unique below97
  clear h
  go_wp2_with fail
  refine (next_any 18 16 _ (by omega) (by omega)).mono ?_
  rintro e w2 ⟨v, c, rfl, h, g2⟩
  obtain ⟨rfl, rfl⟩ := h.unique next97
  clear h
  go_wp2_with fail
  refine (gen_any 17 _ (by omega)).mono ?_
  rintro e w3 ⟨v, c, rfl, h, g3⟩
  obtain ⟨rfl, rfl⟩ := h.unique gen3
  clear h
  go_wp2_with fail
  refine (plain_any 8 17 3 _ (by omega) (by omega)).mono ?_
  rintro e w4 ⟨v, c, rfl, h, g4⟩
  obtain ⟨rfl, rfl⟩ := h.unique plain4913
  clear h
  go_wp2_with fail
  refine (chain_any 4 16 1 _ (by omega)).mono ?_
  rintro e w5 ⟨v, L, z, rfl, hv, h, g5⟩
  obtain ⟨rfl, rfl⟩ := h.unique chain2
  clear h hv
  go_wp2_with fail
  go_ret
  exact ⟨rfl, (((g1.trans g2).trans g3).trans g4).trans g5⟩

set_option maxRecDepth 100000 in
set_option maxHeartbeats 1000000 in
theorem same_any (a b : Value) (L : List Nat) (w : World) (ha : HasW w a L) (hb : HasW w b L) : Calls Try.prog 15 #[a, b] w fun e w' => e = .returned (.bool true) ∧ Gr w w' := by
  obtain ⟨a, ca, rfl, a1, a2, a3⟩ := ha
  obtain ⟨b, cb, rfl, b1, b2, b3⟩ := hb
  obtain ⟨len, hlen⟩ : ∃ len, len = L.length := ⟨_, rfl⟩
  rw [← hlen] at a1 b1 ⊢
  have HLEN := Lib.hid hlen
  have HA := Lib.hid a3
  have HB := Lib.hid b3
  clear hlen a3 b3
  go_enter Try.func15, Try.ntmps15
  go_wp2_with fail
  go_loopw [5] (fun i wr => ∃ k : Nat, k ≤ len ∧ i = .int .i64 k ∧ ∃ n, wr = w.drewN n) (fun i _ => len - (intOf i).toNat)
  case atStart => exact ⟨0, by omega, rfl, 0, rfl⟩
  case round =>
    obtain ⟨k, hk, rfl, n, rfl⟩ := hrel
    by_cases hlt : k < len
    · obtain ⟨ga, oa, rfl, c1⟩ := HA.out k (by rw [← HLEN.out]; exact hlt)
      obtain ⟨gb, ob, rfl, c2⟩ := HB.out k (by rw [← HLEN.out]; exact hlt)
      generalize L[k]?.getD 0 = p at c1 c2
      go_wp2_with fail
      go_quiet (fail)
      go_wp2_with fail
      exact ⟨⟨k + 1, by omega, by go_num, _, rfl⟩, by simp [intOf]; omega⟩
    · go_wp2_with fail
      go_ret
      exact ⟨rfl, (Gr.refl _).drewN _⟩
end Go.Proofs.Ytdkpgocbdphneaa
