import Derived.Test.YtlfiakpmnkhcdaaGreatLZN
import Derived.Test.YtlfiakpmnkhcdaaGreatLZD
namespace Ob
set_option maxRecDepth 1000000 in
theorem lb1_1025 : lb1 64 1025 = true := by decide +kernel
set_option maxRecDepth 1000000 in
theorem lb1_1153 : lb1 64 1153 = true := by decide +kernel
set_option maxRecDepth 1000000 in
theorem lb1_1281 : lb1 96 1281 = true := by decide +kernel
set_option maxRecDepth 1000000 in
theorem lb1_1473 : lb1 128 1473 = true := by decide +kernel
set_option maxRecDepth 1000000 in
theorem lb1_1729 : lb1 160 1729 = true := by decide +kernel
end Ob
namespace Ob
set_option maxRecDepth 1000000 in
theorem lb1_2049 : lb1 384 2049 = true := by decide +kernel
set_option maxRecDepth 1000000 in
theorem lb1_2817 : lb1 640 2817 = true := by decide +kernel
set_option maxRecDepth 1000000 in
theorem lb1_4097 : lb1 2048 4097 = true := by decide +kernel
set_option maxRecDepth 1000000 in
theorem lb1_8193 : lb1 2048 8193 = true := by decide +kernel
set_option maxRecDepth 1000000 in
theorem lb1_12289 : lb1 2048 12289 = true := by decide +kernel
end Ob
namespace Ob
set_option maxRecDepth 1000000 in
theorem lb1_16385 : lb1 2048 16385 = true := by decide +kernel
set_option maxRecDepth 1000000 in
theorem lb1_20481 : lb1 2048 20481 = true := by decide +kernel
set_option maxRecDepth 1000000 in
theorem lb1_24577 : lb1 2048 24577 = true := by decide +kernel
set_option maxRecDepth 1000000 in
theorem lb1_28673 : lb1 2048 28673 = true := by decide +kernel
set_option maxRecDepth 1000000 in
theorem lb1_32769 : lb1 2048 32769 = true := by decide +kernel
set_option maxRecDepth 1000000 in
theorem lb1_36865 : lb1 2048 36865 = true := by decide +kernel
end Ob
namespace Ob
set_option maxRecDepth 1000000 in
theorem lb1_40961 : lb1 2048 40961 = true := by decide +kernel
set_option maxRecDepth 1000000 in
theorem lb1_45057 : lb1 2048 45057 = true := by decide +kernel
set_option maxRecDepth 1000000 in
theorem lb1_49153 : lb1 2048 49153 = true := by decide +kernel
set_option maxRecDepth 1000000 in
theorem lb1_53249 : lb1 2048 53249 = true := by decide +kernel
set_option maxRecDepth 1000000 in
theorem lb1_57345 : lb1 2048 57345 = true := by decide +kernel
set_option maxRecDepth 1000000 in
theorem lb1_61441 : lb1 2048 61441 = true := by decide +kernel
end Ob
namespace Ob
set_option maxRecDepth 1000000 in
theorem topL_0 : topL 20 0 = true := by decide +kernel
set_option maxRecDepth 1000000 in
theorem topL_20 : topL 20 20 = true := by decide +kernel
set_option maxRecDepth 1000000 in
theorem topL_40 : topL 20 40 = true := by decide +kernel
set_option maxRecDepth 1000000 in
theorem topL_60 : topL 20 60 = true := by decide +kernel
set_option maxRecDepth 1000000 in
theorem topL_80 : topL 20 80 = true := by decide +kernel
set_option maxRecDepth 1000000 in
theorem topL_100 : topL 15 100 = true := by decide +kernel
end Ob
namespace Ob
set_option maxRecDepth 1000000 in
theorem topL_115 : topL 13 115 = true := by decide +kernel
set_option maxRecDepth 1000000 in
theorem topL_128 : topL 9 128 = true := by decide +kernel
set_option maxRecDepth 1000000 in
theorem topL_137 : topL 5 137 = true := by decide +kernel
set_option maxRecDepth 1000000 in
theorem topL_142 : topL 4 142 = true := by decide +kernel
set_option maxRecDepth 1000000 in
theorem topL_146 : topL 4 146 = true := by decide +kernel
set_option maxRecDepth 1000000 in
theorem topL_150 : topL 5 150 = true := by decide +kernel
set_option maxRecDepth 1000000 in
theorem topL_155 : topL 14 155 = true := by decide +kernel
end Ob
namespace Ob
set_option linter.unusedVariables false
theorem b1_all {p : Nat} (h1 : 1024 ≤ p) (h2 : p < 65536) (ho : p % 2 = 1) : b1 p = true := by
 by_cases h1153 : p < 1153
 ·have h := lb1_ok _ _ lb1_1025 ((p - 1025) / 2) (by omega)
  rw [show 1025 + (p - 1025) / 2 * 2 = p by omega] at h
  exact h
 by_cases h1281 : p < 1281
 ·have h := lb1_ok _ _ lb1_1153 ((p - 1153) / 2) (by omega)
  rw [show 1153 + (p - 1153) / 2 * 2 = p by omega] at h
  exact h
 by_cases h1473 : p < 1473
 ·have h := lb1_ok _ _ lb1_1281 ((p - 1281) / 2) (by omega)
  rw [show 1281 + (p - 1281) / 2 * 2 = p by omega] at h
  exact h
 by_cases h1729 : p < 1729
 ·have h := lb1_ok _ _ lb1_1473 ((p - 1473) / 2) (by omega)
  rw [show 1473 + (p - 1473) / 2 * 2 = p by omega] at h
  exact h
 by_cases h2049 : p < 2049
 ·have h := lb1_ok _ _ lb1_1729 ((p - 1729) / 2) (by omega)
  rw [show 1729 + (p - 1729) / 2 * 2 = p by omega] at h
  exact h
 by_cases h2817 : p < 2817
 ·have h := lb1_ok _ _ lb1_2049 ((p - 2049) / 2) (by omega)
  rw [show 2049 + (p - 2049) / 2 * 2 = p by omega] at h
  exact h
 by_cases h4097 : p < 4097
 ·have h := lb1_ok _ _ lb1_2817 ((p - 2817) / 2) (by omega)
  rw [show 2817 + (p - 2817) / 2 * 2 = p by omega] at h
  exact h
 by_cases h8193 : p < 8193
 ·have h := lb1_ok _ _ lb1_4097 ((p - 4097) / 2) (by omega)
  rw [show 4097 + (p - 4097) / 2 * 2 = p by omega] at h
  exact h
 by_cases h12289 : p < 12289
 ·have h := lb1_ok _ _ lb1_8193 ((p - 8193) / 2) (by omega)
  rw [show 8193 + (p - 8193) / 2 * 2 = p by omega] at h
  exact h
 by_cases h16385 : p < 16385
 ·have h := lb1_ok _ _ lb1_12289 ((p - 12289) / 2) (by omega)
  rw [show 12289 + (p - 12289) / 2 * 2 = p by omega] at h
  exact h
 by_cases h20481 : p < 20481
 ·have h := lb1_ok _ _ lb1_16385 ((p - 16385) / 2) (by omega)
  rw [show 16385 + (p - 16385) / 2 * 2 = p by omega] at h
  exact h
 by_cases h24577 : p < 24577
 ·have h := lb1_ok _ _ lb1_20481 ((p - 20481) / 2) (by omega)
  rw [show 20481 + (p - 20481) / 2 * 2 = p by omega] at h
  exact h
 by_cases h28673 : p < 28673
 ·have h := lb1_ok _ _ lb1_24577 ((p - 24577) / 2) (by omega)
  rw [show 24577 + (p - 24577) / 2 * 2 = p by omega] at h
  exact h
 by_cases h32769 : p < 32769
 ·have h := lb1_ok _ _ lb1_28673 ((p - 28673) / 2) (by omega)
  rw [show 28673 + (p - 28673) / 2 * 2 = p by omega] at h
  exact h
 by_cases h36865 : p < 36865
 ·have h := lb1_ok _ _ lb1_32769 ((p - 32769) / 2) (by omega)
  rw [show 32769 + (p - 32769) / 2 * 2 = p by omega] at h
  exact h
 by_cases h40961 : p < 40961
 ·have h := lb1_ok _ _ lb1_36865 ((p - 36865) / 2) (by omega)
  rw [show 36865 + (p - 36865) / 2 * 2 = p by omega] at h
  exact h
 by_cases h45057 : p < 45057
 ·have h := lb1_ok _ _ lb1_40961 ((p - 40961) / 2) (by omega)
  rw [show 40961 + (p - 40961) / 2 * 2 = p by omega] at h
  exact h
 by_cases h49153 : p < 49153
 ·have h := lb1_ok _ _ lb1_45057 ((p - 45057) / 2) (by omega)
  rw [show 45057 + (p - 45057) / 2 * 2 = p by omega] at h
  exact h
 by_cases h53249 : p < 53249
 ·have h := lb1_ok _ _ lb1_49153 ((p - 49153) / 2) (by omega)
  rw [show 49153 + (p - 49153) / 2 * 2 = p by omega] at h
  exact h
 by_cases h57345 : p < 57345
 ·have h := lb1_ok _ _ lb1_53249 ((p - 53249) / 2) (by omega)
  rw [show 53249 + (p - 53249) / 2 * 2 = p by omega] at h
  exact h
 by_cases h61441 : p < 61441
 ·have h := lb1_ok _ _ lb1_57345 ((p - 57345) / 2) (by omega)
  rw [show 57345 + (p - 57345) / 2 * 2 = p by omega] at h
  exact h
 by_cases h65537 : p < 65537
 ·have h := lb1_ok _ _ lb1_61441 ((p - 61441) / 2) (by omega)
  rw [show 61441 + (p - 61441) / 2 * 2 = p by omega] at h
  exact h
 omega
theorem top_all (i : Nat) : topOne (tab.drop i) = true := by
 by_cases h20 : i < 20
 ·have h := topL_ok _ _ topL_0 (i - 0) (by omega)
  rw [show 0 + (i - 0) = i by omega] at h
  exact h
 by_cases h40 : i < 40
 ·have h := topL_ok _ _ topL_20 (i - 20) (by omega)
  rw [show 20 + (i - 20) = i by omega] at h
  exact h
 by_cases h60 : i < 60
 ·have h := topL_ok _ _ topL_40 (i - 40) (by omega)
  rw [show 40 + (i - 40) = i by omega] at h
  exact h
 by_cases h80 : i < 80
 ·have h := topL_ok _ _ topL_60 (i - 60) (by omega)
  rw [show 60 + (i - 60) = i by omega] at h
  exact h
 by_cases h100 : i < 100
 ·have h := topL_ok _ _ topL_80 (i - 80) (by omega)
  rw [show 80 + (i - 80) = i by omega] at h
  exact h
 by_cases h115 : i < 115
 ·have h := topL_ok _ _ topL_100 (i - 100) (by omega)
  rw [show 100 + (i - 100) = i by omega] at h
  exact h
 by_cases h128 : i < 128
 ·have h := topL_ok _ _ topL_115 (i - 115) (by omega)
  rw [show 115 + (i - 115) = i by omega] at h
  exact h
 by_cases h137 : i < 137
 ·have h := topL_ok _ _ topL_128 (i - 128) (by omega)
  rw [show 128 + (i - 128) = i by omega] at h
  exact h
 by_cases h142 : i < 142
 ·have h := topL_ok _ _ topL_137 (i - 137) (by omega)
  rw [show 137 + (i - 137) = i by omega] at h
  exact h
 by_cases h146 : i < 146
 ·have h := topL_ok _ _ topL_142 (i - 142) (by omega)
  rw [show 142 + (i - 142) = i by omega] at h
  exact h
 by_cases h150 : i < 150
 ·have h := topL_ok _ _ topL_146 (i - 146) (by omega)
  rw [show 146 + (i - 146) = i by omega] at h
  exact h
 by_cases h155 : i < 155
 ·have h := topL_ok _ _ topL_150 (i - 150) (by omega)
  rw [show 150 + (i - 150) = i by omega] at h
  exact h
 by_cases h169 : i < 169
 ·have h := topL_ok _ _ topL_155 (i - 155) (by omega)
  rw [show 155 + (i - 155) = i by omega] at h
  exact h
 have hlen : tab.length = 169 := by decide +kernel
 rw [List.drop_eq_nil_of_le (by omega)]
 rfl
theorem exact_tests {n : Nat} (h3 : 3 ≤ n) (ho : n % 2 = 1) (hn : n < 4294967296) (hp : Pass n) : Pr n := by
 by_cases hm : ∃ p, Pr p ∧ 1024 ≤ p ∧ p < 65536 ∧ p ∣ n
 ·obtain ⟨p, hpr, h1, h2, k, rfl⟩ := hm
  have hpo : p % 2 = 1 := by
   rcases Nat.mod_two_eq_zero_or_one p with h | h
   ·exact absurd (Nat.dvd_of_mod_eq_zero h) (hpr.2 2 (by omega) (by omega))
   ·exact h
  by_cases hk : 2 ≤ k
  ·exact absurd hp (b1_ok hpr (by omega) (b1_all h1 h2 hpo) hk hn)
  ·have hk1 : k = 1 := by
    rcases k with _ | _ | k
    ·simp at h3
    ·rfl
    ·omega
   rw [hk1, Nat.mul_one]; exact hpr
 ·refine top_ok h3 ho hn hp tab top_all tab_ok (fun r hr hd => ?_)
  by_cases h1 : r < 1024
  ·left
   have hr2 := hr.1
   have hH := hp.H (by omega) hr2 hd
   have a := H.not_dvd hr2 (by omega) hH.2.1
   have b := H.not_dvd hr2 (by omega) hH.2.2
   refine tab_all hr h1 ?_ (fun h => a (by rw [h]; exact Nat.dvd_refl _)) (fun h => b (by rw [h]; exact Nat.dvd_refl _))
   rcases Nat.mod_two_eq_zero_or_one r with h | h
   ·have : 2 ∣ n := Nat.dvd_trans (Nat.dvd_of_mod_eq_zero h) hd
    omega
   ·exact h
  ·right
   have hr2 := hr.1
   have h2 : ¬ r < 65536 := fun h2 => hm ⟨r, hr, by omega, h2, hd⟩
   have h4 : r ≠ 65536 := fun h => hr.2 2 (by omega) (by omega) (by rw [h]; decide)
   omega
end Ob
namespace Go.Proofs.YtlfiakpmnkhcdaaGreat.Mo
open Go.RowKit
set_option linter.unusedVariables false
theorem dvd_of_pow_mod {n b k p : Nat} (hp : p ∣ n) (hb : p ∣ b) (hk : 1 ≤ k) (hn : 2 ≤ n) (h : b ^ k % n = 1 ∨ b ^ k % n = n - 1) : p ∣ 1 := by
 have h1 : p ∣ b ^ k := by
  obtain ⟨j, rfl⟩ : ∃ j, k = j + 1 := ⟨k - 1, by omega⟩
  rw [Nat.pow_succ]; exact Nat.dvd_mul_left_of_dvd hb _
 have h2 : p ∣ b ^ k % n := (Nat.dvd_mod_iff hp).2 h1
 rcases h with h | h
 ·rwa [h] at h2
 ·rw [h] at h2
  have h3 : n = (n - 1) + 1 := by omega
  rw [h3] at hp
  exact (Nat.dvd_add_right h2).1 hp
theorem sp_not_dvd {n b p : Nat} (hn : 3 ≤ n) (hp : p ∣ n) (hb : p ∣ b) (h : Ob.SP n b) : p ∣ 1 := by
 obtain ⟨o, t, h1, h2, h3⟩ := h
 rcases h3 with h3 | ⟨i, hi, h3⟩
 ·exact dvd_of_pow_mod hp hb (by omega) (by omega) (.inl h3)
 ·exact dvd_of_pow_mod hp hb (Nat.mul_pos (by omega) (Nat.two_pow_pos i)) (by omega) (.inr h3)
theorem sp_7_2 : Ob.SP 7 2 := ⟨3, 1, by decide, by decide, .inl (by decide +kernel)⟩
theorem sp_7_61 : Ob.SP 7 61 := ⟨3, 1, by decide, by decide, .inr ⟨0, by decide, by decide +kernel⟩⟩
theorem sp_61_2 : Ob.SP 61 2 := ⟨15, 2, by decide, by decide, .inr ⟨1, by decide, by decide +kernel⟩⟩
theorem sp_61_7 : Ob.SP 61 7 := ⟨15, 2, by decide, by decide, .inr ⟨1, by decide, by decide +kernel⟩⟩
theorem prm_iff (n : Nat) : Prm n ↔ RPrm n := by
 constructor
 ·rintro (h | ⟨hn, ho, h2, h7, h61⟩)
  ·exact .inl (.inl h)
  ·by_cases e7 : n = 7
   ·exact .inl (.inr (.inl e7))
   by_cases e61 : n = 61
   ·exact .inl (.inr (.inr e61))
   have s2 : Ob.SP n 2 := by
    rcases h2 with h2 | h2
    ·rw [Nat.mod_eq_of_lt (by omega)] at h2; omega
    ·exact h2
   have s7 : Ob.SP n 7 := by
    rcases h7 with h7 | h7
    ·have := Nat.le_of_dvd (by omega) (Nat.dvd_of_mod_eq_zero h7)
     have h5 : n = 3 ∨ n = 5 := by omega
     rcases h5 with rfl | rfl <;> omega
    ·exact h7
   have s61 : Ob.SP n 61 := by
    rcases h61 with h61 | h61
    ·have h1 := Nat.dvd_of_mod_eq_zero h61
     have h2 := Nat.le_of_dvd (by omega) h1
     obtain ⟨c, hc⟩ := h1
     exfalso
     have hc2 : c < 21 := by
      apply Classical.byContradiction; intro hcc
      have := Nat.mul_le_mul hn (show 21 ≤ c by omega)
      omega
     have key : ∀ m, m < 61 → 3 ≤ m → ∀ c, c < 21 → 61 ≠ m * c := by decide
     exact key n (by omega) hn c hc2 hc
    ·exact h61
   refine .inr ⟨hn, ho, ?_, ?_, s2, s7, s61⟩
   ·apply Nat.pos_of_ne_zero; intro h
    have := Nat.le_of_dvd (by omega) (sp_not_dvd hn (Nat.dvd_of_mod_eq_zero h) (Nat.dvd_refl 7) s7); omega
   ·apply Nat.pos_of_ne_zero; intro h
    have := Nat.le_of_dvd (by omega) (sp_not_dvd hn (Nat.dvd_of_mod_eq_zero h) (Nat.dvd_refl 61) s61); omega
 ·rintro ((rfl | rfl | rfl) | ⟨hn, ho, _, _, s2, s7, s61⟩)
  ·exact .inl rfl
  ·exact .inr ⟨by omega, by omega, .inr sp_7_2, .inl rfl, .inr sp_7_61⟩
  ·exact .inr ⟨by omega, by omega, .inr sp_61_2, .inr sp_61_7, .inl rfl⟩
  ·exact .inr ⟨hn, ho, .inr s2, .inr s7, .inr s61⟩
theorem pr7 : Ob.Pr 7 := ⟨by omega, fun d h1 h2 => (by decide +kernel : ∀ d, d < 7 → 2 ≤ d → ¬ d ∣ 7) d h2 h1⟩
theorem pr61 : Ob.Pr 61 := ⟨by omega, fun d h1 h2 => (by decide +kernel : ∀ d, d < 61 → 2 ≤ d → ¬ d ∣ 61) d h2 h1⟩
theorem pr2 : Ob.Pr 2 := ⟨by omega, fun d h1 h2 => by omega⟩
theorem dvd_prime {n b : Nat} (hb : Ob.Pr b) (hn : 3 ≤ n) (h : b % n = 0) : n = b := by
 have hd := Nat.dvd_of_mod_eq_zero h
 have hle := Nat.le_of_dvd (by have := hb.1; omega) hd
 apply Classical.byContradiction
 intro hne
 exact hb.2 n (by omega) (by omega) hd
theorem prm_to_pr {n : Nat} (hn : n ≤ 4294967295) (h : Prm n) : Ob.Pr n := by
 rcases h with (rfl | ⟨h3, ho, a, b, c⟩)
 ·exact pr2
 ·rcases a with a | a
  ·have := dvd_prime pr2 h3 a; omega
  rcases b with b | b
  ·have := dvd_prime pr7 h3 b; rw [this]; exact pr7
  rcases c with c | c
  ·have := dvd_prime pr61 h3 c; rw [this]; exact pr61
  exact Ob.exact_tests h3 ho (by omega) ⟨a, b, c⟩
theorem cf_get {l : List Int} {i : Nat} (h : i < l.length) : Op.cf l i = l[i] := by rw [← Op.cf_at, List.getElem?_eq_getElem h]; rfl
theorem Dis.at_pr {l : List Int} (h : Dis l) {i : Nat} (hi : i < l.length) : Ob.Pr (Op.cf l i).toNat := by
 have := h.2.2 i hi
 exact prm_to_pr (by omega) this.2.2.1
theorem Dis.okL {l : List Int} (h : Dis l) : okL l := fun q hq => by
 obtain ⟨i, hi, rfl⟩ := List.getElem_of_mem hq
 have := h.2.2 i hi
 rw [cf_get hi] at this
 exact ⟨this.1, this.2.1⟩
theorem pr_odd {q : Int} (hp : Ob.Pr q.toNat) (h3 : 3 ≤ q) : q % 2 = 1 := by
 apply Classical.byContradiction; intro h
 exact hp.2 2 (by omega) (by omega) (Nat.dvd_of_mod_eq_zero (by omega))
theorem pr_gcd {q x : Int} (hp : Ob.Pr q.toNat) (h3 : 3 ≤ q) (h : ¬ q ∣ x) : Int.gcd x q = 1 := by
 have h1 : ¬ q.toNat ∣ x.natAbs := fun hd => h (Int.natAbs_dvd_natAbs.1 (by rw [show q.natAbs = q.toNat by omega]; exact hd))
 have h2 := hp.coprime h1
 have e : q.natAbs = q.toNat := by omega
 show Nat.gcd x.natAbs q.natAbs = 1
 rw [e, Nat.gcd_comm]; exact h2
theorem Dis.sys {l : List Int} (h : Dis l) : Sys l := by
 refine ⟨h.okL, ?_, ?_, h.1, h.2.1⟩
 ·intro q hq
  obtain ⟨i, hi, rfl⟩ := List.getElem_of_mem hq
  have h1 := h.at_pr hi
  have h2 := h.2.2 i hi
  rw [cf_get hi] at h1 h2
  exact pr_odd h1 h2.1
 ·intro i hi j hj
  rw [at_cf, at_cf]
  have h1 := h.at_pr hi
  have h2 := h.2.2 i hi
  have h3 := h.2.2 j (by omega)
  refine pr_gcd h1 h2.1 (fun hd => ?_)
  -- a prime that divides another one is that one
  have h4 := h.at_pr (i := j) (by omega)
  have hd' : (Op.cf l i).toNat ∣ (Op.cf l j).toNat := by
   have e1 : Op.cf l i = ((Op.cf l i).toNat : Int) := by omega
   have e2 : Op.cf l j = ((Op.cf l j).toNat : Int) := by omega
   rw [e1, e2] at hd; exact Int.natCast_dvd_natCast.1 hd
  have hle := Nat.le_of_dvd (by omega) hd'
  have heq : (Op.cf l i).toNat = (Op.cf l j).toNat := by
   apply Classical.byContradiction; intro hne
   exact h4.2 _ (by omega) (by omega) hd'
  have hij : Op.cf l i = Op.cf l j := by omega
  refine h2.2.2.2 ?_
  rw [hij]
  have hjt : j < (l.take i).length := by simp; omega
  have h5 := Op.cf_mem hjt
  rwa [Op.cf_take, if_pos hj] at h5
end Go.Proofs.YtlfiakpmnkhcdaaGreat.Mo
