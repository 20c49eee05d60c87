import Derived.Test.YtlfiakpmnkhcdaaLZN
import Derived.Test.YtlfiakpmnkhcdaaLMExe
import Derived.Test.YtlfiakpmnkhcdaaLMExf
import Derived.Test.YtlfiakpmnkhcdaaLMExj
import Derived.Test.YtlfiakpmnkhcdaaLMExk
namespace Ob
set_option maxRecDepth 1000000 in
theorem topL_0 : topL 20 0 = true := by decide +kernel
set_option maxRecDepth 1000000 in
theorem topL_20 : topL 20 20 = true := by decide +kernel
set_option maxRecDepth 1000000 in
theorem topL_40 : topL 20 40 = true := by decide +kernel
set_option maxRecDepth 1000000 in
theorem topL_60 : topL 20 60 = true := by decide +kernel
set_option maxRecDepth 1000000 in
theorem topL_80 : topL 20 80 = true := by decide +kernel
set_option maxRecDepth 1000000 in
theorem topL_100 : topL 15 100 = true := by decide +kernel
end Ob
namespace Ob
set_option maxRecDepth 1000000 in
theorem topL_115 : topL 13 115 = true := by decide +kernel
set_option maxRecDepth 1000000 in
theorem topL_128 : topL 9 128 = true := by decide +kernel
set_option maxRecDepth 1000000 in
theorem topL_137 : topL 5 137 = true := by decide +kernel
set_option maxRecDepth 1000000 in
theorem topL_142 : topL 4 142 = true := by decide +kernel
set_option maxRecDepth 1000000 in
theorem topL_146 : topL 4 146 = true := by decide +kernel
set_option maxRecDepth 1000000 in
theorem topL_150 : topL 5 150 = true := by decide +kernel
set_option maxRecDepth 1000000 in
theorem topL_155 : topL 14 155 = true := by decide +kernel
end Ob
namespace Ob
set_option linter.unusedVariables false
theorem b1_all {p : Nat} (h1 : 1024 ≤ p) (h2 : p < 65536) (ho : p % 2 = 1) : b1 p = true := by
  by_cases h1153 : p < 1153
  · have h := lb1_ok _ _ lb1_1025 ((p - 1025) / 2) (by omega)
    rw [show 1025 + (p - 1025) / 2 * 2 = p by omega] at h
    exact h
  by_cases h1281 : p < 1281
  · have h := lb1_ok _ _ lb1_1153 ((p - 1153) / 2) (by omega)
    rw [show 1153 + (p - 1153) / 2 * 2 = p by omega] at h
    exact h
  by_cases h1473 : p < 1473
  · have h := lb1_ok _ _ lb1_1281 ((p - 1281) / 2) (by omega)
    rw [show 1281 + (p - 1281) / 2 * 2 = p by omega] at h
    exact h
  by_cases h1729 : p < 1729
  · have h := lb1_ok _ _ lb1_1473 ((p - 1473) / 2) (by omega)
    rw [show 1473 + (p - 1473) / 2 * 2 = p by omega] at h
    exact h
  by_cases h2049 : p < 2049
  · have h := lb1_ok _ _ lb1_1729 ((p - 1729) / 2) (by omega)
    rw [show 1729 + (p - 1729) / 2 * 2 = p by omega] at h
    exact h
  by_cases h2817 : p < 2817
  · have h := lb1_ok _ _ lb1_2049 ((p - 2049) / 2) (by omega)
    rw [show 2049 + (p - 2049) / 2 * 2 = p by omega] at h
    exact h
  by_cases h4097 : p < 4097
  · have h := lb1_ok _ _ lb1_2817 ((p - 2817) / 2) (by omega)
    rw [show 2817 + (p - 2817) / 2 * 2 = p by omega] at h
    exact h
  by_cases h8193 : p < 8193
  · have h := lb1_ok _ _ lb1_4097 ((p - 4097) / 2) (by omega)
    rw [show 4097 + (p - 4097) / 2 * 2 = p by omega] at h
    exact h
  by_cases h12289 : p < 12289
  · have h := lb1_ok _ _ lb1_8193 ((p - 8193) / 2) (by omega)
    rw [show 8193 + (p - 8193) / 2 * 2 = p by omega] at h
    exact h
  by_cases h16385 : p < 16385
  · have h := lb1_ok _ _ lb1_12289 ((p - 12289) / 2) (by omega)
    rw [show 12289 + (p - 12289) / 2 * 2 = p by omega] at h
    exact h
  by_cases h20481 : p < 20481
  · have h := lb1_ok _ _ lb1_16385 ((p - 16385) / 2) (by omega)
    rw [show 16385 + (p - 16385) / 2 * 2 = p by omega] at h
    exact h
  by_cases h24577 : p < 24577
  · have h := lb1_ok _ _ lb1_20481 ((p - 20481) / 2) (by omega)
    rw [show 20481 + (p - 20481) / 2 * 2 = p by omega] at h
    exact h
  by_cases h28673 : p < 28673
  · have h := lb1_ok _ _ lb1_24577 ((p - 24577) / 2) (by omega)
    rw [show 24577 + (p - 24577) / 2 * 2 = p by omega] at h
    exact h
  by_cases h32769 : p < 32769
  · have h := lb1_ok _ _ lb1_28673 ((p - 28673) / 2) (by omega)
    rw [show 28673 + (p - 28673) / 2 * 2 = p by omega] at h
    exact h
  by_cases h36865 : p < 36865
  · have h := lb1_ok _ _ lb1_32769 ((p - 32769) / 2) (by omega)
    rw [show 32769 + (p - 32769) / 2 * 2 = p by omega] at h
    exact h
  by_cases h40961 : p < 40961
  · have h := lb1_ok _ _ lb1_36865 ((p - 36865) / 2) (by omega)
    rw [show 36865 + (p - 36865) / 2 * 2 = p by omega] at h
    exact h
  by_cases h45057 : p < 45057
  · have h := lb1_ok _ _ lb1_40961 ((p - 40961) / 2) (by omega)
    rw [show 40961 + (p - 40961) / 2 * 2 = p by omega] at h
    exact h
  by_cases h49153 : p < 49153
  · have h := lb1_ok _ _ lb1_45057 ((p - 45057) / 2) (by omega)
    rw [show 45057 + (p - 45057) / 2 * 2 = p by omega] at h
    exact h
  by_cases h53249 : p < 53249
  · have h := lb1_ok _ _ lb1_49153 ((p - 49153) / 2) (by omega)
    rw [show 49153 + (p - 49153) / 2 * 2 = p by omega] at h
    exact h
  by_cases h57345 : p < 57345
  · have h := lb1_ok _ _ lb1_53249 ((p - 53249) / 2) (by omega)
    rw [show 53249 + (p - 53249) / 2 * 2 = p by omega] at h
    exact h
  by_cases h61441 : p < 61441
  · have h := lb1_ok _ _ lb1_57345 ((p - 57345) / 2) (by omega)
    rw [show 57345 + (p - 57345) / 2 * 2 = p by omega] at h
    exact h
  by_cases h65537 : p < 65537
  · have h := lb1_ok _ _ lb1_61441 ((p - 61441) / 2) (by omega)
    rw [show 61441 + (p - 61441) / 2 * 2 = p by omega] at h
    exact h
  omega
theorem top_all (i : Nat) : topOne (tab.drop i) = true := by
  by_cases h20 : i < 20
  · have h := topL_ok _ _ topL_0 (i - 0) (by omega)
    rw [show 0 + (i - 0) = i by omega] at h
    exact h
  by_cases h40 : i < 40
  · have h := topL_ok _ _ topL_20 (i - 20) (by omega)
    rw [show 20 + (i - 20) = i by omega] at h
    exact h
  by_cases h60 : i < 60
  · have h := topL_ok _ _ topL_40 (i - 40) (by omega)
    rw [show 40 + (i - 40) = i by omega] at h
    exact h
  by_cases h80 : i < 80
  · have h := topL_ok _ _ topL_60 (i - 60) (by omega)
    rw [show 60 + (i - 60) = i by omega] at h
    exact h
  by_cases h100 : i < 100
  · have h := topL_ok _ _ topL_80 (i - 80) (by omega)
    rw [show 80 + (i - 80) = i by omega] at h
    exact h
  by_cases h115 : i < 115
  · have h := topL_ok _ _ topL_100 (i - 100) (by omega)
    rw [show 100 + (i - 100) = i by omega] at h
    exact h
  by_cases h128 : i < 128
  · have h := topL_ok _ _ topL_115 (i - 115) (by omega)
    rw [show 115 + (i - 115) = i by omega] at h
    exact h
  by_cases h137 : i < 137
  · have h := topL_ok _ _ topL_128 (i - 128) (by omega)
    rw [show 128 + (i - 128) = i by omega] at h
    exact h
  by_cases h142 : i < 142
  · have h := topL_ok _ _ topL_137 (i - 137) (by omega)
    rw [show 137 + (i - 137) = i by omega] at h
    exact h
  by_cases h146 : i < 146
  · have h := topL_ok _ _ topL_142 (i - 142) (by omega)
    rw [show 142 + (i - 142) = i by omega] at h
    exact h
  by_cases h150 : i < 150
  · have h := topL_ok _ _ topL_146 (i - 146) (by omega)
    rw [show 146 + (i - 146) = i by omega] at h
    exact h
  by_cases h155 : i < 155
  · have h := topL_ok _ _ topL_150 (i - 150) (by omega)
    rw [show 150 + (i - 150) = i by omega] at h
    exact h
  by_cases h169 : i < 169
  · have h := topL_ok _ _ topL_155 (i - 155) (by omega)
    rw [show 155 + (i - 155) = i by omega] at h
    exact h
  have hlen : tab.length = 169 := by decide +kernel
  rw [List.drop_eq_nil_of_le (by omega)]
  rfl
theorem exact_tests {n : Nat} (h3 : 3 ≤ n) (ho : n % 2 = 1) (hn : n < 4294967296) (hp : Pass n) : Pr n := by
  by_cases hm : ∃ p, Pr p ∧ 1024 ≤ p ∧ p < 65536 ∧ p ∣ n
  · obtain ⟨p, hpr, h1, h2, k, rfl⟩ := hm
    have hpo : p % 2 = 1 := by
      rcases Nat.mod_two_eq_zero_or_one p with h | h
      · exact absurd (Nat.dvd_of_mod_eq_zero h) (hpr.2 2 (by omega) (by omega))
      · exact h
    by_cases hk : 2 ≤ k
    · exact absurd hp (b1_ok hpr (by omega) (b1_all h1 h2 hpo) hk hn)
    · have hk1 : k = 1 := by
        rcases k with _ | _ | k
        · simp at h3
        · rfl
        · omega
      rw [hk1, Nat.mul_one]; exact hpr
  · refine top_ok h3 ho hn hp tab top_all tab_ok (fun r hr hd => ?_)
    by_cases h1 : r < 1024
    · left
      have hr2 := hr.1
      have hH := hp.H (by omega) hr2 hd
      have a := H.not_dvd hr2 (by omega) hH.2.1
      have b := H.not_dvd hr2 (by omega) hH.2.2
      refine tab_all hr h1 ?_ (fun h => a (by rw [h]; exact Nat.dvd_refl _)) (fun h => b (by rw [h]; exact Nat.dvd_refl _))
      rcases Nat.mod_two_eq_zero_or_one r with h | h
      · have : 2 ∣ n := Nat.dvd_trans (Nat.dvd_of_mod_eq_zero h) hd
        omega
      · exact h
    · right
      have hr2 := hr.1
      have h2 : ¬ r < 65536 := fun h2 => hm ⟨r, hr, by omega, h2, hd⟩
      have h4 : r ≠ 65536 := fun h => hr.2 2 (by omega) (by omega) (by rw [h]; decide)
      omega
end Ob
