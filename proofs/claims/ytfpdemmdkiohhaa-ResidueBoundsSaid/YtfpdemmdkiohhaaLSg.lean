import Derived.Test.YtfpdemmdkiohhaaLSfs
/- The arithmetic of the law ResidueBounds. -/
namespace Go.Proofs.Ytfpdemmdkiohhaa.Mo
open Go.RowKit
set_option linter.unusedVariables false

theorem Dis.take {l : List Int} (h : Dis l) {k : Nat} (h1 : 1 ≤ k) (hk : k ≤ l.length) : Dis (l.take k) := by
  have hl : (l.take k).length = k := by rw [List.length_take]; omega
  refine ⟨by omega, by have := h.2.1; omega, fun i hi => ?_⟩
  rw [hl] at hi
  have h2 := h.2.2 i (by omega)
  rw [Op.cf_take, if_pos hi, List.take_take, Nat.min_eq_left (by omega)]
  exact h2
theorem DivR.unique {l r : List Int} {d d' : Int} {row row' : List Int} (h : DivR l r 1 d row) (k : DivR l r 1 d' row') : row = row' := by
  obtain ⟨b, h1, h2, h3⟩ := h
  obtain ⟨c, k1, k2, k3⟩ := k
  have e : b = c := Quo.unique (Int.gcd_eq_natAbs_gcd_natAbs 1 _ ▸ Nat.gcd_one_left _) h1 k1
  subst e
  rw [h3, k3, h2, k2]
/-- The quotient that Scale gives. -/
theorem divR_math {l r row : List Int} {t d W : Int} (hs : Sys l) (h3 : 3 ≤ l.length) (hr : RowOf l r) (hW : JoinV l r W) (ht : 1 ≤ t) (hd : DivR l r t d row) :
    ∃ Y, W - d = Y * Op.cf l (l.length - 1) ∧ row = resL (l.take (l.length - 1)) Y ∧ t ∣ d ∧ -(t * ((Op.cf l (l.length - 1) - 1) / 2)) ≤ d ∧ d ≤ t * ((Op.cf l (l.length - 1) - 1) / 2) := by
  obtain ⟨b, ⟨b0, b1, b2⟩, hdd, hrow⟩ := hd
  have hn : l.length - 1 < l.length := by omega
  have hq3 := hs.at_ hn
  have hWn := hW.2 _ hn
  obtain ⟨n, hnn⟩ : ∃ n, n = l.length - 1 := ⟨_, rfl⟩
  rw [← hnn] at b1 b2 hdd hrow hn hq3 hWn ⊢
  obtain ⟨q, hq⟩ : ∃ q, q = Op.cf l n := ⟨_, rfl⟩
  rw [← hq] at b1 b2 hdd hrow hq3 hWn ⊢
  have hb := bal_odd hq3.2.2 ⟨b0, b1⟩
  have hbd := bal_dvd b q
  -- q divides W - d
  have h1 : q ∣ W - d := by
    have e : W - d = (W - Op.cf r n) - (t * b - Op.cf r n) - t * (bal b q - b) := by rw [hdd, Int.mul_sub]; omega
    rw [e]
    exact Int.dvd_sub (Int.dvd_sub hWn b2) (Int.dvd_mul_of_dvd_right hbd)
  obtain ⟨Y, hY⟩ := h1
  refine ⟨Y, by rw [hY, Int.mul_comm], ?_, ⟨bal b q, hdd⟩, ?_, ?_⟩
  · have hlt : (l.take n).length = n := by rw [List.length_take]; omega
    rw [hrow]
    refine list_cf (by rw [rowL_len, resL_len, hlt]) (fun i hi => ?_)
    rw [rowL_len] at hi
    rw [rowL_at _ _ hi, resL_at _ _ (by rw [hlt]; exact hi), Op.cf_take, if_pos hi]
    have hp3 := hs.at_ (i := i) (by omega)
    refine qf_eq (by rw [hq]; exact hs.two hn (by omega) (by omega)) ⟨Int.emod_nonneg _ (by omega), Int.emod_lt_of_pos _ (by omega), ?_⟩
    have e : q * (Y % Op.cf l i) - (Op.cf r i - d) = (W - Op.cf r i) - q * (Y - Y % Op.cf l i) := by rw [Int.mul_sub, ← hY]; omega
    rw [e]
    exact Int.dvd_sub (hW.2 i (by omega)) (Int.dvd_mul_of_dvd_right (dvd_sub_mod Y _))
  · rw [hdd, ← Int.mul_neg]
    exact Int.mul_le_mul_of_nonneg_left (by omega) (by omega)
  · rw [hdd]
    exact Int.mul_le_mul_of_nonneg_left (by omega) (by omega)
theorem big_pow {n : Nat} (h : 3 ≤ n) : (9223372036854775807 : Int) ≤ 2147483647 ^ n := by
  have h1 : (2147483647 : Nat) ^ 3 ≤ 2147483647 ^ n := Nat.pow_le_pow_right (by omega) h
  have h2 : ((2147483647 ^ n : Nat) : Int) = (2147483647 : Int) ^ n := by simp
  rw [← h2]
  have h3 : (9223372036854775807 : Nat) ≤ 2147483647 ^ 3 := by decide
  omega
/-- The bounds that make everything fit. -/
theorem bound_fits {l r : List Int} {W K : Int} (hs : Sys l) (h3 : 3 ≤ l.length) (hW : JoinV l r W) (hK : 0 ≤ K ∧ K ≤ 4611686018427387903) {z : Int} (hz : -(W.natAbs + K) ≤ z ∧ z ≤ W.natAbs + K) : InR z := by
  have hp := (pr_le hs.1).2
  have hb := hW.1
  have h4 := big_pow h3
  generalize hM : (2147483647 : Int) ^ l.length = M at *
  exact inR_of hs.2.2.2.2 (by rw [hM]; omega) (by rw [hM]; omega)
/-- The quotient is at most the bound. -/
theorem quot_le {W d Y q K : Int} (hq : 3 ≤ q) (h : W - d = Y * q) (hd : -K ≤ d ∧ d ≤ K) : (Y.natAbs : Int) ≤ (W.natAbs + K) / q := by
  rw [Int.le_ediv_iff_mul_le (by omega)]
  have e : (Y.natAbs : Int) * q = ((Y * q).natAbs : Int) := by
    rw [Int.natAbs_mul]
    have : (q.natAbs : Int) = q := by omega
    rw [Int.natCast_mul, this]
  rw [e, ← h]
  omega
end Go.Proofs.Ytfpdemmdkiohhaa.Mo
