/- The reference's Generator and Root, and that both Roots are the same. -/
import Derived.Test.YtdkpgocbdphneaaRord
import Derived.Deep.RegionHeld3
namespace Ob
set_option linter.unusedVariables false

/-- No power of g with the exponent (p - 1) / q is 1, for the first k factors q. -/
def GenOk (p : Nat) (L : List (Nat × Nat)) (k g : Nat) : Prop := ∀ i, i < k → g ^ ((p - 1) / pr L i) % p ≠ 1
theorem GenOk.zero (p : Nat) (L : List (Nat × Nat)) (g : Nat) : GenOk p L 0 g := fun i hi => by omega
theorem GenOk.next {p k g : Nat} {L : List (Nat × Nat)} : GenOk p L (k + 1) g ↔ GenOk p L k g ∧ g ^ ((p - 1) / pr L k) % p ≠ 1 := by
  constructor
  · intro h; exact ⟨fun i hi => h i (by omega), h k (by omega)⟩
  · rintro ⟨h1, h2⟩ i hi
    by_cases e : i = k
    · rw [e]; exact h2
    · exact h1 i (by omega)

/-- l is the least one of v and its powers with exponents from 1 to k - 1 that have no common divisor with the order. -/
def RLeast (n order v k l : Nat) : Prop := l ≤ v ∧ (∀ j, 1 ≤ j → j < k → Nat.gcd j order = 1 → l ≤ v ^ j % n) ∧ (l = v ∨ ∃ j, 1 ≤ j ∧ j < k ∧ Nat.gcd j order = 1 ∧ l = v ^ j % n)
theorem RLeast.start (n order v : Nat) : RLeast n order v 1 v := ⟨Nat.le_refl _, fun j h1 h2 => by omega, .inl rfl⟩
theorem RLeast.skip {n order v k l : Nat} (h : RLeast n order v k l) (h1 : Nat.gcd k order = 1 → l ≤ v ^ k % n) : RLeast n order v (k + 1) l := by
  obtain ⟨a, b, c⟩ := h
  refine ⟨a, fun j h2 h3 h4 => ?_, ?_⟩
  · by_cases e : j = k
    · rw [e] at h4 ⊢; exact h1 h4
    · exact b j h2 (by omega) h4
  · rcases c with c | ⟨j, c1, c2, c3⟩
    · exact .inl c
    · exact .inr ⟨j, c1, by omega, c3⟩
theorem RLeast.take {n order v k l : Nat} (h : RLeast n order v k l) (hk : 1 ≤ k) (h1 : Nat.gcd k order = 1) (h2 : v ^ k % n < l) : RLeast n order v (k + 1) (v ^ k % n) := by
  obtain ⟨a, b, c⟩ := h
  refine ⟨by omega, fun j h3 h4 h5 => ?_, .inr ⟨k, hk, by omega, h1, rfl⟩⟩
  by_cases e : j = k
  · rw [e]; exact Nat.le_refl _
  · have := b j h3 (by omega) h5; omega

theorem pow_split {p g m order q : Nat} (ho : order ∣ m) (hq : q ∣ order) (hq0 : 1 ≤ q) (ho0 : 1 ≤ order) : (g ^ (m / order) % p) ^ (order / q) % p = g ^ (m / q) % p := by
  obtain ⟨c, rfl⟩ := ho
  obtain ⟨d, rfl⟩ := hq
  rw [← Nat.pow_mod, ← Nat.pow_mul, Nat.mul_div_cancel_left _ (by omega), Nat.mul_div_cancel_left _ (by omega), Nat.mul_assoc, Nat.mul_div_cancel_left _ (by omega), Nat.mul_comm]

theorem gen_ord {p g order : Nat} {L : List (Nat × Nat)} (hp : Pr p) (hL : Fz (p - 1) L) (h1 : 1 ≤ g) (h2 : g < p) (hg : GenOk p L L.length g) (ho : order ∣ p - 1) (ho0 : 1 ≤ order) : Ord p (g ^ ((p - 1) / order) % p) order := by
  refine ord_of hp.1 ho0 ?_ (fun q hq hd => ?_)
  · rw [← Nat.pow_mod, ← Nat.pow_mul, Nat.div_mul_cancel ho]
    exact fermat hp (fun h => by have := Nat.le_of_dvd (by omega) h; omega)
  · rw [pow_split ho hd (by have := hq.1; omega) ho0]
    obtain ⟨i, hi, e⟩ := hL.mem hq (Nat.dvd_trans hd ho)
    have := hg i hi
    rwa [e] at this
end Ob
namespace Go.Proofs.Ytdkpgocbdphneaa
open Go.RowKit
set_option linter.unusedVariables false

theorem someRoot_ord {n order x : Nat} {L : List (Nat × Nat)} (hp : Ob.Pr n) (hL : Ob.Fz order L) (ho : order ∣ n - 1) (ho0 : 1 ≤ order) (hs : SomeRoot n order L x) : Ob.Ord n x order := by
  obtain ⟨M, hM⟩ : ∃ M, Ob.Fz (n - 1) M := by
    have h1 : ∀ m, 1 ≤ m → ∃ M, Ob.Fz m M := by
      intro m
      induction m using Nat.strongRecOn with
      | ind m ih =>
        intro hm
        by_cases h1 : m = 1
        · exact ⟨[], h1 ▸ Ob.Fz.one⟩
        · obtain ⟨p, hp0, hmin⟩ : ∃ p, (2 ≤ p ∧ p ∣ m) ∧ ∀ d, 2 ≤ d → d < p → ¬ d ∣ m := by
            have key : ∀ k, k ≤ m → (∃ p, (2 ≤ p ∧ p ∣ m) ∧ ∀ d, 2 ≤ d → d < p → ¬ d ∣ m) ∨ ∀ d, 2 ≤ d → d ≤ k → ¬ d ∣ m := by
              intro k
              induction k with
              | zero => intro _; right; intro d h2 h3; omega
              | succ k ihk =>
                intro hk
                rcases ihk (by omega) with h | h
                · exact .inl h
                · by_cases hd : 2 ≤ k + 1 ∧ (k + 1) ∣ m
                  · exact .inl ⟨k + 1, hd, fun d h2 h3 => h d h2 (by omega)⟩
                  · right; intro d h2 h3 h4
                    by_cases e : d = k + 1
                    · exact hd ⟨by omega, e ▸ h4⟩
                    · exact h d h2 (by omega) h4
            rcases key m (Nat.le_refl _) with h | h
            · exact h
            · exact absurd (Nat.dvd_refl m) (h m (by omega) (Nat.le_refl _))
          have hex : ∀ k c, 1 ≤ c → c ≤ k → ∃ e c', c = p ^ e * c' ∧ ¬ p ∣ c' ∧ 1 ≤ c' := by
            intro k
            induction k with
            | zero => intro c h1 h2; omega
            | succ k ihk =>
              intro c h1 h2
              by_cases hd : p ∣ c
              · obtain ⟨d, rfl⟩ := hd
                have hd1 : 1 ≤ d := by
                  rcases d with _ | d
                  · simp at h1
                  · omega
                have : 2 * d ≤ p * d := Nat.mul_le_mul_right d hp0.1
                obtain ⟨e, c', h3, h4, h5⟩ := ihk d hd1 (by omega)
                exact ⟨e + 1, c', by rw [h3, Nat.pow_succ, Nat.mul_comm (p ^ e) p, Nat.mul_assoc], h4, h5⟩
              · exact ⟨0, c, by simp, hd, h1⟩
          obtain ⟨e, c, h3, h4, h5⟩ := hex m m hm (Nat.le_refl _)
          have he : 1 ≤ e := by
            rcases e with _ | e
            · simp at h3; rw [h3] at hp0; exact absurd hp0.2 h4
            · omega
          have hpe : p ^ 1 ≤ p ^ e := Nat.pow_le_pow_right (by omega) he
          rw [Nat.pow_one] at hpe
          have hlt : c < m := by
            have := Nat.mul_le_mul_right c (show 2 ≤ p ^ e by omega)
            rw [h3]; omega
          obtain ⟨M, hM⟩ := ih c hlt h5
          exact ⟨(p, e) :: M, by rw [h3]; exact Ob.Fz.cons p e c M hp0.1 (by rw [← h3]; exact hmin) he h4 hM⟩
    exact h1 (n - 1) (by have := hp.1; omega)
  have hprim : ∀ y, y ^ order % n = 1 → Prim n order L y → Ob.Ord n y order := fun y h1 h2 =>
    Ob.ord_of hp.1 ho0 h1 (fun q hq hd => by
      obtain ⟨i, hi, e⟩ := hL.mem hq hd
      have := h2 i hi
      change y ^ (order / Ob.pr L i) % n ≠ 1 at this
      rwa [e] at this)
  rcases hs with ⟨a, h1, h2, rfl, h3, _⟩ | ⟨_, hnone⟩
  · refine hprim _ ?_ h3
    rw [← Nat.pow_mod, ← Nat.pow_mul, Nat.div_mul_cancel ho]
    exact Ob.fermat hp (fun h => by have := Nat.le_of_dvd (by omega) h; omega)
  · exfalso
    obtain ⟨g, h1, h2, h3⟩ := Ob.exists_gen hp hM
    refine hnone g h1 h2 (fun i hi => ?_)
    obtain ⟨hq, hqd, _, _⟩ := hL.at i hi
    change (g ^ ((n - 1) / order) % n) ^ (order / Ob.pr L i) % n ≠ 1
    rw [Ob.pow_split ho hqd (by have := hq.1; omega) ho0]
    obtain ⟨j, hj, e⟩ := hM.mem hq (Nat.dvd_trans hqd ho)
    have := h3 j hj
    rwa [e] at this

/-- The least element of an order does not hang on the element that it is a power of. -/
theorem least_eq {n order x v m l : Nat} (hp : Ob.Pr n) (ho0 : 1 ≤ order) (hx : Ob.Ord n x order) (hv : Ob.Ord n v order) (hvn : v < n) (h1 : Least n order x order m) (h2 : Ob.RLeast n order v (order + 1) l) : m = l := by
  have hn := hp.1
  obtain ⟨a1, a2⟩ := h1
  obtain ⟨b1, b2, b3⟩ := h2
  have hv1 : v ^ 1 % n = v := by rw [Nat.pow_one, Nat.mod_eq_of_lt hvn]
  have c1 : m ≤ l := by
    have key : ∀ k, Nat.gcd k order = 1 → m ≤ v ^ k % n := fun k hk => by
      obtain ⟨j, hj, hg, e⟩ := hx.power hp ho0 hv hk
      rw [e]; exact a1 j hj hg
    rcases b3 with rfl | ⟨j, _, _, hg, rfl⟩
    · rw [← hv1]; exact key 1 (Nat.gcd_one_left _)
    · exact key j hg
  have c2 : l ≤ m := by
    rcases a2 with rfl | ⟨j, hj, hg, rfl⟩
    · omega
    · obtain ⟨k, hk, hgk, e⟩ := hv.power hp ho0 hx hg
      rw [e]
      rcases Nat.eq_zero_or_pos k with rfl | hk0
      · rw [Nat.gcd_zero_left] at hgk
        have h3 := b2 1 (by omega) (by omega) (Nat.gcd_one_left _)
        have h4 := hv.1
        rw [hgk] at h4
        rw [h4] at h3
        rw [Nat.pow_zero, Nat.mod_eq_of_lt (by omega)]
        exact h3
      · exact b2 k hk0 (by omega) hgk
  omega

def GenPost (n : Nat) (w : World) (e : Ending) (w' : World) : Prop := ∃ L g : _, Ob.Fz (n - 1) L ∧ e = .returned (.int .u32 (g : Nat)) ∧ 1 ≤ g ∧ g < n ∧ Ob.GenOk n L L.length g ∧ Gr w w'

set_option maxRecDepth 100000 in
set_option maxHeartbeats 2000000 in
theorem generator_any (n : Nat) (w : World) (hn' : n ≤ 2147483647) (hp : Ob.Pr n) :
    Calls Try.prog 29 #[.int .u32 n] w (GenPost n w) := by
  have hn := hp.1
  have HP := Lib.hid hp
  clear hp
  go_enter Try.func29, Try.ntmps29
  go_wp2_with fail
  have h9 : (n : Int) - 1 = ((n - 1 : Nat) : Int) := by omega
  rw [h9]
  clear h9
  refine (rfactors_any (n - 1) _ (by omega) (by omega)).mono ?_
  rintro e W ⟨v, L, rfl, hL, hrow, g2⟩
  have hv := HasFac.of_row hrow
  have HLF := Lib.hid hL
  clear hrow hL
  obtain ⟨sa, cap, rfl, hc1, hc2, hc⟩ := hv.form
  clear hv
  obtain ⟨len, hlen⟩ : ∃ len, len = L.length := ⟨_, rfl⟩
  rw [← hlen] at hc1 ⊢
  have HLEN := Lib.hid hlen
  have HC := Lib.hid hc
  clear hlen hc
  obtain ⟨G, G1, G2, hG⟩ := Ob.exists_gen HP.out HLF.out
  have HG := Lib.hid hG
  clear hG
  go_wp2_with fail
  go_loop [5, 6, 7] (fun t _ _ => ∃ g : Nat, t = .int .u32 g ∧ 1 ≤ g ∧ g ≤ G) (fun t _ _ => G - (intOf t).toNat)
  case atStart => exact ⟨1, rfl, by omega, by omega⟩
  case round =>
    obtain ⟨g, rfl, h1, h2⟩ := hrel
    go_wp2_with fail
    go_loop [6, 7] (fun t i => ∃ (b : Bool) (k : Nat), t = .bool b ∧ i = .int .i64 k ∧ k ≤ len ∧ (b = true ↔ Ob.GenOk n L k g)) (fun _ i => len - (intOf i).toNat)
    case atStart => exact ⟨true, 0, rfl, rfl, by omega, by simp [Ob.GenOk.zero]⟩
    case round =>
      obtain ⟨b, k, rfl, rfl, hk, hb⟩ := hrel
      have HBK := Lib.hid hb
      clear hb
      by_cases hlt : k < len
      · have hkL : k < L.length := by rw [← HLEN.out]; exact hlt
        obtain ⟨gb, rfl, c1, c2⟩ := HC.out k hkL
        obtain ⟨f1, f2, f3, f4⟩ := HLF.out.at k hkL
        have f6 := Nat.le_of_dvd (by omega) f2
        have f7 := f1.1
        clear c2 f1 f2 f3 f4 hkL
        change W.cell? _ = some (.int .u32 (Ob.pr L k : Nat)) at c1
        obtain ⟨q, hqe⟩ : ∃ q, q = Ob.pr L k := ⟨_, rfl⟩
        rw [← hqe] at c1 f6 f7
        have HQ := Lib.hid hqe
        clear hqe
        have i4 : (k : Int) < (len : Int) := by omega
        obtain ⟨d0, d1⟩ := div_fits (n - 1) q (by omega)
        cases b with
        | false =>
          have HN := Lib.hid (show (false = true) ↔ Ob.GenOk n L (k + 1) g from by
            have := HBK.out
            rw [Ob.GenOk.next]
            simp only [Bool.false_eq_true, false_iff] at this ⊢
            exact fun h => this h.1)
          go_wp2_with fail
          go_round
          case rel => exact ⟨false, k + 1, rfl, by go_num, by omega, HN.out⟩
          case measure => simp [intOf]; omega
        | true =>
          have h9 : (n : Int) - 1 = ((n - 1 : Nat) : Int) := by omega
          rw [← h9] at d0 d1
          have H9 := Lib.hid h9
          clear h9
          go_wp2_with fail
          refine (rpower_any g _ n _ (by omega) (by omega) d0 (by omega) (by omega) (by omega)).mono ?_
          rintro e w' ⟨rfl, rfl⟩
          rw [H9.out, ← Int.natCast_ediv, cast_pow']
          have hyn : g ^ ((n - 1) / q) % n < n := Nat.mod_lt _ (by omega)
          obtain ⟨y, hy⟩ : ∃ y, y = g ^ ((n - 1) / q) % n := ⟨_, rfl⟩
          rw [← hy] at hyn ⊢
          have HY := Lib.hid hy
          clear hy
          obtain ⟨b, hb⟩ : ∃ b, b = ((y : Int) != 1) := ⟨_, rfl⟩
          have HN := Lib.hid (show (((y : Int) != 1) = true) ↔ Ob.GenOk n L (k + 1) g from by
            have h3 : Ob.GenOk n L k g := by simpa using HBK.out
            rw [Ob.GenOk.next, ← HQ.out, ← HY.out]
            simp only [bne_iff_ne, ne_eq]
            constructor
            · intro h; exact ⟨h3, fun e => h (by omega)⟩
            · rintro ⟨_, h⟩ e; exact h (by omega))
          clear hb
          go_wp2_with fail
          go_round
          case rel => exact ⟨_, k + 1, rfl, by go_num, by omega, HN.out⟩
          case measure => simp [intOf]; omega
      · have hkl : k = L.length := by have := HLEN.out; omega
        cases b with
        | true =>
          have HN := Lib.hid (show Ob.GenOk n L L.length g from by rw [← hkl]; simpa using HBK.out)
          clear hkl
          go_wp2_with fail
          go_ret
          exact ⟨L, g, HLF.out, rfl, h1, by omega, HN.out, g2⟩
        | false =>
          have hne : g ≠ G := fun e => by
            have := HBK.out
            simp only [Bool.false_eq_true, false_iff] at this
            exact this (by rw [hkl, e]; exact HG.out)
          clear hkl
          have h3 : g + 1 ≤ G := by omega
          clear hne
          go_wp2_with fail
          go_round
          case rel => exact ⟨g + 1, by go_num, by omega, h3⟩
          case measure => simp [intOf]; omega
end Go.Proofs.Ytdkpgocbdphneaa
