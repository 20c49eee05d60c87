import Derived.Test.YtfmmkdmnondomaaLME
import Derived.Test.YtfmmkdmnondomaaLExa
import Derived.Test.YtfmmkdmnondomaaLMD
import Derived.Deep.QuietTactic
import Derived.BigQuiet
import Derived.WalkSmall
import Derived.Test.YtfmmkdmnondomaaLExi
import Derived.Deep.RegionHeld3
/- Powers modulo a prime: a power has at most so many roots as its exponent, there is a generator, and the elements of one order are the powers of any of them. -/
namespace Ob
set_option linter.unusedVariables false

/-- f is a polynomial of degree m, as a function, whose first coefficient is 1. -/
inductive MonP : Nat → (Int → Int) → Prop
  | one : MonP 0 (fun _ => 1)
  | step (m : Nat) (g : Int → Int) (c : Int) : MonP m g → MonP (m + 1) (fun x => x * g x + c)

theorem MonP.factor {m : Nat} {f : Int → Int} (h : MonP m f) : ∀ k, m = k + 1 → ∀ r, ∃ g, MonP k g ∧ ∀ x, f x = (x - r) * g x + f r := by
  induction h with
  | one => intro k hk; omega
  | step m g c hg ih =>
    intro k hk r
    obtain rfl : m = k := by omega
    rcases m with _ | m
    · cases hg
      refine ⟨fun _ => 1, .one, fun x => ?_⟩
      simp; omega
    · obtain ⟨h, hh, e⟩ := ih m rfl r
      refine ⟨fun x => x * h x + g r, .step m h (g r) hh, fun x => ?_⟩
      show x * g x + c = (x - r) * (x * h x + g r) + (r * g r + c)
      rw [e x]
      have e1 : x * ((x - r) * h x + g r) = (x - r) * (x * h x) + x * g r := by
        rw [Int.mul_add, Int.mul_left_comm]
      have e2 : (x - r) * (x * h x + g r) = (x - r) * (x * h x) + (x * g r - r * g r) := by
        rw [Int.mul_add, Int.sub_mul x r (g r)]
      rw [e1, e2]
      omega

theorem Pr.int_mul {p : Nat} (hp : Pr p) {a b : Int} (h : (p : Int) ∣ a * b) : (p : Int) ∣ a ∨ (p : Int) ∣ b := by
  rw [Int.ofNat_dvd_left, Int.natAbs_mul] at h
  rcases hp.mul h with h | h
  · exact .inl (Int.ofNat_dvd_left.2 h)
  · exact .inr (Int.ofNat_dvd_left.2 h)

theorem roots_le {p : Nat} (hp : Pr p) : ∀ (m : Nat) (f : Int → Int), MonP m f → ∀ l : List Int, l.Pairwise (fun a b => ¬ (p : Int) ∣ b - a) → (∀ r ∈ l, (p : Int) ∣ f r) → l.length ≤ m
  | _, _, _, [], _, _ => by simp
  | 0, f, hf, r :: l, _, hr => by
    cases hf
    have h1 : (p : Int) ∣ 1 := hr r (List.mem_cons_self ..)
    have h2 := Int.le_of_dvd (by omega) h1
    have := hp.1
    omega
  | m + 1, f, hf, r :: l, hl, hr => by
    obtain ⟨g, hg, e⟩ := hf.factor m rfl r
    rw [List.pairwise_cons] at hl
    have := roots_le hp m g hg l hl.2 (fun s hs => by
      have h1 := hr s (List.mem_cons_of_mem _ hs)
      have h2 := hr r (List.mem_cons_self ..)
      rw [e s] at h1
      have h3 : (p : Int) ∣ (s - r) * g s := (Int.dvd_add_left h2).1 h1
      rcases hp.int_mul h3 with h4 | h4
      · exact absurd h4 (hl.1 s hs)
      · exact h4)
    simp; omega

theorem mon_pow : ∀ m, MonP m (fun x => x ^ m)
  | 0 => by
    have : (fun x : Int => x ^ 0) = fun _ => 1 := by funext x; simp
    rw [this]; exact .one
  | m + 1 => by
    have : (fun x : Int => x ^ (m + 1)) = fun x => x * x ^ m + 0 := by funext x; rw [Int.pow_succ, Int.mul_comm, Int.add_zero]
    rw [this]; exact .step m _ 0 (mon_pow m)

theorem roots_nat {p m : Nat} (hp : Pr p) (hm : 1 ≤ m) (l : List Nat) (hn : l.Nodup) (hl : ∀ r ∈ l, r < p) (hr : ∀ r ∈ l, r ^ m % p = 1) : l.length ≤ m := by
  obtain ⟨k, rfl⟩ : ∃ k, m = k + 1 := ⟨m - 1, by omega⟩
  have hf : MonP (k + 1) (fun x => x * x ^ k + (-1)) := .step k _ (-1) (mon_pow k)
  have := roots_le hp _ _ hf (l.map (fun x : Nat => (x : Int))) (by
    rw [List.pairwise_map]
    refine List.Pairwise.imp_of_mem ?_ (List.nodup_iff_pairwise_ne.1 hn)
    intro a b ha hb hne hd
    have h1 := hl a ha
    have h2 := hl b hb
    rcases Nat.lt_or_gt_of_ne hne with h | h
    · have := Int.le_of_dvd (by omega) hd; omega
    · have h3 : (p : Int) ∣ (a : Int) - b := by
        have := Int.dvd_neg.2 hd
        rwa [show -((b : Int) - a) = (a : Int) - b by omega] at this
      have := Int.le_of_dvd (by omega) h3; omega) (by
    intro r hr'
    rw [List.mem_map] at hr'
    obtain ⟨x, hx, rfl⟩ := hr'
    have h1 := hr x hx
    show (p : Int) ∣ (x : Int) * (x : Int) ^ k + (-1)
    have h2 : p ∣ x ^ (k + 1) - 1 := by
      refine ⟨x ^ (k + 1) / p, ?_⟩
      have := Nat.div_add_mod (x ^ (k + 1)) p; omega
    have h3 : 1 ≤ x ^ (k + 1) := by
      rcases Nat.eq_zero_or_pos (x ^ (k + 1)) with h | h
      · rw [h] at h1; simp at h1
      · exact h
    have h4 : (x : Int) * (x : Int) ^ k + (-1) = ((x ^ (k + 1) - 1 : Nat) : Int) := by
      rw [Int.mul_comm, ← Int.pow_succ, Int.natCast_sub h3, Int.natCast_pow]; rfl
    rw [h4]
    exact Int.natCast_dvd_natCast.2 h2)
  simpa using this

/-- Some residue is no root, if the exponent is less than p - 1. -/
theorem no_root {p d : Nat} (hp : Pr p) (hd : 1 ≤ d) (h : d < p - 1) : ∃ x, 1 ≤ x ∧ x < p ∧ x ^ d % p ≠ 1 := by
  apply Classical.byContradiction
  intro hn
  have := roots_nat hp hd (upto (p - 1)) (nodup_upto _) (fun r hr => by rw [mem_upto] at hr; omega) (fun r hr => by
    rw [mem_upto] at hr
    apply Classical.byContradiction
    intro h1
    exact hn ⟨r, hr.1, by omega, h1⟩)
  rw [show (upto (p - 1)).length = p - 1 by simp [upto]] at this
  omega

theorem one_mod {p x y : Nat} (hp : 2 ≤ p) (hx : x % p = 1) (hy : y % p = 1) : x * y % p = 1 := by
  rw [Nat.mul_mod, hx, hy, Nat.mul_one, Nat.mod_eq_of_lt (by omega)]

theorem one_gcd {p b : Nat} (hp : 2 ≤ p) : ∀ x y : Nat, b ^ x % p = 1 → b ^ y % p = 1 → b ^ Nat.gcd x y % p = 1 := by
  intro x y
  induction x, y using Nat.gcd.induction with
  | H0 y => intro _ hy; simpa using hy
  | H1 x y hx ih =>
    intro h1 h2
    rw [Nat.gcd_rec]
    refine ih (one_sub (pow_one_mod hp h1 (y / x)) ?_) h1
    rw [Nat.div_add_mod]; exact h2

/-- m is the order of w modulo p. -/
def Ord (p w m : Nat) : Prop := w ^ m % p = 1 ∧ ∀ k, w ^ k % p = 1 → m ∣ k

theorem ord_of {p w m : Nat} (hp : 2 ≤ p) (hm : 1 ≤ m) (h1 : w ^ m % p = 1) (hmin : ∀ q, Pr q → q ∣ m → w ^ (m / q) % p ≠ 1) : Ord p w m := by
  refine ⟨h1, fun k hk => ?_⟩
  have hg := one_gcd hp m k h1 hk
  obtain ⟨s, hs⟩ := Nat.gcd_dvd_left m k
  by_cases e1 : s = 1
  · rw [e1, Nat.mul_one] at hs
    rw [hs]; exact Nat.gcd_dvd_right m k
  · have e0 : s ≠ 0 := fun h => by rw [h] at hs; omega
    obtain ⟨r, hr, u, hu⟩ := exists_prime s (by omega)
    exfalso
    refine hmin r hr ⟨Nat.gcd m k * u, ?_⟩ ?_
    · conv => lhs; rw [hs]
      rw [hu, Nat.mul_left_comm]
    · have : m / r = Nat.gcd m k * u := by
        conv => lhs; rw [hs]
        rw [hu, Nat.mul_left_comm, Nat.mul_div_cancel_left _ (by have := hr.1; omega)]
      rw [this]
      exact pow_one_mod hp hg u

theorem Ord.min {p w m q : Nat} (h : Ord p w m) (hm : 1 ≤ m) (hq : 2 ≤ q) (hd : q ∣ m) : w ^ (m / q) % p ≠ 1 := fun h1 => by
  obtain ⟨c, rfl⟩ := hd
  have h2 := h.2 _ h1
  rw [Nat.mul_div_cancel_left _ (by omega)] at h2
  have hc : 1 ≤ c := by
    rcases c with _ | c
    · simp at hm
    · omega
  have h3 := Nat.le_of_dvd hc h2
  have h4 := Nat.mul_le_mul_right c hq
  omega

theorem Ord.not_dvd {p w m : Nat} (hp : 2 ≤ p) (hm : 1 ≤ m) (h : Ord p w m) : ¬ p ∣ w := H.not_dvd hp hm h.1

theorem Pr.not_dvd_pow {p w : Nat} (hp : Pr p) (h : ¬ p ∣ w) : ∀ k, ¬ p ∣ w ^ k
  | 0, hd => by
    have := Nat.le_of_dvd (by simp) hd
    have := hp.1
    simp at *; omega
  | k + 1, hd => by
    rw [Nat.pow_succ] at hd
    rcases hp.mul hd with h1 | h1
    · exact Pr.not_dvd_pow hp h k h1
    · exact h h1

theorem Ord.inj {p w m : Nat} (hp : Pr p) (hm : 1 ≤ m) (h : Ord p w m) : ∀ i j, i ≤ j → j < m → w ^ i % p = w ^ j % p → i = j := by
  intro i j hij hj he
  obtain ⟨d, rfl⟩ : ∃ d, j = i + d := ⟨j - i, by omega⟩
  have hnd := hp.not_dvd_pow (h.not_dvd hp.1 hm) i
  have h1 : w ^ i * 1 % p = w ^ i * w ^ d % p := by rw [Nat.mul_one, ← Nat.pow_add]; exact he
  have h2 := cancel_mod hp hnd h1
  rw [Nat.mod_eq_of_lt (by have := hp.1; omega)] at h2
  have h3 := h.2 d h2.symm
  rcases Nat.eq_zero_or_pos d with h4 | h4
  · omega
  · have := Nat.le_of_dvd h4 h3; omega

/-- Whatever has a power of 1 with the exponent m is a power of an element of order m. -/
theorem Ord.all {p w m v : Nat} (hp : Pr p) (hm : 1 ≤ m) (h : Ord p w m) (hv : v < p) (h1 : v ^ m % p = 1) : ∃ j, j < m ∧ v = w ^ j % p := by
  have hp2 := hp.1
  apply Classical.byContradiction
  intro hn
  have := roots_nat hp hm (v :: (List.range m).map (fun j => w ^ j % p)) (by
    rw [List.nodup_cons]
    refine ⟨fun hmem => ?_, ?_⟩
    · rw [List.mem_map] at hmem
      obtain ⟨j, hj, e⟩ := hmem
      rw [List.mem_range] at hj
      exact hn ⟨j, hj, e.symm⟩
    · rw [List.nodup_iff_pairwise_ne, List.pairwise_map]
      refine List.Pairwise.imp_of_mem ?_ (List.nodup_iff_pairwise_ne.1 List.nodup_range)
      intro i j hi hj hne he
      rw [List.mem_range] at hi hj
      rcases Nat.le_total i j with hij | hij
      · exact hne (h.inj hp hm i j hij hj he)
      · exact hne (h.inj hp hm j i hij hi he.symm).symm) (fun r hr => by
    rw [List.mem_cons, List.mem_map] at hr
    rcases hr with rfl | ⟨j, _, rfl⟩
    · exact hv
    · exact Nat.mod_lt _ (by omega)) (fun r hr => by
    rw [List.mem_cons, List.mem_map] at hr
    rcases hr with rfl | ⟨j, _, rfl⟩
    · exact h1
    · rw [← Nat.pow_mod, ← Nat.pow_mul, Nat.mul_comm]
      exact pow_one_mod hp2 h.1 j)
  simp at this
  omega

/-- The elements of one order are powers of one another, with exponents that have no common divisor with the order. -/
theorem Ord.power {p w v m k : Nat} (hp : Pr p) (hm : 1 ≤ m) (hw : Ord p w m) (hv : Ord p v m) (hk : Nat.gcd k m = 1) : ∃ j, j < m ∧ Nat.gcd j m = 1 ∧ v ^ k % p = w ^ j % p := by
  have hp2 := hp.1
  have h1 : (v ^ k % p) ^ m % p = 1 := by
    rw [← Nat.pow_mod, ← Nat.pow_mul, Nat.mul_comm]
    exact pow_one_mod hp2 hv.1 k
  obtain ⟨j, hj, e⟩ := hw.all hp hm (Nat.mod_lt _ (by omega)) h1
  refine ⟨j, hj, ?_, e⟩
  obtain ⟨a, ha⟩ := Nat.gcd_dvd_left j m
  obtain ⟨b, hb⟩ := Nat.gcd_dvd_right j m
  have hd0 : 1 ≤ Nat.gcd j m := Nat.gcd_pos_of_pos_right _ (by omega)
  generalize Nat.gcd j m = d at ha hb hd0
  -- (v^k)^b = (w^j)^b = (w^m)^a = 1
  have h2 : (v ^ k % p) ^ b % p = 1 := by
    rw [e, ← Nat.pow_mod, ← Nat.pow_mul, ha, show d * a * b = m * a by rw [hb, Nat.mul_right_comm]]
    exact pow_one_mod hp2 hw.1 a
  rw [← Nat.pow_mod, ← Nat.pow_mul] at h2
  have h3 := hv.2 _ h2
  have h4 : m ∣ b := Nat.Coprime.dvd_of_dvd_mul_left (Nat.Coprime.symm hk) h3
  have hb0 : 1 ≤ b := by
    rcases b with _ | b
    · simp at hb; omega
    · omega
  have h5 := Nat.le_of_dvd hb0 h4
  rcases d with _ | _ | d
  · omega
  · rfl
  · have h6 : 2 * b ≤ (d + 2) * b := Nat.mul_le_mul_right b (by omega)
    rw [hb] at h5
    have h7 : (d + 1 + 1) * b = (d + 2) * b := rfl
    omega

/-- Exponents of factors are exact. -/
theorem Fz.exact {n : Nat} {L : List (Nat × Nat)} (h : Fz n L) : ∀ k, k < L.length → ∃ A, n = pr L k ^ ex L k * A ∧ ¬ pr L k ∣ A := by
  induction h with
  | one => intro k hk; simp at hk
  | cons p e m L hp hd he hm hL ih =>
    intro k hk
    rcases k with _ | k
    · exact ⟨m, by simp [pr, ex], by simpa [pr] using hm⟩
    · obtain ⟨A, h1, h2⟩ := ih k (by simpa using hk)
      have e1 : pr ((p, e) :: L) (k + 1) = pr L k := by simp [pr]
      have e2 : ex ((p, e) :: L) (k + 1) = ex L k := by simp [ex]
      rw [e1, e2]
      have hpp : Pr p := least_prime hp (dvd_front (m := m) he) hd
      obtain ⟨hq, hqm, _, _⟩ := hL.at k (by simpa using hk)
      have hqp : ¬ pr L k ∣ p := fun hdv => by
        have hle := Nat.le_of_dvd (by omega) hdv
        by_cases e3 : pr L k = p
        · exact hm (e3 ▸ hqm)
        · exact hpp.2 _ hq.1 (by omega) hdv
      refine ⟨p ^ e * A, ?_, fun hdv => ?_⟩
      · conv => lhs; rw [h1]
        rw [Nat.mul_left_comm]
      · rcases hq.mul hdv with h3 | h3
        · exact hq.not_dvd_pow hqp e h3
        · exact h2 h3

theorem Fz.lt {n : Nat} {L : List (Nat × Nat)} (h : Fz n L) : ∀ d i, i + d + 1 < L.length + 0 → pr L i < pr L (i + d + 1)
  | 0, i, hi => h.ascend i (by omega)
  | d + 1, i, hi => Nat.lt_trans (h.lt d i (by omega)) (h.ascend (i + d + 1) (by omega))
theorem Fz.ne {n : Nat} {L : List (Nat × Nat)} (h : Fz n L) {i k : Nat} (hi : i < k) (hk : k < L.length) : pr L i ≠ pr L k := by
  have := h.lt (k - i - 1) i (by omega)
  rw [show i + (k - i - 1) + 1 = k by omega] at this
  omega

theorem Pr.coprime_pow {p q : Nat} (hp : Pr p) (hq : Pr q) (h : p ≠ q) (e : Nat) : Nat.Coprime (p ^ e) q := by
  apply Nat.Coprime.symm
  refine hq.coprime (hq.not_dvd_pow (fun hd => ?_) e)
  have hle := Nat.le_of_dvd (by have := hp.1; omega) hd
  exact hp.2 q hq.1 (by omega) hd

/-- There is a generator: no power with the exponent (p - 1) / q is 1. -/
theorem gen_upto {p : Nat} (hp : Pr p) {L : List (Nat × Nat)} (hL : Fz (p - 1) L) : ∀ k, k ≤ L.length → ∃ g, 1 ≤ g ∧ g < p ∧ (∀ i, i < k → g ^ ((p - 1) / pr L i) % p ≠ 1) ∧ g ^ pp L k % p = 1
  | 0, _ => ⟨1, by omega, by have := hp.1; omega, fun i hi => by omega, by rw [Nat.one_pow]; exact Nat.mod_eq_of_lt (by have := hp.1; omega)⟩
  | k + 1, hk => by
    have hp2 := hp.1
    obtain ⟨g, g1, g2, g3, g4⟩ := gen_upto hp hL k (by omega)
    obtain ⟨hq, hqd, he, _⟩ := hL.at k (by omega)
    obtain ⟨A, hA, hqA⟩ := hL.exact k (by omega)
    have hpk := pp_succ L k (by omega)
    have hN : pp L (k + 1) ∣ p - 1 := by
      have key : ∀ j, k + 1 + j ≤ L.length → pp L (k + 1) ∣ pp L (k + 1 + j) := by
        intro j
        induction j with
        | zero => intro _; exact Nat.dvd_refl _
        | succ j ih =>
          intro hj
          rw [show k + 1 + (j + 1) = (k + 1 + j) + 1 by omega, pp_succ L (k + 1 + j) (by omega)]
          exact Nat.dvd_trans (ih (by omega)) (Nat.dvd_mul_right _ _)
      have := key (L.length - (k + 1)) (by omega)
      rw [show k + 1 + (L.length - (k + 1)) = L.length by omega, hL.pp_all] at this
      exact this
    generalize hqq : pr L k = q at *
    generalize hee : ex L k = e at *
    obtain ⟨f, rfl⟩ : ∃ f, e = f + 1 := ⟨e - 1, by omega⟩
    have hq2 := hq.1
    have hA0 : 1 ≤ A := by
      rcases A with _ | A
      · simp at hA; omega
      · omega
    have hqf : 1 ≤ q ^ f := Nat.pow_pos (by omega)
    have hdiv : (p - 1) / q = q ^ f * A := by
      rw [hA, Nat.pow_succ, Nat.mul_comm (q ^ f) q, Nat.mul_assoc, Nat.mul_div_cancel_left _ (by omega)]
    have hpos : 1 ≤ (p - 1) / q := by rw [hdiv]; exact Nat.mul_pos hqf hA0
    have hlt : (p - 1) / q < p - 1 := Nat.div_lt_self (by
      rcases Nat.eq_zero_or_pos (p - 1) with h | h
      · rw [h] at hpos; simp at hpos
      · exact h) (by omega)
    obtain ⟨x, x1, x2, x3⟩ := no_root hp hpos hlt
    have hpx : ¬ p ∣ x := fun h => by have := Nat.le_of_dvd (by omega) h; omega
    have hfer := fermat hp hpx
    -- y has the order q^(f+1)
    have y1 : (x ^ A) ^ q ^ (f + 1) % p = 1 := by
      rw [← Nat.pow_mul, Nat.mul_comm, ← hA]; exact hfer
    have y2 : (x ^ A) ^ ((p - 1) / q) % p ≠ 1 := by
      intro h
      rw [← Nat.pow_mul, Nat.mul_comm, Nat.pow_mul] at h
      have z1 : (x ^ ((p - 1) / q)) ^ q % p = 1 := by
        rw [← Nat.pow_mul, Nat.div_mul_cancel hqd]; exact hfer
      have z2 := one_gcd hp2 A q h z1
      rw [Nat.Coprime.gcd_eq_one (Nat.Coprime.symm (hq.coprime hqA)), Nat.pow_one] at z2
      exact x3 z2
    have hgy : ∀ m, (g * x ^ A % p) ^ m % p = g ^ m * (x ^ A) ^ m % p := fun m => by rw [← Nat.pow_mod, Nat.mul_pow]
    have hpg : ¬ p ∣ g := fun h => by have := Nat.le_of_dvd (by omega) h; omega
    refine ⟨g * x ^ A % p, ?_, Nat.mod_lt _ (by omega), ?_, ?_⟩
    · apply Nat.pos_of_ne_zero
      intro h0
      rcases hp.mul (Nat.dvd_of_mod_eq_zero h0) with h | h
      · exact hpg h
      · exact hp.not_dvd_pow hpx A h
    · intro i hi
      rw [hgy]
      by_cases hik : i = k
      · rw [hik, hqq]
        have hd1 : pp L k ∣ (p - 1) / q := by
          obtain ⟨M, hM⟩ := hN
          rw [hpk] at hM
          refine ⟨q ^ f * M, ?_⟩
          rw [hM, Nat.pow_succ, show pp L k * (q ^ f * q) * M = q * (pp L k * (q ^ f * M)) by
            simp only [Nat.mul_assoc, Nat.mul_left_comm, Nat.mul_comm]]
          exact Nat.mul_div_cancel_left _ (by omega)
        obtain ⟨c, hc⟩ := hd1
        have h1 : g ^ ((p - 1) / q) % p = 1 := by rw [hc]; exact pow_one_mod hp2 g4 c
        rw [Nat.mul_mod, h1, Nat.one_mul, Nat.mod_mod]
        exact y2
      · have hik' : i < k := by omega
        have hne : pr L i ≠ q := by rw [← hqq]; exact hL.ne hik' (by omega)
        obtain ⟨hr, hrd, _, _⟩ := hL.at i (by omega)
        have hd2 : q ^ (f + 1) ∣ (p - 1) / pr L i := by
          have h1 : q ^ (f + 1) ∣ (p - 1) / pr L i * pr L i := by
            rw [Nat.div_mul_cancel hrd]; exact ⟨A, hA⟩
          exact Nat.Coprime.dvd_of_dvd_mul_right (hq.coprime_pow hr (Ne.symm hne) (f + 1)) h1
        obtain ⟨c, hc⟩ := hd2
        have h1 : (x ^ A) ^ ((p - 1) / pr L i) % p = 1 := by rw [hc]; exact pow_one_mod hp2 y1 c
        rw [Nat.mul_mod, h1, Nat.mul_one, Nat.mod_mod]
        exact g3 i hik'
    · rw [hgy, hpk]
      refine one_mod hp2 (pow_one_mod hp2 g4 _) ?_
      rw [Nat.mul_comm]
      exact pow_one_mod hp2 y1 _

theorem exists_gen {p : Nat} (hp : Pr p) {L : List (Nat × Nat)} (hL : Fz (p - 1) L) : ∃ g, 1 ≤ g ∧ g < p ∧ ∀ i, i < L.length → g ^ ((p - 1) / pr L i) % p ≠ 1 := by
  obtain ⟨g, h1, h2, h3, _⟩ := gen_upto hp hL L.length (Nat.le_refl _)
  exact ⟨g, h1, h2, h3⟩

/-- A prime that divides n is among its factors. -/
theorem Fz.mem {n : Nat} {L : List (Nat × Nat)} (h : Fz n L) {q : Nat} (hq : Pr q) (hd : q ∣ n) : ∃ i, i < L.length ∧ pr L i = q := by
  induction h with
  | one => have := Nat.le_of_dvd (by omega) hd; have := hq.1; omega
  | cons p e m L hp hdd he hm hL ih =>
    by_cases hqp : q = p
    · exact ⟨0, by simp, by simp [pr, hqp]⟩
    · rcases hq.mul hd with h1 | h1
      · exfalso
        have hpp : Pr p := least_prime hp (dvd_front (m := m) he) hdd
        refine hq.not_dvd_pow (fun h2 => ?_) e h1
        have := Nat.le_of_dvd (by omega) h2
        exact hpp.2 q hq.1 (by omega) h2
      · obtain ⟨i, hi, e1⟩ := ih h1
        exact ⟨i + 1, by simpa using hi, by simpa [pr] using e1⟩
end Ob
/- The examples that each statement asks for first: they are as the document has them. -/
namespace Ob
set_option linter.unusedVariables false

end Ob
namespace Go.Proofs.Ytfmmkdmnondomaa
open Go.RowKit
set_option linter.unusedVariables false

end Go.Proofs.Ytfmmkdmnondomaa
/- What the reference's Factors returns: the same factors. -/
namespace Go.Proofs.Ytfmmkdmnondomaa
open Go.RowKit
set_option linter.unusedVariables false
end Go.Proofs.Ytfmmkdmnondomaa
/- The law ModularPrimes returns true, whatever its argument. -/
namespace Go.Proofs.Ytfmmkdmnondomaa
open Go.RowKit
set_option linter.unusedVariables false

end Go.Proofs.Ytfmmkdmnondomaa
/- The reference's trial division returns whether a number is a prime. -/
namespace Ob
/-- No number from 2 to d - 1 divides n. -/
def NoDiv (n d : Nat) : Prop := ∀ k, 2 ≤ k → k < d → ¬ k ∣ n

theorem NoDiv.two (n : Nat) : NoDiv n 2 := fun k h1 h2 => by omega
theorem NoDiv.next {n d : Nat} (h : NoDiv n d) (hd : n % d ≠ 0) : NoDiv n (d + 1) := fun k h1 h2 hk => by
  by_cases e : k = d
  · exact hd (Nat.mod_eq_zero_of_dvd (e ▸ hk))
  · exact h k h1 (by omega) hk
theorem NoDiv.pr {n d : Nat} (h : NoDiv n d) (hn : 2 ≤ n) (hd : n < d * d) : Pr n := by
  refine ⟨hn, fun k h1 h2 hk => ?_⟩
  by_cases e : k < d
  · exact h k h1 e hk
  · obtain ⟨j, hj⟩ := hk
    have hj2 : 2 ≤ j := by
      rcases j with _ | _ | j
      · omega
      · omega
      · omega
    by_cases f : j < d
    · exact h j hj2 f ⟨k, by rw [hj, Nat.mul_comm]⟩
    · have := Nat.mul_le_mul (show d ≤ k by omega) (show d ≤ j by omega)
      omega
end Ob
namespace Go.Proofs.Ytfmmkdmnondomaa
open Go.RowKit
set_option linter.unusedVariables false
end Go.Proofs.Ytfmmkdmnondomaa
/- The law ModularTrials returns true, whatever its argument: what passes the strong tests is a prime. -/
namespace Go.Proofs.Ytfmmkdmnondomaa
open Go.RowKit
set_option linter.unusedVariables false

theorem pr7 : Ob.Pr 7 := ⟨by omega, fun d h1 h2 => (by decide +kernel : ∀ d, d < 7 → 2 ≤ d → ¬ d ∣ 7) d h2 h1⟩
theorem pr61 : Ob.Pr 61 := ⟨by omega, fun d h1 h2 => (by decide +kernel : ∀ d, d < 61 → 2 ≤ d → ¬ d ∣ 61) d h2 h1⟩
theorem pr2 : Ob.Pr 2 := ⟨by omega, fun d h1 h2 => by omega⟩

theorem dvd_prime {n b : Nat} (hb : Ob.Pr b) (hn : 3 ≤ n) (h : b % n = 0) : n = b := by
  have hd := Nat.dvd_of_mod_eq_zero h
  have hle := Nat.le_of_dvd (by have := hb.1; omega) hd
  apply Classical.byContradiction
  intro hne
  exact hb.2 n (by omega) (by omega) hd

/-- What the program takes for a prime is one. -/
theorem prm_pr {n : Nat} (hn : n ≤ 4294967295) : Prm n ↔ Ob.Pr n := by
  refine ⟨?_, pr_prm⟩
  rintro (rfl | ⟨h3, ho, a, b, c⟩)
  · exact pr2
  · rcases a with a | a
    · have := dvd_prime pr2 h3 a; omega
    rcases b with b | b
    · have := dvd_prime pr7 h3 b; rw [this]; exact pr7
    rcases c with c | c
    · have := dvd_prime pr61 h3 c; rw [this]; exact pr61
    exact Ob.exact_tests h3 ho (by omega) ⟨a, b, c⟩

end Go.Proofs.Ytfmmkdmnondomaa
/- Order, of the program and of the reference, returns the order of a residue modulo a prime. -/
namespace Ob
set_option linter.unusedVariables false

/-- What holds of the candidate for the order behind k factors. -/
def OrdInv (p a : Nat) (L : List (Nat × Nat)) (k o : Nat) : Prop := 1 ≤ o ∧ o ∣ p - 1 ∧ a ^ o % p = 1 ∧ ∀ i, i < k → pr L i ∣ o → a ^ (o / pr L i) % p ≠ 1

theorem OrdInv.start {p a : Nat} (hp : Pr p) (h1 : 1 ≤ a) (h2 : a < p) (L : List (Nat × Nat)) : OrdInv p a L 0 (p - 1) :=
  ⟨by have := hp.1; omega, Nat.dvd_refl _, fermat hp (fun h => by have := Nat.le_of_dvd (by omega) h; omega), fun i hi => by omega⟩

theorem OrdInv.div {p a k o q : Nat} {L : List (Nat × Nat)} (hp : 2 ≤ p) (hL : Fz (p - 1) L) (hk : k < L.length) (h : OrdInv p a L k o) (hq : 2 ≤ q) (hd : o % q = 0) (h1 : a ^ (o / q) % p = 1) : OrdInv p a L k (o / q) := by
  obtain ⟨c, rfl⟩ := Nat.dvd_of_mod_eq_zero hd
  obtain ⟨a1, a2, a3, a4⟩ := h
  rw [Nat.mul_div_cancel_left _ (by omega)] at h1 ⊢
  refine ⟨?_, Nat.dvd_trans (Nat.dvd_mul_left c q) a2, h1, fun i hi hdi h2 => ?_⟩
  · rcases c with _ | c
    · simp at a1
    · omega
  · refine a4 i hi (Nat.dvd_trans hdi (Nat.dvd_mul_left c q)) ?_
    rw [Nat.mul_div_assoc q hdi, Nat.mul_comm]
    exact pow_one_mod hp h2 q

theorem OrdInv.next {p a k o : Nat} {L : List (Nat × Nat)} (h : OrdInv p a L k o) (h1 : o % pr L k = 0 → a ^ (o / pr L k) % p ≠ 1) : OrdInv p a L (k + 1) o := by
  obtain ⟨a1, a2, a3, a4⟩ := h
  refine ⟨a1, a2, a3, fun i hi hd => ?_⟩
  by_cases e : i = k
  · rw [e] at hd ⊢; exact h1 (Nat.mod_eq_zero_of_dvd hd)
  · exact a4 i (by omega) hd

theorem OrdInv.end {p a o : Nat} {L : List (Nat × Nat)} (hp : 2 ≤ p) (hL : Fz (p - 1) L) (h : OrdInv p a L L.length o) : Ord p a o := by
  obtain ⟨a1, a2, a3, a4⟩ := h
  refine ord_of hp a1 a3 (fun q hq hd => ?_)
  obtain ⟨i, hi, e⟩ := hL.mem hq (Nat.dvd_trans hd a2)
  have := a4 i hi (by rw [e]; exact hd)
  rwa [e] at this

theorem OrdInv.le {p a k o : Nat} {L : List (Nat × Nat)} (hp : 2 ≤ p) (h : OrdInv p a L k o) : o ≤ p - 1 := Nat.le_of_dvd (by omega) h.2.1

theorem Ord.unique {p a o o' : Nat} (h : Ord p a o) (h' : Ord p a o') : o = o' := Nat.dvd_antisymm (h.2 _ h'.1) (h'.2 _ h.1)
end Ob
namespace Go.Proofs.Ytfmmkdmnondomaa
open Go.RowKit
set_option linter.unusedVariables false

end Go.Proofs.Ytfmmkdmnondomaa
/- The reference's Order, Generator and Root, and both sides' Order where there is none. -/
namespace Go.Proofs.Ytfmmkdmnondomaa
open Go.RowKit
set_option linter.unusedVariables false
end Go.Proofs.Ytfmmkdmnondomaa
/- The reference's Generator and Root, and that both Roots are the same. -/
namespace Ob
set_option linter.unusedVariables false

/-- No power of g with the exponent (p - 1) / q is 1, for the first k factors q. -/
def GenOk (p : Nat) (L : List (Nat × Nat)) (k g : Nat) : Prop := ∀ i, i < k → g ^ ((p - 1) / pr L i) % p ≠ 1
theorem GenOk.zero (p : Nat) (L : List (Nat × Nat)) (g : Nat) : GenOk p L 0 g := fun i hi => by omega
theorem GenOk.next {p k g : Nat} {L : List (Nat × Nat)} : GenOk p L (k + 1) g ↔ GenOk p L k g ∧ g ^ ((p - 1) / pr L k) % p ≠ 1 := by
  constructor
  · intro h; exact ⟨fun i hi => h i (by omega), h k (by omega)⟩
  · rintro ⟨h1, h2⟩ i hi
    by_cases e : i = k
    · rw [e]; exact h2
    · exact h1 i (by omega)

/-- l is the least one of v and its powers with exponents from 1 to k - 1 that have no common divisor with the order. -/
def RLeast (n order v k l : Nat) : Prop := l ≤ v ∧ (∀ j, 1 ≤ j → j < k → Nat.gcd j order = 1 → l ≤ v ^ j % n) ∧ (l = v ∨ ∃ j, 1 ≤ j ∧ j < k ∧ Nat.gcd j order = 1 ∧ l = v ^ j % n)
theorem RLeast.start (n order v : Nat) : RLeast n order v 1 v := ⟨Nat.le_refl _, fun j h1 h2 => by omega, .inl rfl⟩
theorem RLeast.skip {n order v k l : Nat} (h : RLeast n order v k l) (h1 : Nat.gcd k order = 1 → l ≤ v ^ k % n) : RLeast n order v (k + 1) l := by
  obtain ⟨a, b, c⟩ := h
  refine ⟨a, fun j h2 h3 h4 => ?_, ?_⟩
  · by_cases e : j = k
    · rw [e] at h4 ⊢; exact h1 h4
    · exact b j h2 (by omega) h4
  · rcases c with c | ⟨j, c1, c2, c3⟩
    · exact .inl c
    · exact .inr ⟨j, c1, by omega, c3⟩
theorem RLeast.take {n order v k l : Nat} (h : RLeast n order v k l) (hk : 1 ≤ k) (h1 : Nat.gcd k order = 1) (h2 : v ^ k % n < l) : RLeast n order v (k + 1) (v ^ k % n) := by
  obtain ⟨a, b, c⟩ := h
  refine ⟨by omega, fun j h3 h4 h5 => ?_, .inr ⟨k, hk, by omega, h1, rfl⟩⟩
  by_cases e : j = k
  · rw [e]; exact Nat.le_refl _
  · have := b j h3 (by omega) h5; omega

theorem pow_split {p g m order q : Nat} (ho : order ∣ m) (hq : q ∣ order) (hq0 : 1 ≤ q) (ho0 : 1 ≤ order) : (g ^ (m / order) % p) ^ (order / q) % p = g ^ (m / q) % p := by
  obtain ⟨c, rfl⟩ := ho
  obtain ⟨d, rfl⟩ := hq
  rw [← Nat.pow_mod, ← Nat.pow_mul, Nat.mul_div_cancel_left _ (by omega), Nat.mul_div_cancel_left _ (by omega), Nat.mul_assoc, Nat.mul_div_cancel_left _ (by omega), Nat.mul_comm]

end Ob
namespace Go.Proofs.Ytfmmkdmnondomaa
open Go.RowKit
set_option linter.unusedVariables false

theorem someRoot_ord {n order x : Nat} {L : List (Nat × Nat)} (hp : Ob.Pr n) (hL : Ob.Fz order L) (ho : order ∣ n - 1) (ho0 : 1 ≤ order) (hs : SomeRoot n order L x) : Ob.Ord n x order := by
  obtain ⟨M, hM⟩ : ∃ M, Ob.Fz (n - 1) M := by
    have h1 : ∀ m, 1 ≤ m → ∃ M, Ob.Fz m M := by
      intro m
      induction m using Nat.strongRecOn with
      | ind m ih =>
        intro hm
        by_cases h1 : m = 1
        · exact ⟨[], h1 ▸ Ob.Fz.one⟩
        · obtain ⟨p, hp0, hmin⟩ : ∃ p, (2 ≤ p ∧ p ∣ m) ∧ ∀ d, 2 ≤ d → d < p → ¬ d ∣ m := by
            have key : ∀ k, k ≤ m → (∃ p, (2 ≤ p ∧ p ∣ m) ∧ ∀ d, 2 ≤ d → d < p → ¬ d ∣ m) ∨ ∀ d, 2 ≤ d → d ≤ k → ¬ d ∣ m := by
              intro k
              induction k with
              | zero => intro _; right; intro d h2 h3; omega
              | succ k ihk =>
                intro hk
                rcases ihk (by omega) with h | h
                · exact .inl h
                · by_cases hd : 2 ≤ k + 1 ∧ (k + 1) ∣ m
                  · exact .inl ⟨k + 1, hd, fun d h2 h3 => h d h2 (by omega)⟩
                  · right; intro d h2 h3 h4
                    by_cases e : d = k + 1
                    · exact hd ⟨by omega, e ▸ h4⟩
                    · exact h d h2 (by omega) h4
            rcases key m (Nat.le_refl _) with h | h
            · exact h
            · exact absurd (Nat.dvd_refl m) (h m (by omega) (Nat.le_refl _))
          have hex : ∀ k c, 1 ≤ c → c ≤ k → ∃ e c', c = p ^ e * c' ∧ ¬ p ∣ c' ∧ 1 ≤ c' := by
            intro k
            induction k with
            | zero => intro c h1 h2; omega
            | succ k ihk =>
              intro c h1 h2
              by_cases hd : p ∣ c
              · obtain ⟨d, rfl⟩ := hd
                have hd1 : 1 ≤ d := by
                  rcases d with _ | d
                  · simp at h1
                  · omega
                have : 2 * d ≤ p * d := Nat.mul_le_mul_right d hp0.1
                obtain ⟨e, c', h3, h4, h5⟩ := ihk d hd1 (by omega)
                exact ⟨e + 1, c', by rw [h3, Nat.pow_succ, Nat.mul_comm (p ^ e) p, Nat.mul_assoc], h4, h5⟩
              · exact ⟨0, c, by simp, hd, h1⟩
          obtain ⟨e, c, h3, h4, h5⟩ := hex m m hm (Nat.le_refl _)
          have he : 1 ≤ e := by
            rcases e with _ | e
            · simp at h3; rw [h3] at hp0; exact absurd hp0.2 h4
            · omega
          have hpe : p ^ 1 ≤ p ^ e := Nat.pow_le_pow_right (by omega) he
          rw [Nat.pow_one] at hpe
          have hlt : c < m := by
            have := Nat.mul_le_mul_right c (show 2 ≤ p ^ e by omega)
            rw [h3]; omega
          obtain ⟨M, hM⟩ := ih c hlt h5
          exact ⟨(p, e) :: M, by rw [h3]; exact Ob.Fz.cons p e c M hp0.1 (by rw [← h3]; exact hmin) he h4 hM⟩
    exact h1 (n - 1) (by have := hp.1; omega)
  have hprim : ∀ y, y ^ order % n = 1 → Prim n order L y → Ob.Ord n y order := fun y h1 h2 =>
    Ob.ord_of hp.1 ho0 h1 (fun q hq hd => by
      obtain ⟨i, hi, e⟩ := hL.mem hq hd
      have := h2 i hi
      change y ^ (order / Ob.pr L i) % n ≠ 1 at this
      rwa [e] at this)
  rcases hs with ⟨a, h1, h2, rfl, h3, _⟩ | ⟨_, hnone⟩
  · refine hprim _ ?_ h3
    rw [← Nat.pow_mod, ← Nat.pow_mul, Nat.div_mul_cancel ho]
    exact Ob.fermat hp (fun h => by have := Nat.le_of_dvd (by omega) h; omega)
  · exfalso
    obtain ⟨g, h1, h2, h3⟩ := Ob.exists_gen hp hM
    refine hnone g h1 h2 (fun i hi => ?_)
    obtain ⟨hq, hqd, _, _⟩ := hL.at i hi
    change (g ^ ((n - 1) / order) % n) ^ (order / Ob.pr L i) % n ≠ 1
    rw [Ob.pow_split ho hqd (by have := hq.1; omega) ho0]
    obtain ⟨j, hj, e⟩ := hM.mem hq (Nat.dvd_trans hqd ho)
    have := h3 j hj
    rwa [e] at this

end Go.Proofs.Ytfmmkdmnondomaa
/- The reference's Root returns what the program's Root returns. -/
namespace Go.Proofs.Ytfmmkdmnondomaa
open Go.RowKit
set_option linter.unusedVariables false
end Go.Proofs.Ytfmmkdmnondomaa
/- Order and Root, of both sides, for whatever arguments: the answers are determined. -/
namespace Ob
set_option linter.unusedVariables false

theorem Ord.pow_coprime {p x m j : Nat} (hp : 2 ≤ p) (h : Ord p x m) (hj : Nat.gcd j m = 1) : Ord p (x ^ j % p) m := by
  refine ⟨?_, fun k hk => ?_⟩
  · rw [← Nat.pow_mod, ← Nat.pow_mul, Nat.mul_comm]; exact pow_one_mod hp h.1 j
  · rw [← Nat.pow_mod, ← Nat.pow_mul] at hk
    exact Nat.Coprime.dvd_of_dvd_mul_left (Nat.Coprime.symm hj) (h.2 _ hk)

/-- m is the least residue of an order. -/
def LeastOrd (n order m : Nat) : Prop := Ord n m order ∧ m < n ∧ ∀ v, v < n → Ord n v order → m ≤ v
theorem LeastOrd.unique {n order m m' : Nat} (h : LeastOrd n order m) (h' : LeastOrd n order m') : m = m' :=
  Nat.le_antisymm (h.2.2 _ h'.2.1 h'.1) (h'.2.2 _ h.2.1 h.1)

theorem RLeast.leastOrd {n order v l : Nat} (hp : Pr n) (ho0 : 1 ≤ order) (hv : Ord n v order) (hvn : v < n) (h : RLeast n order v (order + 1) l) : LeastOrd n order l := by
  have hn := hp.1
  obtain ⟨b1, b2, b3⟩ := h
  refine ⟨?_, ?_, fun u hu hou => ?_⟩
  · rcases b3 with rfl | ⟨j, _, _, hg, rfl⟩
    · exact hv
    · exact hv.pow_coprime hn hg
  · omega
  · obtain ⟨k, hk, hgk, e⟩ := hv.power hp ho0 hou (Nat.gcd_one_left order)
    rw [Nat.pow_one, Nat.mod_eq_of_lt hu] at e
    rw [e]
    rcases Nat.eq_zero_or_pos k with rfl | hk0
    · rw [Nat.gcd_zero_left] at hgk
      have h3 := b2 1 (by omega) (by omega) (Nat.gcd_one_left _)
      have h4 := hv.1
      rw [hgk] at h4
      rw [h4] at h3
      rw [Nat.pow_zero, Nat.mod_eq_of_lt (by omega)]
      exact h3
    · exact b2 k hk0 (by omega) hgk
end Ob
namespace Go.Proofs.Ytfmmkdmnondomaa
open Go.RowKit
set_option linter.unusedVariables false

theorem Least.leastOrd {n order x m : Nat} (hp : Ob.Pr n) (ho0 : 1 ≤ order) (hx : Ob.Ord n x order) (h : Least n order x order m) : Ob.LeastOrd n order m := by
  have hn := hp.1
  obtain ⟨a1, a2⟩ := h
  have hle : ∀ u, u < n → Ob.Ord n u order → m ≤ u := fun u hu hou => by
    obtain ⟨k, hk, hgk, e⟩ := hx.power hp ho0 hou (Nat.gcd_one_left order)
    rw [Nat.pow_one, Nat.mod_eq_of_lt hu] at e
    rw [e]; exact a1 k hk hgk
  have hxo : Ob.Ord n (x ^ 1 % n) order := hx.pow_coprime hn (Nat.gcd_one_left order)
  have hlt := hle _ (Nat.mod_lt _ (by omega)) hxo
  have hlt2 : x ^ 1 % n < n := Nat.mod_lt _ (by omega)
  refine ⟨?_, by omega, hle⟩
  rcases a2 with rfl | ⟨j, _, hg, rfl⟩
  · omega
  · exact hx.pow_coprime hn hg

def OrdRes (n a o : Nat) (c : Int) : Prop := ((n ≤ 2147483647 ∧ Prm n ∧ 1 ≤ a ∧ a < n) ∧ c = 0 ∧ Ob.Ord n a o) ∨ (¬ (n ≤ 2147483647 ∧ Prm n ∧ 1 ≤ a ∧ a < n) ∧ c = 2 ∧ o = 0)
theorem OrdRes.unique {n a o o' : Nat} {c c' : Int} (h : OrdRes n a o c) (h' : OrdRes n a o' c') : o = o' ∧ c = c' := by
  rcases h with ⟨h1, rfl, h2⟩ | ⟨h1, rfl, rfl⟩ <;> rcases h' with ⟨h3, rfl, h4⟩ | ⟨h3, rfl, rfl⟩
  · exact ⟨h2.unique h4, rfl⟩
  · exact absurd h1 h3
  · exact absurd h3 h1
  · exact ⟨rfl, rfl⟩
def RootOk (n order : Nat) : Prop := (n ≤ 2147483647 ∧ Ob.Pr n) ∧ 1 ≤ order ∧ order ≤ 65536 ∧ (n - 1) % order = 0
def RootRes (n order m : Nat) (c : Int) : Prop :=
  ((¬ (n ≤ 2147483647 ∧ Ob.Pr n) ∨ order < 1) ∧ m = 0 ∧ c = 2) ∨ (((n ≤ 2147483647 ∧ Ob.Pr n) ∧ 65536 < order) ∧ m = 0 ∧ c = 3) ∨
  (((n ≤ 2147483647 ∧ Ob.Pr n) ∧ 1 ≤ order ∧ order ≤ 65536 ∧ (n - 1) % order ≠ 0) ∧ m = 0 ∧ c = 4) ∨ (RootOk n order ∧ c = 0 ∧ Ob.LeastOrd n order m)
theorem RootRes.unique {n order m m' : Nat} {c c' : Int} (h : RootRes n order m c) (h' : RootRes n order m' c') : m = m' ∧ c = c' := by
  rcases h with ⟨h1, rfl, rfl⟩ | ⟨⟨h1, h2⟩, rfl, rfl⟩ | ⟨⟨h1, h2, h3, h4⟩, rfl, rfl⟩ | ⟨⟨h1, h2, h3, h4⟩, rfl, h5⟩ <;>
    rcases h' with ⟨k1, rfl, rfl⟩ | ⟨⟨k1, k2⟩, rfl, rfl⟩ | ⟨⟨k1, k2, k3, k4⟩, rfl, rfl⟩ | ⟨⟨k1, k2, k3, k4⟩, rfl, k5⟩
  · exact ⟨rfl, rfl⟩
  · rcases h1 with h1 | h1
    · exact absurd k1 h1
    · omega
  · rcases h1 with h1 | h1
    · exact absurd k1 h1
    · omega
  · rcases h1 with h1 | h1
    · exact absurd k1 h1
    · omega
  · rcases k1 with k1 | k1
    · exact absurd h1 k1
    · omega
  · exact ⟨rfl, rfl⟩
  · omega
  · omega
  · rcases k1 with k1 | k1
    · exact absurd h1 k1
    · omega
  · omega
  · exact ⟨rfl, rfl⟩
  · exact absurd k4 h4
  · rcases k1 with k1 | k1
    · exact absurd h1 k1
    · omega
  · omega
  · exact absurd h4 k4
  · exact ⟨h5.unique k5, rfl⟩
def RootAny (n order : Nat) (w : World) (e : Ending) (w' : World) : Prop := ∃ (m : Nat) (c : Int), e = .returned (.tuple #[.int .u32 m, .int .i64 c]) ∧ RootRes n order m c ∧ Gr w w'

theorem root_any (order n : Nat) (w : World) (ho : order ≤ 4294967295) (hn : n ≤ 4294967295) : Calls Try.prog 58 #[.int .u32 order, .int .u32 n] w (RootAny n order w) := by
  by_cases hp : n ≤ 2147483647 ∧ Ob.Pr n
  · have hp' : n ≤ 2147483647 ∧ Prm n := ⟨hp.1, pr_prm hp.2⟩
    by_cases h1 : order < 1
    · exact (root_arg order n w ho hn (.inr h1)).mono fun e w' ⟨h, g⟩ => ⟨0, 2, h, .inl ⟨.inr h1, rfl, rfl⟩, g⟩
    by_cases h2 : 65536 < order
    · exact (root_long order n w ho hn hp' h2).mono fun e w' ⟨h, g⟩ => ⟨0, 3, h, .inr (.inl ⟨⟨hp, h2⟩, rfl, rfl⟩), g⟩
    by_cases h3 : (n - 1) % order = 0
    · refine (root_ok order n w hn hp' (by omega) (by omega) h3).mono fun e w' ⟨L, x, m, hL, hs, hx, hl, hm, h, g⟩ => ?_
      have hox := someRoot_ord hp.2 hL (Nat.dvd_of_mod_eq_zero h3) (by omega) hs
      exact ⟨m, 0, h, .inr (.inr (.inr ⟨⟨hp, by omega, by omega, h3⟩, rfl, hl.leastOrd hp.2 (by omega) hox⟩)), g⟩
    · exact (root_none order n w hn hp' (by omega) (by omega) h3).mono fun e w' ⟨h, g⟩ => ⟨0, 4, h, .inr (.inr (.inl ⟨⟨hp, by omega, by omega, h3⟩, rfl, rfl⟩)), g⟩
  · exact (root_arg order n w ho hn (.inl fun h => hp ⟨h.1, (prm_pr hn).1 h.2⟩)).mono fun e w' ⟨h, g⟩ => ⟨0, 2, h, .inl ⟨.inl hp, rfl, rfl⟩, g⟩

end Go.Proofs.Ytfmmkdmnondomaa
