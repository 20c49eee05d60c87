/- The formula of Lagrange, as the reference makes it. No Go here. -/
import Derived.Test.YtaenjbemkeghgaaOpc
namespace Op
set_option linter.unusedVariables false
/-- The part for the place i behind k factors. -/
def LagI (m : Int) (xs : List Int) (i k : Nat) (y : Int) (p : List Int) : Prop :=
  m ∣ ev p (cf xs i) - y ∧ (∀ j, j < k → j ≠ i → m ∣ ev p (cf xs j)) ∧ (∀ d, (if i < k then k else k + 1) ≤ d → m ∣ cf p d)
theorem LagI.start (m : Int) (xs : List Int) (i : Nat) (y : Int) {p : List Int} (h : Cg m p [y]) : LagI m xs i 0 y p := by
  refine ⟨?_, fun j hj => by omega, fun d hd => ?_⟩
  · have h1 := ev_cg (cf xs i) h
    have e : ev [y] (cf xs i) = y := by simp [ev]
    rwa [e] at h1
  · rw [if_neg (by omega)] at hd
    have h1 := h d
    rw [cf_out (l := [y]) (by simp; omega), Int.sub_zero] at h1
    exact h1
theorem LagI.skip {m : Int} {xs : List Int} {i : Nat} {y : Int} {p : List Int} (h : LagI m xs i i y p) : LagI m xs i (i + 1) y p := by
  refine ⟨h.1, fun j hj hji => h.2.1 j (by omega) hji, fun d hd => h.2.2 d ?_⟩
  rw [if_pos (by omega)] at hd
  rw [if_neg (by omega)]; exact hd
theorem ev_line (L x : Int) : ev [L, 1] x = L + x := by simp [ev]
theorem LagI.next {m : Int} {xs : List Int} {i k : Nat} {y L v : Int} {p q : List Int} (hk : k ≠ i) (hL : m ∣ L + cf xs k) (hv : m ∣ (cf xs i - cf xs k) * v - 1) (hq : Cg m q (sc v (mul p [L, 1]))) (h : LagI m xs i k y p) : LagI m xs i (k + 1) y q := by
  have he : ∀ x, m ∣ ev q x - v * (ev p x * (L + x)) := fun x => by
    have h1 := ev_cg x hq
    rwa [ev_sc, ev_mul, ev_line] at h1
  refine ⟨?_, fun j hj hji => ?_, fun d hd => ?_⟩
  · have h1 := he (cf xs i)
    have e : ev q (cf xs i) - y = (ev q (cf xs i) - v * (ev p (cf xs i) * (L + cf xs i))) + (ev p (cf xs i) * v) * (L + cf xs k) + ev p (cf xs i) * ((cf xs i - cf xs k) * v - 1) + (ev p (cf xs i) - y) := by
      generalize ev p (cf xs i) = P
      generalize cf xs i = X
      generalize cf xs k = K
      have e1 : v * (P * (L + X)) = P * v * L + P * v * X := by rw [← Int.mul_assoc, Int.mul_comm v P, Int.mul_add]
      have e2 : P * v * (L + K) = P * v * L + P * v * K := Int.mul_add _ _ _
      have e3 : P * ((X - K) * v - 1) = P * v * X - P * v * K - P := by
        rw [Int.mul_sub, Int.mul_one, Int.sub_mul, Int.mul_sub, Int.mul_comm X v, Int.mul_comm K v, ← Int.mul_assoc, ← Int.mul_assoc]
      rw [e1, e2, e3]; omega
    rw [e]
    exact Int.dvd_add (Int.dvd_add (Int.dvd_add h1 (Int.dvd_mul_of_dvd_right hL)) (Int.dvd_mul_of_dvd_right hv)) h.1
  · have h1 := he (cf xs j)
    have h2 : m ∣ v * (ev p (cf xs j) * (L + cf xs j)) := by
      by_cases hjk : j = k
      · subst hjk; exact Int.dvd_mul_of_dvd_right (Int.dvd_mul_of_dvd_right hL)
      · exact Int.dvd_mul_of_dvd_right (Int.dvd_mul_of_dvd_left (h.2.1 j (by omega) hji))
    have e : ev q (cf xs j) = (ev q (cf xs j) - v * (ev p (cf xs j) * (L + cf xs j))) + v * (ev p (cf xs j) * (L + cf xs j)) := by omega
    rw [e]; exact Int.dvd_add h1 h2
  · have h1 := hq d
    rw [cf_sc] at h1
    have h2 : m ∣ cf (mul p [L, 1]) d := by
      have hb : (if i < k then k else k + 1) + 1 ≤ d := by
        by_cases hik : i < k
        · rw [if_pos hik]; rw [if_pos (by omega)] at hd; exact hd
        · rw [if_neg hik]; rw [if_neg (by omega)] at hd; exact hd
      cases d with
      | zero => omega
      | succ d =>
        rw [cf_mul_right_succ]
        have a1 := h.2.2 (d + 1) (by omega)
        have a2 := h.2.2 d (by omega)
        have e : cf (mul p [1]) d = cf p d := by
          have := mul_one p d
          rw [mul_comm']; exact this
        rw [e]
        exact Int.dvd_add (Int.dvd_mul_of_dvd_left a1) a2
    have e : cf q d = (cf q d - v * cf (mul p [L, 1]) d) + v * cf (mul p [L, 1]) d := by omega
    rw [e]; exact Int.dvd_add h1 (Int.dvd_mul_of_dvd_right h2)
/-- The sum of the parts below i. -/
def LagS (m : Int) (xs ys : List Int) (i : Nat) (o : List Int) : Prop :=
  (∀ j, j < i → m ∣ ev o (cf xs j) - cf ys j) ∧ (∀ j, i ≤ j → j < xs.length → m ∣ ev o (cf xs j)) ∧ (∀ d, xs.length ≤ d → m ∣ cf o d)
theorem LagS.start (m : Int) (xs ys : List Int) : LagS m xs ys 0 [] := ⟨fun j hj => by omega, fun j _ _ => ⟨0, by simp [ev]⟩, fun d _ => ⟨0, by simp⟩⟩
theorem LagS.next {m : Int} {xs ys : List Int} {i : Nat} {o p q : List Int} (hi : i < xs.length) (hq : Cg m q (add o p)) (h : LagS m xs ys i o) (k : LagI m xs i xs.length (cf ys i) p) : LagS m xs ys (i + 1) q := by
  have he : ∀ x, m ∣ ev q x - (ev o x + ev p x) := fun x => by
    have h1 := ev_cg x hq
    rwa [ev_add] at h1
  refine ⟨fun j hj => ?_, fun j hj hjl => ?_, fun d hd => ?_⟩
  · by_cases hji : j = i
    · subst hji
      have e : ev q (cf xs j) - cf ys j = (ev q (cf xs j) - (ev o (cf xs j) + ev p (cf xs j))) + ev o (cf xs j) + (ev p (cf xs j) - cf ys j) := by omega
      rw [e]; exact Int.dvd_add (Int.dvd_add (he _) (h.2.1 j (Nat.le_refl _) hi)) k.1
    · have e : ev q (cf xs j) - cf ys j = (ev q (cf xs j) - (ev o (cf xs j) + ev p (cf xs j))) + (ev o (cf xs j) - cf ys j) + ev p (cf xs j) := by omega
      rw [e]; exact Int.dvd_add (Int.dvd_add (he _) (h.1 j (by omega))) (k.2.1 j (by omega) hji)
  · have e : ev q (cf xs j) = (ev q (cf xs j) - (ev o (cf xs j) + ev p (cf xs j))) + ev o (cf xs j) + ev p (cf xs j) := by omega
    rw [e]; exact Int.dvd_add (Int.dvd_add (he _) (h.2.1 j (by omega) hjl)) (k.2.1 j hjl (by omega))
  · have h1 := hq d
    rw [cf_add] at h1
    have e : cf q d = (cf q d - (cf o d + cf p d)) + cf o d + cf p d := by omega
    rw [e]; exact Int.dvd_add (Int.dvd_add h1 (h.2.2 d hd)) (k.2.2 d (by rw [if_pos hi]; exact hd))
end Op
