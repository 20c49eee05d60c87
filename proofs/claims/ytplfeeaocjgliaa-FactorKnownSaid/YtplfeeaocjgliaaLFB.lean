import Derived.Test.YtplfeeaocjgliaaLFA
import Derived.Test.YtplfeeaocjgliaaLMF
import Derived.Test.YtplfeeaocjgliaaLPB
import Derived.Test.YtplfeeaocjgliaaLPA
/- Package factor: dimensions, plain primes, degrees; of both sides. -/
namespace Go.Proofs.Ytplfeeaocjgliaa
open Go.RowKit
set_option linter.unusedVariables false

def DimI (n : Int) : Prop := n = 2 ∨ n = 4 ∨ n = 8 ∨ n = 16 ∨ n = 32
instance (n : Int) : Decidable (DimI n) := by unfold DimI; infer_instance
theorem DimI.mem {n : Int} (h : DimI n) : n.toNat ∈ Oq.dims ∧ (n.toNat : Int) = n ∧ 2 ≤ n.toNat ∧ n.toNat ≤ 32 := by
  rcases h with rfl | rfl | rfl | rfl | rfl <;> exact ⟨by decide, by decide, by decide, by decide⟩
/-- A plain prime. -/
def PlP (p : Nat) : Prop := 2 < p ∧ p < 65536 ∧ Ob.Pr p

theorem fdim_any (n : Int) (w : World) : Calls Try.prog 24 #[.int .i64 n] w (fun e w' => e = .returned (.bool (decide (DimI n))) ∧ w = w') := by
  by_cases h : DimI n
  · rw [decide_eq_true h]
    rcases h with rfl | rfl | rfl | rfl | rfl
    all_goals
      go_enter Try.func24, Try.ntmps24
      go_wp2_with fail
      go_ret
      exact ⟨rfl, rfl⟩
  · rw [decide_eq_false h]
    unfold DimI at h
    have b1 : (n == 2) = false := by simp; omega
    have b2 : (n == 4) = false := by simp; omega
    have b3 : (n == 8) = false := by simp; omega
    have b4 : (n == 16) = false := by simp; omega
    have b5 : (n == 32) = false := by simp; omega
    clear h
    go_enter Try.func24, Try.ntmps24
    go_wp2_with fail
    go_ret
    exact ⟨rfl, rfl⟩
theorem rdim7_any (n : Int) (w : World) : Calls Try.prog 22 #[.int .i64 n] w (fun e w' => e = .returned (.bool (decide (DimI n))) ∧ w = w') := by
  by_cases h : DimI n
  · rw [decide_eq_true h]
    rcases h with rfl | rfl | rfl | rfl | rfl
    all_goals
      go_enter Try.func22, Try.ntmps22
      go_wp2_with fail
      go_ret
      exact ⟨rfl, rfl⟩
  · rw [decide_eq_false h]
    unfold DimI at h
    have b1 : (n == 2) = false := by simp; omega
    have b2 : (n == 4) = false := by simp; omega
    have b3 : (n == 8) = false := by simp; omega
    have b4 : (n == 16) = false := by simp; omega
    have b5 : (n == 32) = false := by simp; omega
    clear h
    go_enter Try.func22, Try.ntmps22
    go_wp2_with fail
    go_ret
    exact ⟨rfl, rfl⟩

set_option maxRecDepth 100000 in
theorem fplain_any (p : Nat) (w : World) (hp : p ≤ 4294967295) : Calls Try.prog 25 #[.int .u32 p] w (BoolPost (PlP p) w) := by
  by_cases h1 : 2 < p
  · by_cases h2 : p < 65536
    · have H1 := Lib.hid h1
      have H2 := Lib.hid h2
      have i1 : (2 : Int) < (p : Int) := by omega
      have i2 : (p : Int) < 65536 := by omega
      clear h1 h2
      go_enter Try.func25, Try.ntmps25
      go_wp2_with fail
      refine (pprime_pr p _ hp).mono ?_
      rintro e w1 ⟨r, rfl, hr, hg⟩
      have H := Lib.hid (And.intro hr hg)
      clear hr hg
      cases r with
      | true =>
        have HPR := Lib.hid (H.out.1.1 rfl)
        have HG := Lib.hid H.out.2
        clear H
        go_wp2_with fail
        go_ret
        exact ⟨true, rfl, ⟨fun _ => ⟨H1.out, H2.out, HPR.out⟩, fun _ => rfl⟩, HG.out⟩
      | false =>
        have HPR := Lib.hid (show ¬ Ob.Pr p from fun h => absurd (H.out.1.2 h) (by simp))
        have HG := Lib.hid H.out.2
        clear H
        go_wp2_with fail
        go_ret
        exact ⟨false, rfl, ⟨fun h => (by cases h), fun h => absurd h.2.2 HPR.out⟩, HG.out⟩
    · have H2 := Lib.hid h2
      have i1 : (2 : Int) < (p : Int) := by omega
      have i2 : decide ((p : Int) < 65536) = false := decide_eq_false (by omega)
      clear h1 h2
      go_enter Try.func25, Try.ntmps25
      go_wp2_with fail
      go_ret
      exact ⟨false, rfl, ⟨fun h => (by cases h), fun h => absurd h.2.1 H2.out⟩, Gr.refl _⟩
  · go_enter Try.func25, Try.ntmps25
    go_wp2_with fail
    go_ret
    exact ⟨false, rfl, ⟨fun h => (by cases h), fun h => absurd h.1 h1⟩, Gr.refl _⟩
set_option maxRecDepth 100000 in
theorem rplain_any (p : Nat) (w : World) (hp : p ≤ 4294967295) : Calls Try.prog 23 #[.int .u32 p] w (BoolPost (PlP p) w) := by
  by_cases h1 : 2 < p
  · by_cases h2 : p < 65536
    · have H1 := Lib.hid h1
      have H2 := Lib.hid h2
      have i1 : (2 : Int) < (p : Int) := by omega
      have i2 : (p : Int) < 65536 := by omega
      clear h1 h2
      go_enter Try.func23, Try.ntmps23
      go_wp2_with fail
      refine (rprime5 p _ hp).mono ?_
      rintro e w1 ⟨r, rfl, hr, hg⟩
      have H := Lib.hid (And.intro hr hg)
      clear hr hg
      cases r with
      | true =>
        have HPR := Lib.hid (H.out.1.1 rfl)
        have HG := Lib.hid H.out.2
        clear H
        go_wp2_with fail
        go_ret
        exact ⟨true, rfl, ⟨fun _ => ⟨H1.out, H2.out, HPR.out⟩, fun _ => rfl⟩, HG.out⟩
      | false =>
        have HPR := Lib.hid (show ¬ Ob.Pr p from fun h => absurd (H.out.1.2 h) (by simp))
        have HG := Lib.hid H.out.2
        clear H
        go_wp2_with fail
        go_ret
        exact ⟨false, rfl, ⟨fun h => (by cases h), fun h => absurd h.2.2 HPR.out⟩, HG.out⟩
    · have H2 := Lib.hid h2
      have i1 : (2 : Int) < (p : Int) := by omega
      have i2 : decide ((p : Int) < 65536) = false := decide_eq_false (by omega)
      clear h1 h2
      go_enter Try.func23, Try.ntmps23
      go_wp2_with fail
      go_ret
      exact ⟨false, rfl, ⟨fun h => (by cases h), fun h => absurd h.2.1 H2.out⟩, Gr.refl _⟩
  · go_enter Try.func23, Try.ntmps23
    go_wp2_with fail
    go_ret
    exact ⟨false, rfl, ⟨fun h => (by cases h), fun h => absurd h.1 h1⟩, Gr.refl _⟩

/-- The degree and the error. -/
def DegR (n : Int) (p d : Nat) (E : Int) : Prop := (DimI n ∧ PlP p ∧ E = 0 ∧ Oq.PD n.toNat p d) ∨ (¬ (DimI n ∧ PlP p) ∧ E = 2 ∧ d = 0)
theorem DegR.unique {n : Int} {p d d' : Nat} {E E' : Int} (h : DegR n p d E) (h' : DegR n p d' E') : d = d' ∧ E = E' := by
  rcases h with ⟨h1, h2, rfl, h3⟩ | ⟨h1, rfl, rfl⟩ <;> rcases h' with ⟨k1, k2, rfl, k3⟩ | ⟨k1, rfl, rfl⟩
  · exact ⟨h3.unique k3, rfl⟩
  · exact absurd ⟨h1, h2⟩ k1
  · exact absurd ⟨k1, k2⟩ h1
  · exact ⟨rfl, rfl⟩
def DegP (n : Int) (p : Nat) (w : World) (e : Ending) (w' : World) : Prop := ∃ (d : Nat) (E : Int), e = .returned (.tuple #[.int .i64 d, .int .i64 E]) ∧ DegR n p d E ∧ Gr w w'
theorem PlP.odd {p : Nat} (h : PlP p) : p % 2 = 1 := by
  rcases Nat.mod_two_eq_zero_or_one p with h0 | h0
  · exact absurd (Nat.dvd_of_mod_eq_zero h0) (h.2.2.2 2 (Nat.le_refl _) h.1)
  · exact h0
theorem PD_le {n p d : Nat} (h : Oq.PD n p d) (hn : 1 ≤ n) : d ≤ n := Nat.le_of_dvd hn (Nat.dvd_of_mod_eq_zero h.dvd)

set_option maxRecDepth 100000 in
set_option maxHeartbeats 1000000 in
theorem fdegree_any (n : Int) (p : Nat) (w : World) (hn : -9223372036854775808 ≤ n ∧ n ≤ 9223372036854775807) (hp : p ≤ 4294967295) : Calls Try.prog 10 #[.int .i64 n, .int .u32 p] w (DegP n p w) := by
  by_cases h1 : DimI n
  · obtain ⟨hmem, hnn, hn2, hn32⟩ := h1.mem
    obtain ⟨m, hm⟩ : ∃ m, m = n.toNat := ⟨_, rfl⟩
    rw [← hm] at hmem hnn hn2 hn32
    have HD := Lib.hid h1
    have HTN := Lib.hid hm
    subst hnn
    clear h1 hn hm
    have hdec : decide (DimI (m : Int)) = true := decide_eq_true HD.out
    have HDEC := Lib.hid hdec
    clear hdec
    go_enter Try.func10, Try.ntmps10
    go_wp2_with fail
    refine (fdim_any (m : Int) _).mono ?_
    rintro e w0 ⟨rfl, rfl⟩
    rw [HDEC.out]
    go_wp2_with fail
    refine (fplain_any p _ hp).mono ?_
    rintro e w1 ⟨r, rfl, hr, hg⟩
    have H := Lib.hid (And.intro hr hg)
    clear hr hg
    cases r with
    | false =>
      go_wp2_with fail
      go_ret2
      exact ⟨0, 2, rfl, .inr ⟨fun h => absurd (H.out.1.2 h.2) (by simp), rfl, rfl⟩, H.out.2⟩
    | true =>
      have hpl := H.out.1.1 rfl
      obtain ⟨d, hd⟩ := Oq.pd_exists hmem hpl.odd
      have hdm := PD_le hd (by omega)
      have hp2 := hpl.2.1
      have hd1 := hd.d1
      have HPL := Lib.hid hpl
      have HPD := Lib.hid hd
      have r0 : 0 ≤ (p : Int) % (2 * (m : Int)) := emod_lo _ _ (by omega)
      have r1 : (p : Int) % (2 * (m : Int)) < 2 * (m : Int) := emod_hi _ _ (by omega)
      have HST := Lib.hid (show (p : Int) % (2 * (m : Int)) = ((p ^ 1 % (2 * m) : Nat) : Int) from by rw [Nat.pow_one, Int.natCast_emod, Int.natCast_mul]; rfl)
      clear hpl hd hmem
      go_wp2_with fail
      go_loopw [7, 8] (fun t u wr => ∃ k x : Nat, t = .int .i64 k ∧ u = .int .u32 x ∧ x = p ^ k % (2 * m) ∧ 1 ≤ k ∧ k ≤ d ∧ wr = w1) (fun t _ _ => d - (intOf t).toNat)
      case atStart => exact ⟨1, p ^ 1 % (2 * m), rfl, by rw [HST.out], rfl, Nat.le_refl _, hd1, rfl⟩
      case round =>
        obtain ⟨k, x, rfl, rfl, hx, hk1, hkd, rfl⟩ := hrel
        have hxl : x < 2 * m := by rw [hx]; exact Nat.mod_lt _ (by omega)
        by_cases hx1 : x = 1
        · have hkd' : k = d := by
            rcases Nat.lt_or_ge k d with h | h
            · exact absurd (by rw [← hx]; exact hx1) (HPD.out.min k h hk1)
            · omega
          subst hx1 hkd'
          clear hx
          go_wp2_with fail
          go_ret2
          exact ⟨k, 0, rfl, .inl ⟨HD.out, HPL.out, rfl, by rw [← HTN.out]; exact HPD.out⟩, H.out.2⟩
        · have hkd' : k < d := by
            rcases Nat.lt_or_ge k d with h | h
            · exact h
            · obtain rfl : k = d := by omega
              exact absurd (hx.trans HPD.out.one) hx1
          have HX := Lib.hid hx
          have m0 : 0 ≤ (x : Int) * (p : Int) := mul_lo (by omega) (by omega)
          have m1 : (x : Int) * (p : Int) ≤ 64 * 65536 := Int.mul_le_mul (by omega) (by omega) (by omega) (by omega)
          have s0 : 0 ≤ (x : Int) * (p : Int) % (2 * (m : Int)) := emod_lo _ _ (by omega)
          have s1 : (x : Int) * (p : Int) % (2 * (m : Int)) < 2 * (m : Int) := emod_hi _ _ (by omega)
          have hne : ((x : Int) != 1) = true := by simp; omega
          clear hx
          go_wp2_with fail
          go_roundw
          case rel =>
            refine ⟨k + 1, p ^ (k + 1) % (2 * m), rfl, ?_, rfl, by omega, hkd', trivial⟩
            rw [Nat.pow_succ, Nat.mul_mod, ← HX.out, Nat.mul_mod_mod, Int.natCast_emod, Int.natCast_mul, Int.natCast_mul]; rfl
          case measure => simp [intOf]; omega
  · have hdec : decide (DimI n) = false := decide_eq_false h1
    have HDEC := Lib.hid hdec
    have H1 := Lib.hid h1
    clear hdec h1
    go_enter Try.func10, Try.ntmps10
    go_wp2_with fail
    refine (fdim_any n _).mono ?_
    rintro e w0 ⟨rfl, rfl⟩
    rw [HDEC.out]
    go_wp2_with fail
    go_ret2
    exact ⟨0, 2, rfl, .inr ⟨fun h => H1.out h.1, rfl, rfl⟩, Gr.refl _⟩
end Go.Proofs.Ytplfeeaocjgliaa
/- The next monic polynomial: what it is, and that package factor finds it in the memory of the last one. -/
namespace Oq
open Op
set_option linter.unusedVariables false
/-- The next one: the elements before the last one count up. -/
def nx (p : Int) : List Int → List Int
  | [] => [1]
  | [_] => [0, 1]
  | c :: d :: l => if c + 1 < p then (c + 1) :: d :: l else 0 :: nx p (d :: l)
/-- Its place in the order. -/
def rk (p : Int) : List Int → Int
  | [] => 0
  | c :: l => c + p * rk p l
theorem rk_cons (p c : Int) (l : List Int) : rk p (c :: l) = c + p * rk p l := rfl
/-- Monic, and reduced. -/
def Mo (p : Int) (l : List Int) : Prop := Rs p l ∧ l ≠ [] ∧ Op.ld l = 1
theorem Mo.nf {p : Int} {l : List Int} (h : Mo p l) : Nf p l := ⟨h.1, tz_id fun _ => by show Op.ld l ≠ 0; rw [h.2.2]; omega⟩
theorem Mo.of {p : Int} {l : List Int} (h : Nf p l) (h1 : Op.ld l = 1) (h2 : l ≠ []) : Mo p l := ⟨h.1, h2, h1⟩
theorem Mo.tail {p c d : Int} {l : List Int} (h : Mo p (c :: d :: l)) : Mo p (d :: l) := ⟨fun x hx => h.1 x (List.mem_cons_of_mem _ hx), by simp, by have := h.2.2; simpa [Op.ld] using this⟩
theorem Mo.cons {p c : Int} {l : List Int} (hc : 0 ≤ c ∧ c < p) (h : Mo p l) : Mo p (c :: l) := by
  obtain ⟨h1, h2, h3⟩ := h
  refine ⟨fun x hx => ?_, by simp, ?_⟩
  · rcases List.mem_cons.1 hx with rfl | hx
    · exact hc
    · exact h1 x hx
  · cases l with
    | nil => exact absurd rfl h2
    | cons d l => simpa [Op.ld] using h3
theorem Mo.one {p : Int} (hp : 2 ≤ p) : Mo p [1] := ⟨fun x hx => by rw [List.mem_singleton.1 hx]; omega, by simp, rfl⟩
theorem Mo.single {p c : Int} (h : Mo p [c]) : c = 1 := h.2.2
theorem nx_mo {p : Int} (hp : 2 ≤ p) : ∀ {l : List Int}, Mo p l → Mo p (nx p l)
  | [], h => absurd rfl h.2.1
  | [c], h => Mo.cons (by omega) (Mo.one hp)
  | c :: d :: l, h => by
    rw [nx]
    have hc := h.1 c (List.mem_cons_self ..)
    split
    · exact Mo.cons (by omega) h.tail
    · exact Mo.cons (by omega) (nx_mo hp h.tail)
theorem nx_len (p : Int) : ∀ l : List Int, l ≠ [] → l.length ≤ (nx p l).length ∧ (nx p l).length ≤ l.length + 1
  | [], h => absurd rfl h
  | [c], _ => by simp [nx]
  | c :: d :: l, _ => by
    rw [nx]
    split
    · simp
    · have := nx_len p (d :: l) (by simp)
      simp only [List.length_cons] at this ⊢; omega
theorem rk_pos {p : Int} (hp : 2 ≤ p) : ∀ {l : List Int}, Mo p l → 1 ≤ rk p l
  | [], h => absurd rfl h.2.1
  | [c], h => by rw [h.single]; simp [rk]
  | c :: d :: l, h => by
    have hc := h.1 c (List.mem_cons_self ..)
    have ih := rk_pos hp h.tail
    rw [rk]
    have : p * 1 ≤ p * rk p (d :: l) := Int.mul_le_mul_of_nonneg_left ih (by omega)
    omega
theorem rk_ge {p : Int} (hp : 2 ≤ p) {c d : Int} {l : List Int} (h : Mo p (c :: d :: l)) : p ≤ rk p (c :: d :: l) := by
  have hc := h.1 c (List.mem_cons_self ..)
  have ih := rk_pos hp h.tail
  rw [rk]
  have : p * 1 ≤ p * rk p (d :: l) := Int.mul_le_mul_of_nonneg_left ih (by omega)
  omega
theorem mul_lt_cancel {p x y c d : Int} (hp : 2 ≤ p) (hc : 0 ≤ c) (hd : d < p) (h : c + p * x < d + p * y) (h2 : d ≤ c) : x < y := by
  apply Classical.byContradiction
  intro hn
  have : p * y ≤ p * x := Int.mul_le_mul_of_nonneg_left (by omega) (by omega)
  omega
/-- The next one is no later than whatever is later. -/
theorem nx_le {p : Int} (hp : 2 ≤ p) : ∀ {l t : List Int}, Mo p l → Mo p t → rk p l < rk p t → rk p (nx p l) ≤ rk p t
  | [], _, h, _, _ => absurd rfl h.2.1
  | _ :: _, [], _, h, _ => absurd rfl h.2.1
  | [c], [d], h, k, hlt => by rw [h.single, k.single] at hlt; omega
  | [c], d :: e :: t, h, k, hlt => by
    have := rk_ge hp k
    have e1 : rk p [0, 1] = p := by simp [rk]
    show rk p [0, 1] ≤ _
    rw [e1]; exact this
  | c :: d :: l, [e], h, k, hlt => by
    have := rk_ge hp h
    rw [k.single] at hlt
    simp only [rk] at hlt this
    omega
  | c :: d :: l, e :: g :: t, h, k, hlt => by
    rw [nx]
    have hc := h.1 c (List.mem_cons_self ..)
    have he := k.1 e (List.mem_cons_self ..)
    split
    · have e1 : rk p ((c + 1) :: d :: l) = rk p (c :: d :: l) + 1 := by rw [rk_cons p (c + 1), rk_cons p c]; omega
      omega
    · have h1 : rk p (d :: l) < rk p (g :: t) := by
        rw [rk_cons p c, rk_cons p e] at hlt
        exact mul_lt_cancel hp hc.1 he.2 hlt (by omega)
      have ih := nx_le hp h.tail k.tail h1
      have : p * rk p (nx p (d :: l)) ≤ p * rk p (g :: t) := Int.mul_le_mul_of_nonneg_left ih (by omega)
      rw [rk_cons p 0, rk_cons p e]; omega
theorem nx_gt {p : Int} (hp : 2 ≤ p) : ∀ {l : List Int}, Mo p l → rk p l < rk p (nx p l)
  | [], h => absurd rfl h.2.1
  | [c], h => by rw [h.single]; show rk p [1] < rk p [0, 1]; simp only [rk]; omega
  | c :: d :: l, h => by
    rw [nx]
    have hc := h.1 c (List.mem_cons_self ..)
    split
    · simp only [rk]; omega
    · have ih := nx_gt hp h.tail
      have : p * (rk p (d :: l) + 1) ≤ p * rk p (nx p (d :: l)) := Int.mul_le_mul_of_nonneg_left (by omega) (by omega)
      rw [Int.mul_add] at this
      rw [rk_cons p c, rk_cons p 0]; omega
theorem rk_inj {p : Int} (hp : 2 ≤ p) : ∀ {l t : List Int}, Mo p l → Mo p t → rk p l = rk p t → l = t
  | [], _, h, _, _ => absurd rfl h.2.1
  | _ :: _, [], _, h, _ => absurd rfl h.2.1
  | [c], [d], h, k, e => by rw [h.single, k.single]
  | [c], d :: e :: t, h, k, e' => by
    have := rk_ge hp k
    rw [h.single] at e'
    simp only [rk] at e' this
    omega
  | c :: d :: l, [e], h, k, e' => by
    have := rk_ge hp h
    rw [k.single] at e'
    simp only [rk] at e' this
    omega
  | c :: d :: l, e :: g :: t, h, k, e' => by
    have hc := h.1 c (List.mem_cons_self ..)
    have he := k.1 e (List.mem_cons_self ..)
    rw [rk_cons p c, rk_cons p e] at e'
    have h1 : rk p (d :: l) = rk p (g :: t) := by
      rcases Int.lt_trichotomy (rk p (d :: l)) (rk p (g :: t)) with h1 | h1 | h1
      · have : p * (rk p (d :: l) + 1) ≤ p * rk p (g :: t) := Int.mul_le_mul_of_nonneg_left (by omega) (by omega)
        rw [Int.mul_add] at this; omega
      · exact h1
      · have : p * (rk p (g :: t) + 1) ≤ p * rk p (d :: l) := Int.mul_le_mul_of_nonneg_left (by omega) (by omega)
        rw [Int.mul_add] at this; omega
    have h2 := rk_inj hp h.tail k.tail h1
    rw [h1] at e'
    rw [h2, show c = e from by omega]
/-- One step of the search for the next one. -/
theorem nx_full {p : Int} {l : List Int} {i : Nat} (hi : i + 1 < l.length) (hr : Rs p l) (hc : ¬ cf l i + 1 < p) : nx p (l.drop i) = 0 :: nx p (l.drop (i + 1)) := by
  have e1 : l.drop i = cf l i :: l.drop (i + 1) := by
    rw [List.drop_eq_getElem_cons (by omega)]
    congr 1
    rw [← cf_at, List.getElem?_eq_getElem (by omega)]; rfl
  have e2 : l.drop (i + 1) = cf l (i + 1) :: l.drop (i + 1 + 1) := by
    rw [List.drop_eq_getElem_cons (by omega)]
    congr 1
    rw [← cf_at, List.getElem?_eq_getElem (by omega)]; rfl
  rw [e1, e2, nx, if_neg hc]
theorem nx_step {p : Int} {l : List Int} {i : Nat} (hi : i + 1 < l.length) (hc : cf l i + 1 < p) : nx p (l.drop i) = (cf l i + 1) :: l.drop (i + 1) := by
  have e1 : l.drop i = cf l i :: l.drop (i + 1) := by
    rw [List.drop_eq_getElem_cons (by omega)]
    congr 1
    rw [← cf_at, List.getElem?_eq_getElem (by omega)]; rfl
  have e2 : l.drop (i + 1) = cf l (i + 1) :: l.drop (i + 1 + 1) := by
    rw [List.drop_eq_getElem_cons (by omega)]
    congr 1
    rw [← cf_at, List.getElem?_eq_getElem (by omega)]; rfl
  rw [e1, e2, nx, if_pos hc]
theorem nx_end {p : Int} {l : List Int} {i : Nat} (hi : i + 1 = l.length) : nx p (l.drop i) = [0, 1] := by
  have e1 : l.drop i = cf l i :: l.drop (i + 1) := by
    rw [List.drop_eq_getElem_cons (by omega)]
    congr 1
    rw [← cf_at, List.getElem?_eq_getElem (by omega)]; rfl
  rw [e1, List.drop_eq_nil_of_le (by omega), nx]
/-- The list with i zeros ahead. -/
def zl (i : Nat) (l : List Int) : List Int := List.replicate i 0 ++ l.drop i
theorem zl_len {i : Nat} {l : List Int} (h : i ≤ l.length) : (zl i l).length = l.length := by unfold zl; simp; omega
theorem zl_at {i : Nat} (l : List Int) : cf (zl i l) i = cf l i := by unfold zl; rw [cf_append, List.length_replicate, if_neg (by omega), Nat.sub_self, cf_drop]; rfl
theorem zl_set {i : Nat} {l : List Int} (x : Int) (h : i < l.length) : (zl i l).set i x = List.replicate i 0 ++ x :: l.drop (i + 1) := by
  unfold zl
  rw [List.set_append_right _ _ (by simp), List.length_replicate, Nat.sub_self, List.drop_eq_getElem_cons h]; rfl
theorem zl_next {i : Nat} {l : List Int} (h : i < l.length) : (zl i l).set i 0 = zl (i + 1) l := by
  rw [zl_set 0 h, zl, List.replicate_succ']; simp
end Oq
namespace Go.Proofs.Ytplfeeaocjgliaa
open Go.RowKit
set_option linter.unusedVariables false

theorem cf_set (l : List Int) (x : Int) : ∀ (j i : Nat), j < l.length → Op.cf (l.set j x) i = if i = j then x else Op.cf l i := by
  intro j i hj
  rw [← Op.cf_at, ← Op.cf_at]
  by_cases h : i = j
  · subst h; rw [if_pos rfl]; simp [hj]
  · rw [if_neg h, List.getElem?_set_ne (fun e => h e.symm)]
theorem U32.set {l : List Int} (h : U32 l) {x : Int} (hx : 0 ≤ x ∧ x < 4294967296) (j : Nat) : U32 (l.set j x) := fun y hy => by
  rcases List.mem_or_eq_of_mem_set hy with h1 | h1
  · exact h y h1
  · rw [h1]; exact hx
/-- A number of an own row is written. -/
theorem Own1.set {W : World} {base : Nat} {g : Nat} {n cap : Nat} {l : List Int} (h : Own1 W base (.slice (some ⟨g, 0, none⟩) n cap) l) {j : Nat} (hj : j < l.length) {x : Int} (hx : 0 ≤ x ∧ x < 4294967296) :
    Own1 (W.setCell ⟨g, j, none⟩ (.int .u32 x)) base (.slice (some ⟨g, 0, none⟩) n cap) (l.set j x) ∧ Below base W (W.setCell ⟨g, j, none⟩ (.int .u32 x)) := by
  obtain ⟨h0, h1⟩ := h
  rcases h1.2 with ⟨e, _⟩ | ⟨g', cap', cur, e, hb, hg, k1, k2, k3, k4⟩
  · cases e
  · cases e
    have hlen := h1.1
    refine ⟨⟨h0.set hx j, ?_, .inr ⟨g, cap, cur.setIfInBounds j (.int .u32 x), by simp, hb, ?_, by simpa using k1, k2, by simpa using k3, ?_⟩⟩, (Below.refl _ _).setCell (p := ⟨g, j, none⟩) hb _⟩
    · rw [pcells_len] at hlen ⊢; rw [List.length_set]; exact hlen
    · exact Rw.set (W := W) (g := g) hg j _
    · rw [List.length_set, Array.toList_setIfInBounds, List.take_set, k4]
      simp [pcells, List.map_set]
end Go.Proofs.Ytplfeeaocjgliaa
/- What package factor's 'next' and 'candidates' do. -/
namespace Go.Proofs.Ytplfeeaocjgliaa
open Go.RowKit
set_option linter.unusedVariables false

set_option maxRecDepth 100000 in
set_option maxHeartbeats 2000000 in
theorem next_any (p base : Nat) (l : List Int) (v : Value) (w : World) (hp : 2 ≤ p ∧ p ≤ 2147483647) (hl : Oq.Mo p l) (hlen : l.length ≤ 1000) (ho : Own1 w base v l) (hb : base ≤ w.heap.size) :
    Calls Try.prog 88 #[v, .int .u32 p] w (fun e w' => ∃ v', e = .returned v' ∧ Own1 w' base v' (Oq.nx p l) ∧ Below base w w') := by
  obtain ⟨p2, p3⟩ := hp
  have hne := hl.2.1
  have hl0 : l.length ≠ 0 := fun e => hne (List.eq_nil_of_length_eq_zero e)
  obtain ⟨last, hlast⟩ : ∃ last, l.length = last + 1 := ⟨l.length - 1, by omega⟩
  obtain ⟨g, cap, rfl, hbg, hcap, hcap2, -⟩ := ho.row (by omega)
  rw [hlast] at ho hcap hlen ⊢
  have HO := Lib.hid ho
  have HL := Lib.hid hl
  have HLAST := Lib.hid hlast
  have HCAP := Lib.hid hcap2
  clear ho hl hlast hne hl0 hcap2
  go_enter Try.func88, Try.ntmps88
  go_wp2_with fail
  go_loopw [6, 11] (fun _ t wr => ∃ i : Nat, t = .int .i64 i ∧ i ≤ last ∧ Oq.nx p l = List.replicate i 0 ++ Oq.nx p (l.drop i) ∧ Own1 wr base (.slice (some ⟨g, 0, none⟩) (last + 1) cap) (Oq.zl i l) ∧ Below base w wr) (fun _ t _ => last - (intOf t).toNat)
  case atStart => exact ⟨0, rfl, by omega, by simp, HO.out, Below.refl _ _⟩
  case round =>
    obtain ⟨i, rfl, hi, hnx, how, hbw⟩ := hrel
    have HNX := Lib.hid hnx
    have HW := Lib.hid how
    have HB := Lib.hid hbw
    have hil : i < l.length := by have := HLAST.out; omega
    have hzl := Oq.zl_len (i := i) (l := l) (by omega)
    obtain ⟨g', cap', e, _, _, _, hrow⟩ := how.row (by rw [hzl]; omega)
    simp only [Value.slice.injEq, Option.some.injEq, Addr.mk.injEq] at e
    obtain ⟨⟨rfl, -⟩, -, rfl⟩ := e
    have hc := hrow.cell (j := i) (by rw [hzl]; omega)
    have hf := hrow.frozen i
    rw [Oq.zl_at] at hc
    have hcr := HL.out.1 (Op.cf l i) (Op.cf_mem hil)
    obtain ⟨x, hx⟩ : ∃ x, x = Op.cf l i := ⟨_, rfl⟩
    rw [← hx] at hc hcr
    have HX := Lib.hid hx
    obtain ⟨x0, x1⟩ := hcr
    have HIL := Lib.hid hil
    have HZ := Lib.hid hzl
    clear hnx how hbw hrow hx hil hzl
    by_cases hlt : i < last
    · by_cases hxp : x + 1 < p
      · have i5 : (i : Int) < (last : Int) := by omega
        go_wp2_with fail
        go_ret
        obtain ⟨k1, k2⟩ := HW.out.set (j := i) (by rw [HZ.out]; exact HIL.out) (x := x + 1) (by omega)
        refine ⟨_, rfl, ?_, HB.out.trans k2⟩
        rw [HNX.out, Oq.nx_step (by have := HLAST.out; omega) (by rw [← HX.out]; exact hxp), ← HX.out, ← Oq.zl_set (x + 1) HIL.out]
        exact k1
      · have i5 : (i : Int) < (last : Int) := by omega
        have i6 : (p : Int) ≤ x + 1 := by omega
        go_wp2_with fail
        go_roundw
        case rel =>
          obtain ⟨k1, k2⟩ := HW.out.set (j := i) (by rw [HZ.out]; exact HIL.out) (x := x + 1) (by omega)
          obtain ⟨k3, k4⟩ := k1.set (j := i) (by rw [List.length_set, HZ.out]; exact HIL.out) (x := 0) (by omega)
          refine ⟨i + 1, by simp, by omega, ?_, ?_, (HB.out.trans k2).trans k4⟩
          · rw [HNX.out, Oq.nx_full (by have := HLAST.out; omega) HL.out.1 (by rw [← HX.out]; omega), List.replicate_succ', List.append_assoc]; rfl
          · rw [List.set_set, Oq.zl_next HIL.out] at k3
            exact k3
        case measure => simp [intOf]; omega
    · have i5 : (last : Int) ≤ (i : Int) := by omega
      obtain rfl : i = last := by omega
      have HS := Lib.hid (HW.out.set (j := i) (by rw [HZ.out]; exact HIL.out) (x := 0) (by omega))
      have HS2 := Lib.hid (HS.out.1.alloc (.cells #[.int .u32 1] 22))
      have HONE := Lib.hid (one_hasP' (wr.setCell ⟨g, i, none⟩ (.int .u32 0)) 1 wr.heap.size (by simp) (by omega))
      have HLEN := Lib.hid (show ((Oq.zl i l).set i 0).length + ([1] : List Int).length ≤ 1000000 from by rw [List.length_set, HZ.out, HLAST.out]; simp; omega)
      have HBW := Lib.hid (show base ≤ ((wr.setCell ⟨g, i, none⟩ (.int .u32 0)).alloc (.cells #[.int .u32 1] 22)).heap.size from by have := HB.out.size; simp; omega)
      go_wp2_with (at_builtin; refine wpList_app rfl (.tmp 34) (.tmp 35) rfl rfl base (.slice (some ⟨g, 0, none⟩) (i + 1) cap) ((Oq.zl i l).set i 0) rfl HS2.out (.slice (some ⟨wr.heap.size, 0, none⟩) 1 1) [1] rfl HONE.out HLEN.out HBW.out ?_; intro v' w2 hown hgrow; have HOWN := Lib.hid hown; have HGR := Lib.hid hgrow; clear hown hgrow)
      go_ret
      refine ⟨v', rfl, ?_, ?_⟩
      · have := HOWN.out
        rwa [Oq.zl_set 0 HIL.out, List.drop_eq_nil_of_le (by have := HLAST.out; omega), List.append_assoc, show [(0 : Int)] ++ [1] = Oq.nx p (l.drop i) from by rw [Oq.nx_end HLAST.out.symm]; rfl, ← HNX.out] at this
      · refine ((HB.out.trans HS.out.2).alloc (by have := HB.out.size; simp; omega) _).grown HGR.out HBW.out (fun j ej => ?_)
        cases ej; exact hbg

theorem candidates_any (p : Int) (w : World) : Calls Try.prog 65 #[.int .u32 p] w fun e w' => e = .returned (.func (.func 87) #[] #[.pointer (some ⟨w.heap.size, 0, none⟩)]) ∧ w.alloc (.cells #[.int .u32 p] 22) = w' := by
  go_enter Try.func65, Try.ntmps65
  go_wp2_with fail
  go_ret
  exact ⟨rfl, rfl⟩
/-- The exponent of the norm behind i rounds. -/
def nrm (p : Nat) : Nat → Nat
  | 0 => 1
  | i + 1 => nrm p i * p + 1
theorem nrm_eq {p : Nat} (hp : 1 ≤ p) : ∀ i, nrm p i * (p - 1) + 1 = p ^ (i + 1)
  | 0 => by simp [nrm]; omega
  | i + 1 => by
    have ih := nrm_eq hp i
    obtain ⟨q, rfl⟩ : ∃ q, p = q + 1 := ⟨p - 1, by omega⟩
    simp only [Nat.add_sub_cancel] at ih ⊢
    rw [Nat.pow_succ, ← ih, nrm, Nat.add_mul, Nat.add_mul, Nat.mul_right_comm]
    omega
theorem nrm_half {p d : Nat} (hp : p % 2 = 1) (hd : 1 ≤ d) : nrm p (d - 1) * ((p - 1) / 2) = p ^ d / 2 := by
  have h := nrm_eq (p := p) (by omega) (d - 1)
  rw [show d - 1 + 1 = d from by omega] at h
  obtain ⟨q, hq⟩ : ∃ q, p - 1 = 2 * q := ⟨(p - 1) / 2, by omega⟩
  rw [hq, Nat.mul_left_comm] at h
  rw [show (p - 1) / 2 = q from by omega]
  omega
/-- The Legendre power of a modulo f. -/
def ChR (p : Nat) (f a : List Int) (d : Nat) (r : List Int) : Prop := Op.Nf p r ∧ r.length < f.length ∧ Oq.cl p f r = Oq.pw (Oq.cl p f a) (p ^ d / 2)
theorem cl_pw (m : Int) (f a : List Int) : ∀ N, Oq.cl m f (Op.pw a N) = Oq.pw (Oq.cl m f a) N
  | 0 => rfl
  | N + 1 => by
    rw [Oq.pw, ← cl_pw m f a N, Oq.cl_mul]
    exact Oq.cl_cg (by first | exact Op.Cg.refl m _ | exact Op.cg_swap m _ _)
end Go.Proofs.Ytplfeeaocjgliaa
/- What package factor's 'character' does. -/
namespace Go.Proofs.Ytplfeeaocjgliaa
open Go.RowKit
set_option linter.unusedVariables false

theorem nf_u32 {p : Nat} (hp : p < 65536) {l : List Int} (h : Op.Nf p l) : U32 l := U32.rs h.1 (by omega)
theorem pcheck_ok {p : Nat} (h2 : 2 < p) (hp : p < 65536) {a b : List Int} (ha : Op.Nf p a) (hb : Op.Nf p b) (la : a.length ≤ 256) (lb : b.length ≤ 256) : checkE p [a, b] = 0 :=
  (checkE_two (nf_u32 hp ha) (nf_u32 hp hb)).2 ⟨⟨by omega, by omega⟩, ⟨la, ha⟩, ⟨lb, hb⟩⟩
theorem ppow_ok {p n : Nat} {f a r : List Int} {N : Nat} {E : Int} (D : Oq.Dz p n f) (hp : p < 65536) (ha : Op.Nf p a) (la : a.length ≤ 256) (lf : f.length ≤ 256) (h : PowR p a f N r E) :
    E = 0 ∧ Op.Nf p r ∧ r.length < f.length ∧ Oq.cl p f r = Oq.pw (Oq.cl p f a) N := by
  have hc := pcheck_ok D.h2 hp ha D.nor la lf
  have hd : divU p f := ⟨D.ne, by rw [D.mon]; exact ⟨1, 0, by omega⟩⟩
  rcases h with ⟨h1, h2, _⟩ | ⟨_, h1, _⟩ | ⟨_, _, h1, h2, h3, h4⟩
  · exact absurd (h1.trans hc) h2
  · exact absurd hd h1
  · exact ⟨h1, h2, h3, by rw [← cl_pw]; exact (Oq.cl_eq.2 h4).symm⟩
theorem pmul_ok {p : Nat} {a b : List Int} (h2 : 2 < p) (hp : p < 65536) (ha : Op.Nf p a) (hb : Op.Nf p b) (hl : a.length + b.length ≤ 256) : mulE p a b = 0 ∧ mulL p a b = Op.nf p (Op.mul a b) := by
  have hc := pcheck_ok h2 hp ha hb (by omega) (by omega)
  have h1 : mulE p a b = 0 := by unfold mulE; rw [if_pos hc, if_neg (by omega)]
  exact ⟨h1, by unfold mulL; rw [if_pos h1]⟩

set_option maxRecDepth 100000 in
set_option maxHeartbeats 2000000 in
theorem character_any (p n d : Nat) (f a : List Int) (u v : Value) (w : World) (D : Oq.Dz p n f) (hp : p < 65536) (hd : 1 ≤ d ∧ d ≤ 32) (ha : Op.Nf p a) (la : a.length ≤ f.length) (lf : f.length ≤ 33) (hu : HasP w u a) (hv : HasP w v f) :
    Calls Try.prog 67 #[u, v, .int .u32 p, .int .i64 d] w (fun e w' => ∃ x m c r, e = .returned (.slice x m c) ∧ HasP w' (.slice x m c) r ∧ ChR p f a d r ∧ (∀ q, x = some q → w.heap.size ≤ q.block) ∧ Gr w w') := by
  obtain ⟨-, xa, ca, rfl, -, -, -⟩ := id hu
  obtain ⟨-, xf, cf', rfl, -, -, -⟩ := id hv
  obtain ⟨na, hna⟩ : ∃ na, na = a.length := ⟨_, rfl⟩
  obtain ⟨nf', hnf⟩ : ∃ nf', nf' = f.length := ⟨_, rfl⟩
  obtain ⟨d1, d2⟩ := hd
  have HD := Lib.hid D
  have HA := Lib.hid ha
  have HU := Lib.hid hu
  have HV := Lib.hid hv
  have HLA := Lib.hid la
  have HLF := Lib.hid lf
  have HP := Lib.hid hp
  have p0 : (p : Int) ≤ 65535 := by omega
  have p1 : (2 : Int) < (p : Int) := by have := D.h2; omega
  have HMA := Lib.hid (show a.length ≤ 1000 from by omega)
  have HMF := Lib.hid (show f.length ≤ 1000 from by omega)
  have HE := Lib.hid (nrm_half (p := p) D.odd d1)
  rw [← hna, ← hnf]
  have HNA := Lib.hid hna
  have HNF := Lib.hid hnf
  clear D ha hu hv la lf hp hna hnf
  go_enter Try.func67, Try.ntmps67
  go_wp2_with fail
  go_loopw [9, 10, 11, 17] (fun s _ _ t wr => ∃ (i : Nat) (l : List Int), t = .int .i64 i ∧ i ≤ d - 1 ∧ HasP wr s l ∧ Op.Nf p l ∧ l.length ≤ 100 ∧ Oq.cl p f l = Oq.pw (Oq.cl p f a) (nrm p i) ∧ Gr w wr) (fun _ _ _ t _ => d - 1 - (intOf t).toNat)
  case atStart => exact ⟨0, a, rfl, by omega, by have := HU.out; rwa [← HNA.out] at this, HA.out, by have := HLA.out; have := HLF.out; omega, by rw [nrm, (Oq.laws p f).pw1], Gr.refl _⟩
  case round =>
    obtain ⟨i, l, rfl, hi, hl, hln, hll, hlc, hg⟩ := hrel
    obtain ⟨-, xl, cl', rfl, -, -, -⟩ := id hl
    have H := Lib.hid (And.intro hl (And.intro hln (And.intro hll (And.intro hlc hg))))
    obtain ⟨nl, hnl⟩ : ∃ nl, nl = l.length := ⟨_, rfl⟩
    have HNL := Lib.hid hnl
    rw [← hnl]
    clear hl hln hlc hll hg hnl
    by_cases hlt : i < d - 1
    · have i5 : (i : Int) < (d : Int) - 1 := by omega
      go_wp2_with fail
      refine (pPowMod_any p l f p _ _ _ (by rw [HNL.out]; exact H.out.1) (by have := HV.out.later H.out.2.2.2.2; rwa [← HNF.out] at this) (by have := H.out.2.2.1; omega) HMF.out (by omega)).mono ?_
      rintro e w1 ⟨x, n1, c1, q, E, rfl, hq, hpow, -, hg1⟩
      obtain ⟨rfl, q1, q2, q3⟩ := ppow_ok HD.out HP.out H.out.2.1 (by have := H.out.2.2.1; omega) (by have := HLF.out; omega) hpow
      have HQ := Lib.hid (And.intro hq (And.intro q1 (And.intro q2 (And.intro q3 hg1))))
      clear hq hpow q1 q2 q3 hg1
      go_wp2_with fail
      refine (pMul_any p q a _ _ _ HQ.out.1 (by have := (HU.out.later H.out.2.2.2.2).later HQ.out.2.2.2.2; rwa [← HNA.out] at this) (by have := HQ.out.2.2.1; have := HLF.out; omega) HMA.out).mono ?_
      rintro e w2 ⟨x2, n2, c2, rfl, hm, -, hg2⟩
      obtain ⟨m1, m2⟩ := pmul_ok HD.out.h2 HP.out HQ.out.2.1 HA.out (by have := HQ.out.2.2.1; have := HLF.out; have := HLA.out; omega)
      rw [m2] at hm
      rw [m1]
      have HM := Lib.hid (And.intro hm hg2)
      clear hm hg2 m1 m2
      go_wp2_with fail
      go_roundw
      case rel =>
        refine ⟨i + 1, Op.nf p (Op.mul q a), by simp, by omega, HM.out.1, Op.nf_nf (by omega) _, ?_, ?_, (H.out.2.2.2.2.trans HQ.out.2.2.2.2).trans HM.out.2⟩
        · have h1 := Op.nf_len p (Op.mul q a)
          have h2 := Op.mul_len q a
          have := HQ.out.2.2.1; have := HLF.out; have := HLA.out
          omega
        · rw [Oq.cl_cg (Op.nf_cg p _), ← Oq.cl_mul, HQ.out.2.2.2.1, H.out.2.2.2.1, ← (Oq.laws p f).pw_mul]; rfl
      case measure => simp [intOf]; omega
    · have i5 : (d : Int) - 1 ≤ (i : Int) := by omega
      obtain rfl : i = d - 1 := by omega
      have d0 : ((p : Int) - 1) / 2 = (((p - 1) / 2 : Nat) : Int) := by omega
      have d3 : (0 : Int) ≤ ((p : Int) - 1) / 2 := by omega
      have d4 : ((p : Int) - 1) / 2 ≤ 65535 := by omega
      have HD0 := Lib.hid d0
      clear d0
      go_wp2_with fail
      rw [HD0.out]
      refine (pPowMod_any p l f ((p - 1) / 2) _ _ _ (by rw [HNL.out]; exact H.out.1) (by have := HV.out.later H.out.2.2.2.2; rwa [← HNF.out] at this) (by have := H.out.2.2.1; omega) HMF.out (by omega)).mono ?_
      rintro e w1 ⟨x, n1, c1, q, E, rfl, hq, hpow, hfr, hg1⟩
      obtain ⟨rfl, q1, q2, q3⟩ := ppow_ok HD.out HP.out H.out.2.1 (by have := H.out.2.2.1; omega) (by have := HLF.out; omega) hpow
      have HQ := Lib.hid (And.intro hq (And.intro q1 (And.intro q2 (And.intro q3 (And.intro hfr hg1)))))
      clear hq hpow q1 q2 q3 hg1 hfr
      go_wp2_with fail
      go_ret
      refine ⟨_, _, _, q, rfl, HQ.out.1, ⟨HQ.out.2.1, HQ.out.2.2.1, ?_⟩, fun z hz => Nat.le_trans H.out.2.2.2.2.size (HQ.out.2.2.2.2.1 z hz), H.out.2.2.2.2.trans HQ.out.2.2.2.2.2⟩
      rw [HQ.out.2.2.2.1, H.out.2.2.2.1, ← (Oq.laws p f).pw_mul, HE.out]
end Go.Proofs.Ytplfeeaocjgliaa
