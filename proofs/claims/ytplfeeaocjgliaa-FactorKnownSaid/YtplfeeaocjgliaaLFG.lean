import Derived.Test.YtplfeeaocjgliaaLFF
import Derived.Deep.QuietTactic
import Derived.BigQuiet
/- The examples that every statement ends with. -/
namespace Oq
open Op
set_option linter.unusedVariables false
theorem leaf3 {p : Nat} {l : List Int} (h : Leaf p 2 l) : ∃ a b : Int, l = [a, b, 1] ∧ (0 ≤ a ∧ a < p) ∧ (0 ≤ b ∧ b < p) := by
  obtain ⟨h1, h2, h3⟩ := h
  rcases l with _ | ⟨a, _ | ⟨b, _ | ⟨c, _ | ⟨d, l⟩⟩⟩⟩
  · simp at h3
  · simp at h3
  · simp at h3
  · have hc : c = 1 := h2
    subst hc
    exact ⟨a, b, rfl, h1.1 a (by simp), h1.1 b (by simp)⟩
  · simp at h3
theorem leaf2 {p : Nat} {l : List Int} (h : Leaf p 1 l) : ∃ a : Int, l = [a, 1] ∧ (0 ≤ a ∧ a < p) := by
  obtain ⟨h1, h2, h3⟩ := h
  rcases l with _ | ⟨a, _ | ⟨b, _ | ⟨c, l⟩⟩⟩
  · simp at h3
  · simp at h3
  · have hc : b = 1 := h2
    subst hc
    exact ⟨a, rfl, h1.1 a (by simp)⟩
  · simp at h3
theorem two_of {ls : List (List Int)} (h : ls.length = 2) : ∃ a b, ls = [a, b] := by
  rcases ls with _ | ⟨a, _ | ⟨b, _ | ⟨c, l⟩⟩⟩
  · simp at h
  · simp at h
  · exact ⟨a, b, rfl⟩
  · simp at h
set_option maxHeartbeats 1000000 in
theorem fac43 {ts : List (List Int)} (h : Lv 3 2 (xn 4) ts) (hl : ts.length = 2) (hs : ∀ i j (hi : i < ts.length) (hj : j < ts.length), i < j → cmpL ts[i] ts[j] < 0) : ts = [[2, 1, 1], [2, 2, 1]] := by
  obtain ⟨l1, l2, rfl⟩ := two_of hl
  obtain ⟨a, b, rfl, ha, hb⟩ := leaf3 (h.1 l1 (by simp))
  obtain ⟨c, d, rfl, hc, hd⟩ := leaf3 (h.1 l2 (by simp))
  have hcmp := hs 0 1 (by simp) (by simp) (by omega)
  have h0 := h.2 0
  have h1 := h.2 1
  have h2 := h.2 2
  have h3 := h.2 3
  clear h hs hl
  have ea : a = 0 ∨ a = 1 ∨ a = 2 := by omega
  have eb : b = 0 ∨ b = 1 ∨ b = 2 := by omega
  have ec : c = 0 ∨ c = 1 ∨ c = 2 := by omega
  have ed : d = 0 ∨ d = 1 ∨ d = 2 := by omega
  rcases ea with rfl | rfl | rfl <;> rcases ec with rfl | rfl | rfl <;> (first | (exfalso; revert h0; decide) | skip) <;> rcases eb with rfl | rfl | rfl <;> rcases ed with rfl | rfl | rfl <;> (first | (exfalso; revert h0; decide) | (exfalso; revert h3; decide) | (exfalso; revert h2; decide) | (exfalso; revert h1; decide) | (exfalso; revert hcmp; decide) | rfl)
set_option maxHeartbeats 1000000 in
theorem fac25 {ts : List (List Int)} (h : Lv 5 1 (xn 2) ts) (hl : ts.length = 2) (hs : ∀ i j (hi : i < ts.length) (hj : j < ts.length), i < j → cmpL ts[i] ts[j] < 0) : ts = [[2, 1], [3, 1]] := by
  obtain ⟨l1, l2, rfl⟩ := two_of hl
  obtain ⟨a, rfl, ha⟩ := leaf2 (h.1 l1 (by simp))
  obtain ⟨c, rfl, hc⟩ := leaf2 (h.1 l2 (by simp))
  have hcmp := hs 0 1 (by simp) (by simp) (by omega)
  have h0 := h.2 0
  have h1 := h.2 1
  clear h hs hl
  have ea : a = 0 ∨ a = 1 ∨ a = 2 ∨ a = 3 ∨ a = 4 := by omega
  have ec : c = 0 ∨ c = 1 ∨ c = 2 ∨ c = 3 ∨ c = 4 := by omega
  rcases ea with rfl | rfl | rfl | rfl | rfl <;> rcases ec with rfl | rfl | rfl | rfl | rfl <;> (first | (exfalso; revert h0; decide) | (exfalso; revert h1; decide) | (exfalso; revert hcmp; decide) | rfl)
theorem pr_of {p : Nat} (h2 : 2 ≤ p) (h : (List.range p).all (fun d => decide (d < 2) || p % d != 0) = true) : Ob.Pr p := by
  refine ⟨h2, fun d h3 h4 hd => ?_⟩
  have := List.all_eq_true.1 h d (List.mem_range.2 h4)
  simp only [Bool.or_eq_true, decide_eq_true_eq, bne_iff_ne] at this
  rcases this with h5 | h5
  · omega
  · exact h5 (Nat.mod_eq_zero_of_dvd hd)
theorem pd_two {d : Nat} (h : PD 4 3 d) : d = 2 := by
  have h1 := h.one
  have h2 := h.d1
  rcases Nat.lt_or_ge d 3 with h3 | h3
  · have : d = 1 ∨ d = 2 := by omega
    rcases this with rfl | rfl
    · revert h1; decide
    · rfl
  · exact absurd (by decide) (h.min 2 (by omega) (by omega))
theorem pd_one {n p d : Nat} (h : PD n p d) (h1 : p % (2 * n) = 1) : d = 1 := by
  have h2 := h.d1
  rcases Nat.lt_or_ge 1 d with h3 | h3
  · exact absurd (by rw [Nat.pow_one]; exact h1) (h.min 1 h3 (Nat.le_refl _))
  · omega
end Oq
namespace Go.Proofs.Ytplfeeaocjgliaa
open Go.RowKit
set_option linter.unusedVariables false

theorem plp_of {p : Nat} (h1 : 2 < p) (h2 : p < 65536) (h : (List.range p).all (fun d => decide (d < 2) || p % d != 0) = true) : PlP p := ⟨h1, h2, Oq.pr_of (by omega) h⟩
theorem plp3 : PlP 3 := plp_of (by decide) (by decide) (by decide)
theorem plp5 : PlP 5 := plp_of (by decide) (by decide) (by decide)
theorem plp7 : PlP 7 := plp_of (by decide) (by decide) (by decide)
theorem plp17 : PlP 17 := plp_of (by decide) (by decide) (by decide)
theorem lroot17 : Oh7.LRoot 4 17 2 := by
  refine ⟨by omega, (Oh7.IsR.nat (by omega)).2 (by decide), fun z hz hr => ?_⟩
  have h := (Oh7.IsR.nat (by omega)).1 hr
  have : z = 0 ∨ z = 1 := by omega
  rcases this with rfl | rfl <;> revert h <;> decide
theorem simple17 : Simple (Op.xn 4) 17 2 := ⟨lroot17.2.1, lroot17.2.1.simple (by decide) plp17.2.2 (by omega)⟩
theorem root17 : RtR 4 17 2 155 0 := by
  have hok : MdOk 17 2 := ⟨plp17, by omega, by decide⟩
  refine .inr (.inr ⟨⟨by decide, hok⟩, by decide, rfl, 2, lroot17, .inr (.inr (.inr ⟨⟨hok, by omega⟩, by decide, simple17, rfl, by decide, ⟨9, by decide⟩, ?_⟩))⟩)
  show (17 : Int) ^ 2 ∣ Op.ev (Op.xn 4) 155
  rw [Oh7.ev_xn]
  exact ⟨1997234, by decide⟩

set_option maxRecDepth 100000 in
set_option maxHeartbeats 2000000 in
theorem awake7_any (w : World) : Calls Try.prog 12 #[] w (Truth w) := by
  go_enter Try.func12, Try.ntmps12
  go_wp2_with fail
  refine (ffactors_any 4 3 _ (by omega) (by omega)).mono ?_
  rintro e w1 (⟨hno, _⟩ | ⟨-, -, d, g, c, vs, ts, rfl, hc1, hc2, hll, hpd, hlv, hsrt, hg⟩)
  · exact absurd ⟨by decide, plp3⟩ hno
  · obtain rfl := Oq.pd_two hpd
    have hcount := hlv.count (by omega) (Oq.dz_whole (n := 4) plp3.2.2 plp3.1 (by decide)).nor
    have hl2 : ts.length = 2 := by
      rw [Oq.xn_len] at hcount; omega
    obtain rfl := Oq.fac43 hlv hl2 hsrt
    obtain ⟨x0, k0, d0, e0, p0⟩ := hll.2.2 0 (by simp)
    obtain ⟨x1, k1, d1, e1, p1⟩ := hll.2.2 1 (by simp)
    have HP := Lib.hid (And.intro p0 (And.intro p1 hg))
    have E0 := Lib.hid e0
    have E1 := Lib.hid e1
    clear hll hlv hsrt hpd hcount hl2 p0 p1 hg hc1 e0 e1
    go_wp2_with fail
    refine (froot_any 4 17 2 _ (by omega) (by omega) (by omega)).mono ?_
    rintro e w2 ⟨x, E, rfl, hrt, hg2⟩
    obtain ⟨rfl, rfl⟩ := hrt.unique root17
    have HG2 := Lib.hid hg2
    have c0 := hg2.keeps E0.out
    have c1 := hg2.keeps E1.out
    clear hrt hg2
    go_wp2_with fail
    refine (lsame_any [2, 1, 1] [2, 1, 1] _ _ _ ((HP.out.1.later HG2.out).later (Gr.new _ _)) (three_hasP' _ 2 1 1 _ rfl (u32_dec (by decide))) (by decide) (by decide)).mono ?_
    rintro e w3 ⟨rfl, hg3⟩
    have G3 := Lib.hid (show Gr w2 w3 from (Gr.new _ _).trans hg3)
    clear hg3
    have c1 := G3.out.keeps c1
    go_wp2_with fail
    refine (lsame_any [2, 2, 1] [2, 2, 1] _ _ _ (((HP.out.2.1.later HG2.out).later G3.out).later (Gr.new _ _)) (three_hasP' _ 2 2 1 _ rfl (u32_dec (by decide))) (by decide) (by decide)).mono ?_
    rintro e w4 ⟨rfl, hg4⟩
    have G4 := Lib.hid (show Gr w3 w4 from (Gr.new _ _).trans hg4)
    clear hg4
    go_wp2_with fail
    go_ret
    exact ⟨rfl, ((HP.out.2.2.trans HG2.out).trans G3.out).trans G4.out⟩
end Go.Proofs.Ytplfeeaocjgliaa
/- The laws Degrees, Roots, Splits. -/
namespace Go.Proofs.Ytplfeeaocjgliaa
open Go.RowKit
set_option linter.unusedVariables false

theorem degrees_all (n : Int) (p : Nat) (w : World) (hn : -9223372036854775808 ≤ n ∧ n ≤ 9223372036854775807) (hp : p ≤ 4294967295) : Calls Try.prog 3 #[.int .i64 n, .int .u32 p] w (Truth w) := by
  have HN := Lib.hid hn
  clear hn
  go_enter Try.func3, Try.ntmps3
  go_wp2_with fail
  refine (fdegree_any n p _ HN.out hp).mono ?_
  rintro e w1 ⟨d, E, rfl, hr, hg⟩
  have H1 := Lib.hid (And.intro hr hg)
  clear hr hg
  go_wp2_with fail
  refine (rdegree7_any n p _ HN.out hp).mono ?_
  rintro e w2 ⟨d', E', rfl, hr, hg⟩
  obtain ⟨rfl, rfl⟩ := H1.out.1.unique hr
  have H2 := Lib.hid hg
  clear hr hg
  go_wp2_with fail
  refine (awake7_any _).mono ?_
  rintro e w3 ⟨rfl, hg⟩
  have H3 := Lib.hid hg
  clear hg
  go_wp2_with fail
  go_ret
  exact ⟨rfl, (H1.out.2.trans H2.out).trans H3.out⟩

theorem roots7_all (n : Int) (p : Nat) (r : Int) (w : World) (hn : -9223372036854775808 ≤ n ∧ n ≤ 9223372036854775807) (hp : p ≤ 4294967295) (hr : -9223372036854775808 ≤ r ∧ r ≤ 9223372036854775807) : Calls Try.prog 5 #[.int .i64 n, .int .u32 p, .int .i64 r] w (Truth w) := by
  have HN := Lib.hid hn
  have HR := Lib.hid hr
  clear hn hr
  go_enter Try.func5, Try.ntmps5
  go_wp2_with fail
  refine (froot_any n p r _ HN.out hp HR.out).mono ?_
  rintro e w1 ⟨x, E, rfl, hr, hg⟩
  have H1 := Lib.hid (And.intro hr hg)
  clear hr hg
  go_wp2_with fail
  refine (rroot7_any n p r _ HN.out hp HR.out (fun h1 h2 => by
    rcases H1.out.1 with ⟨k1, _⟩ | ⟨_, k2, _⟩ | ⟨_, _, _, y, hy, _⟩
    · exact absurd h1 k1
    · exact absurd h2 k2
    · exact ⟨y, hy⟩)).mono ?_
  rintro e w2 ⟨x', E', rfl, hr, hg⟩
  obtain ⟨rfl, rfl⟩ := H1.out.1.unique hr
  have H2 := Lib.hid hg
  clear hr hg
  go_wp2_with fail
  refine (awake7_any _).mono ?_
  rintro e w3 ⟨rfl, hg⟩
  have H3 := Lib.hid hg
  clear hg
  go_wp2_with fail
  go_ret
  exact ⟨rfl, (H1.out.2.trans H2.out).trans H3.out⟩

set_option maxRecDepth 100000 in
set_option maxHeartbeats 2000000 in
theorem less7_any (a b : List Int) (u v : Value) (w : World) (hu : HasP w u a) (hv : HasP w v b) (hla : a.length ≤ 100000) (hab : a.length = b.length) :
    Calls Try.prog 14 #[u, v] w (fun e w' => e = .returned (.bool (decide (Oq.cmpL a b < 0))) ∧ ∃ m, w' = w.drewN m) := by
  obtain ⟨da, xa, ca, rfl, -, -, ha⟩ := id hu
  obtain ⟨db, xb, cb, rfl, -, -, hb⟩ := id hv
  obtain ⟨na, hna⟩ : ∃ na, na = a.length := ⟨_, rfl⟩
  have HA := Lib.hid ha
  have HB := Lib.hid hb
  have HNA := Lib.hid hna
  have HNB := Lib.hid (show na = b.length from by rw [hna, hab])
  have HDA := Lib.hid da
  have HDB := Lib.hid db
  rw [← hab, ← hna]
  rw [← hna] at hla
  obtain ⟨R, hR⟩ : ∃ R, R = Oq.cmpL a b := ⟨_, rfl⟩
  rw [← hR]
  have HR := Lib.hid hR
  clear hu hv da db ha hb hna hab hR
  go_enter Try.func14, Try.ntmps14
  go_wp2_with fail
  go_loopw [5] (fun t wr => ∃ k q : Nat, t = .int .i64 k ∧ k ≤ na ∧ R = Oq.cmpL (a.drop k) (b.drop k) ∧ wr = w.drewN q) (fun t _ => na - (intOf t).toNat)
  case atStart => exact ⟨0, 0, rfl, by omega, by rw [HR.out]; rfl, rfl⟩
  case round =>
    obtain ⟨k, q, rfl, hk, hr, rfl⟩ := hrel
    have HRK := Lib.hid hr
    clear hr
    by_cases hlt : k < na
    · have hka : (k : Int) < (na : Int) := by omega
      obtain ⟨ga, oa, rfl, c1⟩ := HA.out k (by rw [← HNA.out]; exact hlt)
      obtain ⟨x, hx⟩ : ∃ x, x = Op.cf a k := ⟨_, rfl⟩
      rw [← hx] at c1
      have hxb := HDA.out.at_ k
      rw [← hx] at hxb
      have HX := Lib.hid hx
      obtain ⟨gb, ob, rfl, c2⟩ := HB.out k (by rw [← HNB.out]; exact hlt)
      obtain ⟨y, hy⟩ : ∃ y, y = Op.cf b k := ⟨_, rfl⟩
      rw [← hy] at c2
      have HY := Lib.hid hy
      clear hx hy
      have hst : R = if x < y then -1 else if y < x then 1 else Oq.cmpL (a.drop (k + 1)) (b.drop (k + 1)) := by rw [HRK.out, Oq.cmpL_step (by rw [← HNA.out]; exact hlt) (by rw [← HNB.out]; exact hlt), ← HX.out, ← HY.out]
      have d1 : ∀ n, (w.drewN n).cell? ⟨ga, oa + k, none⟩ = some (.int .u32 x) := fun n => c1
      have d2 : ∀ n, (w.drewN n).cell? ⟨gb, ob + k, none⟩ = some (.int .u32 y) := fun n => c2
      by_cases h0 : x = y
      · have hE : R = Oq.cmpL (a.drop (k + 1)) (b.drop (k + 1)) := by rw [hst, if_neg (by omega), if_neg (by omega)]
        have HE := Lib.hid hE
        subst h0
        clear hst hE
        go_wp2_with fail
        go_quiet (fail)
        go_wp2_with fail
        go_roundw
        case rel => exact ⟨k + 1, _, by simp, by omega, HE.out, rfl⟩
        case measure => simp [intOf]; omega
      · have hn0 : (x != y) = true := by simp [h0]
        have hE : decide (R < 0) = decide (x < y) := by
          by_cases h1 : x < y
          · rw [hst, if_pos h1]; simp [h1]
          · rw [hst, if_neg h1, if_pos (by omega)]; simp [h1]
        have HE := Lib.hid hE
        clear hst hE
        go_wp2_with fail
        go_quiet (fail)
        go_wp2_with fail
        go_quiet (fail)
        go_wp2_with fail
        go_ret
        exact ⟨by rw [HE.out]; rfl, _, by rw [World.drewN_drewN, World.drewN_drewN]⟩
    · obtain rfl : k = na := by omega
      have hka : ¬ (k : Int) < (k : Int) := by omega
      have hE : decide (R < 0) = false := by
        rw [HRK.out, Oq.cmpL_out (by rw [HNA.out]), if_neg (by rw [← HNB.out]; omega)]; rfl
      have HE := Lib.hid hE
      clear hE
      go_wp2_with fail
      go_ret
      exact ⟨by rw [HE.out]; rfl, _, rfl⟩
end Go.Proofs.Ytplfeeaocjgliaa
