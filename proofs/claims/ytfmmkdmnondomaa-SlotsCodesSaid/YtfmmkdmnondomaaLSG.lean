import Derived.Test.YtfmmkdmnondomaaLSF
/- The reference: Modulus, Valid, zeta. -/
namespace Go.Proofs.Ytfmmkdmnondomaa
open Go.RowKit
set_option linter.unusedVariables false

theorem rb_i64b {x : Int} {m : Nat} (h3 : 3 ≤ m) (ho : m % 2 = 1) (hm : m ≤ 2147483647) : -2147483648 ≤ rb x m ∧ rb x m ≤ 2147483647 := by
  have h := (rb_bl (x := x) h3 ho).2
  omega
theorem prod_bd {A y B Y : Int} (h1 : -B ≤ A) (h2 : A ≤ B) (h3 : 0 ≤ y) (h4 : y ≤ Y) (h5 : 0 ≤ B) : -(B * Y) ≤ A * y ∧ A * y ≤ B * Y := by
  have e1 : A * y ≤ B * y := Int.mul_le_mul_of_nonneg_right h2 h3
  have e2 : B * y ≤ B * Y := Int.mul_le_mul_of_nonneg_left h4 h5
  have e3 : (-B) * y ≤ A * y := Int.mul_le_mul_of_nonneg_right h1 h3
  rw [Int.neg_mul] at e3
  omega
set_option maxRecDepth 100000 in
set_option maxHeartbeats 1000000 in
theorem rModulus8_any (U n p r x e Q : Nat) (w : World) (h : RSl w U n p r x) (hp : 2 ≤ p ∧ p ≤ 65535) (hQ : Q = p ^ e) (hQ2 : Q ≤ 2147483647) :
    Calls Try.prog 36 #[.pointer (some ⟨U, 0, none⟩), .int .i64 e] w (IsW (Q : Int) w) := by
  have c1 := h.p1
  obtain ⟨p1, p2⟩ := hp
  have el := pow_lim p1 (by rw [← hQ]; exact hQ2)
  have HQ := Lib.hid hQ
  clear h hQ
  go_enter Try.func36, Try.ntmps36
  go_wp2_with fail
  go_loop [5, 6] (fun a t => ∃ i M : Nat, t = .int .i64 i ∧ a = .int .i64 M ∧ i ≤ e ∧ M = p ^ i) (fun _ t => e - (intOf t).toNat)
  case atStart => exact ⟨0, 1, rfl, rfl, by omega, by simp⟩
  case round =>
    obtain ⟨i, M, rfl, rfl, hi, hM⟩ := hrel
    have HM := Lib.hid hM
    clear hM
    by_cases hlt : i < e
    · have i5 : (i : Int) < (e : Int) := by omega
      have HN := Lib.hid (show M * p = p ^ (i + 1) from by rw [HM.out, Nat.pow_succ])
      have hN : M * p ≤ 2147483647 := by
        rw [HN.out]
        refine Nat.le_trans (Nat.pow_le_pow_right (by omega) (show i + 1 ≤ e by omega)) ?_
        rw [← HQ.out]; exact hQ2
      obtain ⟨M', hMe⟩ : ∃ M' : Nat, M' = M * p := ⟨_, rfl⟩
      have q1 : (M : Int) * (p : Int) = (M' : Int) := by rw [hMe, Int.natCast_mul]
      rw [← hMe] at HN hN
      have q0 : 0 ≤ (M : Int) * (p : Int) := by rw [q1]; omega
      have q2 : (M : Int) * (p : Int) ≤ 2147483647 := by rw [q1]; omega
      have HQ1 := Lib.hid q1
      clear q1 hMe
      go_wp2_with fail
      go_round
      case rel => exact ⟨i + 1, M', by go_num, by rw [HQ1.out], by omega, HN.out⟩
      case measure => simp [intOf]; omega
    · obtain rfl : i = e := by omega
      have i5 : ¬ (i : Int) < (i : Int) := by omega
      go_wp2_with fail
      go_ret
      exact ⟨by rw [HQ.out, ← HM.out]; rfl, rfl⟩

set_option maxRecDepth 100000 in
set_option maxHeartbeats 1000000 in
theorem rzeta_any (U n p r x k m Y : Nat) (w : World) (hd : Os.D4 n) (h : RSl w U n p r x) (hk : k ≤ 1000) (hm : 2 ≤ m ∧ m ≤ 2147483647) (hx : x ≤ 2147483647) (hY : Y = x ^ (k % (2 * n)) % m) :
    Calls Try.prog 38 #[.pointer (some ⟨U, 0, none⟩), .int .i64 k, .int .i64 m] w (IsW (Y : Int) w) := by
  have c0 := h.n0
  have c3 := h.z3
  obtain ⟨d1, d2⟩ := hd.le
  obtain ⟨m1, m2⟩ := hm
  have HY := Lib.hid hY
  have hn0 : ¬ n = 0 := by omega
  have hm0 : ¬ m = 0 := by omega
  obtain ⟨K, hK⟩ : ∃ K, K = k % (2 * n) := ⟨_, rfl⟩
  have e1 : (k : Int) % (2 * (n : Int)) = (K : Int) := by rw [hK]; simp
  obtain ⟨z, hz⟩ : ∃ z, z = x % m := ⟨_, rfl⟩
  have e2 : (x : Int) % (m : Int) = (z : Int) := by rw [hz]; simp
  have hzl : z < m := by rw [hz]; exact Nat.mod_lt _ (by omega)
  have hKl : K < 2 * n := by rw [hK]; exact Nat.mod_lt _ (by omega)
  have HK := Lib.hid hK
  have HZ := Lib.hid hz
  clear h hd hY hK hz
  go_enter Try.func38, Try.ntmps38
  go_wp2_with fail
  go_loop [7, 8] (fun a t => ∃ i M : Nat, t = .int .i64 i ∧ a = .int .i64 M ∧ i ≤ K ∧ M = x ^ i % m) (fun _ t => K - (intOf t).toNat)
  case atStart => exact ⟨0, 1, rfl, rfl, by omega, by rw [Nat.pow_zero, Nat.mod_eq_of_lt (by omega)]⟩
  case round =>
    obtain ⟨i, M, rfl, rfl, hi, hM⟩ := hrel
    have hml : M < m := by rw [hM]; exact Nat.mod_lt _ (by omega)
    have HM := Lib.hid hM
    clear hM
    by_cases hlt : i < K
    · have i5 : (i : Int) < (K : Int) := by omega
      have p0 := mul_lo (a := (M : Int)) (b := (z : Int)) (by omega) (by omega)
      have p1 : (M : Int) * (z : Int) ≤ 2147483647 * 2147483647 := Int.mul_le_mul (by omega) (by omega) (by omega) (by omega)
      have r0 := emod_lo ((M : Int) * (z : Int)) m (by omega)
      have r1 := emod_hi ((M : Int) * (z : Int)) m (by omega)
      have HX := Lib.hid (show (M : Int) * (z : Int) % (m : Int) = ((x ^ (i + 1) % m : Nat) : Int) from by
        have e : M * z % m = x ^ (i + 1) % m := by
          rw [HM.out, HZ.out, ← Nat.mul_mod, Nat.pow_succ]
        rw [← e, Int.natCast_emod, Int.natCast_mul])
      go_wp2_with fail
      go_round
      case rel => exact ⟨i + 1, _, by go_num, by rw [HX.out], by omega, rfl⟩
      case measure => simp [intOf]; omega
    · obtain rfl : i = K := by omega
      have i5 : ¬ (i : Int) < (i : Int) := by omega
      go_wp2_with fail
      go_ret
      exact ⟨by rw [HY.out, ← HK.out, ← HM.out]; rfl, rfl⟩

def ValP (b : Bool) (w : World) (e : Ending) (w' : World) : Prop := e = .returned (.bool b) ∧ w = w'
set_option maxRecDepth 100000 in
set_option maxHeartbeats 2000000 in
theorem rValid8_any (U n p r x : Nat) (E : Int) (l : List Int) (v : Value) (w : World) (b : Bool) (hp : 2 ≤ p ∧ p ≤ 65535) (hpo : p % 2 = 1) (hpr : p ^ r ≤ 2147483647) (h : RSl w U n p r x) (hv : Lo.HasQ w v l) (hn : n ≤ 100) (hE : -9223372036854775808 ≤ E ∧ E ≤ 9223372036854775807) (hb : b = decide (Ckd n p r E l)) :
    Calls Try.prog 35 #[.pointer (some ⟨U, 0, none⟩), v, .int .i64 E] w (ValP b w) := by
  have HB := Lib.hid hb
  have H := Lib.hid h
  have HV := Lib.hid hv
  have HPP := Lib.hid hp
  have HPR := Lib.hid hpr
  obtain ⟨-, xa, ca, rfl, a1, a2, -⟩ := hv
  obtain ⟨la, hla⟩ : ∃ la, la = l.length := ⟨_, rfl⟩
  have HLA := Lib.hid hla
  rw [← hla] at HV a1 ⊢
  have c0 := h.n0
  have c2 := h.r2
  obtain ⟨E1, E2⟩ := hE
  clear h hla hb hp hpr
  by_cases h1 : E < 1
  · have HF := Lib.hid (show b = false from by rw [HB.out]; exact decide_eq_false (fun h => by have := h.1; omega))
    have b1 : decide (E < 1) = true := by simpa using h1
    go_enter Try.func35, Try.ntmps35
    go_wp2_with fail
    go_ret
    exact ⟨by rw [HF.out]; rfl, rfl⟩
  have b1 : decide (E < 1) = false := by simpa using h1
  by_cases h2 : (r : Int) < E
  · have HF := Lib.hid (show b = false from by rw [HB.out]; exact decide_eq_false (fun h => by have := h.2.1; omega))
    have b2 : decide ((r : Int) < E) = true := by simpa using h2
    go_enter Try.func35, Try.ntmps35
    go_wp2_with fail
    go_ret
    exact ⟨by rw [HF.out]; rfl, rfl⟩
  have b2 : decide ((r : Int) < E) = false := by simpa using h2
  by_cases h3 : la = n
  · obtain ⟨en, rfl⟩ := Int.eq_ofNat_of_zero_le (show 0 ≤ E by omega)
    obtain ⟨Q, hQ⟩ : ∃ Q, Q = p ^ en := ⟨_, rfl⟩
    have hQ2 : Q ≤ 2147483647 := by
      rw [hQ]
      exact Nat.le_trans (Nat.pow_le_pow_right (by have := HPP.out.1; omega) (by omega)) HPR.out
    have hQ3 : Q % 2 = 1 := by rw [hQ]; exact odd_pow hpo en
    have HQ := Lib.hid hQ
    have b3 : ((la : Int) != (n : Int)) = false := by simp [h3]
    obtain rfl : n = la := h3.symm
    obtain ⟨h, hh⟩ : ∃ h, ((Q : Int) - 1) / 2 = h := ⟨_, rfl⟩
    have hn2 : (-((Q : Int) - 1)).tdiv 2 = -h := by
      have e : -((Q : Int) - 1) = 2 * (-h) := by omega
      rw [e, Int.mul_tdiv_cancel_left _ (by omega)]
    have hh0 : 0 ≤ h := by omega
    have hh1 : h ≤ 2147483647 := by omega
    have hh2 : 2 * h + 1 = Q := by omega
    have HH := Lib.hid hh2
    clear hQ hh2
    go_enter Try.func35, Try.ntmps35
    go_wp2_with fail
    refine (rModulus8_any U n p r x en Q _ H.out HPP.out HQ.out hQ2).mono ?_
    rintro e w1 ⟨rfl, rfl⟩
    clear b1 b2 b3
    go_wp2_with fail
    go_loop [8] (fun t => ∃ i : Nat, t = .int .i64 i ∧ i ≤ n ∧ ∀ j, j < i → -h ≤ Op.cf l j ∧ Op.cf l j ≤ h) (fun t => n - (intOf t).toNat)
    case atStart => exact ⟨0, rfl, by omega, fun j hj => by omega⟩
    case round =>
      obtain ⟨i, rfl, hi, hall⟩ := hrel
      have HALL := Lib.hid hall
      clear hall
      by_cases hlt : i < n
      · have i5 : (i : Int) < (n : Int) := by omega
        obtain ⟨ga, oa, rfl, cc⟩ := HasQ_at' HV.out (show i < l.length by rw [← HLA.out]; exact hlt)
        have hyb := HV.out.1.at_ i
        obtain ⟨y, hy⟩ : ∃ y, y = Op.cf l i := ⟨_, rfl⟩
        rw [← hy] at cc hyb
        have HY := Lib.hid hy
        obtain ⟨y1, y2⟩ := hyb
        clear hy
        have hbad : (y < -h ∨ h < y) → b = false := fun hbad => by
          rw [HB.out]
          refine decide_eq_false (fun hk => ?_)
          have h4 := hk.2.2.at_ hlt
          rw [Int.toNat_natCast, ← HQ.out, ← HY.out] at h4
          have := HH.out
          omega
        by_cases g1 : y < -h
        · have HF := Lib.hid (hbad (.inl g1))
          have t1 : decide (y < -h) = true := by simpa using g1
          clear hbad
          go_wp2_with fail
          go_ret
          exact ⟨by rw [HF.out]; rfl, rfl⟩
        · have t1 : decide (y < -h) = false := by simpa using g1
          by_cases g2 : h < y
          · have HF := Lib.hid (hbad (.inr g2))
            have t2 : decide (h < y) = true := by simpa using g2
            clear hbad
            go_wp2_with fail
            go_ret
            exact ⟨by rw [HF.out]; rfl, rfl⟩
          · have t2 : decide (h < y) = false := by simpa using g2
            clear hbad
            have HG1 := Lib.hid g1
            have HG2 := Lib.hid g2
            clear g1 g2
            go_wp2_with fail
            go_round
            case rel => exact ⟨i + 1, by go_num, by omega, fun j hj => by
              by_cases e : j = i
              · rw [e, ← HY.out]; have := HG1.out; have := HG2.out; omega
              · exact HALL.out j (by omega)⟩
            case measure => simp [intOf]; omega
      · obtain rfl : i = n := by omega
        have i5 : ¬ (i : Int) < (i : Int) := by omega
        have HT := Lib.hid (show b = true from by
          rw [HB.out]
          refine decide_eq_true ⟨by omega, by omega, HLA.out.symm, fun j hj => ?_⟩
          rw [← HLA.out] at hj
          have h5 := HALL.out j hj
          rw [Int.toNat_natCast, ← HQ.out]
          have := HH.out
          omega)
        go_wp2_with fail
        go_ret
        exact ⟨by rw [HT.out]; rfl, rfl⟩
  · have HF := Lib.hid (show b = false from by rw [HB.out]; exact decide_eq_false (fun h => h3 (by rw [HLA.out]; exact h.2.2.1)))
    have b3 : ((la : Int) != (n : Int)) = true := by simp; omega
    go_enter Try.func35, Try.ntmps35
    go_wp2_with fail
    go_ret
    exact ⟨by rw [HF.out]; rfl, rfl⟩
end Go.Proofs.Ytfmmkdmnondomaa
/- The reference: Decode. -/
namespace Os
open Op
set_option linter.unusedVariables false
/-- The first values are laid. -/
def DcI (n q x : Nat) (a D : List Int) (I : Nat) : Prop := D.length = I ∧ ∀ k, k < I → Bl q (cf D k) (vec n x a k)
theorem DcI.next {n q x I : Nat} {a D : List Int} (h : DcI n q x a D I) {z : Int} (hz : Bl q z (vec n x a I)) : DcI n q x a (D ++ [z]) (I + 1) := by
  obtain ⟨h1, h2⟩ := h
  refine ⟨by rw [List.length_append, h1]; rfl, fun j hj => ?_⟩
  rw [cf_append, h1]
  by_cases e2 : j < I
  · rw [if_pos e2]; exact h2 j e2
  · obtain rfl : j = I := by omega
    rw [if_neg e2, Nat.sub_self]
    exact hz
theorem place_C {n p q x k P : Nat} (h : Rt n p q x) (hP : P = x ^ (Ex n k % (2 * n)) % q) : C q P ((x : Int) ^ Ex n k) := by
  rw [hP, Int.natCast_emod, Int.natCast_pow]
  exact (C.mod q _).trans (h.mod _)
theorem vec_C {n p q x k P : Nat} (h : Rt n p q x) (hP : P = x ^ (Ex n k % (2 * n)) % q) (a : List Int) : C q (S n (fun i => cf a i * (P : Int) ^ i)) (vec n x a k) := C.S (fun i _ => by
  rw [de_pow]
  exact (C.refl q _).mul ((place_C h hP).pow i))
end Os
namespace Go.Proofs.Ytfmmkdmnondomaa
open Go.RowKit
set_option linter.unusedVariables false

set_option maxRecDepth 100000 in
set_option maxHeartbeats 4000000 in
theorem rDecode8_any (n p r q x s U : Nat) (E : Int) (a : List Int) (v : Value) (w : World) (hN : SN n p r q x s) (h : RSl w U n p r x) (hv : Lo.HasQ w v a) (hE : -9223372036854775808 ≤ E ∧ E ≤ 9223372036854775807) :
    Calls Try.prog 19 #[.pointer (some ⟨U, 0, none⟩), v, .int .i64 E] w (LstE (DecR n p r x E a) (chkE n p r E a) w) := by
  obtain ⟨d1, d2, d3, d4, d5, d6, d7, d8⟩ := hN.dims
  have HN := Lib.hid hN
  have H := Lib.hid h
  have HV := Lib.hid hv
  have HE := Lib.hid hE
  have HPO := Lib.hid hN.pl.odd
  have HPR := Lib.hid (show p ^ r ≤ 2147483647 by rw [← hN.hq]; exact hN.le)
  obtain ⟨-, xa, ca, rfl, a1, a2, -⟩ := hv
  obtain ⟨la, hla⟩ : ∃ la, la = a.length := ⟨_, rfl⟩
  have HLA := Lib.hid hla
  rw [← hla] at HV a1 ⊢
  clear hN h hE hla
  by_cases hck : Ckd n p r E a
  · have HCK := Lib.hid hck
    have HKE := Lib.hid (chkE_yes hck)
    have HBT := Lib.hid (show true = decide (Ckd n p r E a) from (decide_eq_true hck).symm)
    obtain ⟨e1, e2, hvl⟩ := hck
    obtain ⟨en, rfl⟩ := Int.eq_ofNat_of_zero_le (show 0 ≤ E by omega)
    rw [Int.toNat_natCast] at hvl
    obtain rfl : n = la := by rw [HLA.out, hvl.1]
    obtain ⟨Q, hQ⟩ : ∃ Q, Q = p ^ en := ⟨_, rfl⟩
    have hlow := HN.out.low (e := en) (by omega) (by omega)
    rw [← hQ] at hlow hvl
    have HQ := Lib.hid hQ
    have HVL := Lib.hid hvl
    obtain ⟨k1, k2, k3, k4, k5⟩ := hlow
    have HRT := Lib.hid k1
    have k6 := k1.pos
    have HD := Lib.hid k1.dim
    have hQ0 : ¬ Q = 0 := by omega
    have hn0 : ¬ n = 0 := by omega
    have c0 := H.out.n0
    clear k1 k2 hQ hvl
    go_enter Try.func19, Try.ntmps19
    go_wp2_with fail
    refine (rValid8_any U n p r x (en : Int) a _ _ true (by omega) HPO.out HPR.out H.out HV.out (by omega) HE.out HBT.out).mono ?_
    rintro e w1 ⟨rfl, rfl⟩
    go_wp2_with fail
    refine (rModulus8_any U n p r x en Q _ H.out (by omega) HQ.out k4).mono ?_
    rintro e w1 ⟨rfl, rfl⟩
    go_wp2_with fail
    go_loopw [9, 10] (fun u t wr => ∃ (k : Nat) (l : List Int) (va : Option Addr) (vc : Nat), t = .int .i64 k ∧ k ≤ n ∧ u = .slice va k vc ∧ Lo.Own1 wr w.heap.size (.slice va k vc) l ∧ Os.DcI n Q x a l k ∧ Gr w wr) (fun _ t _ => n - (intOf t).toNat)
    case atStart => exact ⟨0, [], none, 0, rfl, by omega, rfl, Lo.Own1.nil _ _, ⟨rfl, fun j hj => by omega⟩, Gr.refl _⟩
    case round =>
      obtain ⟨k, l, va, vc, rfl, hk, rfl, hown, hdc, hg⟩ := hrel
      have HO := Lib.hid hown
      have HDC := Lib.hid hdc
      have HG := Lib.hid hg
      have c0 := hg.keeps c0
      clear hown hdc hg
      by_cases hlt : k < n
      · have i1 : (k : Int) < (n : Int) := by omega
        have HH := Lib.hid (H.out.later HG.out)
        obtain ⟨o1, o2⟩ := Os.Ex.odd HD.out hlt
        obtain ⟨P, hP⟩ : ∃ P, P = x ^ (Os.Ex n k % (2 * n)) % Q := ⟨_, rfl⟩
        have hPl : P < Q := by rw [hP]; exact Nat.mod_lt _ (by omega)
        have HP := Lib.hid hP
        obtain ⟨X, hX⟩ : ∃ X, X = Os.Ex n k := ⟨_, rfl⟩
        have HX := Lib.hid hX
        have HPX := Lib.hid (show P = x ^ (X % (2 * n)) % Q by rw [hX]; exact hP)
        have HXL := Lib.hid (show X ≤ 1000 by rw [hX]; omega)
        clear hP hX o1 o2
        go_wp2_with fail
        refine (rExponent_d U n p r x k _ HD.out HH.out hlt).mono ?_
        rintro e w2 ⟨rfl, mq, rfl⟩
        rw [← HX.out]
        obtain ⟨wo, hwo⟩ : ∃ wo : World, wo = wr.drewN mq := ⟨_, rfl⟩
        have HG2 := Lib.hid (show Gr w wo from by rw [hwo]; exact HG.out.drewN mq)
        have HO2 := Lib.hid (show Lo.Own1 wo w.heap.size (.slice va k vc) l from by rw [hwo]; exact HO.out)
        have HH2 := Lib.hid (H.out.later HG2.out)
        have c0 := HH2.out.n0
        rw [← hwo]
        clear hwo
        go_wp2_with fail
        refine (rzeta_any U n p r x X Q P _ HD.out HH2.out HXL.out ⟨k3, k4⟩ (by omega) HPX.out).mono ?_
        rintro e w3 ⟨rfl, rfl⟩
        go_wp2_with fail
        go_loopw [12, 13, 14] (fun sm pw t wt => ∃ (i y : Nat) (z : Int), t = .int .i64 i ∧ i ≤ n ∧ sm = .int .i64 z ∧ pw = .int .i64 y ∧ y < Q ∧ y = P ^ i % Q ∧ -(Q : Int) < z ∧ z < Q ∧ Os.C Q z (Op.S i (fun t => Op.cf a t * (P : Int) ^ t)) ∧ wt = wo) (fun _ _ t _ => n - (intOf t).toNat)
        case atStart => exact ⟨0, 1, 0, rfl, by omega, rfl, rfl, by omega, by rw [Nat.pow_zero, Nat.mod_eq_of_lt (by omega)], by omega, by omega, Os.C.refl Q 0, rfl⟩
        case round =>
          obtain ⟨i, y, z, rfl, hi, rfl, rfl, hy1, hy2, hz1, hz2, hzc, rfl⟩ := hrel
          have HY := Lib.hid hy2
          have HZC := Lib.hid hzc
          clear hy2 hzc
          by_cases hil : i < n
          · have i6 : (i : Int) < (n : Int) := by omega
            obtain ⟨ga, oa, rfl, cc⟩ := HasQ_at' (HV.out.later HG2.out) (show i < a.length by rw [← HLA.out]; exact hil)
            have hab := HVL.out.at_ hil
            obtain ⟨A, hA⟩ : ∃ A, A = Op.cf a i := ⟨_, rfl⟩
            rw [← hA] at cc hab
            have HA := Lib.hid hA
            obtain ⟨hb1, hb2⟩ := prod_bd (A := A) (y := (y : Int)) (B := 2147483647) (Y := 2147483647) (by omega) (by omega) (by omega) (by omega) (by omega)
            have hb3 : -4611686014132420609 ≤ A * (y : Int) := by omega
            have hb4 : A * (y : Int) ≤ 4611686014132420609 := by omega
            obtain ⟨z', hz'⟩ : ∃ z', (z + A * (y : Int)).tmod (Q : Int) = z' := ⟨_, rfl⟩
            have q1 : -(Q : Int) < z' := by rw [← hz']; exact Int.lt_tmod_of_pos _ (by omega)
            have q2 : z' < (Q : Int) := by rw [← hz']; exact Int.tmod_lt_of_pos _ (by omega)
            have HZ := Lib.hid (show Os.C Q z' (Op.S (i + 1) (fun t => Op.cf a t * (P : Int) ^ t)) from by
              have h1 : Os.C Q z' (z + A * (y : Int)) := by rw [← hz']; exact Oh7.tmod_dvd Q _
              refine h1.trans ?_
              rw [Op.S]
              refine HZC.out.add ?_
              rw [hA]
              refine (Os.C.refl Q _).mul ?_
              rw [HY.out, Int.natCast_emod, Int.natCast_pow]
              exact Os.C.mod Q _)
            have p0 := mul_lo (a := (y : Int)) (b := (P : Int)) (by omega) (by omega)
            have p1 : (y : Int) * (P : Int) ≤ 2147483647 * 2147483647 := Int.mul_le_mul (by omega) (by omega) (by omega) (by omega)
            have r0 := emod_lo ((y : Int) * (P : Int)) Q (by omega)
            have r1 := emod_hi ((y : Int) * (P : Int)) Q (by omega)
            have HYN := Lib.hid (show (y : Int) * (P : Int) % (Q : Int) = ((y * P % Q : Nat) : Int) from by simp)
            have HYP := Lib.hid (show y * P % Q = P ^ (i + 1) % Q from by rw [HY.out]; exact pow_next)
            have HYL := Lib.hid (show y * P % Q < Q from Nat.mod_lt _ (by omega))
            clear hb1 hb2 hab hA
            go_wp2_with fail
            go_roundw
            case rel => exact ⟨i + 1, y * P % Q, z', by go_num, by omega, rfl, by rw [HYN.out], HYL.out, HYP.out, q1, q2, HZ.out, trivial⟩
            case measure => simp [intOf]; omega
          · obtain rfl : i = n := by omega
            have i6 : ¬ (i : Int) < (i : Int) := by omega
            go_wp2_with fail
            refine (rBal8_any z Q _ ⟨by omega, k4⟩ k5 (by omega)).mono ?_
            rintro e w5 ⟨rfl, rfl⟩
            have hbl := (rb_bl (x := z) (m := Q) (by omega) k5).cg (HZC.out.trans (Os.vec_C HRT.out HP.out a))
            have hrb := rb_i64b (x := z) (m := Q) (by omega) k5 k4
            obtain ⟨b, hb⟩ : ∃ b, b = rb z Q := ⟨_, rfl⟩
            rw [← hb] at hrb hbl ⊢
            have HBL := Lib.hid hbl
            have HPL := Lib.hid (show l.length = k from HDC.out.1)
            have HOA := Lib.hid (HO2.out.alloc (.cells #[.int .i64 b] 2))
            have HONE := Lib.hid (Lo.one_hasQ wr b (by omega))
            have HLEN := Lib.hid (show l.length + ([b] : List Int).length ≤ 1000000 from by rw [HPL.out]; simp; omega)
            have HBS := Lib.hid (show w.heap.size ≤ (wr.alloc (.cells #[.int .i64 b] 2)).heap.size from by have := HG2.out.size; simp; omega)
            clear hb hrb hbl
            go_wp2_with (at_builtin; refine Lo.wpList_app rfl (.tmp 60) (.tmp 64) rfl rfl w.heap.size (.slice va k vc) l rfl HOA.out (.slice (some ⟨wr.heap.size, 0, none⟩) 1 1) [b] rfl HONE.out HLEN.out HBS.out ?_; intro v' wn hown hgrow; obtain ⟨va2, vc2, hv, hv1, hv2⟩ := hown.form; rw [List.length_append, HPL.out] at hv; subst hv; have HN5 := Lib.hid (And.intro hown hgrow); clear hown hgrow hv1 hv2)
            go_roundw
            case rel => exact ⟨k + 1, l ++ [b], va2, vc2, by go_num, by omega, rfl, HN5.out.1, HDC.out.next HBL.out, Lo.grown_own (HG2.out.alloc _) HOA.out HN5.out.2 (Nat.le_refl _)⟩
            case measure => simp [intOf]; omega
      · obtain rfl : k = n := by omega
        have i1 : ¬ (k : Int) < (k : Int) := by omega
        have HQ2 := Lib.hid HO.out.hasQ
        have HF := Lib.hid (HO.out.fresh rfl)
        have HFIN := Lib.hid (show DecR k p r x (en : Int) a l from .inl ⟨HCK.out, by rw [Int.toNat_natCast, ← HQ.out]; exact ⟨HDC.out.1, HDC.out.2⟩⟩)
        go_wp2_with fail
        go_ret2
        rw [HKE.out]
        exact ⟨va, k, vc, l, rfl, HQ2.out, HFIN.out, HF.out, HG.out⟩
  · have HKE := Lib.hid (chkE_no hck)
    have HBF := Lib.hid (show false = decide (Ckd n p r E a) from (decide_eq_false hck).symm)
    have HFIN := Lib.hid (show DecR n p r x E a [] from .inr ⟨hck, rfl⟩)
    clear hck
    go_enter Try.func19, Try.ntmps19
    go_wp2_with fail
    refine (rValid8_any U n p r x E a _ _ false (by omega) HPO.out HPR.out H.out HV.out (by omega) HE.out HBF.out).mono ?_
    rintro e w1 ⟨rfl, rfl⟩
    go_wp2_with fail
    go_ret2
    rw [HKE.out]
    exact LstE.nil 2 HFIN.out (Gr.refl w)
end Go.Proofs.Ytfmmkdmnondomaa
/- The reference: Encode. -/
namespace Os
open Op
set_option linter.unusedVariables false
theorem back_C {n p q x k X B i : Nat} (h : Rt n p q x) (hk : k < n) (hX : X = 2 * n - Ex n k) (hB : B = x ^ (X % (2 * n)) % q) (hi : i ≤ 2 * n) : C q ((B : Int) ^ i) (en n x k i) := by
  obtain ⟨_, o2⟩ := Ex.odd h.dim hk
  have h1 : C q (B : Int) ((x : Int) ^ X) := by
    rw [hB, Int.natCast_emod, Int.natCast_pow]
    exact (C.mod q _).trans (h.mod _)
  refine (h1.pow i).trans ?_
  unfold en
  rw [← Int.pow_mul]
  refine h.per (X := Ex n k) (Y := i) ?_
  have a1 : X * i + Ex n k * i = 2 * n * i := by rw [← Nat.add_mul, show X + Ex n k = 2 * n by omega]
  have a2 : Ex n k * (2 * n - i) + Ex n k * i = 2 * n * Ex n k := by rw [← Nat.mul_add, show 2 * n - i + i = 2 * n by omega, Nat.mul_comm]
  omega
/-- The first coefficients are laid. -/
def EcI (n q x : Nat) (v A : List Int) (I : Nat) : Prop := A.length = I ∧ ∀ i, i < I → C q (n * cf A i) (cof n x v i) ∧ 2 * cf A i < q ∧ -(q : Int) < 2 * cf A i
theorem EcI.next {n q x I : Nat} {v A : List Int} (h : EcI n q x v A I) {z : Int} (hz : C q (n * z) (cof n x v I) ∧ 2 * z < q ∧ -(q : Int) < 2 * z) : EcI n q x v (A ++ [z]) (I + 1) := by
  obtain ⟨h1, h2⟩ := h
  refine ⟨by rw [List.length_append, h1]; rfl, fun j hj => ?_⟩
  rw [cf_append, h1]
  by_cases e2 : j < I
  · rw [if_pos e2]; exact h2 j e2
  · obtain rfl : j = I := by omega
    rw [if_neg e2, Nat.sub_self]
    exact hz
end Os
namespace Go.Proofs.Ytfmmkdmnondomaa
open Go.RowKit
set_option linter.unusedVariables false

theorem rzeta_q (U n p r x k m Y d : Nat) (w : World) (hd : Os.D4 n) (h : RSl w U n p r x) (hk : k ≤ 1000) (hm : 2 ≤ m ∧ m ≤ 2147483647) (hx : x ≤ 2147483647) (hY : Y = x ^ (k % (2 * n)) % m) :
    Calls Try.prog 38 #[.pointer (some ⟨U, 0, none⟩), .int .i64 k, .int .i64 m] (w.drewN d) (fun e w'' => e = .returned (.int .i64 (Y : Int)) ∧ ∃ q, w'' = w.drewN q) :=
  (rzeta_any U n p r x k m Y (w.drewN d) hd (h.later ((Gr.refl w).drewN d)) hk hm hx hY).mono fun _ _ ⟨he, hw⟩ => ⟨he, d, hw.symm⟩

set_option maxRecDepth 100000 in
set_option maxHeartbeats 4000000 in
theorem rEncode8_any (n p r q x s U : Nat) (E : Int) (a : List Int) (v : Value) (w : World) (hN : SN n p r q x s) (h : RSl w U n p r x) (hv : Lo.HasQ w v a) (hE : -9223372036854775808 ≤ E ∧ E ≤ 9223372036854775807) :
    Calls Try.prog 18 #[.pointer (some ⟨U, 0, none⟩), v, .int .i64 E] w (LstE (EncR n p r x E a) (chkE n p r E a) w) := by
  obtain ⟨d1, d2, d3, d4, d5, d6, d7, d8⟩ := hN.dims
  have HN := Lib.hid hN
  have H := Lib.hid h
  have HV := Lib.hid hv
  have HE := Lib.hid hE
  have HPO := Lib.hid hN.pl.odd
  have HPR := Lib.hid (show p ^ r ≤ 2147483647 by rw [← hN.hq]; exact hN.le)
  obtain ⟨-, xa, ca, rfl, a1, a2, -⟩ := hv
  obtain ⟨la, hla⟩ : ∃ la, la = a.length := ⟨_, rfl⟩
  have HLA := Lib.hid hla
  rw [← hla] at HV a1 ⊢
  clear hN h hE hla
  by_cases hck : Ckd n p r E a
  · have HCK := Lib.hid hck
    have HKE := Lib.hid (chkE_yes hck)
    have HBT := Lib.hid (show true = decide (Ckd n p r E a) from (decide_eq_true hck).symm)
    obtain ⟨e1, e2, hvl⟩ := hck
    obtain ⟨en, rfl⟩ := Int.eq_ofNat_of_zero_le (show 0 ≤ E by omega)
    rw [Int.toNat_natCast] at hvl
    obtain rfl : n = la := by rw [HLA.out, hvl.1]
    obtain ⟨Q, hQ⟩ : ∃ Q, Q = p ^ en := ⟨_, rfl⟩
    have hlow := HN.out.low (e := en) (by omega) (by omega)
    rw [← hQ] at hlow hvl
    have HQ := Lib.hid hQ
    have HVL := Lib.hid hvl
    obtain ⟨k1, k2, k3, k4, k5⟩ := hlow
    have HRT := Lib.hid k1
    have k6 := k1.pos
    have HD := Lib.hid k1.dim
    have hQ0 : ¬ Q = 0 := by omega
    have hn0 : ¬ n = 0 := by omega
    have c0 := H.out.n0
    obtain ⟨N, hNm⟩ : ∃ N, N = n % Q := ⟨_, rfl⟩
    have f1 : (n : Int) % (Q : Int) = (N : Int) := by rw [hNm]; simp
    have hNl : N < Q := by rw [hNm]; exact Nat.mod_lt _ (by omega)
    have HNC := Lib.hid (show Os.C Q (N : Int) (n : Int) from by rw [← f1]; exact Os.C.mod Q _)
    have HUN := Lib.hid (show Op.Un (Q : Int) (N : Int) from by
      refine ⟨(s : Int), ?_⟩
      have h1 : Os.C q ((n : Int) * s) 1 := by
        have := (Os.C.mod q ((n : Int) * s)).symm
        rwa [HN.out.inv.2.2] at this
      exact (HNC.out.mul (Os.C.refl Q (s : Int))).trans (h1.down k2))
    have hmk := Lo.mk_row n (n : Int) (by omega) (by omega)
    clear k1 k2 hQ hvl hNm
    go_enter Try.func18, Try.ntmps18
    go_wp2_with fail
    refine (rValid8_any U n p r x (en : Int) a _ _ true (by omega) HPO.out HPR.out H.out HV.out (by omega) HE.out HBT.out).mono ?_
    rintro e w1 ⟨rfl, rfl⟩
    go_wp2_with fail
    refine (rModulus8_any U n p r x en Q _ H.out (by omega) HQ.out k4).mono ?_
    rintro e w1 ⟨rfl, rfl⟩
    go_wp2_with fail
    refine (inverse5_any (Q : Int) (N : Int) _ (by omega) (by omega)).mono ?_
    rintro e w1 (⟨sh, rfl, _, s1, s2, s3, rfl⟩ | ⟨_, hno, _⟩)
    · have HSH := Lib.hid (show Os.C Q ((n : Int) * sh) 1 from ((HNC.out.symm.mul (Os.C.refl Q sh)).trans s3))
      clear s3
      go_wp2_with fail
      clear hmk
      go_loopw [12, 13, 14, 15] (fun t _ _ _ wr => ∃ (k : Nat) (l : List Int), t = .int .i64 k ∧ k ≤ n ∧ l.length = n ∧ (∀ i, i < n → Os.C Q (Op.cf l i) (Op.S k (fun t => Op.cf a t * Os.en n x t i)) ∧ -(Q : Int) < Op.cf l i ∧ Op.cf l i < Q) ∧ Lo.Row wr w.heap.size l ∧ Gr w wr) (fun t _ _ _ _ => n - (intOf t).toNat)
      case atStart => exact ⟨0, List.replicate n 0, rfl, by omega, by simp, fun i hi => by rw [Os.cf_repl]; exact ⟨Os.C.refl Q 0, by omega, by omega⟩, Lo.Row.zeros w n, Gr.new w _⟩
      case round =>
        obtain ⟨k, l, rfl, hk, hll, hval, hrow, hg⟩ := hrel
        have HLL := Lib.hid hll
        have HVAL := Lib.hid hval
        have HROW := Lib.hid hrow
        have HG := Lib.hid hg
        have c0 := (H.out.later hg).n0
        clear hll hval hrow hg
        by_cases hlt : k < n
        · have i1 : (k : Int) < (n : Int) := by omega
          have HH := Lib.hid (H.out.later HG.out)
          obtain ⟨o1, o2⟩ := Os.Ex.odd HD.out hlt
          obtain ⟨X, hX⟩ : ∃ X, X = 2 * n - Os.Ex n k := ⟨_, rfl⟩
          have w0 : 2 * (n : Int) - ((Os.Ex n k : Nat) : Int) = (X : Int) := by omega
          have w1 : IntKind.i64.wrap (2 * (n : Int)) = 2 * (n : Int) := IntWalk.i64_in _ (by omega)
          have w2 : IntKind.i64.wrap (X : Int) = (X : Int) := IntWalk.i64_in _ (by omega)
          obtain ⟨B, hB⟩ : ∃ B, B = x ^ (X % (2 * n)) % Q := ⟨_, rfl⟩
          have hBl : B < Q := by rw [hB]; exact Nat.mod_lt _ (by omega)
          have HB := Lib.hid hB
          have HX := Lib.hid hX
          have HXL := Lib.hid (show X ≤ 1000 by omega)
          have HXQ := Lib.hid (show x ≤ 2147483647 by omega)
          clear hB hX o1
          go_wp2_with fail
          go_quiet ((first
            | (go_at_call 39; exact rExponent_q U n p r x _ _ _ HD.out HH.out (by assumption))
            | (go_at_call 38; exact rzeta_q U n p r x X Q B _ _ HD.out HH.out HXL.out ⟨k3, k4⟩ HXQ.out HB.out)))
          obtain ⟨wo, hwo⟩ : ∃ wo : World, wo = wr.drewN nq := ⟨_, rfl⟩
          have HG2 := Lib.hid (show Gr w wo from by rw [hwo]; exact HG.out.drewN nq)
          have HROW2 := Lib.hid (show Lo.Row wo w.heap.size l from by rw [hwo]; exact HROW.out)
          have c0 := (H.out.later HG2.out).n0
          rw [← hwo]
          clear hwo w0 w1 w2 o2
          go_wp2_with fail
          go_loopw [14, 15] (fun pw t wt => ∃ (j y : Nat) (l' : List Int), t = .int .i64 j ∧ j ≤ n ∧ pw = .int .i64 y ∧ y < Q ∧ y = B ^ j % Q ∧ l'.length = n ∧ (∀ i, i < n → Os.C Q (Op.cf l' i) (Op.S (if i < j then k + 1 else k) (fun t => Op.cf a t * Os.en n x t i)) ∧ -(Q : Int) < Op.cf l' i ∧ Op.cf l' i < Q) ∧ Lo.Row wt w.heap.size l' ∧ Gr w wt) (fun _ t _ => n - (intOf t).toNat)
          case atStart => exact ⟨0, 1, l, rfl, by omega, rfl, by omega, by rw [Nat.pow_zero, Nat.mod_eq_of_lt (by omega)], HLL.out, fun i hi => by rw [if_neg (by omega)]; exact HVAL.out i hi, HROW2.out, HG2.out⟩
          case round =>
            obtain ⟨j, y, l', rfl, hj, rfl, hy1, hy2, hll, hval, hrow, hg⟩ := hrel
            have HY := Lib.hid hy2
            have HLL' := Lib.hid hll
            have HVAL' := Lib.hid hval
            have HROW' := Lib.hid hrow
            have HG' := Lib.hid hg
            have c0 := (H.out.later hg).n0
            clear hy2 hll hval hrow hg
            by_cases hjl : j < n
            · have i6 : (j : Int) < (n : Int) := by omega
              have i7 : (0 : Int) ≤ (j : Int) := by omega
              have i8 : (0 : Int) ≤ (k : Int) := by omega
              obtain ⟨ga, oa, rfl, cc⟩ := HasQ_at' (HV.out.later HG'.out) (show k < a.length by rw [← HLA.out]; exact hlt)
              have hab := HVL.out.at_ hlt
              obtain ⟨A, hA⟩ : ∃ A, A = Op.cf a k := ⟨_, rfl⟩
              rw [← hA] at cc hab
              have HA := Lib.hid hA
              obtain ⟨v1, v2, v3⟩ := HVAL'.out j hjl
              rw [if_neg (by omega)] at v1
              have hc1 := HROW'.out.cell (j := j) (by rw [HLL'.out]; exact hjl)
              have hf1 := HROW'.out.frozen j
              obtain ⟨z, hz⟩ : ∃ z, z = Op.cf l' j := ⟨_, rfl⟩
              rw [← hz] at v1 v2 v3 hc1
              have HV1 := Lib.hid v1
              obtain ⟨hb1, hb2⟩ := prod_bd (A := A) (y := (y : Int)) (B := 2147483647) (Y := 2147483647) (by omega) (by omega) (by omega) (by omega) (by omega)
              have hb3 : -4611686014132420609 ≤ A * (y : Int) := by omega
              have hb4 : A * (y : Int) ≤ 4611686014132420609 := by omega
              obtain ⟨z', hz'⟩ : ∃ z', (z + A * (y : Int)).tmod (Q : Int) = z' := ⟨_, rfl⟩
              have q1 : -(Q : Int) < z' := by rw [← hz']; exact Int.lt_tmod_of_pos _ (by omega)
              have q2 : z' < (Q : Int) := by rw [← hz']; exact Int.tmod_lt_of_pos _ (by omega)
              have u1 : IntKind.i64.wrap (A * (y : Int)) = A * (y : Int) := IntWalk.i64_in _ (by omega)
              have u2 : IntKind.i64.wrap (z + A * (y : Int)) = z + A * (y : Int) := IntWalk.i64_in _ (by omega)
              have u3 : IntKind.i64.wrap z' = z' := IntWalk.i64_in _ (by omega)
              have HZ := Lib.hid (show Os.C Q z' (Op.S (k + 1) (fun t => Op.cf a t * Os.en n x t j)) from by
                have h1 : Os.C Q z' (z + A * (y : Int)) := by rw [← hz']; exact Oh7.tmod_dvd Q _
                refine h1.trans ?_
                rw [Op.S]
                refine HV1.out.add ?_
                rw [hA]
                refine (Os.C.refl Q _).mul ?_
                refine Os.C.trans ?_ (Os.back_C HRT.out hlt HX.out HB.out (show j ≤ 2 * n by omega))
                rw [HY.out, Int.natCast_emod, Int.natCast_pow]
                exact Os.C.mod Q _)
              have HR2 := Lib.hid (HROW'.out.setAt (k := j) (x := z') (by rw [HLL'.out]; exact hjl) (by omega))
              have p0 := mul_lo (a := (y : Int)) (b := (B : Int)) (by omega) (by omega)
              have p1 : (y : Int) * (B : Int) ≤ 2147483647 * 2147483647 := Int.mul_le_mul (by omega) (by omega) (by omega) (by omega)
              have r0 := emod_lo ((y : Int) * (B : Int)) Q (by omega)
              have r1 := emod_hi ((y : Int) * (B : Int)) Q (by omega)
              have HYN := Lib.hid (show (y : Int) * (B : Int) % (Q : Int) = ((y * B % Q : Nat) : Int) from by simp)
              have HYP := Lib.hid (show y * B % Q = B ^ (j + 1) % Q from by rw [HY.out]; exact pow_next)
              have HYL := Lib.hid (show y * B % Q < Q from Nat.mod_lt _ (by omega))
              have HQ1 := Lib.hid q1
              have HQ2 := Lib.hid q2
              clear hb1 hb2 hab hA v1 hz
              go_wp2_with fail
              go_region
              clear u1 u2 u3 hb3 hb4 hz'
              go_wp2_with fail
              go_roundw
              case rel => exact ⟨j + 1, y * B % Q, l'.set j z', by go_num, by omega, by rw [HYN.out], HYL.out, HYP.out, by rw [List.length_set]; exact HLL'.out, fun i hi => by
                rw [cf_set l' _ j i (by rw [HLL'.out]; exact hjl)]
                by_cases e : i = j
                · rw [if_pos e, if_pos (by omega), e]; exact ⟨HZ.out, HQ1.out, HQ2.out⟩
                · rw [if_neg e]
                  have h1 := HVAL'.out i hi
                  by_cases e2 : i < j
                  · rw [if_pos e2] at h1; rw [if_pos (by omega)]; exact h1
                  · rw [if_neg e2] at h1; rw [if_neg (by omega)]; exact h1, HR2.out, (HG'.out.setCell (p := ⟨w.heap.size, j, none⟩) (Nat.le_refl _) _).drewN 1⟩
              case measure => simp [intOf]; omega
            · obtain rfl : j = n := by omega
              have i6 : ¬ (j : Int) < (j : Int) := by omega
              go_wp2_with fail
              go_roundw
              case rel => exact ⟨k + 1, l', by go_num, by omega, HLL'.out, fun i hi => by
                have h1 := HVAL'.out i hi
                rw [if_pos hi] at h1; exact h1, HROW'.out, HG'.out⟩
              case measure => simp [intOf]; omega
        · obtain rfl : k = n := by omega
          have i1 : ¬ (k : Int) < (k : Int) := by omega
          obtain ⟨wo, rfl⟩ : ∃ wo : World, wo = wr := ⟨_, rfl⟩
          have HBASE := Lib.hid HG.out.size
          go_wp2_with fail
          go_loopw [16, 17] (fun u t wt => ∃ (j : Nat) (m : List Int) (va : Option Addr) (vc : Nat), t = .int .i64 j ∧ j ≤ k ∧ u = .slice va j vc ∧ Lo.Own1 wt wo.heap.size (.slice va j vc) m ∧ Os.EcI k Q x a m j ∧ Gr wo wt) (fun _ t _ => k - (intOf t).toNat)
          case atStart => exact ⟨0, [], none, 0, rfl, by omega, rfl, Lo.Own1.nil _ _, ⟨rfl, fun j hj => by omega⟩, Gr.refl _⟩
          case round =>
            obtain ⟨j, m, va, vc, rfl, hj, rfl, hown, hec, hg⟩ := hrel
            have HO := Lib.hid hown
            have HEC := Lib.hid hec
            have HGW := Lib.hid hg
            have c0 := hg.keeps c0
            clear hown hec hg
            by_cases hjl : j < k
            · have i6 : (j : Int) < (k : Int) := by omega
              obtain ⟨v1, v2, v3⟩ := HVAL.out j hjl
              have hc1 := (HROW.out.later HGW.out).cell (j := j) (by rw [HLL.out]; exact hjl)
              obtain ⟨z, hz⟩ : ∃ z, z = Op.cf l j := ⟨_, rfl⟩
              rw [← hz] at v1 v2 v3 hc1
              have HV1 := Lib.hid v1
              obtain ⟨hb1, hb2⟩ := prod_bd (A := z) (y := sh) (B := 2147483647) (Y := 2147483647) (by omega) (by omega) (by omega) (by omega) (by omega)
              have hb3 : -4611686014132420609 ≤ z * sh := by omega
              have hb4 : z * sh ≤ 4611686014132420609 := by omega
              obtain ⟨z', hz'⟩ : ∃ z', (z * sh).tmod (Q : Int) = z' := ⟨_, rfl⟩
              have q1 : -(Q : Int) < z' := by rw [← hz']; exact Int.lt_tmod_of_pos _ (by omega)
              have q2 : z' < (Q : Int) := by rw [← hz']; exact Int.tmod_lt_of_pos _ (by omega)
              have HZC := Lib.hid (show Os.C Q z' (z * sh) from by rw [← hz']; exact Oh7.tmod_dvd Q _)
              clear hb1 hb2 v1 hz
              go_wp2_with fail
              refine (rBal8_any z' Q _ ⟨by omega, k4⟩ k5 (by omega)).mono ?_
              rintro e w5 ⟨rfl, rfl⟩
              have hbl := rb_bl (x := z') (m := Q) (by omega) k5
              have hrb := rb_i64b (x := z') (m := Q) (by omega) k5 k4
              obtain ⟨b, hb⟩ : ∃ b, b = rb z' Q := ⟨_, rfl⟩
              rw [← hb] at hrb hbl ⊢
              have HBL := Lib.hid (show Os.C Q ((k : Int) * b) (Os.cof k x a j) ∧ 2 * b < Q ∧ -(Q : Int) < 2 * b from by
                refine ⟨?_, hbl.2⟩
                have h1 := (Os.C.refl Q (k : Int)).mul (hbl.1.trans HZC.out)
                have h2 := HSH.out.mul HV1.out
                rw [Int.one_mul] at h2
                have e : (k : Int) * (z * sh) = (k : Int) * sh * z := by rw [Int.mul_comm z sh, Int.mul_assoc]
                rw [e] at h1
                exact h1.trans h2)
              have HPL := Lib.hid (show m.length = j from HEC.out.1)
              have HOA := Lib.hid (HO.out.alloc (.cells #[.int .i64 b] 2))
              have HONE := Lib.hid (Lo.one_hasQ wr b (by omega))
              have HLEN := Lib.hid (show m.length + ([b] : List Int).length ≤ 1000000 from by rw [HPL.out]; simp; omega)
              have HBS := Lib.hid (show wo.heap.size ≤ (wr.alloc (.cells #[.int .i64 b] 2)).heap.size from by have := HGW.out.size; simp; omega)
              clear hb hrb hbl
              go_wp2_with (at_builtin; refine Lo.wpList_app rfl (.tmp 101) (.tmp 113) rfl rfl wo.heap.size (.slice va j vc) m rfl HOA.out (.slice (some ⟨wr.heap.size, 0, none⟩) 1 1) [b] rfl HONE.out HLEN.out HBS.out ?_; intro v' wn hown hgrow; obtain ⟨va2, vc2, hv, hv1, hv2⟩ := hown.form; rw [List.length_append, HPL.out] at hv; subst hv; have HN5 := Lib.hid (And.intro hown hgrow); clear hown hgrow hv1 hv2)
              go_roundw
              case rel => exact ⟨j + 1, m ++ [b], va2, vc2, by go_num, by omega, rfl, HN5.out.1, HEC.out.next HBL.out, Lo.grown_own (HGW.out.alloc _) HOA.out HN5.out.2 (Nat.le_refl _)⟩
              case measure => simp [intOf]; omega
            · obtain rfl : j = k := by omega
              have i6 : ¬ (j : Int) < (j : Int) := by omega
              have HQ2 := Lib.hid HO.out.hasQ
              have HF := Lib.hid (show ∀ p, va = some p → w.heap.size ≤ p.block from fun p hp => Nat.le_trans HBASE.out (HO.out.fresh rfl p hp))
              have HFIN := Lib.hid (show EncR j p r x (en : Int) a m from .inl ⟨HCK.out, by rw [Int.toNat_natCast, ← HQ.out]; exact ⟨HEC.out.1, HEC.out.2⟩⟩)
              go_wp2_with fail
              go_ret2
              rw [HKE.out]
              exact ⟨va, j, vc, m, rfl, HQ2.out, HFIN.out, HF.out, HG.out.trans HGW.out⟩
    · exact absurd HUN.out hno
  · have HKE := Lib.hid (chkE_no hck)
    have HBF := Lib.hid (show false = decide (Ckd n p r E a) from (decide_eq_false hck).symm)
    have HFIN := Lib.hid (show EncR n p r x E a [] from .inr ⟨hck, rfl⟩)
    clear hck
    go_enter Try.func18, Try.ntmps18
    go_wp2_with fail
    refine (rValid8_any U n p r x E a _ _ false (by omega) HPO.out HPR.out H.out HV.out (by omega) HE.out HBF.out).mono ?_
    rintro e w1 ⟨rfl, rfl⟩
    go_wp2_with fail
    go_ret2
    rw [HKE.out]
    exact LstE.nil 2 HFIN.out (Gr.refl w)
end Go.Proofs.Ytfmmkdmnondomaa
