import Derived.Test.YtlfiakpmnkhcdaaGreatLJd
import Derived.Test.YtlfiakpmnkhcdaaGreatShelf
import Derived.Laws.Bits64b
/- math/bits: Rem64, for a divisor below 2^31. -/
namespace Go.Proofs.YtlfiakpmnkhcdaaGreat.Mo
open Go.RowKit
set_option linter.unusedVariables false

set_option maxRecDepth 100000 in
set_option maxHeartbeats 2000000 in
theorem div64_walk (hi lo y : Nat) (w : World) (h1 : hi < y) (h2 : lo < 18446744073709551616) (h3 : 3 ≤ y) (h4 : y ≤ 2147483647) (h0 : ((hi : Int) == 0) = false) (s : Nat) (HS : Hid (s = 64 - Lib.bitLen y)) (hs1 : 33 ≤ s) (hs2 : s ≤ 62) (hL : Lib.bitLen y ≤ 31) (S Y d H lh U V u1 u0 q1 P1 r1 C1 u2 q0 P0 r0 C0 Z R : Nat)
    (hS : (2 : Int) ^ s = (S : Int)) (hY : IntKind.u64.wrap ((y : Int) * (S : Int)) = (Y : Int)) (hY2 : Y < 18446744073709551616)
    (hd : (Y : Int) / 4294967296 = (d : Int)) (hd0 : 1 ≤ d) (hd2 : d < 4294967296) (hand : bits .and .u64 (Y : Int) 4294967295 = 0) (hH : IntKind.u64.wrap ((hi : Int) * (S : Int)) = (H : Int)) (hlh : (lo : Int) / 2 ^ (64 - s) = (lh : Int)) (hor : bits .or .u64 (H : Int) (lh : Int) = (U : Int)) (hV : IntKind.u64.wrap ((lo : Int) * (S : Int)) = (V : Int)) (hu1 : (V : Int) / 4294967296 = (u1 : Int)) (hu0 : bits .and .u64 (V : Int) 4294967295 = (u0 : Int))
    (hq1 : (U : Int) / (d : Int) = (q1 : Int)) (hP : IntKind.u64.wrap ((q1 : Int) * (d : Int)) = (P1 : Int)) (hr : IntKind.u64.wrap ((U : Int) - (P1 : Int)) = (r1 : Int)) (hU : U < 18446744073709551616) (hr1 : r1 < 4294967296) (hq1' : q1 < 4294967296) (hu1' : u1 < 4294967296) (hu0' : u0 < 4294967296) (hV' : V < 18446744073709551616)
    (hC1 : IntKind.u64.wrap (IntKind.u64.wrap (IntKind.u64.wrap ((U : Int) * 4294967296) + (u1 : Int)) - IntKind.u64.wrap ((q1 : Int) * (Y : Int))) = (u2 : Int)) (hu2 : u2 < 18446744073709551616)
    (hq0 : (u2 : Int) / (d : Int) = (q0 : Int)) (hq0' : q0 < 4294967296) (hP0 : IntKind.u64.wrap ((q0 : Int) * (d : Int)) = (P0 : Int)) (hr0 : IntKind.u64.wrap ((u2 : Int) - (P0 : Int)) = (r0 : Int)) (hr0' : r0 < 4294967296)
    (hZ : IntKind.u64.wrap (IntKind.u64.wrap (IntKind.u64.wrap ((u2 : Int) * 4294967296) + (u0 : Int)) - IntKind.u64.wrap ((q0 : Int) * (Y : Int))) = (Z : Int)) (hZ2 : Z < 18446744073709551616) (hR : (Z : Int) / (S : Int) = (R : Int)) :
    Calls Tryz.prog 129 #[.int .u64 hi, .int .u64 lo, .int .u64 y] w (fun e w' => ∃ q : Int, e = .returned (.tuple #[.int .u64 q, .int .u64 R]) ∧ w = w') := by
  have hle : ((y : Int) == 0) = false := by simp; omega
  have hlt : decide ((y : Int) ≤ (hi : Int)) = false := by simp; omega
  go_enter Tryz.func129, Tryz.ntmps129
  go_upto_region 16 with (go_at_call 155; refine (Tryz.bits_LeadingZeros64 (y : Int) _ (by omega) (by omega)).mono ?_; rintro e w1 ⟨rfl, rfl⟩; rw [Int.toNat_natCast, show (64 : Int) - (Lib.bitLen y : Int) = (s : Int) by have := HS.out; omega])
  have t1 : decide ((4294967296 : Int) ≤ (q1 : Int)) = false := by simp; omega
  have t2 : decide ((4294967296 : Int) * (r1 : Int) + (u1 : Int) < 0) = false := by simp; omega
  go_wp2_with fail
  refine wp_loop_rounds 1 ?_
  rw [rounds_succ]
  have t3 : decide ((4294967296 : Int) ≤ (q0 : Int)) = false := by simp; omega
  have t4 : decide ((4294967296 : Int) * (r0 : Int) + (u0 : Int) < 0) = false := by simp; omega
  go_wp2_with fail
  refine wp_loop_rounds 1 ?_
  rw [rounds_succ]
  go_wp2_with fail
  go_ret2
  exact ⟨_, rfl, rfl⟩
theorem wr3 (a b c : Int) : ((a % 18446744073709551616 + b) % 18446744073709551616 - c % 18446744073709551616) % 18446744073709551616 = (a + b - c) % 18446744073709551616 := by omega
theorem bitLen_log (y : Nat) (h1 : 1 ≤ y) (h2 : y < 2 ^ 64) : Lib.bitLen y = Nat.log2 y + 1 ∧ 2 ^ Nat.log2 y ≤ y ∧ y < 2 ^ (Nat.log2 y + 1) := by
  have a := Nat.log2_self_le (n := y) (by omega)
  have b := Nat.lt_log2_self (n := y)
  refine ⟨?_, a, b⟩
  have h := Lib.bitLen_shift (Nat.log2 y) y a h2
  have e : y / 2 ^ Nat.log2 y = 1 := by
    rw [Nat.pow_succ] at b
    have h3 : 0 < 2 ^ Nat.log2 y := Nat.pow_pos (by omega)
    have h4 : 1 ≤ y / 2 ^ Nat.log2 y := (Nat.le_div_iff_mul_le h3).2 (by omega)
    have h5 : y / 2 ^ Nat.log2 y < 2 := (Nat.div_lt_iff_lt_mul h3).2 (by omega)
    omega
  rw [e] at h
  rw [h]; rfl
theorem and_mask (V : Nat) (h : V < 18446744073709551616) : bits .and .u64 (V : Int) 4294967295 = ((V % 4294967296 : Nat) : Int) := by
  have h5 : V &&& 4294967295 = V % 4294967296 := Nat.and_two_pow_sub_one_eq_mod V 32
  have h6 := bits_and_u64_nat V 4294967295 h (by omega)
  rw [h5] at h6
  exact h6
theorem wrap_mul (a b r : Nat) (h : a * b % 18446744073709551616 = r) : IntKind.u64.wrap ((a : Int) * (b : Int)) = (r : Int) := by
  rw [IntKind.wrap_u64, ← Int.natCast_mul]; omega
theorem wrap_sub (a b r : Nat) (h : b + r = a) (ha : a < 18446744073709551616) : IntKind.u64.wrap ((a : Int) - (b : Int)) = (r : Int) := by
  rw [IntKind.wrap_u64]; omega
theorem wrap_rest (U u q Y r : Nat) (h : U * 4294967296 + u = q * Y + r) (hr : r < 18446744073709551616) : IntKind.u64.wrap (IntKind.u64.wrap (IntKind.u64.wrap ((U : Int) * 4294967296) + (u : Int)) - IntKind.u64.wrap ((q : Int) * (Y : Int))) = (r : Int) := by
  rw [IntKind.wrap_u64, IntKind.wrap_u64, IntKind.wrap_u64, IntKind.wrap_u64, wr3, ← Int.natCast_mul]
  generalize q * Y = z at *
  omega
/-- The numbers of the division. -/
structure DivN (hi lo y s S d H lh U V qa ra u2 qb rb : Nat) : Prop where
  S_ : 2 ^ s = S
  T_ : lo / 2 ^ (64 - s) = lh
  yS : y * S = d * 4294967296
  d0 : 1 ≤ d
  d1 : d < 4294967296
  H_ : hi * S = H
  Hlt : H < 18446744073709551616
  lt : lh < 18446744073709551616
  or_ : (H ||| lh) = U
  Ult : U < 18446744073709551616
  V_ : lo * S % 18446744073709551616 = V
  Vlt : V < 18446744073709551616
  qa_ : U / d = qa
  qad : qa * d + ra = U
  qal : qa < 4294967296
  ral : ra < 4294967296
  u2_ : U * 4294967296 + V / 4294967296 = qa * (d * 4294967296) + u2
  u2l : u2 < 18446744073709551616
  qb_ : u2 / d = qb
  qbd : qb * d + rb = u2
  qbl : qb < 4294967296
  rbl : rb < 4294967296
  Z_ : u2 * 4294967296 + V % 4294967296 = qb * (d * 4294967296) + (rb * 4294967296 + V % 4294967296)
  R_ : (rb * 4294967296 + V % 4294967296) / S = (hi * 18446744073709551616 + lo) % y
theorem divN (hi lo y k : Nat) (h1 : hi < y) (h2 : lo < 18446744073709551616) (b2 : 2 ^ k ≤ y) (b3 : y < 2 ^ (k + 1)) (hk30 : k ≤ 30) (hk1 : 1 ≤ k) : ∃ S d H lh U V qa ra u2 qb rb, DivN hi lo y (63 - k) S d H lh U V qa ra u2 qb rb := by
  obtain ⟨T, hT⟩ : ∃ T, T = 2 ^ (k + 1) := ⟨_, rfl⟩
  obtain ⟨A, hA⟩ : ∃ A, A = 2 ^ (31 - k) := ⟨_, rfl⟩
  have hy0 : 1 ≤ y := by omega
  have hAT : A * T = 4294967296 := by rw [hA, hT, ← Nat.pow_add, show 31 - k + (k + 1) = 32 by omega]
  have hS : 2 ^ (63 - k) = 4294967296 * A := by
    have e : 63 - k = 32 + (31 - k) := by omega
    rw [hA, e, Nat.pow_add]
  have hT64 : 2 ^ (64 - (63 - k)) = T := by rw [hT]; congr 1; omega
  rw [← hT] at b3
  have hA0 : 1 ≤ A := by rw [hA]; exact Nat.pow_pos (by omega)
  have hT0 : 1 ≤ T := by rw [hT]; exact Nat.pow_pos (by omega)
  obtain ⟨d, hd⟩ : ∃ d, d = y * A := ⟨_, rfl⟩
  have hd1 : d < 4294967296 := by rw [hd, ← hAT, Nat.mul_comm A T]; exact Nat.mul_lt_mul_of_pos_right b3 hA0
  have hd0 : 1 ≤ d := by rw [hd]; exact Nat.mul_pos (by omega) hA0
  obtain ⟨S, hSe⟩ : ∃ S, S = 4294967296 * A := ⟨_, rfl⟩
  have hS2 : 2 ^ (63 - k) = S := by rw [hS, hSe]
  have hST : S * T = 18446744073709551616 := by rw [hSe, Nat.mul_assoc, hAT]
  have hyS : y * S = d * 4294967296 := by rw [hSe, hd, Nat.mul_comm 4294967296 A, Nat.mul_assoc]
  clear hA hS
  have hlm := Nat.div_add_mod lo T
  have hll := Nat.mod_lt lo hT0
  obtain ⟨lh, hlh⟩ : ∃ lh, lh = lo / T := ⟨_, rfl⟩
  obtain ⟨ll, hlle⟩ : ∃ ll, ll = lo % T := ⟨_, rfl⟩
  rw [← hlh, ← hlle] at hlm
  rw [← hlle] at hll
  have hlhS : lh < S := by
    rw [hlh]
    exact (Nat.div_lt_iff_lt_mul hT0).2 (by rw [hST]; exact h2)
  have hS0 : 1 ≤ S := by omega
  have hllS : ll * S < 18446744073709551616 := by
    rw [← hST, Nat.mul_comm S T]; exact Nat.mul_lt_mul_of_pos_right hll (by omega)
  have hloS : lo * S = lh * 18446744073709551616 + ll * S := by
    rw [← hlm, Nat.add_mul, Nat.mul_comm T lh, Nat.mul_assoc, Nat.mul_comm T S, hST]
  obtain ⟨H, hH⟩ : ∃ H, H = hi * S := ⟨_, rfl⟩
  obtain ⟨U, hU⟩ : ∃ U, U = H + lh := ⟨_, rfl⟩
  have hHy : H + S ≤ d * 4294967296 := by
    rw [← hyS, hH]
    have : (hi + 1) * S ≤ y * S := Nat.mul_le_mul_right _ h1
    rwa [Nat.add_mul, Nat.one_mul] at this
  obtain ⟨V, hV⟩ : ∃ V, V = ll * S := ⟨_, rfl⟩
  rw [← hV] at hllS hloS
  have q1 := Nat.div_add_mod U d
  have q2 := Nat.mod_lt U hd0
  have q3 : U / d < 4294967296 := (Nat.div_lt_iff_lt_mul hd0).2 (by rw [Nat.mul_comm]; omega)
  obtain ⟨qa, hqa⟩ : ∃ q, q = U / d := ⟨_, rfl⟩
  obtain ⟨ra, hra⟩ : ∃ q, q = U % d := ⟨_, rfl⟩
  rw [← hqa, ← hra] at q1
  rw [← hra] at q2
  rw [← hqa] at q3
  obtain ⟨u2, hu2⟩ : ∃ u, u = ra * 4294967296 + V / 4294967296 := ⟨_, rfl⟩
  have hu2d : u2 < d * 4294967296 := by omega
  have p1 := Nat.div_add_mod u2 d
  have p2 := Nat.mod_lt u2 hd0
  have p3 : u2 / d < 4294967296 := (Nat.div_lt_iff_lt_mul hd0).2 (by rw [Nat.mul_comm]; omega)
  obtain ⟨qb, hqb⟩ : ∃ q, q = u2 / d := ⟨_, rfl⟩
  obtain ⟨rb, hrb⟩ : ∃ q, q = u2 % d := ⟨_, rfl⟩
  rw [← hqb, ← hrb] at p1
  rw [← hrb] at p2
  rw [← hqb] at p3
  rw [Nat.mul_comm d] at q1 p1
  have e1 : qa * (d * 4294967296) = qa * d * 4294967296 := (Nat.mul_assoc _ _ _).symm
  have e2 : qb * (d * 4294967296) = qb * d * 4294967296 := (Nat.mul_assoc _ _ _).symm
  have hR : (rb * 4294967296 + V % 4294967296) / S = (hi * 18446744073709551616 + lo) % y := by
    have k1 : (hi * 18446744073709551616 + lo) * S = (qa * 4294967296 + qb) * (y * S) + (rb * 4294967296 + V % 4294967296) := by
      have k2 : (hi * 18446744073709551616 + lo) * S = U * 18446744073709551616 + V := by
        rw [Nat.add_mul, hloS, hU, hH, Nat.add_mul, Nat.mul_right_comm]; omega
      rw [k2, hyS, Nat.add_mul, e2, Nat.mul_right_comm qa, e1]
      omega
    have k3 : (hi * 18446744073709551616 + lo) * S % (y * S) = rb * 4294967296 + V % 4294967296 := by
      rw [k1, Nat.mul_comm _ (y * S), Nat.mul_add_mod]
      exact Nat.mod_eq_of_lt (by rw [hyS]; omega)
    rw [Nat.mul_mod_mul_right] at k3
    rw [← k3, Nat.mul_div_cancel _ (by omega)]
  have hor : (H ||| lh) = U := by
    rw [hU, hH, ← hS2]
    have := Nat.two_pow_add_eq_or_of_lt (show lh < 2 ^ (63 - k) by rw [hS2]; exact hlhS) hi
    rw [Nat.mul_comm hi, ← this]
  exact ⟨S, d, H, lh, U, V, qa, ra, u2, qb, rb, hS2, by rw [hT64, ← hlh], hyS, hd0, hd1, hH.symm, by omega, by omega, hor, by omega, by omega, hllS, hqa.symm, q1, q3, by omega, by rw [e1]; omega, by omega, hqb.symm, p1, p3, by omega, by rw [e2]; omega, hR⟩
/-- The remainder of a number of 128 bits. -/
def Rem (hi lo y : Nat) (w : World) (e : Ending) (w' : World) : Prop := ∃ q : Int, e = .returned (.tuple #[.int .u64 q, .int .u64 (((hi * 18446744073709551616 + lo) % y : Nat) : Int)]) ∧ w = w'
set_option maxRecDepth 100000 in
set_option maxHeartbeats 1000000 in
theorem div64_any (hi lo y : Nat) (w : World) (h1 : hi < y) (h2 : lo < 18446744073709551616) (h3 : 3 ≤ y) (h4 : y ≤ 2147483647) (h0 : 1 ≤ hi) :
    Calls Tryz.prog 129 #[.int .u64 hi, .int .u64 lo, .int .u64 y] w (Rem hi lo y w) := by
  obtain ⟨b1, b2, b3⟩ := bitLen_log y (by omega) (by omega)
  generalize Nat.log2 y = k at b1 b2 b3
  have hk30 : k ≤ 30 := by
    apply Classical.byContradiction; intro hn
    have : 2 ^ 31 ≤ 2 ^ k := Nat.pow_le_pow_right (by omega) (by omega)
    omega
  have hk1 : 1 ≤ k := by
    apply Classical.byContradiction; intro hn
    have : k = 0 := by omega
    subst this
    omega
  obtain ⟨S, d, H, lh, U, V, qa, ra, u2, qb, rb, D⟩ := divN hi lo y k h1 h2 b2 b3 hk30 hk1
  obtain ⟨R, hR⟩ : ∃ R, R = (hi * 18446744073709551616 + lo) % y := ⟨_, rfl⟩
  have D' := D.R_
  rw [← hR] at D'
  obtain ⟨Z, hZ⟩ : ∃ Z, Z = rb * 4294967296 + V % 4294967296 := ⟨_, rfl⟩
  have DZ := D.Z_
  rw [← hZ] at D' DZ
  obtain ⟨Y, hY⟩ : ∃ Y, Y = d * 4294967296 := ⟨_, rfl⟩
  have Dy := D.yS
  have Du := D.u2_
  rw [← hY] at Dy Du DZ
  have d1 := D.d1
  have r1 := D.rbl
  have hYl : Y < 18446744073709551616 := by rw [hY]; omega
  have hZl : Z < 18446744073709551616 := by rw [hZ]; have := Nat.mod_lt V (show 4294967296 > 0 by omega); omega
  have hh0 : ((hi : Int) == 0) = false := by simp; omega
  have f1 : (2 : Int) ^ (63 - k) = (S : Int) := by rw [← D.S_, Int.natCast_pow]; rfl
  have f2 := wrap_mul y S Y (by rw [Dy]; exact Nat.mod_eq_of_lt hYl)
  have f3 : (Y : Int) / 4294967296 = (d : Int) := by rw [hY]; omega
  have f4 : bits .and .u64 (Y : Int) 4294967295 = 0 := by rw [and_mask Y hYl, hY, Nat.mul_mod_left]; rfl
  have f5 := wrap_mul hi S H (by rw [D.H_]; exact Nat.mod_eq_of_lt D.Hlt)
  have f6 : (lo : Int) / 2 ^ (64 - (63 - k)) = (lh : Int) := by rw [← D.T_, Int.natCast_ediv, Int.natCast_pow]; rfl
  have f7 : bits .or .u64 (H : Int) (lh : Int) = (U : Int) := by rw [bits_or_u64_nat H lh D.Hlt D.lt, D.or_]
  have f8 := wrap_mul lo S V D.V_
  have f9 : (V : Int) / 4294967296 = ((V / 4294967296 : Nat) : Int) := by rw [Int.natCast_ediv]; rfl
  have f10 := and_mask V D.Vlt
  have f11 : (U : Int) / (d : Int) = (qa : Int) := by rw [← D.qa_, Int.natCast_ediv]
  have qd := D.qad
  have qe := D.qbd
  have f12 := wrap_mul qa d (qa * d) (Nat.mod_eq_of_lt (by have := D.Ult; omega))
  have f13 := wrap_sub U (qa * d) ra qd D.Ult
  have f14 := wrap_rest U (V / 4294967296) qa Y u2 Du D.u2l
  have f15 : (u2 : Int) / (d : Int) = (qb : Int) := by rw [← D.qb_, Int.natCast_ediv]
  have f16 := wrap_mul qb d (qb * d) (Nat.mod_eq_of_lt (by have := D.u2l; omega))
  have f17 := wrap_sub u2 (qb * d) rb qe D.u2l
  have f18 := wrap_rest u2 (V % 4294967296) qb Y Z DZ hZl
  have f19 : (Z : Int) / (S : Int) = (R : Int) := by rw [← D', Int.natCast_ediv]
  have hv1 : V / 4294967296 < 4294967296 := by have := D.Vlt; omega
  have hv2 : V % 4294967296 < 4294967296 := by omega
  refine (div64_walk hi lo y w h1 h2 h3 h4 hh0 (63 - k) (Lib.hid (by rw [b1]; omega)) (by omega) (by omega) (by rw [b1]; omega) S Y d H lh U V (V / 4294967296) (V % 4294967296) qa (qa * d) ra 0 u2 qb (qb * d) rb 0 Z R f1 f2 hYl f3 D.d0 d1 f4 f5 f6 f7 f8 f9 f10 f11 f12 f13 D.Ult D.ral D.qal hv1 hv2 D.Vlt f14 D.u2l f15 D.qbl f16 f17 r1 f18 hZl f19).mono ?_
  rintro e w' ⟨q, rfl, rfl⟩
  exact ⟨q, by rw [hR], rfl⟩
set_option maxRecDepth 100000 in
set_option maxHeartbeats 1000000 in
theorem div64_zero (lo y : Nat) (w : World) (h2 : lo < 18446744073709551616) (h3 : 3 ≤ y) (h4 : y ≤ 2147483647) :
    Calls Tryz.prog 129 #[.int .u64 0, .int .u64 lo, .int .u64 y] w (fun e w' => ∃ q : Int, e = .returned (.tuple #[.int .u64 q, .int .u64 ((lo % y : Nat) : Int)]) ∧ Gr w w') := by
  have hle : ((y : Int) == 0) = false := by simp; omega
  have hlt : decide ((y : Int) ≤ 0) = false := by simp; omega
  have hy0 : ¬ (y : Int) = 0 := by omega
  have hyn : ¬ y = 0 := by omega
  have m1 : (lo : Int) % (y : Int) = ((lo % y : Nat) : Int) := by rw [Int.natCast_emod]
  go_enter Tryz.func129, Tryz.ntmps129
  go_wp2_with fail
  go_region
  go_wp2_with fail
  go_ret2
  exact ⟨_, rfl, Below.drew (Gr.refl w)⟩
theorem rem_nat (hi lo y : Nat) : (hi % y * 18446744073709551616 + lo) % y = (hi * 18446744073709551616 + lo) % y := by
  rw [Nat.add_mod, Nat.mul_mod, Nat.mod_mod, ← Nat.mul_mod, ← Nat.add_mod]
set_option maxRecDepth 100000 in
set_option maxHeartbeats 1000000 in
theorem rem64_any (hi lo y : Nat) (w : World) (h1 : hi < 18446744073709551616) (h2 : lo < 18446744073709551616) (h3 : 3 ≤ y) (h4 : y ≤ 2147483647) :
    Calls Tryz.prog 100 #[.int .u64 hi, .int .u64 lo, .int .u64 y] w (fun e w' => ∃ R : Nat, e = .returned (.int .u64 (R : Int)) ∧ R = (hi * 18446744073709551616 + lo) % y ∧ Gr w w') := by
  have hy0 : ¬ (y : Int) = 0 := by omega
  have hyn : ¬ y = 0 := by omega
  obtain ⟨g, hg⟩ : ∃ g, g = hi % y := ⟨_, rfl⟩
  have hgl : g < y := by rw [hg]; exact Nat.mod_lt _ (by omega)
  have m1 : (hi : Int) % (y : Int) = (g : Int) := by rw [hg, Int.natCast_emod]
  have HR := Lib.hid (show (g * 18446744073709551616 + lo) % y = (hi * 18446744073709551616 + lo) % y by rw [hg, rem_nat])
  clear hg
  go_enter Tryz.func100, Tryz.ntmps100
  go_wp2_with fail
  rcases Nat.eq_zero_or_pos g with h0 | h0
  · subst h0
    refine (div64_zero lo y _ h2 h3 h4).mono ?_
    rintro e w1 ⟨q, rfl, hgr⟩
    have HG := Lib.hid hgr
    clear hgr m1
    go_wp2_with fail
    go_ret
    exact ⟨lo % y, ret_int (by rw [Int.natCast_emod]), by rw [← HR.out, Nat.zero_mul, Nat.zero_add], HG.out⟩
  · refine (div64_any g lo y _ hgl h2 h3 h4 h0).mono ?_
    rintro e w1 ⟨q, rfl, rfl⟩
    clear m1
    go_wp2_with fail
    go_ret
    exact ⟨(g * 18446744073709551616 + lo) % y, ret_int (by rw [Int.natCast_emod, Int.natCast_add, Int.natCast_mul]; rfl), HR.out, Gr.refl _⟩
end Go.Proofs.YtlfiakpmnkhcdaaGreat.Mo
