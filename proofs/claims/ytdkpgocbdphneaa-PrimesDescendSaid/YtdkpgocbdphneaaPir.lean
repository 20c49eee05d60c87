/- The reference's Plain. -/
import Derived.Test.YtdkpgocbdphneaaPi
namespace Go.Proofs.Ytdkpgocbdphneaa
open Go.RowKit
set_option linter.unusedVariables false

set_option maxRecDepth 100000 in
set_option maxHeartbeats 2000000 in
theorem rplain_ok (n : Int) (p : Nat) (r : Int) (w : World) (hp' : p ≤ 4294967295) (hr' : r ≤ 9223372036854775807) (h : PlainOk n p r) :
    Calls Try.prog 19 #[.int .i64 n, .int .u32 p, .int .i64 r] w (NumPost (PlainR n p r) w) := by
  have HOK := Lib.hid h
  have hodd := h.odd
  have t0 : ((p : Int) % 2 == 0) = false := by simp; omega
  clear hodd
  obtain ⟨hd, hp, hm, hr1⟩ := h
  have HD := Lib.hid hd
  have hp2 := hp.1
  have HP := Lib.hid hp
  obtain ⟨m, rfl⟩ : ∃ m : Nat, n = (m : Int) := ⟨n.toNat, by unfold Dim at hd; omega⟩
  have hm1 : 4 ≤ m := by unfold Dim at hd; omega
  have hm2 : m ≤ 32 := by unfold Dim at hd; omega
  have t1 : ((((p : Int) - 1) % (2 * (m : Int))) != 0) = false := by
    have e : (p : Int) - 1 = ((p - 1 : Nat) : Int) := by omega
    have e2 : (2 * (m : Int)) = ((2 * m : Nat) : Int) := by omega
    rw [Int.toNat_natCast] at hm
    rw [e, e2, ← Int.natCast_emod, hm]; rfl
  obtain ⟨R, rfl⟩ : ∃ R : Nat, r = (R : Int) := ⟨r.toNat, by omega⟩
  clear hd hp hm
  go_enter Try.func19, Try.ntmps19
  go_wp2_with fail
  refine (rdim_any (m : Int) _).mono ?_
  rintro e w1 ⟨b, rfl, hb, rfl⟩
  obtain rfl : b = true := hb.2 HD.out
  clear hb
  go_wp2_with fail
  refine (rprime_pr p _ (by omega)).mono ?_
  rintro e w1 ⟨b, rfl, hb, g1⟩
  obtain rfl : b = true := hb.2 HP.out
  clear hb
  go_wp2_with fail
  clear t0 t1
  go_loop [8, 9] (fun x y => ∃ i q : Nat, x = .int .u64 q ∧ y = .int .i64 i ∧ i ≤ R ∧ q = p ^ i ∧ q ≤ 2147483647) (fun _ y => R - (intOf y).toNat)
  case atStart => exact ⟨0, 1, rfl, rfl, by omega, by simp, by omega⟩
  case round =>
    obtain ⟨i, q, rfl, rfl, hi, hq, hqb⟩ := hrel
    have HQ := Lib.hid hq
    clear hq
    by_cases hlt : i < R
    · have p0 : (0 : Int) ≤ (q : Int) * p := mul_lo (by omega) (by omega)
      have p1 : (q : Int) * p ≤ 18446744065119617025 := mul_hi (by omega) (by omega) (by omega) (by omega)
      have hv : (q : Int) * p = ((q * p : Nat) : Int) := by rw [Int.natCast_mul]
      by_cases hbig : q * p ≤ 2147483647
      · have t3 : decide ((2147483647 : Int) < (q : Int) * p) = false := by rw [hv]; simp; omega
        have HV := Lib.hid hv
        have HB := Lib.hid hbig
        clear hv hbig
        go_wp2_with fail
        go_round
        case rel => exact ⟨i + 1, q * p, by rw [HV.out], by go_num, by omega, by rw [Nat.pow_succ, HQ.out], HB.out⟩
        case measure => simp [intOf]; omega
      · have t3 : decide ((2147483647 : Int) < (q : Int) * p) = true := by rw [hv]; simp; omega
        have HB := Lib.hid (pow_more (i := i) (r := R) hp2 (by rw [← HQ.out]; omega) hlt)
        clear hv hbig
        go_wp2_with fail
        go_ret2
        exact ⟨0, 7, rfl, .inr (.inl ⟨HOK.out, by rw [Int.toNat_natCast]; exact HB.out, rfl, rfl⟩), g1⟩
    · obtain rfl : i = R := by omega
      go_wp2_with fail
      go_ret2
      exact ⟨q, 0, rfl, .inr (.inr ⟨HOK.out, by rw [Int.toNat_natCast, ← HQ.out]; exact hqb, by rw [Int.toNat_natCast, HQ.out], rfl⟩), g1⟩

set_option maxRecDepth 100000 in
set_option maxHeartbeats 2000000 in
theorem rplain_bad (n : Int) (p : Nat) (r : Int) (w : World) (hp' : p ≤ 4294967295) (h : ¬ PlainOk n p r) :
    Calls Try.prog 19 #[.int .i64 n, .int .u32 p, .int .i64 r] w (NumPost (PlainR n p r) w) := by
  have fin : ∀ w w' : World, Gr w w' → NumPost (PlainR n p r) w (.returned (.tuple #[.int .u32 0, .int .i64 2])) w' := fun w w' g => ⟨0, 2, rfl, .inl ⟨h, rfl, rfl⟩, g⟩
  have HF := Lib.hid fin
  clear fin
  by_cases hd : Dim n
  · have HD := Lib.hid hd
    by_cases ho : p % 2 = 0
    · have t0 : ((p : Int) % 2 == 0) = true := by simp; omega
      clear h hd ho
      go_enter Try.func19, Try.ntmps19
      go_wp2_with fail
      refine (rdim_any n _).mono ?_
      rintro e w1 ⟨b, rfl, hb, rfl⟩
      obtain rfl : b = true := hb.2 HD.out
      clear hb
      go_wp2_with fail
      go_ret2
      exact HF.out _ _ (Gr.refl _)
    have t0 : ((p : Int) % 2 == 0) = false := by simp; omega
    clear ho
    by_cases hp : Ob.Pr p
    · have HP := Lib.hid hp
      have hp2 := hp.1
      obtain ⟨m, rfl⟩ : ∃ m : Nat, n = (m : Int) := ⟨n.toNat, by unfold Dim at hd; omega⟩
      have hm1 : 4 ≤ m := by unfold Dim at hd; omega
      have hm2 : m ≤ 32 := by unfold Dim at hd; omega
      have e : (p : Int) - 1 = ((p - 1 : Nat) : Int) := by omega
      have e2 : (2 * (m : Int)) = ((2 * m : Nat) : Int) := by omega
      by_cases hm : (p - 1) % (2 * m) = 0
      · have t1 : ((((p : Int) - 1) % (2 * (m : Int))) != 0) = false := by
          rw [e, e2, ← Int.natCast_emod, hm]; rfl
        have hr : r < 1 := Int.not_le.1 fun hr => h ⟨hd, hp, by rw [Int.toNat_natCast]; exact hm, hr⟩
        clear h hd hp hm e e2
        go_enter Try.func19, Try.ntmps19
        go_wp2_with fail
        refine (rdim_any (m : Int) _).mono ?_
        rintro e w1 ⟨b, rfl, hb, rfl⟩
        obtain rfl : b = true := hb.2 HD.out
        clear hb
        go_wp2_with fail
        refine (rprime_pr p _ (by omega)).mono ?_
        rintro e w1 ⟨b, rfl, hb, g1⟩
        obtain rfl : b = true := hb.2 HP.out
        clear hb
        go_wp2_with fail
        go_ret2
        exact HF.out _ _ g1
      · have t1 : ((((p : Int) - 1) % (2 * (m : Int))) != 0) = true := by
          rw [e, e2, ← Int.natCast_emod]
          generalize (p - 1) % (2 * m) = x at hm ⊢
          simp; omega
        clear h hd hp hm e e2
        go_enter Try.func19, Try.ntmps19
        go_wp2_with fail
        refine (rdim_any (m : Int) _).mono ?_
        rintro e w1 ⟨b, rfl, hb, rfl⟩
        obtain rfl : b = true := hb.2 HD.out
        clear hb
        go_wp2_with fail
        refine (rprime_pr p _ (by omega)).mono ?_
        rintro e w1 ⟨b, rfl, hb, g1⟩
        obtain rfl : b = true := hb.2 HP.out
        clear hb
        go_wp2_with fail
        go_ret2
        exact HF.out _ _ g1
    · have HP := Lib.hid hp
      clear h hd hp
      go_enter Try.func19, Try.ntmps19
      go_wp2_with fail
      refine (rdim_any n _).mono ?_
      rintro e w1 ⟨b, rfl, hb, rfl⟩
      obtain rfl : b = true := hb.2 HD.out
      clear hb
      go_wp2_with fail
      refine (rprime_pr p _ (by omega)).mono ?_
      rintro e w1 ⟨b, rfl, hb, g1⟩
      obtain rfl : b = false := by cases b; rfl; exact absurd (hb.1 rfl) HP.out
      clear hb
      go_wp2_with fail
      go_ret2
      exact HF.out _ _ g1
  · have HD := Lib.hid hd
    clear h hd
    go_enter Try.func19, Try.ntmps19
    go_wp2_with fail
    refine (rdim_any n _).mono ?_
    rintro e w1 ⟨b, rfl, hb, rfl⟩
    obtain rfl : b = false := by cases b; rfl; exact absurd (hb.1 rfl) HD.out
    clear hb
    go_wp2_with fail
    go_ret2
    exact HF.out _ _ (Gr.refl _)

theorem rplain_any (n : Int) (p : Nat) (r : Int) (w : World) (hp' : p ≤ 4294967295) (hr' : r ≤ 9223372036854775807) :
    Calls Try.prog 19 #[.int .i64 n, .int .u32 p, .int .i64 r] w (NumPost (PlainR n p r) w) := by
  by_cases h : PlainOk n p r
  · exact rplain_ok n p r w hp' hr' h
  · exact rplain_bad n p r w hp' h
end Go.Proofs.Ytdkpgocbdphneaa
