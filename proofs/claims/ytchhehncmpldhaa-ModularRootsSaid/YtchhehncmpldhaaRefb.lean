/- What the reference's functions return for arguments that are not valid, and its Inverse. -/
import Derived.Test.YtchhehncmpldhaaRef
namespace Go.Proofs.Ytchhehncmpldhaa
open Go.RowKit
set_option linter.unusedVariables false

theorem radd_bad (a b n : Int) (w : World) (h : (n < 2 ∨ 2147483647 < n) ∨ n ≤ a ∨ n ≤ b) :
    Calls Try.prog 12 #[.int .u32 a, .int .u32 b, .int .u32 n] w (Two 0 2 w) := by
  by_cases hm : n < 2 ∨ 2147483647 < n
  · have H := Lib.hid hm
    clear h hm
    go_enter Try.func12, Try.ntmps12
    go_wp2_with (go_at_call 39; refine (rmodulus_bad n _ H.out).mono ?_; rintro e w' ⟨rfl, rfl⟩)
    go_ret2
    exact ⟨rfl, Gr.refl _⟩
  · have h1 : 2 ≤ n := by omega
    have h2 : n ≤ 2147483647 := by omega
    by_cases ha : a < n
    · have hb : ¬ b < n := by omega
      clear h hm
      go_enter Try.func12, Try.ntmps12
      go_wp2_with (go_at_call 39; refine (rmodulus_ok n _ h1 h2).mono ?_; rintro e w' ⟨rfl, rfl⟩)
      go_ret2
      exact ⟨rfl, Gr.refl _⟩
    · clear h hm
      go_enter Try.func12, Try.ntmps12
      go_wp2_with (go_at_call 39; refine (rmodulus_ok n _ h1 h2).mono ?_; rintro e w' ⟨rfl, rfl⟩)
      go_ret2
      exact ⟨rfl, Gr.refl _⟩

theorem rsub_bad (a b n : Int) (w : World) (h : (n < 2 ∨ 2147483647 < n) ∨ n ≤ a ∨ n ≤ b) :
    Calls Try.prog 14 #[.int .u32 a, .int .u32 b, .int .u32 n] w (Two 0 2 w) := by
  by_cases hm : n < 2 ∨ 2147483647 < n
  · have H := Lib.hid hm
    clear h hm
    go_enter Try.func14, Try.ntmps14
    go_wp2_with (go_at_call 39; refine (rmodulus_bad n _ H.out).mono ?_; rintro e w' ⟨rfl, rfl⟩)
    go_ret2
    exact ⟨rfl, Gr.refl _⟩
  · have h1 : 2 ≤ n := by omega
    have h2 : n ≤ 2147483647 := by omega
    by_cases ha : a < n
    · have hb : ¬ b < n := by omega
      clear h hm
      go_enter Try.func14, Try.ntmps14
      go_wp2_with (go_at_call 39; refine (rmodulus_ok n _ h1 h2).mono ?_; rintro e w' ⟨rfl, rfl⟩)
      go_ret2
      exact ⟨rfl, Gr.refl _⟩
    · clear h hm
      go_enter Try.func14, Try.ntmps14
      go_wp2_with (go_at_call 39; refine (rmodulus_ok n _ h1 h2).mono ?_; rintro e w' ⟨rfl, rfl⟩)
      go_ret2
      exact ⟨rfl, Gr.refl _⟩

theorem rmul_bad (a b n : Int) (w : World) (h : (n < 2 ∨ 2147483647 < n) ∨ n ≤ a ∨ n ≤ b) :
    Calls Try.prog 16 #[.int .u32 a, .int .u32 b, .int .u32 n] w (Two 0 2 w) := by
  by_cases hm : n < 2 ∨ 2147483647 < n
  · have H := Lib.hid hm
    clear h hm
    go_enter Try.func16, Try.ntmps16
    go_wp2_with (go_at_call 39; refine (rmodulus_bad n _ H.out).mono ?_; rintro e w' ⟨rfl, rfl⟩)
    go_ret2
    exact ⟨rfl, Gr.refl _⟩
  · have h1 : 2 ≤ n := by omega
    have h2 : n ≤ 2147483647 := by omega
    by_cases ha : a < n
    · have hb : ¬ b < n := by omega
      clear h hm
      go_enter Try.func16, Try.ntmps16
      go_wp2_with (go_at_call 39; refine (rmodulus_ok n _ h1 h2).mono ?_; rintro e w' ⟨rfl, rfl⟩)
      go_ret2
      exact ⟨rfl, Gr.refl _⟩
    · clear h hm
      go_enter Try.func16, Try.ntmps16
      go_wp2_with (go_at_call 39; refine (rmodulus_ok n _ h1 h2).mono ?_; rintro e w' ⟨rfl, rfl⟩)
      go_ret2
      exact ⟨rfl, Gr.refl _⟩

theorem rpow_bad (a k n : Int) (w : World) (h : (n < 2 ∨ 2147483647 < n) ∨ n ≤ a) :
    Calls Try.prog 23 #[.int .u32 a, .int .u64 k, .int .u32 n] w (Two 0 2 w) := by
  by_cases hm : n < 2 ∨ 2147483647 < n
  · have H := Lib.hid hm
    clear h hm
    go_enter Try.func23, Try.ntmps23
    go_wp2_with (go_at_call 39; refine (rmodulus_bad n _ H.out).mono ?_; rintro e w' ⟨rfl, rfl⟩)
    go_ret2
    exact ⟨rfl, Gr.refl _⟩
  · have h1 : 2 ≤ n := by omega
    have h2 : n ≤ 2147483647 := by omega
    have ha : ¬ a < n := by omega
    clear h hm
    go_enter Try.func23, Try.ntmps23
    go_wp2_with (go_at_call 39; refine (rmodulus_ok n _ h1 h2).mono ?_; rintro e w' ⟨rfl, rfl⟩)
    go_ret2
    exact ⟨rfl, Gr.refl _⟩

theorem rbalanced_bad (a n : Int) (w : World) (h : (n < 2 ∨ 2147483647 < n) ∨ n ≤ a) :
    Calls Try.prog 20 #[.int .u32 a, .int .u32 n] w (TwoI 0 2 w) := by
  by_cases hm : n < 2 ∨ 2147483647 < n
  · have H := Lib.hid hm
    clear h hm
    go_enter Try.func20, Try.ntmps20
    go_wp2_with (go_at_call 39; refine (rmodulus_bad n _ H.out).mono ?_; rintro e w' ⟨rfl, rfl⟩)
    go_ret2
    exact ⟨rfl, Gr.refl _⟩
  · have h1 : 2 ≤ n := by omega
    have h2 : n ≤ 2147483647 := by omega
    have ha : ¬ a < n := by omega
    clear h hm
    go_enter Try.func20, Try.ntmps20
    go_wp2_with (go_at_call 39; refine (rmodulus_ok n _ h1 h2).mono ?_; rintro e w' ⟨rfl, rfl⟩)
    go_ret2
    exact ⟨rfl, Gr.refl _⟩

theorem rinverse_bad (a n : Int) (w : World) (h : (n < 2 ∨ 2147483647 < n) ∨ n ≤ a) :
    Calls Try.prog 25 #[.int .u32 a, .int .u32 n] w (Two 0 2 w) := by
  by_cases hm : n < 2 ∨ 2147483647 < n
  · have H := Lib.hid hm
    clear h hm
    go_enter Try.func25, Try.ntmps25
    go_wp2_with (go_at_call 39; refine (rmodulus_bad n _ H.out).mono ?_; rintro e w' ⟨rfl, rfl⟩)
    go_ret2
    exact ⟨rfl, Gr.refl _⟩
  · have h1 : 2 ≤ n := by omega
    have h2 : n ≤ 2147483647 := by omega
    have ha : ¬ a < n := by omega
    clear h hm
    go_enter Try.func25, Try.ntmps25
    go_wp2_with (go_at_call 39; refine (rmodulus_ok n _ h1 h2).mono ?_; rintro e w' ⟨rfl, rfl⟩)
    go_ret2
    exact ⟨rfl, Gr.refl _⟩

theorem Bez.start' (a0 n0 : Nat) (h : 1 ≤ n0) : Bez a0 n0 n0 a0 0 1 where
  ma := by simp
  mn := by simp
  g := Nat.gcd_comm _ _
  x1 := by omega
  x2 := by omega
  y1 := by omega
  y2 := by omega
  s := .inr ⟨by omega, by omega, by simp⟩

/-- The reference's Inverse: the inverse, or the error ErrNone. -/
def RInv (a0 n0 : Nat) (w : World) (e : Ending) (w' : World) : Prop := (Nat.gcd a0 n0 = 1 → InvPost a0 n0 w e w') ∧ (Nat.gcd a0 n0 ≠ 1 → Two 0 4 w e w')

set_option maxHeartbeats 400000 in
theorem rinverse_any (a0 n0 : Nat) (w : World) (h : 2 ≤ n0) (h' : n0 ≤ 2147483647) (ha : a0 < n0) :
    Calls Try.prog 25 #[.int .u32 a0, .int .u32 n0] w (RInv a0 n0 w) := by
  go_enter Try.func25, Try.ntmps25
  go_wp2_with (go_at_call 39; refine (rmodulus_ok n0 _ (by omega) (by omega)).mono ?_; rintro e w' ⟨rfl, rfl⟩)
  go_loop [6, 7, 8, 9] (fun a n x y => ∃ α ν : Nat, ∃ ξ η : Int, a = .int .i64 α ∧ n = .int .i64 ν ∧ x = .int .i64 ξ ∧ y = .int .i64 η ∧ α ≤ 4294967295 ∧ ν ≤ 4294967295 ∧ Bez a0 n0 α ν ξ η) (fun _ n _ _ => (intOf n).toNat)
  case atStart => exact ⟨n0, a0, 0, 1, rfl, rfl, rfl, rfl, by omega, by omega, Bez.start' a0 n0 (by omega)⟩
  case round =>
    obtain ⟨a, n, x, y, rfl, rfl, rfl, rfl, h1, h2, hb⟩ := hrel
    have hx1 := hb.x1
    have hx2 := hb.x2
    have hy1 := hb.y1
    have hy2 := hb.y2
    by_cases h0 : 1 ≤ n
    · obtain ⟨hb2, hp1, hp2⟩ := hb.step h0
      have hz1 := hb2.y1
      have hz2 := hb2.y2
      have hq0 : 0 ≤ (a : Int) / n := Int.ediv_nonneg (by omega) (by omega)
      have hq1 : (a : Int) / n ≤ a := Int.ediv_le_self _ (by omega)
      have hr := nat_sub_div a n
      have hlt : a % n < n := Nat.mod_lt _ (by omega)
      have hm1 : 0 ≤ (a : Int) / n * n := Int.mul_nonneg hq0 (by omega)
      have hm2 : (a : Int) / n * n ≤ a := by omega
      have HR := Lib.hid hr
      clear hr
      have HB := Lib.hid hb2
      clear hb2 hb
      go_wp2
      refine ⟨⟨n, a % n, y, _, rfl, congrArg _ HR.out, rfl, rfl, h2, by omega, HB.out⟩, ?_⟩
      simp only [intOf]
      rw [HR.out]; omega
    · obtain rfl : n = 0 := by omega
      have hg := hb.g
      rw [Nat.gcd_zero_right] at hg
      have HG := Lib.hid hg
      clear hg
      have HM := Lib.hid hb.ma
      clear hb
      by_cases h1' : a = 1
      · have ht : ((a : Int) != 1) = false := by simp; omega
        have HI := Lib.hid (IsInv.of_bezout h (HG.out.symm.trans h1') (by rw [← HG.out]; exact HM.out))
        have H1 := Lib.hid h1'
        clear h1'
        go_wp2_with fail
        refine (rof_ok x n0 _ (by omega) (by omega) (by omega) (by omega)).mono ?_
        rintro e w' ⟨rfl, hgr⟩
        go_wp2_with fail
        go_ret2
        exact ⟨fun _ => ⟨_, ⟨rfl, hgr⟩, HI.out⟩, fun hne => absurd (HG.out.symm.trans H1.out) hne⟩
      · have ht : ((a : Int) != 1) = true := by simp; omega
        go_wp2_with fail
        go_ret2
        exact ⟨fun h1 => absurd (HG.out.trans h1) h1', fun _ => ⟨rfl, Gr.refl _⟩⟩
end Go.Proofs.Ytchhehncmpldhaa
