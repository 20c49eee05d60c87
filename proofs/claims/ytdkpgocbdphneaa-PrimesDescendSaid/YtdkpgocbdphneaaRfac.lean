/- What the reference's Factors returns: the same factors. -/
import Derived.Test.YtdkpgocbdphneaaShown
namespace Go.Proofs.Ytdkpgocbdphneaa
open Go.RowKit
set_option linter.unusedVariables false

theorem rfactors_zero (w : World) : Calls Try.prog 38 #[.int .u32 0] w fun e w' => e = .returned (.tuple #[.slice none 0 0, .int .i64 2]) ∧ w = w' := by
  go_enter Try.func38, Try.ntmps38
  go_wp2_with fail
  go_ret2
  exact ⟨rfl, rfl⟩

theorem grown_row {w a b : World} {b' : Obj} {e : TypeId} {size k : Nat} {v : Value} {xs : List Value} (h : Gr w (a.alloc b')) (ho : a.ownsRow w.heap.size e size v k xs) (hg : (a.alloc b').grownBy b v.ownBlock) : Gr w b := by
  refine Below.grown h hg h.size (fun j ej => ?_)
  rcases ho.2 with ⟨rfl, _⟩ | ⟨g, cap, cur, rfl, hb, _, _⟩
  · simp [Value.ownBlock] at ej
  · obtain rfl : g = j := by simpa [Value.ownBlock] using ej
    exact hb

theorem cast_lt_sq {r d : Nat} (h : r < d * d) : (r : Int) < (d : Int) * d := by
  rw [← Int.natCast_mul]; omega
theorem cast_sq_le {d : Nat} (h : d * d ≤ 18446744065119617025) : (d : Int) * d ≤ 18446744065119617025 := by
  rw [← Int.natCast_mul]; omega
theorem cast_sq_not {r d : Nat} (h : ¬ r < d * d) : ¬ (r : Int) < (d : Int) * d := by
  rw [← Int.natCast_mul]; omega

theorem rpow_step {r d k r' : Nat} (h : r = d ^ k * r') (hd : r' % d = 0) : r = d ^ (k + 1) * (r' / d) := by
  rw [h, Nat.pow_succ, Nat.mul_assoc, Nat.mul_div_cancel' (Nat.dvd_of_mod_eq_zero hd)]

/-- The measure of the reference's outer loop. -/
def rm (n : Nat) (x d : Int) : Nat := if x ≤ 1 then 0 else n + 1 - d.toNat
def rmeas (n : Nat) (x d : Value) : Nat := rm n (intOf x) (intOf d)
theorem rm_lt {n r r' d d' : Nat} (hr : 1 < r) (hd : d ≤ n) (hd' : 1 < r' → d + 1 ≤ d') : rm n (r' : Nat) (d' : Nat) < rm n (r : Nat) (d : Nat) := by
  unfold rm
  rw [if_neg (by omega : ¬ ((r : Int) ≤ 1))]
  by_cases h : (r' : Int) ≤ 1
  · rw [if_pos h]; omega
  · rw [if_neg h]; have := hd' (by omega); omega
theorem rmeas_lt {n r r' d d' : Nat} (hr : 1 < r) (hd : d ≤ n) (hd' : 1 < r' → d + 1 ≤ d') : rmeas n (.int .u32 (r' : Nat)) (.int .u64 (d' : Nat)) < rmeas n (.int .u32 (r : Nat)) (.int .u64 (d : Nat)) := rm_lt hr hd hd'
theorem rmeas_lt' {n r r' d d' : Nat} {x y : Int} (hx : x = (r' : Nat)) (hy : y = (d' : Nat)) (hr : 1 < r) (hd : d ≤ n) (hd' : 1 < r' → d + 1 ≤ d') : rmeas n (.int .u32 x) (.int .u64 y) < rmeas n (.int .u32 (r : Nat)) (.int .u64 (d : Nat)) := by
  rw [hx, hy]; exact rmeas_lt hr hd hd'

set_option maxRecDepth 100000 in
set_option maxHeartbeats 2000000 in
theorem rfactors_any (n : Nat) (w : World) (hn : 1 ≤ n) (hn' : n ≤ 4294967295) :
    Calls Try.prog 38 #[.int .u32 n] w (FacPost n w) := by
  obtain ⟨i0, hi, hz0, hz1, hz2⟩ := info_parts infoPower
  have h0 : ((n : Int) == 0) = false := by simp; omega
  go_enter Try.func38, Try.ntmps38
  go_wp2_with fail
  go_loopw [0, 4, 5] (fun x v d wr => ∃ (r δ : Nat) (acc : List (Nat × Nat)), x = .int .u32 r ∧ d = .int .u64 δ ∧ 1 ≤ r ∧ r ≤ n ∧ 2 ≤ δ ∧ δ ≤ 4294967296 ∧ wr.ownsRow w.heap.size 46 2 v acc.length (fcells acc) ∧ Gr w wr ∧ Ob.Tr n acc r δ ∧ 2 ^ acc.length * r ≤ n) (fun x _ d _ => rmeas n x d)
  case atStart => exact ⟨n, 2, [], rfl, rfl, hn, Nat.le_refl _, by omega, by omega, World.ownsRow_nil _ _ _ _, Gr.refl _, Ob.Tr.start n, by simp⟩
  case round =>
    obtain ⟨wo, rfl⟩ : ∃ wo : World, wo = wr := ⟨_, rfl⟩
    obtain ⟨r, δ, acc, rfl, rfl, hr1, hr2, hd2, hd3, hown, hgr, htr, hpw⟩ := hrel
    have HT := Lib.hid htr
    have HOWN := Lib.hid hown
    have HPW := Lib.hid hpw
    have hal := Ob.len_small hpw hr1 (by omega)
    have hb1 : acc.length + 1 ≤ maxLen := by unfold maxLen; omega
    have hb2 : (acc.length + 1) * 16 ≤ 140737488355328 := by omega
    have hsz := hgr.size
    clear htr hown hpw
    by_cases hr : 1 < r
    · have hdr := HT.out.le hr
      have hsq : δ * δ ≤ 18446744065119617025 := Nat.mul_le_mul (show δ ≤ 4294967295 by omega) (show δ ≤ 4294967295 by omega)
      by_cases hbig : r < δ * δ
      · have hbig' := cast_lt_sq hbig
        have hsq' := cast_sq_le hsq
        have HJ := Lib.hid (HT.out.jump hbig)
        clear hbig hsq
        go_wp2_with fail
        go_loop [0, 6] (fun x e => ∃ r' k : Nat, x = .int .u32 r' ∧ e = .int .i64 k ∧ 1 ≤ r' ∧ r' ≤ r ∧ k ≤ 4294967295 ∧ r = r ^ k * r') (fun x _ => (intOf x).toNat)
        case atStart => exact ⟨r, 0, rfl, rfl, hr1, Nat.le_refl _, by omega, by simp⟩
        case round =>
          obtain ⟨r', k, rfl, rfl, hr', hr'', hk, hrk⟩ := hrel
          have hkr : k < r := by
            have h1 : k < r ^ k := Nat.lt_pow_self (by omega)
            have h2 : r ^ k * 1 ≤ r ^ k * r' := Nat.mul_le_mul_left _ hr'
            omega
          have HRK := Lib.hid hrk
          clear hrk
          obtain ⟨q0, q1⟩ := div_fits r' r (by omega)
          obtain ⟨m0, m1⟩ := mod_fits r' r (by omega)
          by_cases hdv : r' % r = 0
          · have hb0 : ((r' : Int) % (r : Int) == 0) = true := by simp; omega
            have HDV := Lib.hid hdv
            clear hdv
            have hdle : r' / r ≤ r' := Nat.div_le_self _ _
            go_wp2_with fail
            refine ⟨⟨r' / r, k + 1, by rw [Int.natCast_ediv], by go_num, ?_, by omega, by omega, rpow_step HRK.out HDV.out⟩, ?_⟩
            · exact Nat.div_pos (Nat.le_of_dvd (by omega) (Nat.dvd_of_mod_eq_zero HDV.out)) (by omega)
            · simp only [intOf]
              rw [← Int.natCast_ediv]
              have := Nat.div_lt_self (show 0 < r' by omega) (show 1 < r by omega)
              omega
          · have hb0 : ((r' : Int) % (r : Int) == 0) = false := by simp; omega
            have HDV := Lib.hid (fun h : r ∣ r' => hdv (Nat.mod_eq_zero_of_dvd h))
            clear hdv
            by_cases hk0 : 0 < k
            · have HT2 := Lib.hid (HJ.out.hit (by omega) HRK.out hk0 HDV.out)
              have HP2 := Lib.hid (Ob.two_pow_step HPW.out HRK.out (by omega) hk0)
              go_wp2_with (at_builtin; refine wpList_append_own _ rfl _ _ 42 rfl w.heap.size 46 i0 (.agg #[.int .u32 0, .int .i64 0]) 2 16 Try.underlying42 hi hz0 hz1 hz2 rfl (by decide) _ _ _ rfl (HOWN.out.alloc _) ⟨wo.heap.size, 0, none⟩ 1 1 [.int .u32 (r : Nat), .int .i64 (k : Nat)] rfl rfl (two_new _ _ _ _) (by simp [Value.oneCell']) hb1 hb2 (by simp; omega) ?_; intro v' w1 hown' hgrow _; have HOWN2 := Lib.hid hown'; have HG2 := Lib.hid (grown_row (hgr.alloc _) HOWN.out hgrow); clear hown' hgrow)
              exact ⟨⟨r', r + 1, acc ++ [(r, k)], rfl, by go_num, hr', by omega, by omega, by omega, by rw [fcells_append, List.length_append]; exact HOWN2.out, HG2.out, HT2.out, by rw [List.length_append]; exact HP2.out⟩, rmeas_lt' (d' := r + 1) rfl (by omega) hr (by omega) (fun _ => by omega)⟩
            · obtain rfl : k = 0 := by omega
              have hrr : r = r' := by have := HRK.out; simpa using this
              exact absurd (by rw [← hrr]; exact Nat.dvd_refl _) HDV.out
      · have hbig' := cast_sq_not hbig
        have hsq' := cast_sq_le hsq
        have hsq0 : 0 ≤ (δ : Int) * δ := Int.mul_nonneg (by omega) (by omega)
        clear hbig hsq
        go_wp2_with fail
        go_loop [0, 6] (fun x e => ∃ r' k : Nat, x = .int .u32 r' ∧ e = .int .i64 k ∧ 1 ≤ r' ∧ r' ≤ r ∧ k ≤ 4294967295 ∧ r = δ ^ k * r') (fun x _ => (intOf x).toNat)
        case atStart => exact ⟨r, 0, rfl, rfl, hr1, Nat.le_refl _, by omega, by simp⟩
        case round =>
          obtain ⟨r', k, rfl, rfl, hr', hr'', hk, hrk⟩ := hrel
          have hkr : k < r := by
            have h1 : k < δ ^ k := Nat.lt_pow_self (by omega)
            have h2 : δ ^ k * 1 ≤ δ ^ k * r' := Nat.mul_le_mul_left _ hr'
            omega
          have HRK := Lib.hid hrk
          clear hrk
          obtain ⟨q0, q1⟩ := div_fits r' δ (by omega)
          obtain ⟨m0, m1⟩ := mod_fits r' δ (by omega)
          by_cases hdv : r' % δ = 0
          · have hb0 : ((r' : Int) % (δ : Int) == 0) = true := by simp; omega
            have HDV := Lib.hid hdv
            clear hdv
            have hdle : r' / δ ≤ r' := Nat.div_le_self _ _
            go_wp2_with fail
            refine ⟨⟨r' / δ, k + 1, by rw [Int.natCast_ediv], by go_num, ?_, by omega, by omega, rpow_step HRK.out HDV.out⟩, ?_⟩
            · exact Nat.div_pos (Nat.le_of_dvd (by omega) (Nat.dvd_of_mod_eq_zero HDV.out)) (by omega)
            · simp only [intOf]
              rw [← Int.natCast_ediv]
              have := Nat.div_lt_self (show 0 < r' by omega) (show 1 < δ by omega)
              omega
          · have hb0 : ((r' : Int) % (δ : Int) == 0) = false := by simp; omega
            have HDV := Lib.hid (fun h : δ ∣ r' => hdv (Nat.mod_eq_zero_of_dvd h))
            clear hdv
            by_cases hk0 : 0 < k
            · have HT2 := Lib.hid (HT.out.hit (by omega) HRK.out hk0 HDV.out)
              have HP2 := Lib.hid (Ob.two_pow_step HPW.out HRK.out (by omega) hk0)
              go_wp2_with (at_builtin; refine wpList_append_own _ rfl _ _ 42 rfl w.heap.size 46 i0 (.agg #[.int .u32 0, .int .i64 0]) 2 16 Try.underlying42 hi hz0 hz1 hz2 rfl (by decide) _ _ _ rfl (HOWN.out.alloc _) ⟨wo.heap.size, 0, none⟩ 1 1 [.int .u32 (δ : Nat), .int .i64 (k : Nat)] rfl rfl (two_new _ _ _ _) (by simp [Value.oneCell']) hb1 hb2 (by simp; omega) ?_; intro v' w1 hown' hgrow _; have HOWN2 := Lib.hid hown'; have HG2 := Lib.hid (grown_row (hgr.alloc _) HOWN.out hgrow); clear hown' hgrow)
              exact ⟨⟨r', δ + 1, acc ++ [(δ, k)], rfl, by go_num, hr', by omega, by omega, by omega, by rw [fcells_append, List.length_append]; exact HOWN2.out, HG2.out, HT2.out, by rw [List.length_append]; exact HP2.out⟩, rmeas_lt' (d' := δ + 1) rfl (by omega) hr (by omega) (fun _ => by omega)⟩
            · obtain rfl : k = 0 := by omega
              have hrr : r = r' := by have := HRK.out; simpa using this
              have HT2 := Lib.hid (HT.out.skip (by rw [hrr]; exact HDV.out))
              have HRR := Lib.hid hrr
              clear hrr
              go_wp2_with fail
              exact ⟨⟨r', δ + 1, acc, rfl, by go_num, hr', by omega, by omega, by omega, HOWN.out, hgr, by rw [← HRR.out]; exact HT2.out, by rw [← HRR.out]; exact HPW.out⟩, rmeas_lt' (d' := δ + 1) rfl (by omega) hr (by omega) (fun _ => by omega)⟩
    · obtain rfl : r = 1 := by omega
      go_wp2_with fail
      go_ret2
      exact ⟨_, acc, rfl, HT.out.end, HOWN.out, hgr⟩
end Go.Proofs.Ytdkpgocbdphneaa
