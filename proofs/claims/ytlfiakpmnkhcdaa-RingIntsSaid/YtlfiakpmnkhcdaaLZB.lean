import Derived.Test.YtlfiakpmnkhcdaaLZA
namespace Go.Proofs.Ytlfiakpmnkhcdaa.Mo
open Go.RowKit
set_option linter.unusedVariables false
theorem rtimes_any (a b n : Int) (w : World) (ha : 0 ≤ a) (ha' : a ≤ 4294967295) (hb : 0 ≤ b) (hb' : b ≤ 4294967295) (hn : 1 ≤ n) (hn' : n ≤ 4294967295) :
    Calls Try.prog 84 #[.int .u32 a, .int .u32 b, .int .u32 n] w fun e w' => e = .returned (.int .u32 (a * b % n)) ∧ w = w' := by
  have h1 := mul_lo ha hb
  have h2 := mul_hi ha hb ha' hb'
  have h3 := emod_lo (a * b) n hn
  have h4 : a * b % n ≤ 4294967295 := by have := emod_hi (a * b) n hn; omega
  go_enter Try.func84, Try.ntmps84
  go_wp2
  go_ret
  exact ⟨rfl, rfl⟩
set_option maxHeartbeats 400000 in
theorem rpower_any (a0 k0 n : Int) (w : World) (ha : 0 ≤ a0) (ha' : a0 ≤ 4294967295) (hk : 0 ≤ k0) (hk' : k0 ≤ 18446744073709551615) (hn : 2 ≤ n) (hn' : n ≤ 4294967295) :
    Calls Try.prog 83 #[.int .u32 a0, .int .u64 k0, .int .u32 n] w fun e w' => e = .returned (.int .u32 (a0 ^ k0.toNat % n)) ∧ w = w' := by
  go_enter Try.func83, Try.ntmps83
  go_wp2_with fail
  go_loop [0, 1, 7] (fun x y z => ∃ a r : Int, ∃ e : Nat, x = .int .u32 a ∧ y = .int .u64 e ∧ z = .int .u32 r ∧ 0 ≤ a ∧ a ≤ 4294967295 ∧ (e : Int) ≤ 18446744073709551615 ∧ 0 ≤ r ∧ r < n ∧ PowInv a0 k0.toNat n r a e) (fun _ y _ => (intOf y).toNat)
  case atStart => exact ⟨a0, 1, k0.toNat, rfl, by rw [Int.toNat_of_nonneg hk], rfl, ha, ha', by omega, by omega, by omega, by simp [PowInv]⟩
  case round =>
    obtain ⟨a, r, e, rfl, rfl, rfl, h1, h2, h3, h4, h5, hinv⟩ := hrel
    by_cases he : 0 < e
    · by_cases ho : e % 2 = 1
      · have HO := Lib.hid ho
        have hand : ((e : Int) % 2 == 1) = true := by simp; omega
        clear ho
        go_wp2_with (go_at_call 84; refine (rtimes_any _ _ n _ (by omega) (by omega) (by omega) (by omega) (by omega) (by omega)).mono ?_; rintro e w' ⟨rfl, rfl⟩)
        refine ⟨⟨_, _, e / 2, rfl, rfl, rfl, emod_lo _ _ (by omega), ?_, by omega, emod_lo _ _ (by omega), emod_hi _ _ (by omega), pow_odd hinv HO.out⟩, by simp [intOf]; omega⟩
        have := emod_hi (a * a) n (by omega); omega
      · have HO := Lib.hid ho
        have hand : ((e : Int) % 2 == 1) = false := by simp; omega
        clear ho
        go_wp2_with (go_at_call 84; refine (rtimes_any _ _ n _ (by omega) (by omega) (by omega) (by omega) (by omega) (by omega)).mono ?_; rintro e w' ⟨rfl, rfl⟩)
        refine ⟨⟨_, _, e / 2, rfl, rfl, rfl, emod_lo _ _ (by omega), ?_, by omega, h4, h5, pow_even hinv (by have := HO.out; omega)⟩, by simp [intOf]; omega⟩
        have := emod_hi (a * a) n (by omega); omega
    · obtain rfl : e = 0 := by omega
      have HE := Lib.hid (pow_end hinv h4 h5)
      go_wp2_with fail
      go_ret
      exact ⟨ret_int HE.out, rfl⟩
end Go.Proofs.Ytlfiakpmnkhcdaa.Mo
namespace Go.Proofs.Ytlfiakpmnkhcdaa.Mo
open Go.RowKit
set_option linter.unusedVariables false
end Go.Proofs.Ytlfiakpmnkhcdaa.Mo
namespace Ob
set_option linter.unusedVariables false
def SP (n b : Nat) : Prop := ∃ o t, n - 1 = o * 2 ^ t ∧ o % 2 = 1 ∧ (b ^ o % n = 1 ∨ ∃ i, i < t ∧ b ^ (o * 2 ^ i) % n = n - 1)
theorem odd_two_unique : ∀ (t s o p : Nat), o % 2 = 1 → p % 2 = 1 → o * 2 ^ t = p * 2 ^ s → o = p ∧ t = s := by
  intro t
  induction t with
  | zero =>
    intro s o p ho hp h
    rcases s with _ | s
    · simp at h; exact ⟨h, rfl⟩
    · rw [Nat.pow_succ, ← Nat.mul_assoc] at h
      simp at h; omega
  | succ t ih =>
    intro s o p ho hp h
    rcases s with _ | s
    · rw [Nat.pow_succ, ← Nat.mul_assoc] at h
      simp at h; omega
    · rw [Nat.pow_succ, Nat.pow_succ, ← Nat.mul_assoc, ← Nat.mul_assoc] at h
      obtain ⟨h1, h2⟩ := ih s o p ho hp (by omega)
      exact ⟨h1, by omega⟩
theorem SP.iff {n b o t : Nat} (h : n - 1 = o * 2 ^ t) (ho : o % 2 = 1) : SP n b ↔ (b ^ o % n = 1 ∨ ∃ i, i < t ∧ b ^ (o * 2 ^ i) % n = n - 1) := by
  constructor
  · rintro ⟨o', t', h', ho', hs⟩
    obtain ⟨rfl, rfl⟩ := odd_two_unique t t' o o' ho ho' (h.symm.trans h')
    exact hs
  · intro hs; exact ⟨o, t, h, ho, hs⟩
theorem pow_two_lt {o t n : Nat} (h : n - 1 = o * 2 ^ t) (ho : 1 ≤ o) : t < n - 1 := by
  have h1 : t < 2 ^ t := Nat.lt_two_pow_self
  have h2 : 1 * 2 ^ t ≤ o * 2 ^ t := Nat.mul_le_mul_right _ ho
  omega
theorem sq_step (b o i n : Nat) : (b ^ (o * 2 ^ i) % n) * (b ^ (o * 2 ^ i) % n) % n = b ^ (o * 2 ^ (i + 1)) % n := by
  rw [← Nat.mul_mod, ← Nat.pow_add, Nat.pow_succ, ← Nat.mul_assoc, Nat.mul_two]
end Ob
namespace Go.Proofs.Ytlfiakpmnkhcdaa.Mo
open Go.RowKit
set_option linter.unusedVariables false
def BoolPost (P : Prop) (w : World) (e : Ending) (w' : World) : Prop := ∃ r : Bool, e = .returned (.bool r) ∧ (r = true ↔ P) ∧ Gr w w'
theorem cast_pow (b n o : Nat) : ((b : Int) % n) ^ (o : Int).toNat % n = ((b ^ o % n : Nat) : Int) := by
  rw [← int_pow_emod, Int.toNat_natCast, Int.natCast_emod, Int.natCast_pow]
theorem half_step {n o t : Nat} (h : n - 1 = o * 2 ^ t) (he : o % 2 = 0) : n - 1 = o / 2 * 2 ^ (t + 1) := by
  rw [h, Nat.pow_succ]
  have : o = o / 2 * 2 := by omega
  conv => lhs; rw [this, Nat.mul_assoc, Nat.mul_comm 2]
set_option maxHeartbeats 1000000 in
theorem strong_any (n b : Nat) (w : World) (hn : 3 ≤ n) (hn' : n ≤ 4294967295) (hb : b ≤ 100) :
    Calls Try.prog 74 #[.int .u32 n, .int .u32 b] w (BoolPost (b % n = 0 ∨ Ob.SP n b) w) := by
  by_cases h0 : b % n = 0
  · have ht : (((b : Int) % (n : Int)) == 0) = true := by simp; omega
    have H0 := Lib.hid h0
    clear h0
    go_enter Try.func74, Try.ntmps74
    go_wp2_with fail
    go_ret
    exact ⟨true, rfl, by simp [H0.out], Gr.refl _⟩
  · have ht : (((b : Int) % (n : Int)) == 0) = false := by simp; omega
    have H0 := Lib.hid h0
    clear h0
    go_enter Try.func74, Try.ntmps74
    go_wp2_with fail
    go_loop [5, 6] (fun x y => ∃ o t : Nat, x = .int .u32 o ∧ y = .int .i64 t ∧ 1 ≤ o ∧ o ≤ 4294967295 ∧ t ≤ 4294967295 ∧ n - 1 = o * 2 ^ t) (fun x _ => (intOf x).toNat)
    case atStart => exact ⟨n - 1, 0, by congr 1; omega, rfl, by omega, by omega, by omega, by simp⟩
    case round =>
      obtain ⟨o, t, rfl, rfl, h1, h2, h3, h4⟩ := hrel
      have hlt := Ob.pow_two_lt h4 h1
      have H4 := Lib.hid h4
      clear h4
      by_cases he : o % 2 = 0
      · have hev : ((o : Int) % 2 == 0) = true := by simp; omega
        have HE := Lib.hid he
        clear he
        have H5 := Lib.hid (half_step H4.out HE.out)
        go_wp2_with fail
        refine ⟨⟨o / 2, t + 1, rfl, by go_num, by have := HE.out; omega, by omega, by omega, H5.out⟩, by simp [intOf]; omega⟩
      · have hod : ((o : Int) % 2 == 0) = false := by simp; omega
        have HS := Lib.hid (Ob.SP.iff (b := b) H4.out (by omega))
        clear he
        go_wp2_with fail
        refine (products_any n _).mono ?_
        rintro e w' ⟨rfl, rfl⟩
        have hB := cell_new w (.int .u32 n) 22
        have HB := Lib.hid hB
        clear hB
        have hgr : Gr w (w.alloc (.cells #[.int .u32 n] 22)) := Gr.new _ _
        generalize hW : w.alloc (.cells #[.int .u32 n] 22) = W at *
        clear hW
        have hbm : (0 : Int) ≤ (b : Int) % n := by omega
        have hbm2 : (b : Int) % n ≤ 4294967295 := by have : b % n < n := Nat.mod_lt _ (by omega); omega
        go_wp2_with fail
        refine (power_any _ o n w.heap.size _ hbm hbm2 (by omega) (by omega) (by omega) (by omega) HB.out).mono ?_
        rintro e w' ⟨rfl, rfl⟩
        rw [cast_pow]
        have hx : b ^ o % n < n := Nat.mod_lt _ (by omega)
        obtain ⟨x, hxx⟩ : ∃ x, x = b ^ o % n := ⟨_, rfl⟩
        rw [← hxx] at hx ⊢
        have HX := Lib.hid hxx
        clear hxx
        by_cases hx1 : x = 1
        · have hb1 : ((x : Int) == 1) = true := by simp; omega
          have H1 := Lib.hid hx1
          clear hx1
          go_wp2_with fail
          go_ret
          exact ⟨true, rfl, by simp only [true_iff]; exact .inr (HS.out.2 (.inl (HX.out.symm.trans H1.out))), hgr⟩
        · have hb1 : ((x : Int) == 1) = false := by simp; omega
          have H1 := Lib.hid hx1
          clear hx1
          go_wp2_with fail
          go_loop [8, 34] (fun y j => ∃ z i : Nat, y = .int .u32 z ∧ j = .int .i64 i ∧ i ≤ t ∧ z < n ∧ z = b ^ (o * 2 ^ i) % n ∧ ∀ j, j < i → b ^ (o * 2 ^ j) % n ≠ n - 1) (fun _ j => t - (intOf j).toNat)
          case atStart => exact ⟨x, 0, rfl, rfl, by omega, hx, by rw [HX.out]; simp, by intro j hj; omega⟩
          case round =>
            obtain ⟨z, i, rfl, rfl, hi, hz, hzz, hall⟩ := hrel
            have HA := Lib.hid hall
            have HZ := Lib.hid hzz
            clear hall hzz
            by_cases hlt2 : i < t
            · by_cases hq : z = n - 1
              · have hq1 : ((z : Int) == (n : Int) - 1) = true := by simp; omega
                have HQ := Lib.hid hq
                clear hq
                go_wp2_with fail
                go_ret
                exact ⟨true, rfl, by simp only [true_iff]; exact .inr (HS.out.2 (.inr ⟨i, hlt2, HZ.out.symm.trans HQ.out⟩)), hgr⟩
              · have hq1 : ((z : Int) == (n : Int) - 1) = false := by simp; omega
                have HQ := Lib.hid hq
                clear hq
                have hzlo := emod_lo ((z : Int) * z) n (by omega)
                have hzhi := emod_hi ((z : Int) * z) n (by omega)
                go_wp2_with fail
                refine (times_any z z n w.heap.size _ (by omega) (by omega) (by omega) (by omega) (by omega) (by omega) HB.out).mono ?_
                rintro e w' ⟨rfl, rfl⟩
                go_wp2_with fail
                refine ⟨⟨z * z % n, i + 1, by rw [Int.natCast_emod, Int.natCast_mul], by go_num, by omega, Nat.mod_lt _ (by omega), ?_, ?_⟩, by simp [intOf]; omega⟩
                · rw [HZ.out]; exact Ob.sq_step b o i n
                · intro j hj
                  by_cases e : j = i
                  · rw [e, ← HZ.out]; exact HQ.out
                  · exact HA.out j (by omega)
            · go_wp2_with fail
              go_ret
              refine ⟨false, rfl, ?_, hgr⟩
              simp only [Bool.false_eq_true, false_iff]
              rintro (h | h)
              · exact H0.out h
              · rcases HS.out.1 h with h | ⟨j, hj, hj2⟩
                · exact H1.out (HX.out.trans h)
                · exact HA.out j (by omega) hj2
def Passes (n b : Nat) : Prop := b % n = 0 ∨ Ob.SP n b
def Prm (n : Nat) : Prop := n = 2 ∨ (3 ≤ n ∧ n % 2 = 1 ∧ Passes n 2 ∧ Passes n 7 ∧ Passes n 61)
theorem Prm.not2 {n : Nat} (hn : 3 ≤ n) (h : false = true ↔ Passes n 2) : (false = true) ↔ Prm n := by
  simp only [Bool.false_eq_true, false_iff] at *; unfold Prm; rintro (h2 | ⟨_, _, h2, _⟩) <;> first | omega | exact h h2
theorem Prm.not7 {n : Nat} (hn : 3 ≤ n) (h : false = true ↔ Passes n 7) : (false = true) ↔ Prm n := by
  simp only [Bool.false_eq_true, false_iff] at *; unfold Prm; rintro (h2 | ⟨_, _, _, h2, _⟩) <;> first | omega | exact h h2
theorem Prm.not61 {n : Nat} (hn : 3 ≤ n) (h : false = true ↔ Passes n 61) : (false = true) ↔ Prm n := by
  simp only [Bool.false_eq_true, false_iff] at *; unfold Prm; rintro (h2 | ⟨_, _, _, _, h2⟩) <;> first | omega | exact h h2
theorem idx0 (w : World) : (Instr.index 110 (.agg #[.int .u32 2, .int .u32 7, .int .u32 61]) (.int .i64 0)).run Try.prog w = .ok (.int .u32 2) w := by kernel_rfl
theorem idx1 (w : World) : (Instr.index 110 (.agg #[.int .u32 2, .int .u32 7, .int .u32 61]) (.int .i64 1)).run Try.prog w = .ok (.int .u32 7) w := by kernel_rfl
theorem idx2 (w : World) : (Instr.index 110 (.agg #[.int .u32 2, .int .u32 7, .int .u32 61]) (.int .i64 2)).run Try.prog w = .ok (.int .u32 61) w := by kernel_rfl
set_option maxHeartbeats 1000000 in
theorem prime_any (n : Nat) (w : World) (hn' : n ≤ 4294967295) :
    Calls Try.prog 55 #[.int .u32 n] w (BoolPost (Prm n) w) := by
  by_cases h2 : n < 2
  · go_enter Try.func55, Try.ntmps55
    go_wp2_with fail
    go_ret
    exact ⟨_, rfl, by unfold Prm; simp; omega, Gr.refl _⟩
  by_cases he : n % 2 = 0
  · have hev : ((n : Int) % 2 == 0) = true := by simp; omega
    have HE := Lib.hid he
    clear he
    go_enter Try.func55, Try.ntmps55
    go_wp2_with fail
    go_ret
    exact ⟨_, rfl, by have := HE.out; unfold Prm; simp; omega, Gr.refl _⟩
  have hev : ((n : Int) % 2 == 0) = false := by simp; omega
  have hn : 3 ≤ n := by omega
  have HE := Lib.hid he
  clear he
  have i0 := idx0
  have i1 := idx1
  have i2 := idx2
  go_enter Try.func55, Try.ntmps55
  go_wp2_with fail
  go_loopw [15] (fun i wr => Gr w wr ∧ (i = .int .i64 0 ∨ (i = .int .i64 1 ∧ Passes n 2) ∨ (i = .int .i64 2 ∧ Passes n 2 ∧ Passes n 7) ∨ (i = .int .i64 3 ∧ Passes n 2 ∧ Passes n 7 ∧ Passes n 61))) (fun i _ => 3 - (intOf i).toNat)
  case atStart => exact ⟨Gr.refl _, .inl rfl⟩
  case round =>
    obtain ⟨hgr, rfl | ⟨rfl, hp⟩ | ⟨rfl, hp⟩ | ⟨rfl, hp⟩⟩ := hrel
    · go_wp2_with fail
      refine (strong_any n 2 _ hn hn' (by omega)).mono ?_
      rintro e w' ⟨r, rfl, hr, hg⟩
      have HR := Lib.hid hr
      clear hr
      cases r
      · go_wp2_with fail
        go_ret
        exact ⟨false, rfl, Prm.not2 hn HR.out, hgr.trans hg⟩
      · go_wp2_with fail
        go_roundw
        case rel => exact ⟨hgr.trans hg, .inr (.inl ⟨by go_num, HR.out.1 (by simp)⟩)⟩
        case measure => simp [intOf]
    · go_wp2_with fail
      refine (strong_any n 7 _ hn hn' (by omega)).mono ?_
      rintro e w' ⟨r, rfl, hr, hg⟩
      have HR := Lib.hid hr
      clear hr
      cases r
      · go_wp2_with fail
        go_ret
        exact ⟨false, rfl, Prm.not7 hn HR.out, hgr.trans hg⟩
      · go_wp2_with fail
        go_roundw
        case rel => exact ⟨hgr.trans hg, .inr (.inr (.inl ⟨by go_num, hp, HR.out.1 (by simp)⟩))⟩
        case measure => simp [intOf]
    · go_wp2_with fail
      refine (strong_any n 61 _ hn hn' (by omega)).mono ?_
      rintro e w' ⟨r, rfl, hr, hg⟩
      have HR := Lib.hid hr
      clear hr
      cases r
      · go_wp2_with fail
        go_ret
        exact ⟨false, rfl, Prm.not61 hn HR.out, hgr.trans hg⟩
      · go_wp2_with fail
        go_roundw
        case rel => exact ⟨hgr.trans hg, .inr (.inr (.inr ⟨by go_num, hp.1, hp.2, HR.out.1 (by simp)⟩))⟩
        case measure => simp [intOf]
    · go_wp2_with fail
      go_ret
      exact ⟨true, rfl, by simp only [true_iff]; exact .inr ⟨hn, by have := HE.out; omega, hp⟩, hgr⟩
theorem dbl_le {n o t i : Nat} (h : n - 1 = o * 2 ^ t) (hi : i < t) : o * 2 ^ (i + 1) ≤ n - 1 := by
  rw [h]; exact Nat.mul_le_mul_left _ (Nat.pow_le_pow_right (by omega) (by omega))
theorem dbl_iff {n o t i : Nat} (h : n - 1 = o * 2 ^ t) (ho : 1 ≤ o) (hi : i ≤ t) (hlt : ¬ i < t) : o * 2 ^ i = n - 1 := by
  rw [h, show i = t by omega]
theorem dbl_lt {n o t i : Nat} (h : n - 1 = o * 2 ^ t) (ho : 1 ≤ o) (hi : i < t) : o * 2 ^ i < n - 1 := by
  have h1 := dbl_le h hi
  rw [Nat.pow_succ, ← Nat.mul_assoc] at h1
  have : 1 ≤ o * 2 ^ i := Nat.mul_pos ho (Nat.two_pow_pos i)
  omega
set_option maxHeartbeats 1000000 in
theorem rstrong_any (n b : Nat) (w : World) (hn : 3 ≤ n) (hn' : n ≤ 4294967295) (hb : b ≤ 100) :
    Calls Try.prog 65 #[.int .u32 b, .int .u32 n] w (BoolPost (Ob.SP n b) w) := by
  go_enter Try.func65, Try.ntmps65
  go_wp2_with fail
  go_loop [5] (fun x => ∃ o t : Nat, x = .int .u32 o ∧ 1 ≤ o ∧ o ≤ 4294967295 ∧ t ≤ 4294967295 ∧ n - 1 = o * 2 ^ t) (fun x => (intOf x).toNat)
  case atStart => exact ⟨n - 1, 0, by congr 1; omega, by omega, by omega, by omega, by simp⟩
  case round =>
    obtain ⟨o, t, rfl, h1, h2, h3, h4⟩ := hrel
    have hlt := Ob.pow_two_lt h4 h1
    have H4 := Lib.hid h4
    clear h4
    by_cases he : o % 2 = 0
    · have hev : ((o : Int) % 2 == 0) = true := by simp; omega
      have HE := Lib.hid he
      clear he
      have H5 := Lib.hid (half_step H4.out HE.out)
      go_wp2_with fail
      refine ⟨⟨o / 2, t + 1, rfl, by have := HE.out; omega, by omega, by omega, H5.out⟩, by simp [intOf]; omega⟩
    · have hod : ((o : Int) % 2 == 0) = false := by simp; omega
      have HS := Lib.hid (Ob.SP.iff (b := b) H4.out (by omega))
      clear he
      have hbm : (0 : Int) ≤ (b : Int) % n := by omega
      have hbm2 : (b : Int) % n ≤ 4294967295 := by have : b % n < n := Nat.mod_lt _ (by omega); omega
      go_wp2_with fail
      refine (rpower_any _ o n _ hbm hbm2 (by omega) (by omega) (by omega) (by omega)).mono ?_
      rintro e w' ⟨rfl, rfl⟩
      rw [cast_pow]
      have hx : b ^ o % n < n := Nat.mod_lt _ (by omega)
      obtain ⟨x, hxx⟩ : ∃ x, x = b ^ o % n := ⟨_, rfl⟩
      rw [← hxx] at hx ⊢
      have HX := Lib.hid hxx
      clear hxx
      by_cases hx1 : x = 1
      · have hb1 : ((x : Int) == 1) = true := by simp; omega
        have H1 := Lib.hid hx1
        clear hx1
        go_wp2_with fail
        go_ret
        exact ⟨true, rfl, by simp only [true_iff]; exact HS.out.2 (.inl (HX.out.symm.trans H1.out)), Gr.refl _⟩
      · have hb1 : ((x : Int) == 1) = false := by simp; omega
        have H1 := Lib.hid hx1
        clear hx1
        go_wp2_with fail
        go_loop [5, 6] (fun d y => ∃ z i δ : Nat, d = .int .u32 δ ∧ y = .int .u32 z ∧ i ≤ t ∧ z < n ∧ δ = o * 2 ^ i ∧ z = b ^ (o * 2 ^ i) % n ∧ ∀ j, j < i → b ^ (o * 2 ^ j) % n ≠ n - 1) (fun d _ => n - (intOf d).toNat)
        case atStart => exact ⟨x, 0, o, rfl, rfl, by omega, hx, by simp, by rw [HX.out]; simp, by intro j hj; omega⟩
        case round =>
          obtain ⟨z, i, δ, rfl, rfl, hi, hz, hd, hzz, hall⟩ := hrel
          have HA := Lib.hid hall
          have HZ := Lib.hid hzz
          have HD := Lib.hid hd
          clear hall hzz hd
          by_cases hlt2 : i < t
          · have hd1 : δ < n - 1 := by rw [HD.out]; exact dbl_lt H4.out h1 hlt2
            have hd2 : δ * 2 ≤ n - 1 := by have := dbl_le H4.out hlt2; rw [Nat.pow_succ, ← Nat.mul_assoc, ← HD.out] at this; exact this
            have hd3 : 1 ≤ δ := by rw [HD.out]; exact Nat.mul_pos h1 (Nat.two_pow_pos i)
            by_cases hq : z = n - 1
            · have hq1 : ((z : Int) == (n : Int) - 1) = true := by simp; omega
              have HQ := Lib.hid hq
              clear hq
              go_wp2_with fail
              go_ret
              exact ⟨true, rfl, by simp only [true_iff]; exact HS.out.2 (.inr ⟨i, hlt2, HZ.out.symm.trans HQ.out⟩), Gr.refl _⟩
            · have hq1 : ((z : Int) == (n : Int) - 1) = false := by simp; omega
              have HQ := Lib.hid hq
              clear hq
              have hzlo := emod_lo ((z : Int) * z) n (by omega)
              have hzhi := emod_hi ((z : Int) * z) n (by omega)
              go_wp2_with fail
              refine (rtimes_any z z n _ (by omega) (by omega) (by omega) (by omega) (by omega) (by omega)).mono ?_
              rintro e w' ⟨rfl, rfl⟩
              go_wp2_with fail
              refine ⟨⟨z * z % n, i + 1, δ * 2, by go_num, by rw [Int.natCast_emod, Int.natCast_mul], by omega, Nat.mod_lt _ (by omega), ?_, ?_, ?_⟩, by simp [intOf]; omega⟩
              · rw [HD.out, Nat.pow_succ, Nat.mul_assoc]
              · rw [HZ.out]; exact Ob.sq_step b o i n
              · intro j hj
                by_cases e : j = i
                · rw [e, ← HZ.out]; exact HQ.out
                · exact HA.out j (by omega)
          · have hd1 : ¬ δ < n - 1 := by have := dbl_iff H4.out h1 hi hlt2; rw [← HD.out] at this; omega
            go_wp2_with fail
            go_ret
            refine ⟨false, rfl, ?_, Gr.refl _⟩
            simp only [Bool.false_eq_true, false_iff]
            intro h
            rcases HS.out.1 h with h | ⟨j, hj, hj2⟩
            · exact H1.out (HX.out.trans h)
            · exact HA.out j (by omega) hj2
def RPrm (n : Nat) : Prop := (n = 2 ∨ n = 7 ∨ n = 61) ∨ (3 ≤ n ∧ n % 2 = 1 ∧ 0 < n % 7 ∧ 0 < n % 61 ∧ Ob.SP n 2 ∧ Ob.SP n 7 ∧ Ob.SP n 61)
theorem RPrm.iff {n : Nat} (h2 : ¬ n = 2) (h7 : ¬ n = 7) (h61 : ¬ n = 61) : RPrm n ↔ (3 ≤ n ∧ n % 2 = 1 ∧ 0 < n % 7 ∧ 0 < n % 61 ∧ Ob.SP n 2 ∧ Ob.SP n 7 ∧ Ob.SP n 61) := by
  unfold RPrm
  constructor
  · rintro ((h | h | h) | h)
    · exact absurd h h2
    · exact absurd h h7
    · exact absurd h h61
    · exact h
  · intro h; exact .inr h
theorem RPrm.not2 {n : Nat} (h2 : ¬ n = 2) (h7 : ¬ n = 7) (h61 : ¬ n = 61) (h : false = true ↔ Ob.SP n 2) : (false = true) ↔ RPrm n := by
  rw [RPrm.iff h2 h7 h61]; simp only [Bool.false_eq_true, false_iff] at *; rintro ⟨_, _, _, _, h', _, _⟩; exact h h'
theorem RPrm.not7 {n : Nat} (h2 : ¬ n = 2) (h7 : ¬ n = 7) (h61 : ¬ n = 61) (h : false = true ↔ Ob.SP n 7) : (false = true) ↔ RPrm n := by
  rw [RPrm.iff h2 h7 h61]; simp only [Bool.false_eq_true, false_iff] at *; rintro ⟨_, _, _, _, _, h', _⟩; exact h h'
theorem RPrm.not61 {n : Nat} (h2 : ¬ n = 2) (h7 : ¬ n = 7) (h61 : ¬ n = 61) (h : false = true ↔ Ob.SP n 61) : (false = true) ↔ RPrm n := by
  rw [RPrm.iff h2 h7 h61]; simp only [Bool.false_eq_true, false_iff] at *; rintro ⟨_, _, _, _, _, _, h'⟩; exact h h'
set_option maxHeartbeats 1000000 in
theorem rprime_any (n : Nat) (w : World) (hn' : n ≤ 4294967295) :
    Calls Try.prog 43 #[.int .u32 n] w (BoolPost (RPrm n) w) := by
  by_cases h2 : n = 2
  · subst h2
    go_enter Try.func43, Try.ntmps43
    go_wp2_with fail
    go_ret
    exact ⟨_, rfl, by unfold RPrm; simp, Gr.refl _⟩
  by_cases h7 : n = 7
  · subst h7
    go_enter Try.func43, Try.ntmps43
    go_wp2_with fail
    go_ret
    exact ⟨_, rfl, by unfold RPrm; simp, Gr.refl _⟩
  by_cases h61 : n = 61
  · subst h61
    go_enter Try.func43, Try.ntmps43
    go_wp2_with fail
    go_ret
    exact ⟨_, rfl, by unfold RPrm; simp, Gr.refl _⟩
  have b2 : ((n : Int) == 2) = false := by simp; omega
  have b7 : ((n : Int) == 7) = false := by simp; omega
  have b61 : ((n : Int) == 61) = false := by simp; omega
  by_cases hp : 3 ≤ n ∧ n % 2 = 1 ∧ 0 < n % 7 ∧ 0 < n % 61
  · obtain ⟨hn, ho, p7, p61⟩ := hp
    have bo : ((n : Int) % 2 == 1) = true := by simp; omega
    have HO := Lib.hid ho
    clear ho
    go_enter Try.func43, Try.ntmps43
    go_wp2_with fail
    refine (rstrong_any n 2 _ hn hn' (by omega)).mono ?_
    rintro e w' ⟨r, rfl, hr, hg⟩
    have HR := Lib.hid hr
    clear hr
    cases r
    · go_wp2_with fail
      go_ret
      exact ⟨false, rfl, RPrm.not2 h2 h7 h61 HR.out, hg⟩
    go_wp2_with fail
    refine (rstrong_any n 7 _ hn hn' (by omega)).mono ?_
    rintro e w2 ⟨r, rfl, hr, hg2⟩
    have HR2 := Lib.hid hr
    clear hr
    cases r
    · go_wp2_with fail
      go_ret
      exact ⟨false, rfl, RPrm.not7 h2 h7 h61 HR2.out, hg.trans hg2⟩
    go_wp2_with fail
    refine (rstrong_any n 61 _ hn hn' (by omega)).mono ?_
    rintro e w3 ⟨r, rfl, hr, hg3⟩
    have HR3 := Lib.hid hr
    clear hr
    cases r
    · go_wp2_with fail
      go_ret
      exact ⟨false, rfl, RPrm.not61 h2 h7 h61 HR3.out, (hg.trans hg2).trans hg3⟩
    go_wp2_with fail
    go_ret
    refine ⟨true, rfl, ?_, (hg.trans hg2).trans hg3⟩
    rw [RPrm.iff h2 h7 h61]
    simp only [true_iff]
    exact ⟨hn, HO.out, p7, p61, HR.out.1 (by simp), HR2.out.1 (by simp), HR3.out.1 (by simp)⟩
  · have hf : (false = true) ↔ RPrm n := by
      rw [RPrm.iff h2 h7 h61]; simp only [Bool.false_eq_true, false_iff]; rintro ⟨a, b, c, d, _⟩; exact hp ⟨a, b, c, d⟩
    have HF := Lib.hid hf
    clear hf
    by_cases hn : 3 ≤ n
    · by_cases ho : n % 2 = 1
      · have bo : ((n : Int) % 2 == 1) = true := by simp; omega
        by_cases p7 : 0 < n % 7
        · have p61 : ¬ 0 < n % 61 := fun h => hp ⟨hn, ho, p7, h⟩
          clear hp ho
          go_enter Try.func43, Try.ntmps43
          go_wp2_with fail
          go_ret
          exact ⟨false, rfl, HF.out, Gr.refl _⟩
        · clear hp ho
          go_enter Try.func43, Try.ntmps43
          go_wp2_with fail
          go_ret
          exact ⟨false, rfl, HF.out, Gr.refl _⟩
      · have bo : ((n : Int) % 2 == 1) = false := by simp; omega
        clear hp ho
        go_enter Try.func43, Try.ntmps43
        go_wp2_with fail
        go_ret
        exact ⟨false, rfl, HF.out, Gr.refl _⟩
    · clear hp
      go_enter Try.func43, Try.ntmps43
      go_wp2_with fail
      go_ret
      exact ⟨false, rfl, HF.out, Gr.refl _⟩
end Go.Proofs.Ytlfiakpmnkhcdaa.Mo
