import Derived.Test.YtlfiakpmnkhcdaaGreatLZA
/- What the reference's functions for residues return. -/
namespace Go.Proofs.YtlfiakpmnkhcdaaGreat.Mo
open Go.RowKit
set_option linter.unusedVariables false

end Go.Proofs.YtlfiakpmnkhcdaaGreat.Mo
/- What the reference's functions return for arguments that are not valid, and its Inverse. -/
namespace Go.Proofs.YtlfiakpmnkhcdaaGreat.Mo
open Go.RowKit
set_option linter.unusedVariables false
end Go.Proofs.YtlfiakpmnkhcdaaGreat.Mo
/- The strong test as a statement about natural numbers. -/
namespace Ob
set_option linter.unusedVariables false

/-- n passes the strong test to the base b. -/
def SP (n b : Nat) : Prop := ∃ o t, n - 1 = o * 2 ^ t ∧ o % 2 = 1 ∧ (b ^ o % n = 1 ∨ ∃ i, i < t ∧ b ^ (o * 2 ^ i) % n = n - 1)

theorem odd_two_unique : ∀ (t s o p : Nat), o % 2 = 1 → p % 2 = 1 → o * 2 ^ t = p * 2 ^ s → o = p ∧ t = s := by
  intro t
  induction t with
  | zero =>
    intro s o p ho hp h
    rcases s with _ | s
    · simp at h; exact ⟨h, rfl⟩
    · rw [Nat.pow_succ, ← Nat.mul_assoc] at h
      simp at h; omega
  | succ t ih =>
    intro s o p ho hp h
    rcases s with _ | s
    · rw [Nat.pow_succ, ← Nat.mul_assoc] at h
      simp at h; omega
    · rw [Nat.pow_succ, Nat.pow_succ, ← Nat.mul_assoc, ← Nat.mul_assoc] at h
      obtain ⟨h1, h2⟩ := ih s o p ho hp (by omega)
      exact ⟨h1, by omega⟩

theorem SP.iff {n b o t : Nat} (h : n - 1 = o * 2 ^ t) (ho : o % 2 = 1) : SP n b ↔ (b ^ o % n = 1 ∨ ∃ i, i < t ∧ b ^ (o * 2 ^ i) % n = n - 1) := by
  constructor
  · rintro ⟨o', t', h', ho', hs⟩
    obtain ⟨rfl, rfl⟩ := odd_two_unique t t' o o' ho ho' (h.symm.trans h')
    exact hs
  · intro hs; exact ⟨o, t, h, ho, hs⟩

theorem pow_two_lt {o t n : Nat} (h : n - 1 = o * 2 ^ t) (ho : 1 ≤ o) : t < n - 1 := by
  have h1 : t < 2 ^ t := Nat.lt_two_pow_self
  have h2 : 1 * 2 ^ t ≤ o * 2 ^ t := Nat.mul_le_mul_right _ ho
  omega

theorem sq_step (b o i n : Nat) : (b ^ (o * 2 ^ i) % n) * (b ^ (o * 2 ^ i) % n) % n = b ^ (o * 2 ^ (i + 1)) % n := by
  rw [← Nat.mul_mod, ← Nat.pow_add, Nat.pow_succ, ← Nat.mul_assoc, Nat.mul_two]
end Ob
/- What the tests for primes return: the program's and the reference's. -/
namespace Go.Proofs.YtlfiakpmnkhcdaaGreat.Mo
open Go.RowKit
set_option linter.unusedVariables false

/-- A result that is true exactly if P holds. -/
def BoolPost (P : Prop) (w : World) (e : Ending) (w' : World) : Prop := ∃ r : Bool, e = .returned (.bool r) ∧ (r = true ↔ P) ∧ Gr w w'

theorem cast_pow (b n o : Nat) : ((b : Int) % n) ^ (o : Int).toNat % n = ((b ^ o % n : Nat) : Int) := by
  rw [← int_pow_emod, Int.toNat_natCast, Int.natCast_emod, Int.natCast_pow]

theorem half_step {n o t : Nat} (h : n - 1 = o * 2 ^ t) (he : o % 2 = 0) : n - 1 = o / 2 * 2 ^ (t + 1) := by
  rw [h, Nat.pow_succ]
  have : o = o / 2 * 2 := by omega
  conv => lhs; rw [this, Nat.mul_assoc, Nat.mul_comm 2]

set_option maxHeartbeats 1000000 in
theorem strong_any (n b : Nat) (w : World) (hn : 3 ≤ n) (hn' : n ≤ 4294967295) (hb : b ≤ 100) :
    Calls Tryz.prog 156 #[.int .u32 n, .int .u32 b] w (BoolPost (b % n = 0 ∨ Ob.SP n b) w) := by
  by_cases h0 : b % n = 0
  · have ht : (((b : Int) % (n : Int)) == 0) = true := by simp; omega
    have H0 := Lib.hid h0
    clear h0
    go_enter Tryz.func156, Tryz.ntmps156
    go_wp2_with fail
    go_ret
    exact ⟨true, rfl, by simp [H0.out], Gr.refl _⟩
  · have ht : (((b : Int) % (n : Int)) == 0) = false := by simp; omega
    have H0 := Lib.hid h0
    clear h0
    go_enter Tryz.func156, Tryz.ntmps156
    go_wp2_with fail
    go_loop [5, 6] (fun x y => ∃ o t : Nat, x = .int .u32 o ∧ y = .int .i64 t ∧ 1 ≤ o ∧ o ≤ 4294967295 ∧ t ≤ 4294967295 ∧ n - 1 = o * 2 ^ t) (fun x _ => (intOf x).toNat)
    case atStart => exact ⟨n - 1, 0, by congr 1; omega, rfl, by omega, by omega, by omega, by simp⟩
    case round =>
      obtain ⟨o, t, rfl, rfl, h1, h2, h3, h4⟩ := hrel
      have hlt := Ob.pow_two_lt h4 h1
      have H4 := Lib.hid h4
      clear h4
      by_cases he : o % 2 = 0
      · have hev : ((o : Int) % 2 == 0) = true := by simp; omega
        have HE := Lib.hid he
        clear he
        have H5 := Lib.hid (half_step H4.out HE.out)
        go_wp2_with fail
        refine ⟨⟨o / 2, t + 1, rfl, by go_num, by have := HE.out; omega, by omega, by omega, H5.out⟩, by simp [intOf]; omega⟩
      · have hod : ((o : Int) % 2 == 0) = false := by simp; omega
        have HS := Lib.hid (Ob.SP.iff (b := b) H4.out (by omega))
        clear he
        go_wp2_with fail
        refine (products_any n _).mono ?_
        rintro e w' ⟨rfl, rfl⟩
        have hB := cell_new w (.int .u32 n) 22
        have HB := Lib.hid hB
        clear hB
        have hgr : Gr w (w.alloc (.cells #[.int .u32 n] 22)) := Gr.new _ _
        generalize hW : w.alloc (.cells #[.int .u32 n] 22) = W at *
        clear hW
        have hbm : (0 : Int) ≤ (b : Int) % n := by omega
        have hbm2 : (b : Int) % n ≤ 4294967295 := by have : b % n < n := Nat.mod_lt _ (by omega); omega
        go_wp2_with fail
        refine (power_any _ o n w.heap.size _ hbm hbm2 (by omega) (by omega) (by omega) (by omega) HB.out).mono ?_
        rintro e w' ⟨rfl, rfl⟩
        rw [cast_pow]
        have hx : b ^ o % n < n := Nat.mod_lt _ (by omega)
        obtain ⟨x, hxx⟩ : ∃ x, x = b ^ o % n := ⟨_, rfl⟩
        rw [← hxx] at hx ⊢
        have HX := Lib.hid hxx
        clear hxx
        by_cases hx1 : x = 1
        · have hb1 : ((x : Int) == 1) = true := by simp; omega
          have H1 := Lib.hid hx1
          clear hx1
          go_wp2_with fail
          go_ret
          exact ⟨true, rfl, by simp only [true_iff]; exact .inr (HS.out.2 (.inl (HX.out.symm.trans H1.out))), hgr⟩
        · have hb1 : ((x : Int) == 1) = false := by simp; omega
          have H1 := Lib.hid hx1
          clear hx1
          go_wp2_with fail
          go_loop [8, 34] (fun y j => ∃ z i : Nat, y = .int .u32 z ∧ j = .int .i64 i ∧ i ≤ t ∧ z < n ∧ z = b ^ (o * 2 ^ i) % n ∧ ∀ j, j < i → b ^ (o * 2 ^ j) % n ≠ n - 1) (fun _ j => t - (intOf j).toNat)
          case atStart => exact ⟨x, 0, rfl, rfl, by omega, hx, by rw [HX.out]; simp, by intro j hj; omega⟩
          case round =>
            obtain ⟨z, i, rfl, rfl, hi, hz, hzz, hall⟩ := hrel
            have HA := Lib.hid hall
            have HZ := Lib.hid hzz
            clear hall hzz
            by_cases hlt2 : i < t
            · by_cases hq : z = n - 1
              · have hq1 : ((z : Int) == (n : Int) - 1) = true := by simp; omega
                have HQ := Lib.hid hq
                clear hq
                go_wp2_with fail
                go_ret
                exact ⟨true, rfl, by simp only [true_iff]; exact .inr (HS.out.2 (.inr ⟨i, hlt2, HZ.out.symm.trans HQ.out⟩)), hgr⟩
              · have hq1 : ((z : Int) == (n : Int) - 1) = false := by simp; omega
                have HQ := Lib.hid hq
                clear hq
                have hzlo := emod_lo ((z : Int) * z) n (by omega)
                have hzhi := emod_hi ((z : Int) * z) n (by omega)
                go_wp2_with fail
                refine (times_any z z n w.heap.size _ (by omega) (by omega) (by omega) (by omega) (by omega) (by omega) HB.out).mono ?_
                rintro e w' ⟨rfl, rfl⟩
                go_wp2_with fail
                refine ⟨⟨z * z % n, i + 1, by rw [Int.natCast_emod, Int.natCast_mul], by go_num, by omega, Nat.mod_lt _ (by omega), ?_, ?_⟩, by simp [intOf]; omega⟩
                · rw [HZ.out]; exact Ob.sq_step b o i n
                · intro j hj
                  by_cases e : j = i
                  · rw [e, ← HZ.out]; exact HQ.out
                  · exact HA.out j (by omega)
            · go_wp2_with fail
              go_ret
              refine ⟨false, rfl, ?_, hgr⟩
              simp only [Bool.false_eq_true, false_iff]
              rintro (h | h)
              · exact H0.out h
              · rcases HS.out.1 h with h | ⟨j, hj, hj2⟩
                · exact H1.out (HX.out.trans h)
                · exact HA.out j (by omega) hj2

/-- What the program asks of one base. -/
def Passes (n b : Nat) : Prop := b % n = 0 ∨ Ob.SP n b
/-- What the program takes for a prime. -/
def Prm (n : Nat) : Prop := n = 2 ∨ (3 ≤ n ∧ n % 2 = 1 ∧ Passes n 2 ∧ Passes n 7 ∧ Passes n 61)

theorem Prm.not2 {n : Nat} (hn : 3 ≤ n) (h : false = true ↔ Passes n 2) : (false = true) ↔ Prm n := by
  simp only [Bool.false_eq_true, false_iff] at *; unfold Prm; rintro (h2 | ⟨_, _, h2, _⟩) <;> first | omega | exact h h2
theorem Prm.not7 {n : Nat} (hn : 3 ≤ n) (h : false = true ↔ Passes n 7) : (false = true) ↔ Prm n := by
  simp only [Bool.false_eq_true, false_iff] at *; unfold Prm; rintro (h2 | ⟨_, _, _, h2, _⟩) <;> first | omega | exact h h2
theorem Prm.not61 {n : Nat} (hn : 3 ≤ n) (h : false = true ↔ Passes n 61) : (false = true) ↔ Prm n := by
  simp only [Bool.false_eq_true, false_iff] at *; unfold Prm; rintro (h2 | ⟨_, _, _, _, h2⟩) <;> first | omega | exact h h2

theorem idx0 (w : World) : (Instr.index 158 (.agg #[.int .u32 2, .int .u32 7, .int .u32 61]) (.int .i64 0)).run Tryz.prog w = .ok (.int .u32 2) w := by kernel_rfl
theorem idx1 (w : World) : (Instr.index 158 (.agg #[.int .u32 2, .int .u32 7, .int .u32 61]) (.int .i64 1)).run Tryz.prog w = .ok (.int .u32 7) w := by kernel_rfl
theorem idx2 (w : World) : (Instr.index 158 (.agg #[.int .u32 2, .int .u32 7, .int .u32 61]) (.int .i64 2)).run Tryz.prog w = .ok (.int .u32 61) w := by kernel_rfl

set_option maxHeartbeats 1000000 in
theorem prime_any (n : Nat) (w : World) (hn' : n ≤ 4294967295) :
    Calls Tryz.prog 130 #[.int .u32 n] w (BoolPost (Prm n) w) := by
  by_cases h2 : n < 2
  · go_enter Tryz.func130, Tryz.ntmps130
    go_wp2_with fail
    go_ret
    exact ⟨_, rfl, by unfold Prm; simp; omega, Gr.refl _⟩
  by_cases he : n % 2 = 0
  · have hev : ((n : Int) % 2 == 0) = true := by simp; omega
    have HE := Lib.hid he
    clear he
    go_enter Tryz.func130, Tryz.ntmps130
    go_wp2_with fail
    go_ret
    exact ⟨_, rfl, by have := HE.out; unfold Prm; simp; omega, Gr.refl _⟩
  have hev : ((n : Int) % 2 == 0) = false := by simp; omega
  have hn : 3 ≤ n := by omega
  have HE := Lib.hid he
  clear he
  have i0 := idx0
  have i1 := idx1
  have i2 := idx2
  go_enter Tryz.func130, Tryz.ntmps130
  go_wp2_with fail
  go_loopw [15] (fun i wr => Gr w wr ∧ (i = .int .i64 0 ∨ (i = .int .i64 1 ∧ Passes n 2) ∨ (i = .int .i64 2 ∧ Passes n 2 ∧ Passes n 7) ∨ (i = .int .i64 3 ∧ Passes n 2 ∧ Passes n 7 ∧ Passes n 61))) (fun i _ => 3 - (intOf i).toNat)
  case atStart => exact ⟨Gr.refl _, .inl rfl⟩
  case round =>
    obtain ⟨hgr, rfl | ⟨rfl, hp⟩ | ⟨rfl, hp⟩ | ⟨rfl, hp⟩⟩ := hrel
    · go_wp2_with fail
      refine (strong_any n 2 _ hn hn' (by omega)).mono ?_
      rintro e w' ⟨r, rfl, hr, hg⟩
      have HR := Lib.hid hr
      clear hr
      cases r
      · go_wp2_with fail
        go_ret
        exact ⟨false, rfl, Prm.not2 hn HR.out, hgr.trans hg⟩
      · go_wp2_with fail
        go_roundw
        case rel => exact ⟨hgr.trans hg, .inr (.inl ⟨by go_num, HR.out.1 (by simp)⟩)⟩
        case measure => simp [intOf]
    · go_wp2_with fail
      refine (strong_any n 7 _ hn hn' (by omega)).mono ?_
      rintro e w' ⟨r, rfl, hr, hg⟩
      have HR := Lib.hid hr
      clear hr
      cases r
      · go_wp2_with fail
        go_ret
        exact ⟨false, rfl, Prm.not7 hn HR.out, hgr.trans hg⟩
      · go_wp2_with fail
        go_roundw
        case rel => exact ⟨hgr.trans hg, .inr (.inr (.inl ⟨by go_num, hp, HR.out.1 (by simp)⟩))⟩
        case measure => simp [intOf]
    · go_wp2_with fail
      refine (strong_any n 61 _ hn hn' (by omega)).mono ?_
      rintro e w' ⟨r, rfl, hr, hg⟩
      have HR := Lib.hid hr
      clear hr
      cases r
      · go_wp2_with fail
        go_ret
        exact ⟨false, rfl, Prm.not61 hn HR.out, hgr.trans hg⟩
      · go_wp2_with fail
        go_roundw
        case rel => exact ⟨hgr.trans hg, .inr (.inr (.inr ⟨by go_num, hp.1, hp.2, HR.out.1 (by simp)⟩))⟩
        case measure => simp [intOf]
    · go_wp2_with fail
      go_ret
      exact ⟨true, rfl, by simp only [true_iff]; exact .inr ⟨hn, by have := HE.out; omega, hp⟩, hgr⟩

/-- What the reference takes for a prime. -/
def RPrm (n : Nat) : Prop := (n = 2 ∨ n = 7 ∨ n = 61) ∨ (3 ≤ n ∧ n % 2 = 1 ∧ 0 < n % 7 ∧ 0 < n % 61 ∧ Ob.SP n 2 ∧ Ob.SP n 7 ∧ Ob.SP n 61)

theorem RPrm.iff {n : Nat} (h2 : ¬ n = 2) (h7 : ¬ n = 7) (h61 : ¬ n = 61) : RPrm n ↔ (3 ≤ n ∧ n % 2 = 1 ∧ 0 < n % 7 ∧ 0 < n % 61 ∧ Ob.SP n 2 ∧ Ob.SP n 7 ∧ Ob.SP n 61) := by
  unfold RPrm
  constructor
  · rintro ((h | h | h) | h)
    · exact absurd h h2
    · exact absurd h h7
    · exact absurd h h61
    · exact h
  · intro h; exact .inr h
theorem RPrm.not2 {n : Nat} (h2 : ¬ n = 2) (h7 : ¬ n = 7) (h61 : ¬ n = 61) (h : false = true ↔ Ob.SP n 2) : (false = true) ↔ RPrm n := by
  rw [RPrm.iff h2 h7 h61]; simp only [Bool.false_eq_true, false_iff] at *; rintro ⟨_, _, _, _, h', _, _⟩; exact h h'
theorem RPrm.not7 {n : Nat} (h2 : ¬ n = 2) (h7 : ¬ n = 7) (h61 : ¬ n = 61) (h : false = true ↔ Ob.SP n 7) : (false = true) ↔ RPrm n := by
  rw [RPrm.iff h2 h7 h61]; simp only [Bool.false_eq_true, false_iff] at *; rintro ⟨_, _, _, _, _, h', _⟩; exact h h'
theorem RPrm.not61 {n : Nat} (h2 : ¬ n = 2) (h7 : ¬ n = 7) (h61 : ¬ n = 61) (h : false = true ↔ Ob.SP n 61) : (false = true) ↔ RPrm n := by
  rw [RPrm.iff h2 h7 h61]; simp only [Bool.false_eq_true, false_iff] at *; rintro ⟨_, _, _, _, _, _, h'⟩; exact h h'

end Go.Proofs.YtlfiakpmnkhcdaaGreat.Mo
