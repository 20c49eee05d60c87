/- The reference's Order, Generator and Root, and both sides' Order where there is none. -/
import Derived.Test.YtchhehncmpldhaaOrd
namespace Go.Proofs.Ytchhehncmpldhaa
open Go.RowKit
set_option linter.unusedVariables false

set_option maxRecDepth 100000 in
set_option maxHeartbeats 2000000 in
theorem rorder_ok (a n : Nat) (w : World) (hn' : n ≤ 2147483647) (hp : Ob.Pr n) (ha : 1 ≤ a) (ha' : a < n) :
    Calls Try.prog 32 #[.int .u32 a, .int .u32 n] w (OrderPost n a w) := by
  have hn := hp.1
  have HP := Lib.hid hp
  clear hp
  go_enter Try.func32, Try.ntmps32
  go_wp2_with fail
  refine (rmodulus_ok n _ (by omega) (by omega)).mono ?_
  rintro e w' ⟨rfl, rfl⟩
  go_wp2_with fail
  refine (rprime_any n _ (by omega)).mono ?_
  rintro e w1 ⟨r, rfl, hr, g1⟩
  obtain rfl : r = true := hr.2 ((prm_iff n).1 (pr_prm HP.out))
  clear hr
  go_wp2_with fail
  have h9 : (n : Int) - 1 = ((n - 1 : Nat) : Int) := by omega
  rw [h9]
  clear h9
  refine (rfactors_any (n - 1) _ (by omega) (by omega)).mono ?_
  rintro e W ⟨v, L, rfl, hL, hrow, g2⟩
  have hv := HasFac.of_row hrow
  have HLF := Lib.hid hL
  clear hrow hL
  obtain ⟨sa, cap, rfl, hc1, hc2, hc⟩ := hv.form
  clear hv
  obtain ⟨len, hlen⟩ : ∃ len, len = L.length := ⟨_, rfl⟩
  rw [← hlen] at hc1 ⊢
  have HLEN := Lib.hid hlen
  have HC := Lib.hid hc
  clear hlen hc
  have hst := Ob.OrdInv.start HP.out ha ha' L
  have HST := Lib.hid hst
  clear hst
  go_wp2_with fail
  go_loop [6, 9] (fun t i => ∃ o k : Nat, t = .int .u32 o ∧ i = .int .i64 k ∧ k ≤ len ∧ o ≤ n - 1 ∧ Ob.OrdInv n a L k o) (fun _ i => len - (intOf i).toNat)
  case atStart => exact ⟨n - 1, 0, rfl, rfl, by omega, by omega, HST.out⟩
  case round =>
    obtain ⟨o, k, rfl, rfl, hk, ho, hinv⟩ := hrel
    have HI := Lib.hid hinv
    clear hinv
    by_cases hlt : k < len
    · have hkL : k < L.length := by rw [← HLEN.out]; exact hlt
      obtain ⟨g, rfl, c1, c2⟩ := HC.out k hkL
      obtain ⟨f1, f2, f3, f4⟩ := HLF.out.at k hkL
      have f6 := Nat.le_of_dvd (by omega) f2
      have f7 := f1.1
      clear c2 f1 f2 f3 f4
      have HK := Lib.hid hkL
      clear hkL
      change W.cell? _ = some (.int .u32 (Ob.pr L k : Nat)) at c1
      obtain ⟨q, hqe⟩ : ∃ q, q = Ob.pr L k := ⟨_, rfl⟩
      rw [← hqe] at c1 f6 f7
      have HQ := Lib.hid hqe
      clear hqe
      have i4 : (k : Int) < (len : Int) := by omega
      go_wp2_with fail
      go_loop [6] (fun t => ∃ o' : Nat, t = .int .u32 o' ∧ o' ≤ n - 1 ∧ Ob.OrdInv n a L k o') (fun t => (intOf t).toNat)
      case atStart => exact ⟨o, rfl, ho, HI.out⟩
      case round =>
        clear HI ho
        obtain ⟨x, rfl, hx, hinv⟩ := hrel
        have hx1 := hinv.1
        have HI := Lib.hid hinv
        clear hinv
        obtain ⟨d0, d1⟩ := div_fits x q (by omega)
        obtain ⟨m0, m1⟩ := mod_fits x q (by omega)
        by_cases hd : x % q = 0
        · have hz : (((x : Int) % (q : Int)) == 0) = true := by
            have : (x : Int) % (q : Int) = 0 := by exact_mod_cast hd
            simp [this]
          have HD := Lib.hid hd
          clear hd
          go_wp2_with fail
          refine (rpower_any a _ n _ (by omega) (by omega) d0 (by omega) (by omega) (by omega)).mono ?_
          rintro e w' ⟨rfl, rfl⟩
          rw [← Int.natCast_ediv, cast_pow']
          have hyn : a ^ (x / q) % n < n := Nat.mod_lt _ (by omega)
          obtain ⟨y, hy⟩ : ∃ y, y = a ^ (x / q) % n := ⟨_, rfl⟩
          rw [← hy] at hyn ⊢
          have HY := Lib.hid hy
          clear hy
          by_cases hy1 : y = 1
          · have hb1 : ((y : Int) == 1) = true := by simp; omega
            have H1 := Lib.hid hy1
            clear hy1
            have hlt2 : x / q < x := Nat.div_lt_self hx1 f7
            have HN := Lib.hid (Ob.OrdInv.div hn HLF.out HK.out HI.out f7 HD.out (HY.out.symm.trans H1.out))
            go_wp2_with fail
            go_round
            case rel => exact ⟨x / q, by simp, by omega, HN.out⟩
            case measure => simp [intOf]; omega
          · have hb1 : ((y : Int) == 1) = false := by simp; omega
            have H1 := Lib.hid hy1
            clear hy1
            have HN := Lib.hid (HI.out.next (fun _ => by rw [← HQ.out, ← HY.out]; exact H1.out))
            go_wp2_with fail
            go_round
            case rel => exact ⟨x, k + 1, rfl, by go_num, by omega, hx, HN.out⟩
            case measure => simp [intOf]; omega
        · have hz : (((x : Int) % (q : Int)) == 0) = false := by
            have : ¬ (x : Int) % (q : Int) = 0 := fun h => hd (by exact_mod_cast h)
            simp [this]
          have HD := Lib.hid hd
          clear hd
          have HN := Lib.hid (HI.out.next (fun h => by rw [← HQ.out] at h; exact absurd h HD.out))
          go_wp2_with fail
          go_round
          case rel => exact ⟨x, k + 1, rfl, by go_num, by omega, hx, HN.out⟩
          case measure => simp [intOf]; omega
    · have HE := Lib.hid (show Ob.Ord n a o from by
        have := HI.out
        rw [show k = L.length by have := HLEN.out; omega] at this
        exact Ob.OrdInv.end hn HLF.out this)
      have ho1 := HI.out.1
      go_wp2_with fail
      go_ret2
      exact ⟨o, rfl, by omega, by omega, HE.out, g1.trans g2⟩

def ArgPost (c : Int) (w : World) (e : Ending) (w' : World) : Prop := e = .returned (.tuple #[.int .u32 0, .int .i64 c]) ∧ Gr w w'

set_option maxHeartbeats 1000000 in
theorem order_bad (a n : Nat) (w : World) (hn : n ≤ 4294967295) (ha : a ≤ 4294967295) (h : ¬ (n ≤ 2147483647 ∧ Prm n ∧ 1 ≤ a ∧ a < n)) :
    Calls Try.prog 31 #[.int .u32 a, .int .u32 n] w (ArgPost 2 w) := by
  have HH := Lib.hid h
  clear h
  go_enter Try.func31, Try.ntmps31
  go_wp2_with fail
  refine (primeModulus_any n _ (by omega)).mono ?_
  rintro e w1 ⟨r, rfl, hr, g1⟩
  cases r with
  | false =>
    clear hr
    go_wp2_with fail
    go_ret2
    exact ⟨rfl, g1⟩
  | true =>
    have hr' := hr.1 rfl
    have hlim : a < 1 ∨ n ≤ a := by
      have h1 := HH.out
      rcases Nat.lt_or_ge a 1 with h2 | h2
      · exact .inl h2
      · rcases Nat.lt_or_ge a n with h3 | h3
        · exact absurd ⟨hr'.1, hr'.2, h2, h3⟩ h1
        · exact .inr h3
    clear hr hr'
    rcases Nat.lt_or_ge a 1 with h2 | h2
    · obtain rfl : a = 0 := by omega
      clear hlim h2
      go_wp2_with fail
      go_ret2
      exact ⟨rfl, g1⟩
    · have h3 : n ≤ a := by omega
      clear hlim
      go_wp2_with fail
      go_ret2
      exact ⟨rfl, g1⟩

set_option maxHeartbeats 1000000 in
theorem rorder_bad (a n : Nat) (w : World) (hn : n ≤ 4294967295) (ha : a ≤ 4294967295) (h : ¬ (n ≤ 2147483647 ∧ Prm n ∧ 1 ≤ a ∧ a < n)) :
    Calls Try.prog 32 #[.int .u32 a, .int .u32 n] w (ArgPost 2 w) := by
  have HH := Lib.hid h
  clear h
  by_cases hm : 2 ≤ n ∧ n ≤ 2147483647
  · obtain ⟨hm1, hm2⟩ := hm
    go_enter Try.func32, Try.ntmps32
    go_wp2_with fail
    refine (rmodulus_ok n _ (by omega) (by omega)).mono ?_
    rintro e w' ⟨rfl, rfl⟩
    go_wp2_with fail
    refine (rprime_any n _ (by omega)).mono ?_
    rintro e w1 ⟨r, rfl, hr, g1⟩
    cases r with
    | false =>
      clear hr
      go_wp2_with fail
      go_ret2
      exact ⟨rfl, g1⟩
    | true =>
      have hr' := (prm_iff n).2 (hr.1 rfl)
      have hlim : a < 1 ∨ n ≤ a := by
        have h1 := HH.out
        rcases Nat.lt_or_ge a 1 with h2 | h2
        · exact .inl h2
        · rcases Nat.lt_or_ge a n with h3 | h3
          · exact absurd ⟨hm2, hr', h2, h3⟩ h1
          · exact .inr h3
      clear hr hr'
      rcases Nat.lt_or_ge a 1 with h2 | h2
      · obtain rfl : a = 0 := by omega
        clear hlim h2
        go_wp2_with fail
        go_ret2
        exact ⟨rfl, g1⟩
      · have h3 : n ≤ a := by omega
        clear hlim
        go_wp2_with fail
        go_ret2
        exact ⟨rfl, g1⟩
  · have hbad : (n : Int) < 2 ∨ 2147483647 < (n : Int) := by omega
    have HB := Lib.hid hbad
    clear hbad hm
    go_enter Try.func32, Try.ntmps32
    go_wp2_with fail
    refine (rmodulus_bad n _ HB.out).mono ?_
    rintro e w' ⟨rfl, rfl⟩
    go_wp2_with fail
    go_ret2
    exact ⟨rfl, Gr.refl _⟩
end Go.Proofs.Ytchhehncmpldhaa
