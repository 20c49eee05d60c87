/- Order, of the program and of the reference, returns the order of a residue modulo a prime. -/
import Derived.Test.YtchhehncmpldhaaGen
import Derived.Test.YtchhehncmpldhaaTrials
namespace Ob
set_option linter.unusedVariables false

/-- What holds of the candidate for the order behind k factors. -/
def OrdInv (p a : Nat) (L : List (Nat × Nat)) (k o : Nat) : Prop := 1 ≤ o ∧ o ∣ p - 1 ∧ a ^ o % p = 1 ∧ ∀ i, i < k → pr L i ∣ o → a ^ (o / pr L i) % p ≠ 1

theorem OrdInv.start {p a : Nat} (hp : Pr p) (h1 : 1 ≤ a) (h2 : a < p) (L : List (Nat × Nat)) : OrdInv p a L 0 (p - 1) :=
  ⟨by have := hp.1; omega, Nat.dvd_refl _, fermat hp (fun h => by have := Nat.le_of_dvd (by omega) h; omega), fun i hi => by omega⟩

theorem OrdInv.div {p a k o q : Nat} {L : List (Nat × Nat)} (hp : 2 ≤ p) (hL : Fz (p - 1) L) (hk : k < L.length) (h : OrdInv p a L k o) (hq : 2 ≤ q) (hd : o % q = 0) (h1 : a ^ (o / q) % p = 1) : OrdInv p a L k (o / q) := by
  obtain ⟨c, rfl⟩ := Nat.dvd_of_mod_eq_zero hd
  obtain ⟨a1, a2, a3, a4⟩ := h
  rw [Nat.mul_div_cancel_left _ (by omega)] at h1 ⊢
  refine ⟨?_, Nat.dvd_trans (Nat.dvd_mul_left c q) a2, h1, fun i hi hdi h2 => ?_⟩
  · rcases c with _ | c
    · simp at a1
    · omega
  · refine a4 i hi (Nat.dvd_trans hdi (Nat.dvd_mul_left c q)) ?_
    rw [Nat.mul_div_assoc q hdi, Nat.mul_comm]
    exact pow_one_mod hp h2 q

theorem OrdInv.next {p a k o : Nat} {L : List (Nat × Nat)} (h : OrdInv p a L k o) (h1 : o % pr L k = 0 → a ^ (o / pr L k) % p ≠ 1) : OrdInv p a L (k + 1) o := by
  obtain ⟨a1, a2, a3, a4⟩ := h
  refine ⟨a1, a2, a3, fun i hi hd => ?_⟩
  by_cases e : i = k
  · rw [e] at hd ⊢; exact h1 (Nat.mod_eq_zero_of_dvd hd)
  · exact a4 i (by omega) hd

theorem OrdInv.end {p a o : Nat} {L : List (Nat × Nat)} (hp : 2 ≤ p) (hL : Fz (p - 1) L) (h : OrdInv p a L L.length o) : Ord p a o := by
  obtain ⟨a1, a2, a3, a4⟩ := h
  refine ord_of hp a1 a3 (fun q hq hd => ?_)
  obtain ⟨i, hi, e⟩ := hL.mem hq (Nat.dvd_trans hd a2)
  have := a4 i hi (by rw [e]; exact hd)
  rwa [e] at this

theorem OrdInv.le {p a k o : Nat} {L : List (Nat × Nat)} (hp : 2 ≤ p) (h : OrdInv p a L k o) : o ≤ p - 1 := Nat.le_of_dvd (by omega) h.2.1

theorem Ord.unique {p a o o' : Nat} (h : Ord p a o) (h' : Ord p a o') : o = o' := Nat.dvd_antisymm (h.2 _ h'.1) (h'.2 _ h.1)
end Ob
namespace Go.Proofs.Ytchhehncmpldhaa
open Go.RowKit
set_option linter.unusedVariables false

def OrderPost (n a : Nat) (w : World) (e : Ending) (w' : World) : Prop := ∃ o : Nat, e = .returned (.tuple #[.int .u32 o, .int .i64 0]) ∧ 1 ≤ o ∧ o < n ∧ Ob.Ord n a o ∧ Gr w w'

set_option maxRecDepth 100000 in
set_option maxHeartbeats 2000000 in
theorem order_ok (a n : Nat) (w : World) (hn' : n ≤ 2147483647) (hp : Ob.Pr n) (ha : 1 ≤ a) (ha' : a < n) :
    Calls Try.prog 31 #[.int .u32 a, .int .u32 n] w (OrderPost n a w) := by
  have hn := hp.1
  have HP := Lib.hid hp
  clear hp
  go_enter Try.func31, Try.ntmps31
  go_wp2_with fail
  refine (primeModulus_any n _ (by omega)).mono ?_
  rintro e w1 ⟨r, rfl, hr, g1⟩
  obtain rfl : r = true := hr.2 ⟨hn', pr_prm HP.out⟩
  clear hr
  go_wp2_with fail
  rw [show (n : Int) - 1 = ((n - 1 : Nat) : Int) by omega]
  refine (factors_any (n - 1) _ (by omega) (by omega)).mono ?_
  rintro e w2 ⟨v, L, rfl, hL, hrow, g2⟩
  have hv := HasFac.of_row hrow
  have HLF := Lib.hid hL
  clear hrow hL
  go_wp2_with fail
  refine (products_any n _).mono ?_
  rintro e w' ⟨rfl, rfl⟩
  have hB := cell_new w2 (.int .u32 n) 22
  have g3 : Gr w2 (w2.alloc (.cells #[.int .u32 n] 22)) := Gr.new _ _
  have hv2 := hv.later g3
  generalize hW : w2.alloc (.cells #[.int .u32 n] 22) = W at *
  generalize hBB : w2.heap.size = B at *
  clear hW hBB hv
  have HB := Lib.hid hB
  clear hB
  obtain ⟨sa, cap, rfl, hc1, hc2, hc⟩ := hv2.form
  clear hv2
  obtain ⟨len, hlen⟩ : ∃ len, len = L.length := ⟨_, rfl⟩
  rw [← hlen] at hc1 ⊢
  have HLEN := Lib.hid hlen
  have HC := Lib.hid hc
  clear hlen hc
  have hst := Ob.OrdInv.start HP.out ha ha' L
  have HST := Lib.hid hst
  clear hst
  go_wp2_with fail
  have h9 : (n : Int) - 1 = ((n - 1 : Nat) : Int) := by omega
  rw [h9]
  clear h9
  go_loopw [9, 36] (fun t i wr => ∃ o k : Nat, t = .int .u32 o ∧ i = .int .i64 k ∧ k ≤ len ∧ o ≤ n - 1 ∧ Gr W wr ∧ Ob.OrdInv n a L k o) (fun _ i _ => len - (intOf i).toNat)
  case atStart => exact ⟨n - 1, 0, rfl, rfl, by omega, by omega, Gr.refl _, HST.out⟩
  case round =>
    obtain ⟨o, k, rfl, rfl, hk, ho, g4, hinv⟩ := hrel
    have HI := Lib.hid hinv
    clear hinv
    by_cases hlt : k < len
    · have hkL : k < L.length := by rw [← HLEN.out]; exact hlt
      obtain ⟨g, rfl, c1, c2⟩ := HC.out k hkL
      obtain ⟨f1, f2, f3, f4⟩ := HLF.out.at k hkL
      have f6 := Nat.le_of_dvd (by omega) f2
      have f7 := f1.1
      have c1' := g4.keeps c1
      have c2' := g4.keeps c2
      clear c1 c2 f1 f2 f3 f4
      have HK := Lib.hid hkL
      clear hkL
      change wr.cell? _ = some (.int .u32 (Ob.pr L k : Nat)) at c1'
      change wr.cell? _ = some (.int .i64 (Ob.ex L k : Nat)) at c2'
      have hqe : ∃ q, q = Ob.pr L k := ⟨_, rfl⟩
      obtain ⟨q, hqe⟩ := hqe
      have hee : ∃ ee, ee = Ob.ex L k := ⟨_, rfl⟩
      obtain ⟨ee, hee⟩ := hee
      rw [← hqe] at c1' f6 f7
      rw [← hee] at c2'
      have HQ := Lib.hid hqe
      clear hqe hee
      go_wp2_with fail
      have hBc := (g4.alloc (.cells #[.int .u32 q, .int .i64 ee] 42)).keeps HB.out
      have HBc := Lib.hid hBc
      clear hBc
      go_loop [9] (fun t => ∃ o' : Nat, t = .int .u32 o' ∧ o' ≤ n - 1 ∧ Ob.OrdInv n a L k o') (fun t => (intOf t).toNat)
      case atStart => exact ⟨o, rfl, ho, HI.out⟩
      case round =>
        clear HI ho
        obtain ⟨x, rfl, hx, hinv⟩ := hrel
        have hx1 := hinv.1
        have HI := Lib.hid hinv
        clear hinv
        obtain ⟨d0, d1⟩ := div_fits x q (by omega)
        obtain ⟨m0, m1⟩ := mod_fits x q (by omega)
        by_cases hd : x % q = 0
        · have hz : (((x : Int) % (q : Int)) == 0) = true := by
            have : (x : Int) % (q : Int) = 0 := by exact_mod_cast hd
            simp [this]
          have HD := Lib.hid hd
          clear hd
          go_wp2_with fail
          refine (power_any a _ n B _ (by omega) (by omega) d0 (by omega) (by omega) (by omega) HBc.out).mono ?_
          rintro e w' ⟨rfl, rfl⟩
          rw [← Int.natCast_ediv, cast_pow']
          have hyn : a ^ (x / q) % n < n := Nat.mod_lt _ (by omega)
          obtain ⟨y, hy⟩ : ∃ y, y = a ^ (x / q) % n := ⟨_, rfl⟩
          rw [← hy] at hyn ⊢
          have HY := Lib.hid hy
          clear hy
          by_cases hy1 : y = 1
          · have hb1 : ((y : Int) == 1) = true := by simp; omega
            have H1 := Lib.hid hy1
            clear hy1
            have hlt2 : x / q < x := Nat.div_lt_self hx1 f7
            have HN := Lib.hid (Ob.OrdInv.div hn HLF.out HK.out HI.out f7 HD.out (HY.out.symm.trans H1.out))
            go_wp2_with fail
            go_round
            case rel => exact ⟨x / q, by simp, by omega, HN.out⟩
            case measure => simp [intOf]; omega
          · have hb1 : ((y : Int) == 1) = false := by simp; omega
            have H1 := Lib.hid hy1
            clear hy1
            have HN := Lib.hid (HI.out.next (fun _ => by rw [← HQ.out, ← HY.out]; exact H1.out))
            go_wp2_with fail
            go_roundw
            case rel => exact ⟨x, k + 1, rfl, by go_num, by omega, hx, g4.alloc _, HN.out⟩
            case measure => simp [intOf]; omega
        · have hz : (((x : Int) % (q : Int)) == 0) = false := by
            have : ¬ (x : Int) % (q : Int) = 0 := fun h => hd (by exact_mod_cast h)
            simp [this]
          have HD := Lib.hid hd
          clear hd
          have HN := Lib.hid (HI.out.next (fun h => by rw [← HQ.out] at h; exact absurd h HD.out))
          go_wp2_with fail
          go_roundw
          case rel => exact ⟨x, k + 1, rfl, by go_num, by omega, hx, g4.alloc _, HN.out⟩
          case measure => simp [intOf]; omega
    · have HE := Lib.hid (show Ob.Ord n a o from by
        have := HI.out
        rw [show k = L.length by have := HLEN.out; omega] at this
        exact Ob.OrdInv.end hn HLF.out this)
      have ho1 := HI.out.1
      go_wp2_with fail
      go_ret2
      exact ⟨o, rfl, by omega, by omega, HE.out, ((g1.trans g2).trans g3).trans g4⟩
end Go.Proofs.Ytchhehncmpldhaa
