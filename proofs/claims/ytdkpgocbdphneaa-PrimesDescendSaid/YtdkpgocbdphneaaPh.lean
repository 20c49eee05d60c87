/- Generator of both sides. -/
import Derived.Test.YtdkpgocbdphneaaPa
import Derived.WalkMore
namespace Ob
set_option linter.unusedVariables false
/-- g is the least generator modulo p. -/
def GenL (p g : Nat) : Prop := ∃ L, Fz (p - 1) L ∧ 1 ≤ g ∧ g < p ∧ GenOk p L L.length g ∧ ∀ h, 1 ≤ h → h < g → ¬ GenOk p L L.length h
theorem GenL.unique {p g h : Nat} (hg : GenL p g) (hh : GenL p h) : g = h := by
  obtain ⟨L, a, b1, b2, c, d⟩ := hg
  obtain ⟨M, a', b1', b2', c', d'⟩ := hh
  obtain rfl := a.unique a'
  rcases Nat.lt_trichotomy g h with e | e | e
  · exact absurd c (d' g b1 e)
  · exact e
  · exact absurd c' (d h b1' e)
end Ob
namespace Go.Proofs.Ytdkpgocbdphneaa
open Go.RowKit
set_option linter.unusedVariables false

def GenR (p v c : Nat) : Prop := (¬ (p ≤ 2147483647 ∧ Ob.Pr p) ∧ v = 0 ∧ c = 2) ∨ ((p ≤ 2147483647 ∧ Ob.Pr p) ∧ Ob.GenL p v ∧ c = 0)
theorem GenR.unique {p v c v' c' : Nat} (h : GenR p v c) (h' : GenR p v' c') : v = v' ∧ c = c' := by
  rcases h with ⟨h1, rfl, rfl⟩ | ⟨h1, h2, rfl⟩ <;> rcases h' with ⟨g1, rfl, rfl⟩ | ⟨g1, g2, rfl⟩
  · exact ⟨rfl, rfl⟩
  · exact absurd g1 h1
  · exact absurd h1 g1
  · exact ⟨h2.unique g2, rfl⟩

set_option maxRecDepth 100000 in
set_option maxHeartbeats 2000000 in
theorem gen_ok (n : Nat) (w : World) (hn' : n ≤ 2147483647) (hp : Ob.Pr n) :
    Calls Try.prog 16 #[.int .u32 n] w (NumPost (GenR n) w) := by
  have hn := hp.1
  have HP := Lib.hid hp
  clear hp
  have t1 : decide ((2147483647 : Int) < (n : Int)) = false := by simp; omega
  have HN' := Lib.hid hn'
  have hn2 : n ≤ 4294967295 := by omega
  clear hn'
  go_enter Try.func16, Try.ntmps16
  go_wp2_with fail
  go_step3
  go_wp2_with fail
  refine (prime_pr n _ (by omega)).mono ?_
  rintro e w1 ⟨r, rfl, hr, g1⟩
  obtain rfl : r = true := hr.2 HP.out
  clear hr
  have hn' := HN'.out
  go_wp2_with fail
  have h9 : (n : Int) - 1 = ((n - 1 : Nat) : Int) := by omega
  rw [h9]
  clear h9
  refine (factors_any (n - 1) _ (by omega) (by omega)).mono ?_
  rintro e W ⟨v, L, rfl, hL, hrow, g2⟩
  have hv := HasFac.of_row hrow
  have HLF := Lib.hid hL
  clear hrow hL
  obtain ⟨sa, cap, rfl, hc1, hc2, hc⟩ := hv.form
  clear hv
  obtain ⟨len, hlen⟩ : ∃ len, len = L.length := ⟨_, rfl⟩
  rw [← hlen] at hc1 ⊢
  have HLEN := Lib.hid hlen
  have HC := Lib.hid hc
  clear hlen hc
  obtain ⟨G, G1, G2, hG⟩ := Ob.exists_gen HP.out HLF.out
  have HG := Lib.hid hG
  clear hG
  go_wp2_with fail
  go_step3
  go_wp2_with fail
  go_loopw [6] (fun t wr => ∃ g : Nat, t = .int .u32 g ∧ 1 ≤ g ∧ g ≤ G ∧ (∀ h, 1 ≤ h → h < g → ¬ Ob.GenOk n L L.length h) ∧ Gr W wr) (fun t _ => G - (intOf t).toNat)
  case atStart => exact ⟨1, rfl, by omega, by omega, fun h h1 h2 => by omega, Gr.refl _⟩
  case round =>
    obtain ⟨g, rfl, h1, h2, hall, hgr⟩ := hrel
    have HA := Lib.hid hall
    clear hall
    have hgn : g < n := by omega
    go_wp2_with fail
    go_loopw [34] (fun i wr' => ∃ k : Nat, i = .int .i64 k ∧ k ≤ len ∧ Ob.GenOk n L k g ∧ Gr W wr') (fun i _ => len - (intOf i).toNat)
    case atStart => exact ⟨0, rfl, by omega, Ob.GenOk.zero _ _ _, hgr⟩
    case round =>
      clear hgr
      obtain ⟨k, rfl, hk, hb, hgr⟩ := hrel
      have HBK := Lib.hid hb
      clear hb
      by_cases hlt : k < len
      · have hkL : k < L.length := by rw [← HLEN.out]; exact hlt
        obtain ⟨gb, rfl, c1, c2⟩ := HC.out k hkL
        obtain ⟨f1, f2, f3, f4⟩ := HLF.out.at k hkL
        have f6 := Nat.le_of_dvd (by omega) f2
        have f7 := f1.1
        have c1' := hgr.keeps c1
        have c2' := hgr.keeps c2
        clear c1 c2 f1 f2 f3 f4 hkL
        change _ = some (Value.int IntKind.u32 (Ob.pr L k : Nat)) at c1'
        obtain ⟨q, hqe⟩ : ∃ q, q = Ob.pr L k := ⟨_, rfl⟩
        rw [← hqe] at c1' f6 f7
        have HQ := Lib.hid hqe
        clear hqe
        generalize (L.map (·.2))[k]?.getD 0 = q2 at *
        obtain ⟨d0, d1⟩ := div_fits (n - 1) q (by omega)
        have h9 : (n : Int) - 1 = ((n - 1 : Nat) : Int) := by omega
        rw [← h9] at d0 d1
        have H9 := Lib.hid h9
        clear h9
        go_wp2_with fail
        refine (pow_ok g _ n _ (by omega) (by omega) (by omega) (by omega) d0 (by omega)).mono ?_
        rintro e w' ⟨rfl, g3⟩
        rw [H9.out, ← Int.natCast_ediv, cast_pow']
        have hyn : g ^ ((n - 1) / q) % n < n := Nat.mod_lt _ (by omega)
        obtain ⟨y, hy⟩ : ∃ y, y = g ^ ((n - 1) / q) % n := ⟨_, rfl⟩
        rw [← hy] at hyn ⊢
        have HY := Lib.hid hy
        clear hy
        have hgr3 := (hgr.alloc _).trans g3
        by_cases hy1 : y = 1
        · have hb1 : ((y : Int) == 1) = true := by simp; omega
          have hbad : ¬ Ob.GenOk n L L.length g := fun h => h k (by rw [← HLEN.out]; exact hlt) (by rw [← HQ.out, ← HY.out]; exact hy1)
          have hne : g ≠ G := fun e => hbad (by rw [e]; exact HG.out)
          have h3 : g + 1 ≤ G := by omega
          have HB := Lib.hid hbad
          clear hy1 hbad hne
          go_wp2_with fail
          go_roundw
          case rel =>
            refine ⟨g + 1, by go_num, by omega, h3, fun h h4 h5 => ?_, hgr3⟩
            by_cases e : h = g
            · rw [e]; exact HB.out
            · exact HA.out h h4 (by omega)
          case measure => simp [intOf]; omega
        · have hb1 : ((y : Int) == 1) = false := by simp; omega
          have HN := Lib.hid (show Ob.GenOk n L (k + 1) g from Ob.GenOk.next.2 ⟨HBK.out, by rw [← HQ.out, ← HY.out]; exact hy1⟩)
          clear hy1
          go_wp2_with fail
          go_roundw
          case rel => exact ⟨k + 1, by go_num, by omega, HN.out, hgr3⟩
          case measure => simp [intOf]; omega
      · have hkl : k = L.length := by have := HLEN.out; omega
        have HN := Lib.hid (show Ob.GenOk n L L.length g from by rw [← hkl]; exact HBK.out)
        clear hkl
        go_wp2_with fail
        rw [Exit.noGoto_ret]
        go_ret2
        exact ⟨g, 0, rfl, .inr ⟨⟨hn', HP.out⟩, ⟨L, HLF.out, h1, hgn, HN.out, HA.out⟩, rfl⟩, (g1.trans g2).trans hgr⟩

set_option maxRecDepth 100000 in
set_option maxHeartbeats 2000000 in
theorem gen_any (n : Nat) (w : World) (hn : n ≤ 4294967295) :
    Calls Try.prog 16 #[.int .u32 n] w (NumPost (GenR n) w) := by
  by_cases h1 : n ≤ 2147483647
  · by_cases hp : Ob.Pr n
    · exact gen_ok n w h1 hp
    · have HP := Lib.hid hp
      have H1 := Lib.hid h1
      have t1 : decide ((2147483647 : Int) < (n : Int)) = false := by simp; omega
      clear hp h1
      go_enter Try.func16, Try.ntmps16
      go_wp2_with fail
      go_step3
      go_wp2_with fail
      refine (prime_pr n _ (by omega)).mono ?_
      rintro e w1 ⟨r, rfl, hr, g1⟩
      obtain rfl : r = false := by cases r; rfl; exact absurd (hr.1 rfl) HP.out
      clear hr
      go_wp2_with fail
      rw [Exit.noGoto_ret]
      go_ret2
      exact ⟨0, 2, rfl, .inl ⟨fun h => HP.out h.2, rfl, rfl⟩, g1⟩
  · have h2 : 2147483647 < n := by omega
    have t1 : decide ((2147483647 : Int) < (n : Int)) = true := by simp; omega
    go_enter Try.func16, Try.ntmps16
    go_wp2_with fail
    go_step3
    go_wp2_with fail
    rw [Exit.noGoto_ret]
    go_ret2
    exact ⟨0, 2, rfl, .inl ⟨fun h => h1 h.1, rfl, rfl⟩, Gr.refl _⟩

def RGenPost (n : Nat) (w : World) (e : Ending) (w' : World) : Prop := ∃ g : Nat, e = .returned (.int .u32 (g : Nat)) ∧ Ob.GenL n g ∧ Gr w w'
set_option maxRecDepth 100000 in
set_option maxHeartbeats 2000000 in
theorem rgenerator_any (n : Nat) (w : World) (hn' : n ≤ 2147483647) (hp : Ob.Pr n) :
    Calls Try.prog 29 #[.int .u32 n] w (RGenPost n w) := by
  have hn := hp.1
  have HP := Lib.hid hp
  clear hp
  go_enter Try.func29, Try.ntmps29
  go_wp2_with fail
  have h9 : (n : Int) - 1 = ((n - 1 : Nat) : Int) := by omega
  rw [h9]
  clear h9
  refine (rfactors_any (n - 1) _ (by omega) (by omega)).mono ?_
  rintro e W ⟨v, L, rfl, hL, hrow, g2⟩
  have hv := HasFac.of_row hrow
  have HLF := Lib.hid hL
  clear hrow hL
  obtain ⟨sa, cap, rfl, hc1, hc2, hc⟩ := hv.form
  clear hv
  obtain ⟨len, hlen⟩ : ∃ len, len = L.length := ⟨_, rfl⟩
  rw [← hlen] at hc1 ⊢
  have HLEN := Lib.hid hlen
  have HC := Lib.hid hc
  clear hlen hc
  obtain ⟨G, G1, G2, hG⟩ := Ob.exists_gen HP.out HLF.out
  have HG := Lib.hid hG
  clear hG
  go_wp2_with fail
  go_loop [5, 6, 7] (fun t _ _ => ∃ g : Nat, t = .int .u32 g ∧ 1 ≤ g ∧ g ≤ G ∧ ∀ h, 1 ≤ h → h < g → ¬ Ob.GenOk n L L.length h) (fun t _ _ => G - (intOf t).toNat)
  case atStart => exact ⟨1, rfl, by omega, by omega, fun h h1 h2 => by omega⟩
  case round =>
    obtain ⟨g, rfl, h1, h2, hall⟩ := hrel
    have HA := Lib.hid hall
    clear hall
    go_wp2_with fail
    go_loop [6, 7] (fun t i => ∃ (b : Bool) (k : Nat), t = .bool b ∧ i = .int .i64 k ∧ k ≤ len ∧ (b = true ↔ Ob.GenOk n L k g)) (fun _ i => len - (intOf i).toNat)
    case atStart => exact ⟨true, 0, rfl, rfl, by omega, by simp [Ob.GenOk.zero]⟩
    case round =>
      obtain ⟨b, k, rfl, rfl, hk, hb⟩ := hrel
      have HBK := Lib.hid hb
      clear hb
      by_cases hlt : k < len
      · have hkL : k < L.length := by rw [← HLEN.out]; exact hlt
        obtain ⟨gb, rfl, c1, c2⟩ := HC.out k hkL
        obtain ⟨f1, f2, f3, f4⟩ := HLF.out.at k hkL
        have f6 := Nat.le_of_dvd (by omega) f2
        have f7 := f1.1
        clear c2 f1 f2 f3 f4 hkL
        change W.cell? _ = some (.int .u32 (Ob.pr L k : Nat)) at c1
        obtain ⟨q, hqe⟩ : ∃ q, q = Ob.pr L k := ⟨_, rfl⟩
        rw [← hqe] at c1 f6 f7
        have HQ := Lib.hid hqe
        clear hqe
        have i4 : (k : Int) < (len : Int) := by omega
        obtain ⟨d0, d1⟩ := div_fits (n - 1) q (by omega)
        cases b with
        | false =>
          have HN := Lib.hid (show (false = true) ↔ Ob.GenOk n L (k + 1) g from by
            have := HBK.out
            rw [Ob.GenOk.next]
            simp only [Bool.false_eq_true, false_iff] at this ⊢
            exact fun h => this h.1)
          go_wp2_with fail
          go_round
          case rel => exact ⟨false, k + 1, rfl, by go_num, by omega, HN.out⟩
          case measure => simp [intOf]; omega
        | true =>
          have h9 : (n : Int) - 1 = ((n - 1 : Nat) : Int) := by omega
          rw [← h9] at d0 d1
          have H9 := Lib.hid h9
          clear h9
          go_wp2_with fail
          refine (rpower_any g _ n _ (by omega) (by omega) d0 (by omega) (by omega) (by omega)).mono ?_
          rintro e w' ⟨rfl, rfl⟩
          rw [H9.out, ← Int.natCast_ediv, cast_pow']
          have hyn : g ^ ((n - 1) / q) % n < n := Nat.mod_lt _ (by omega)
          obtain ⟨y, hy⟩ : ∃ y, y = g ^ ((n - 1) / q) % n := ⟨_, rfl⟩
          rw [← hy] at hyn ⊢
          have HY := Lib.hid hy
          clear hy
          obtain ⟨b, hb⟩ : ∃ b, b = ((y : Int) != 1) := ⟨_, rfl⟩
          have HN := Lib.hid (show (((y : Int) != 1) = true) ↔ Ob.GenOk n L (k + 1) g from by
            have h3 : Ob.GenOk n L k g := by simpa using HBK.out
            rw [Ob.GenOk.next, ← HQ.out, ← HY.out]
            simp only [bne_iff_ne, ne_eq]
            constructor
            · intro h; exact ⟨h3, fun e => h (by omega)⟩
            · rintro ⟨_, h⟩ e; exact h (by omega))
          clear hb
          go_wp2_with fail
          go_round
          case rel => exact ⟨_, k + 1, rfl, by go_num, by omega, HN.out⟩
          case measure => simp [intOf]; omega
      · have hkl : k = L.length := by have := HLEN.out; omega
        cases b with
        | true =>
          have HN := Lib.hid (show Ob.GenOk n L L.length g from by rw [← hkl]; simpa using HBK.out)
          clear hkl
          go_wp2_with fail
          go_ret
          exact ⟨g, rfl, ⟨L, HLF.out, h1, by omega, HN.out, HA.out⟩, g2⟩
        | false =>
          have hbad : ¬ Ob.GenOk n L L.length g := by
            have := HBK.out
            simp only [Bool.false_eq_true, false_iff] at this
            rwa [← hkl]
          have hne : g ≠ G := fun e => hbad (by rw [e]; exact HG.out)
          have HB := Lib.hid hbad
          clear hkl hbad
          have h3 : g + 1 ≤ G := by omega
          clear hne
          go_wp2_with fail
          go_round
          case rel =>
            refine ⟨g + 1, by go_num, by omega, h3, fun h h4 h5 => ?_⟩
            by_cases e : h = g
            · rw [e]; exact HB.out
            · exact HA.out h h4 (by omega)
          case measure => simp [intOf]; omega

set_option maxRecDepth 100000 in
set_option maxHeartbeats 2000000 in
theorem rgen_any (n : Nat) (w : World) (hn : n ≤ 4294967295) :
    Calls Try.prog 17 #[.int .u32 n] w (NumPost (GenR n) w) := by
  by_cases h1 : n ≤ 2147483647
  · by_cases hp : Ob.Pr n
    · have HP := Lib.hid hp
      have H1 := Lib.hid h1
      have t1 : decide ((2147483647 : Int) < (n : Int)) = false := by simp; omega
      clear hp h1
      go_enter Try.func17, Try.ntmps17
      go_wp2_with fail
      refine (rprime_pr n _ (by omega)).mono ?_
      rintro e w1 ⟨r, rfl, hr, g1⟩
      obtain rfl : r = true := hr.2 HP.out
      clear hr
      go_wp2_with fail
      refine (rgenerator_any n _ H1.out HP.out).mono ?_
      rintro e w2 ⟨g, rfl, hg, g2⟩
      have HGL := Lib.hid hg
      clear hg
      go_wp2_with fail
      go_ret2
      exact ⟨g, 0, rfl, .inr ⟨⟨H1.out, HP.out⟩, HGL.out, rfl⟩, g1.trans g2⟩
    · have HP := Lib.hid hp
      have H1 := Lib.hid h1
      have t1 : decide ((2147483647 : Int) < (n : Int)) = false := by simp; omega
      clear hp h1
      go_enter Try.func17, Try.ntmps17
      go_wp2_with fail
      refine (rprime_pr n _ (by omega)).mono ?_
      rintro e w1 ⟨r, rfl, hr, g1⟩
      obtain rfl : r = false := by cases r; rfl; exact absurd (hr.1 rfl) HP.out
      clear hr
      go_wp2_with fail
      go_ret2
      exact ⟨0, 2, rfl, .inl ⟨fun h => HP.out h.2, rfl, rfl⟩, g1⟩
  · have h2 : 2147483647 < n := by omega
    have t1 : decide ((2147483647 : Int) < (n : Int)) = true := by simp; omega
    go_enter Try.func17, Try.ntmps17
    go_wp2_with fail
    go_ret2
    exact ⟨0, 2, rfl, .inl ⟨fun h => h1 h.1, rfl, rfl⟩, Gr.refl _⟩
end Go.Proofs.Ytdkpgocbdphneaa
