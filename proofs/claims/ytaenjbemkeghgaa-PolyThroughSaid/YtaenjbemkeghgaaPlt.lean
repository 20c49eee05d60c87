/- The law PolyThrough. -/
import Derived.Test.YtaenjbemkeghgaaIti
import Derived.Test.YtaenjbemkeghgaaPlr
namespace Go.Proofs.Ytaenjbemkeghgaa
open Go.RowKit
set_option linter.unusedVariables false

theorem itE_cases (m : Int) (xs ys : List Int) : itE m xs ys = 2 ∨ itE m xs ys = 3 ∨ (itE m xs ys = 7 ∧ okM m ∧ xs.length ≤ 256 ∧ Op.Rs m xs ∧ ¬ Op.Au m xs) ∨ itE m xs ys = 0 := by
  by_cases h1 : okM m ∧ xs.length = ys.length
  · by_cases h2 : 256 < xs.length
    · exact .inr (.inl (itE_long h1 h2))
    · by_cases h3 : Op.Rs m xs ∧ Op.Rs m ys
      · by_cases h4 : Op.Au m xs
        · exact .inr (.inr (.inr (itE_ok h1 h2 h3 h4)))
        · exact .inr (.inr (.inl ⟨itE_none h1 h2 h3 h4, h1.1, by omega, h3.1, h4⟩))
      · exact .inl (itE_high h1 h2 h3)
  · exact .inl (itE_bad h1)
theorem inv5_yes (m a : Int) (w : World) (hm : 2 ≤ m ∧ m ≤ 2147483647) (ha : 0 ≤ a ∧ a < m) (hu : Op.Un m a) :
    Calls Try.prog 41 #[.int .u32 a, .int .u32 m] w (fun e w' => ∃ b, e = .returned (.tuple #[.int .u32 b, .bool true]) ∧ w = w') := by
  refine (inverse5_any m a w hm ha).mono ?_
  rintro e w' (⟨b, rfl, _, _, _, _, rfl⟩ | ⟨_, h, _⟩)
  · exact ⟨b, rfl, rfl⟩
  · exact absurd hu h
theorem inv5_no (m a : Int) (w : World) (hm : 2 ≤ m ∧ m ≤ 2147483647) (ha : 0 ≤ a ∧ a < m) (hu : ¬ Op.Un m a) :
    Calls Try.prog 41 #[.int .u32 a, .int .u32 m] w (fun e w' => e = .returned (.tuple #[.int .u32 0, .bool false]) ∧ w = w') := by
  refine (inverse5_any m a w hm ha).mono ?_
  rintro e w' (⟨b, _, h, _⟩ | ⟨rfl, _, rfl⟩)
  · exact absurd h hu
  · exact ⟨rfl, rfl⟩
theorem diff_un {m X Y : Int} : Op.Un m ((X + m - Y) % m) ↔ Op.Un m (X - Y) := by
  have h1 := Op.dvd_mod m (X + m - Y)
  have h2 : m ∣ (X + m - Y) % m - (X - Y) := by
    have e : (X + m - Y) % m - (X - Y) = ((X + m - Y) % m - (X + m - Y)) + m * 1 := by omega
    rw [e]; exact Int.dvd_add h1 ⟨1, rfl⟩
  refine ⟨fun h => h.cg h2, fun h => h.cg ?_⟩
  have e : X - Y - (X + m - Y) % m = -((X + m - Y) % m - (X - Y)) := by omega
  rw [e]; exact Int.dvd_neg.2 h2

set_option maxRecDepth 100000 in
set_option maxHeartbeats 4000000 in
theorem polyThrough_all (m : Int) (xs ys : List Int) (u v : Value) (w : World) (hm : 0 ≤ m ∧ m ≤ 4294967295) (hu : HasP w u xs) (hv : HasP w v ys) (hla : xs.length ≤ 9223372036854775807) (hlb : ys.length ≤ 9223372036854775807) :
    Calls Try.prog 9 #[.int .u32 m, u, v] w (Truth w) := by
  obtain ⟨-, xa, ca, rfl, -, -, -⟩ := id hu
  obtain ⟨-, xb, cb, rfl, -, -, -⟩ := id hv
  obtain ⟨na, hna⟩ : ∃ na, na = xs.length := ⟨_, rfl⟩
  obtain ⟨nb, hnb⟩ : ∃ nb, nb = ys.length := ⟨_, rfl⟩
  rw [← hna] at hu ⊢
  rw [← hnb] at hv ⊢
  have HU := Lib.hid hu
  have HV := Lib.hid hv
  have HNA := Lib.hid hna
  have HNB := Lib.hid hnb
  have HLL := Lib.hid (show ∀ l ∈ [xs, ys], l.length ≤ 9223372036854775807 from fun l hl => by simp at hl; rcases hl with rfl | rfl <;> assumption)
  have HLX := Lib.hid hla
  have HLY := Lib.hid hlb
  have hlb2 : nb ≤ 9223372036854775807 := by omega
  have hla2 : na ≤ 9223372036854775807 := by omega
  obtain ⟨hm0, hm1⟩ := hm
  clear hu hv hna hnb hla hlb
  cases hbig : bigB [xs, ys] with
  | true =>
    have HBIG := Lib.hid hbig
    clear hbig
    go_enter Try.func9, Try.ntmps9
    go_wp2_with fail
    refine (large_any w.heap.size 2 _ [xs, ys] _ (ll_two HU.out HV.out _ rfl) (by omega) HLL.out).mono ?_
    rintro e w1 ⟨rfl, rfl⟩
    rw [HBIG.out]
    go_wp2_with fail
    refine (awake_any _).mono ?_
    rintro e w2 ⟨rfl, hg⟩
    have HG := Lib.hid ((Gr.new w _).trans hg)
    clear hg
    go_wp2_with fail
    go_ret
    exact ⟨rfl, HG.out⟩
  | false =>
    have HBIG := Lib.hid hbig
    have HLA := Lib.hid (show xs.length ≤ 300 from not_big hbig xs (by simp))
    have HLB := Lib.hid (show ys.length ≤ 300 from not_big hbig ys (by simp))
    clear hbig
    go_enter Try.func9, Try.ntmps9
    go_wp2_with fail
    refine (large_any w.heap.size 2 _ [xs, ys] _ (ll_two HU.out HV.out _ rfl) (by omega) HLL.out).mono ?_
    rintro e w1 ⟨rfl, rfl⟩
    rw [HBIG.out]
    go_wp2_with fail
    refine (pInterp_any m xs ys _ _ _ (HU.out.later (Gr.new w _)) (HV.out.later (Gr.new w _)) HLX.out HLY.out).mono ?_
    rintro e w2 ⟨x, n, c, l, E, rfl, hl, hr, hf, hg⟩
    have HG2 := Lib.hid ((Gr.new w _).trans hg)
    have HL := Lib.hid hl
    have HNL := Lib.hid hl.len.1
    have HR := Lib.hid hr
    have hEc := itE_cases m xs ys
    rw [← hr.1] at hEc
    clear hl hr hf hg
    rcases hEc with rfl | rfl | ⟨rfl, h7⟩ | rfl
    · obtain rfl : n = 0 := by rw [HNL.out, HR.out.2.1 (by omega)]; rfl
      go_wp2_with fail
      refine (awake_any _).mono ?_
      rintro e wz ⟨rfl, hg⟩
      have HGZ := Lib.hid (HG2.out.trans hg)
      clear hg
      go_wp2_with fail
      go_ret
      exact ⟨rfl, HGZ.out⟩
    · obtain rfl : n = 0 := by rw [HNL.out, HR.out.2.1 (by omega)]; rfl
      go_wp2_with fail
      refine (awake_any _).mono ?_
      rintro e wz ⟨rfl, hg⟩
      have HGZ := Lib.hid (HG2.out.trans hg)
      clear hg
      go_wp2_with fail
      go_ret
      exact ⟨rfl, HGZ.out⟩
    · have HM := Lib.hid h7.1
      have hm2 : 2 ≤ m := h7.1.1
      have hm3 : m ≤ 2147483647 := h7.1.2
      have HRX := Lib.hid h7.2.2.1
      have HNAU := Lib.hid h7.2.2.2
      have hna3 : na ≤ 300 := by have := HNA.out; have := HLA.out; omega
      clear h7
      go_wp2_with fail
      have hdec : decide (0 < m) = true := decide_eq_true (by omega)
      rw [hdec]
      clear hdec
      go_loopw [9] (fun t wr => ∃ i : Nat, t = .int .i64 (i : Nat) ∧ i ≤ na ∧ (∀ a, a < i → ∀ b, b < a → Op.Un m (Op.cf xs a - Op.cf xs b)) ∧ Gr w wr) (fun t _ => na - (intOf t).toNat)
      case atStart => exact ⟨0, rfl, by omega, fun a ha => by omega, HG2.out⟩
      case round =>
        obtain ⟨i, rfl, hi, hun, hg⟩ := hrel
        have HUN := Lib.hid hun
        have HGI := Lib.hid hg
        clear hun hg
        by_cases hlt : i < na
        · have hi1 : (i : Int) < (na : Int) := by omega
          go_wp2_with fail
          go_loopw [10] (fun t wr => ∃ k : Nat, t = .int .i64 (k : Nat) ∧ k ≤ i ∧ (∀ b, b < k → Op.Un m (Op.cf xs i - Op.cf xs b)) ∧ Gr w wr) (fun t _ => i - (intOf t).toNat)
          case atStart => exact ⟨0, rfl, by omega, fun b hb => by omega, HGI.out⟩
          case round =>
            obtain ⟨k, rfl, hk, hunk, hg⟩ := hrel
            have HUNK := Lib.hid hunk
            have HGK := Lib.hid hg
            clear hunk hg
            by_cases hkl : k < i
            · have hk1 : (k : Int) < (na : Int) := by omega
              have hk2 : (k : Int) < (i : Int) := by omega
              obtain ⟨gx, ox, rfl, hcx⟩ : ∃ gx ox, xa = some ⟨gx, ox, none⟩ ∧ ∀ i, i < na → wr.cell? ⟨gx, ox + i, none⟩ = some (.int .u32 (Op.cf xs i)) := by
                obtain ⟨_, a, c', e, _, _, h3⟩ := HU.out.later HGK.out
                cases e
                obtain ⟨gx, ox, e, _⟩ := h3 0 (by have := HNA.out; omega)
                refine ⟨gx, ox, e, fun i hi => ?_⟩
                obtain ⟨g', o', e', hc⟩ := h3 i (by have := HNA.out; omega)
                rw [e] at e'
                cases e'
                exact hc
              have hci := hcx i hlt
              have hck := hcx k (by omega)
              have hXb := Op.rs_cf (show 0 < m by omega) HRX.out i
              have hYb := Op.rs_cf (show 0 < m by omega) HRX.out k
              obtain ⟨X, hX⟩ : ∃ X, X = Op.cf xs i := ⟨_, rfl⟩
              obtain ⟨Y, hY⟩ : ∃ Y, Y = Op.cf xs k := ⟨_, rfl⟩
              rw [← hX] at hci hXb
              rw [← hY] at hck hYb
              have HX := Lib.hid hX
              have HY := Lib.hid hY
              have r0 := emod_lo (X + m - Y) m (by omega)
              have r1 := emod_hi (X + m - Y) m (by omega)
              have HRB := Lib.hid (show 0 ≤ (X + m - Y) % m ∧ (X + m - Y) % m < m from ⟨r0, by have := Int.emod_lt_of_pos (X + m - Y) (show 0 < m by omega); exact this⟩)
              have HMB := Lib.hid (show 2 ≤ m ∧ m ≤ 2147483647 from ⟨hm2, hm3⟩)
              have hmz : ¬ (m = 0) := by omega
              have hmzb : (m == 0) = false := by simp; omega
              have q0 : m % 18446744073709551616 = m := Int.emod_eq_of_lt (by omega) (by omega)
              have q1 : (X + m) % 18446744073709551616 = X + m := Int.emod_eq_of_lt (by omega) (by omega)
              have q2 : (X + m - Y) % 18446744073709551616 = X + m - Y := Int.emod_eq_of_lt (by omega) (by omega)
              have q3 : X % 18446744073709551616 = X := Int.emod_eq_of_lt (by omega) (by omega)
              have q4 : Y % 18446744073709551616 = Y := Int.emod_eq_of_lt (by omega) (by omega)
              have q5 : (X + m - Y) % m % 18446744073709551616 = (X + m - Y) % m := Int.emod_eq_of_lt (by omega) (by omega)
              have q6 : (X + m - Y) % m % 4294967296 = (X + m - Y) % m := Int.emod_eq_of_lt (by omega) (by omega)
              have q7 : (X + m - Y).tmod m = (X + m - Y) % m := Int.tmod_eq_emod_of_nonneg (by omega)
              have w1 : IntKind.u64.wrap (X + m) = X + m := IntWalk.u64_in _ (by omega)
              have w2' : IntKind.u64.wrap (X + m - Y) = X + m - Y := IntWalk.u64_in _ (by omega)
              have w3 : IntKind.u64.wrap ((X + m - Y) % m) = (X + m - Y) % m := IntWalk.u64_in _ (by omega)
              have w4 : IntKind.u32.wrap ((X + m - Y) % m) = (X + m - Y) % m := IntWalk.u32_in _ (by omega)
              have w5 : IntKind.u64.wrap m = m := IntWalk.u64_in _ (by omega)
              have w6 : IntKind.u64.wrap X = X := IntWalk.u64_in _ (by omega)
              have w7 : IntKind.u64.wrap Y = Y := IntWalk.u64_in _ (by omega)
              clear hcx hX hY
              by_cases hu : Op.Un m ((X + m - Y) % m)
              · have HUU := Lib.hid hu
                clear hu
                go_wp2_with fail
                go_region_held3 (fun wz => wz.cell? ⟨gx, ox + i, none⟩ = some (.int .u32 X) ∧ wz.cell? ⟨gx, ox + k, none⟩ = some (.int .u32 Y)) (go_keep)
                  (first | (go_at_call 41; refine (inv5_yes m ((X + m - Y) % m) _ HMB.out HRB.out HUU.out).mono ?_; rintro e w' ⟨b, rfl, rfl⟩))
                go_wp2_with fail
                go_roundw
                case rel =>
                  refine ⟨k + 1, by simp, by omega, fun b hb => ?_, HGK.out.drew⟩
                  by_cases hbk : b = k
                  · subst hbk; rw [← HX.out, ← HY.out]; exact diff_un.1 HUU.out
                  · exact HUNK.out b (by omega)
                case measure => simp [intOf]; omega
              · have HUU := Lib.hid hu
                clear hu
                go_wp2_with fail
                go_region_held3 (fun wz => wz.cell? ⟨gx, ox + i, none⟩ = some (.int .u32 X) ∧ wz.cell? ⟨gx, ox + k, none⟩ = some (.int .u32 Y)) (go_keep)
                  (first | (go_at_call 41; refine (inv5_no m ((X + m - Y) % m) _ HMB.out HRB.out HUU.out).mono ?_; rintro e w' ⟨rfl, rfl⟩))
                go_wp2_with fail
                refine (awake_any _).mono ?_
                rintro e wz ⟨rfl, hg⟩
                have HGZ := Lib.hid ((show Gr w wr.drew from HGK.out.drew).trans hg)
                clear hg
                go_wp2_with fail
                go_ret
                exact ⟨rfl, HGZ.out⟩
            · have HKI := Lib.hid (show k = i by omega)
              go_wp2_with fail
              go_roundw
              case rel =>
                refine ⟨i + 1, by simp, by omega, fun a ha b hb => ?_, HGK.out⟩
                · by_cases hai : a = i
                  · subst hai; exact HUNK.out b (by have := HKI.out; omega)
                  · exact HUN.out a (by omega) b hb
              case measure => simp [intOf]; omega
        · exact absurd (show Op.Au m xs from fun a ha b hb => HUN.out a (by have := HNA.out; omega) b hb) HNAU.out
    · have hz := itE_au HR.out.1.symm
      have HM := Lib.hid hz.1
      have hm2 : 2 ≤ m := hz.1.1
      have hm3 : m ≤ 2147483647 := hz.1.2
      have HRX := Lib.hid hz.2.2.2.1
      have HRY := Lib.hid hz.2.2.2.2.1
      obtain rfl : nb = na := by have h1 := HNA.out; have h2 := HNB.out; have h3 := hz.2.1; omega
      have hna3 : nb ≤ 256 := by have h1 := HNA.out; have := hz.2.2.1; omega
      have HTH := Lib.hid (HR.out.2.2 rfl)
      have hn : n ≤ nb := by rw [HNL.out, HNA.out]; exact HTH.out.2.1
      have HOK := Lib.hid (show l.length ≤ 256 ∧ Op.Nf m l from ⟨by have := HNL.out; omega, HTH.out.1⟩)
      have HCK := Lib.hid (ck1 HM.out HOK.out)
      clear hz
      go_wp2_with fail
      refine (pCheck_any m l _ _ HL.out (by have := HOK.out.1; omega)).mono ?_
      rintro e w3 ⟨rfl, hg⟩
      rw [HCK.out]
      have HG3 := Lib.hid (HG2.out.trans hg)
      have HL3 := Lib.hid (HL.out.later hg)
      clear hg
      go_wp2_with fail
      have hdec : decide (nb < n) = false := decide_eq_false (by omega)
      rw [hdec]
      clear hn hdec
      go_loopw [13] (fun t wr => ∃ i : Nat, t = .int .i64 (i : Nat) ∧ i ≤ nb ∧ Gr w wr ∧ HasP wr (.slice x n c) l) (fun t _ => nb - (intOf t).toNat)
      case atStart => exact ⟨0, rfl, by omega, HG3.out, HL3.out⟩
      case round =>
        obtain ⟨i, rfl, hi, hg, hl⟩ := hrel
        have HGI := Lib.hid hg
        have HLI := Lib.hid hl
        clear hg hl
        by_cases hlt : i < nb
        · have hi1 : (i : Int) < (nb : Int) := by omega
          obtain ⟨gx, ox, rfl, hcx⟩ : ∃ gx ox, xa = some ⟨gx, ox, none⟩ ∧ wr.cell? ⟨gx, ox + i, none⟩ = some (.int .u32 (Op.cf xs i)) := by
            obtain ⟨_, a, c', e, _, _, h3⟩ := HU.out.later HGI.out
            cases e
            obtain ⟨gx, ox, e, hc⟩ := h3 i (by have := HNA.out; omega)
            exact ⟨gx, ox, e, hc⟩
          have hXb := Op.rs_cf (show 0 < m by omega) HRX.out i
          have hYb := Op.rs_cf (show 0 < m by omega) HRY.out i
          have HEV := Lib.hid (show Op.ev l (Op.cf xs i) % m = Op.cf ys i from by
            have h := HTH.out.2.2 i (by have := HNA.out; omega)
            rw [Int.emod_eq_emod_iff_emod_sub_eq_zero.2 (Int.emod_eq_zero_of_dvd h), Int.emod_eq_of_lt hYb.1 hYb.2])
          obtain ⟨X, hX⟩ : ∃ X, X = Op.cf xs i := ⟨_, rfl⟩
          obtain ⟨Y, hY⟩ : ∃ Y, Y = Op.cf ys i := ⟨_, rfl⟩
          rw [← hX] at hcx hXb HEV
          rw [← hY] at hYb HEV
          have HXB := Lib.hid hXb
          have HY := Lib.hid hY
          clear hX hY
          go_wp2_with fail
          refine (gEval m X l _ _ HM.out HXB.out HOK.out HLI.out).mono ?_
          rintro e w4 ⟨rfl, hg⟩
          rw [HEV.out]
          have HG4 := Lib.hid (HGI.out.trans hg)
          have HL4 := Lib.hid (HLI.out.later hg)
          obtain ⟨gy, oy, rfl, hcy⟩ : ∃ gy oy, xb = some ⟨gy, oy, none⟩ ∧ w4.cell? ⟨gy, oy + i, none⟩ = some (.int .u32 (Op.cf ys i)) := by
            obtain ⟨_, a, c', e, _, _, h3⟩ := HV.out.later HG4.out
            cases e
            obtain ⟨gy, oy, e, hc⟩ := h3 i (by have := HNB.out; omega)
            exact ⟨gy, oy, e, hc⟩
          rw [← HY.out] at hcy
          clear hg
          go_wp2_with fail
          go_roundw
          case rel => exact ⟨i + 1, by simp, by omega, HG4.out, HL4.out⟩
          case measure => simp [intOf]; omega
        · go_wp2_with fail
          refine (awake_any _).mono ?_
          rintro e wz ⟨rfl, hg⟩
          have HGZ := Lib.hid (HGI.out.trans hg)
          clear hg
          go_wp2_with fail
          go_ret
          exact ⟨rfl, HGZ.out⟩
end Go.Proofs.Ytaenjbemkeghgaa
