/- The reference's Interpolate. -/
import Derived.Test.YtaenjbemkeghgaaIti
import Derived.Test.YtaenjbemkeghgaaLag
import Derived.Test.YtaenjbemkeghgaaPrd
namespace Go.Proofs.Ytaenjbemkeghgaa
open Go.RowKit
set_option linter.unusedVariables false

theorem rs_of_cf {m : Int} {l : List Int} (h : U32 l) (k : ∀ j, j < l.length → Op.cf l j < m) : Op.Rs m l := fun x hx => by
  obtain ⟨j, hj, rfl⟩ := List.getElem_of_mem hx
  have := k j hj
  rw [← Op.cf_at, List.getElem?_eq_getElem hj] at this
  exact ⟨(h _ hx).1, this⟩
theorem lag_next {m : Int} {xs : List Int} {i k : Nat} {y L v : Int} {p : List Int} (hk : k ≠ i) (hL : m ∣ L + Op.cf xs k) (hv : m ∣ (Op.cf xs i - Op.cf xs k) * v - 1) (h : Op.LagI m xs i k y p) :
    Op.LagI m xs i (k + 1) y (Op.nf m (Op.mul (Op.nf m (Op.mul (Op.tz p) [L, 1])) [v])) := by
  refine Op.LagI.next hk hL hv ?_ h
  refine (Op.nf_cg m _).trans (((Op.nf_cg m _).mul (Op.Cg.refl m [v])).trans ((Op.cg_scn m v _).trans (Op.Cg.sc v (Op.Cg.of fun j => ?_))))
  exact Op.mul_congr (fun j => Op.cf_tz p j) (fun _ => rfl) j
theorem lag_sum {m : Int} {xs ys : List Int} {i : Nat} {o p : List Int} (hi : i < xs.length) (h : Op.LagS m xs ys i o) (k : Op.LagI m xs i xs.length (Op.cf ys i) p) :
    Op.LagS m xs ys (i + 1) (Op.nf m (Op.add o (Op.sc (-1) (Op.nf m (Op.add [] (Op.sc (-1) (Op.tz p))))))) := by
  refine Op.LagS.next hi ?_ h k
  refine (Op.nf_cg m _).trans (((Op.Cg.refl m o).add ((Op.nf_cg m _).sc (-1))).trans (Op.Cg.of fun j => ?_))
  rw [Op.cf_add, Op.cf_add, Op.cf_sc, Op.cf_add, Op.cf_sc, Op.cf_tz, Op.cf_nil]; omega
theorem lag_thr {m : Int} (hm : 0 < m) {xs ys o : List Int} (hn : Op.Nf m o) (h : Op.LagS m xs ys xs.length o) : Thr m xs ys o :=
  ⟨hn, Op.len_deg hn.2 (fun d hd => by
    have h1 := h.2.2 d hd
    have h2 := Op.rs_cf hm hn.1 d
    have h3 := Int.emod_eq_zero_of_dvd h1
    rwa [Int.emod_eq_of_lt h2.1 h2.2] at h3), fun i hi => h.1 i hi⟩
theorem lag_len {m : Int} {p : List Int} {L v : Int} {k : Nat} (h : p.length ≤ 3 * k + 1) : (Op.nf m (Op.mul (Op.nf m (Op.mul (Op.tz p) [L, 1])) [v])).length ≤ 3 * (k + 1) + 1 := by
  have h1 := Op.nf_len m (Op.mul (Op.nf m (Op.mul (Op.tz p) [L, 1])) [v])
  have h2 := Op.mul_len (Op.nf m (Op.mul (Op.tz p) [L, 1])) [v]
  have h3 := Op.nf_len m (Op.mul (Op.tz p) [L, 1])
  have h4 := Op.mul_len (Op.tz p) [L, 1]
  have h5 := Op.tz_len p
  simp at h2 h4
  omega
theorem linv_yes (m a : Int) (w : World) (hm : 2 ≤ m ∧ m ≤ 2147483647) (ha : 0 ≤ a ∧ a < m) (hu : Op.Un m a) :
    Calls Try.prog 41 #[.int .u32 a, .int .u32 m] w (fun e w' => ∃ b, e = .returned (.tuple #[.int .u32 b, .bool true]) ∧ 0 ≤ b ∧ b < m ∧ m ∣ a * b - 1 ∧ w = w') := by
  refine (inverse5_any m a w hm ha).mono ?_
  rintro e w' (⟨b, rfl, _, h1, h2, h3, rfl⟩ | ⟨_, h, _⟩)
  · exact ⟨b, rfl, h1, h2, h3, rfl⟩
  · exact absurd hu h
theorem linv_no (m a : Int) (w : World) (hm : 2 ≤ m ∧ m ≤ 2147483647) (ha : 0 ≤ a ∧ a < m) (hu : ¬ Op.Un m a) :
    Calls Try.prog 41 #[.int .u32 a, .int .u32 m] w (fun e w' => e = .returned (.tuple #[.int .u32 0, .bool false]) ∧ w = w') := by
  refine (inverse5_any m a w hm ha).mono ?_
  rintro e w' (⟨b, _, h, _⟩ | ⟨rfl, _, rfl⟩)
  · exact absurd h hu
  · exact ⟨rfl, rfl⟩
theorem ldiff_cg (m X Y : Int) : m ∣ (X + m - Y) % m - (X - Y) := by
  have h1 := Op.dvd_mod m (X + m - Y)
  have e : (X + m - Y) % m - (X - Y) = ((X + m - Y) % m - (X + m - Y)) + m * 1 := by omega
  rw [e]; exact Int.dvd_add h1 ⟨1, rfl⟩
theorem ldiff_un {m X Y : Int} (h : Op.Un m (X - Y)) : Op.Un m ((X + m - Y) % m) := h.cg (by
  have := Int.dvd_neg.2 (ldiff_cg m X Y)
  have e : X - Y - (X + m - Y) % m = -((X + m - Y) % m - (X - Y)) := by omega
  rw [e]; exact this)
theorem ldiff_inv {m X Y b : Int} (h : m ∣ (X + m - Y) % m * b - 1) : m ∣ (X - Y) * b - 1 := by
  have h1 := Int.dvd_mul_of_dvd_left (c := b) (ldiff_cg m X Y)
  have e : (X - Y) * b - 1 = ((X + m - Y) % m * b - 1) - ((X + m - Y) % m - (X - Y)) * b := by rw [Int.sub_mul ((X + m - Y) % m)]; omega
  rw [e]; exact Int.dvd_sub h h1

set_option maxRecDepth 100000 in
set_option maxHeartbeats 4000000 in
theorem rInterp_any (m : Int) (xs ys : List Int) (u v : Value) (w : World) (hm : 0 ≤ m ∧ m ≤ 4294967295) (hu : HasP w u xs) (hv : HasP w v ys) (hlx : xs.length ≤ 9223372036854775807) (hly : ys.length ≤ 9223372036854775807) :
    Calls Try.prog 40 #[.int .u32 m, u, v] w (NewE (ItR m xs ys) w) := by
  obtain ⟨-, xa, ca, rfl, -, -, -⟩ := id hu
  obtain ⟨-, xb, cb, rfl, -, -, -⟩ := id hv
  obtain ⟨na, hna⟩ : ∃ na, na = xs.length := ⟨_, rfl⟩
  obtain ⟨nb, hnb⟩ : ∃ nb, nb = ys.length := ⟨_, rfl⟩
  have HUX := Lib.hid hu.1
  have HUY := Lib.hid hv.1
  rw [← hna] at hu hlx ⊢
  rw [← hnb] at hv hly ⊢
  have HU := Lib.hid hu
  have HV := Lib.hid hv
  have HNA := Lib.hid hna
  have HNB := Lib.hid hnb
  obtain ⟨hm0, hm1⟩ := hm
  clear hu hv hna hnb
  have HC : m < 2 ∨ (¬ m < 2 ∧ m > 2147483647) ∨ (¬ m < 2 ∧ ¬ m > 2147483647) := by omega
  rcases HC with h2 | ⟨h2, h3⟩ | ⟨h2, h3⟩
  · go_enter Try.func40, Try.ntmps40
    go_wp2_with fail
    go_ret2
    exact itNil (itR_err (itE_bad (fun h => by have := h.1.1; omega)) (by omega)) (Gr.refl w)
  · go_enter Try.func40, Try.ntmps40
    go_wp2_with fail
    go_ret2
    exact itNil (itR_err (itE_bad (fun h => by have := h.1.2; omega)) (by omega)) (Gr.refl w)
  have HM := Lib.hid (show okM m from ⟨by omega, by omega⟩)
  rcases (Decidable.em (na = nb)).symm with he | he
  · have hne : (((na : Int) != (nb : Int))) = true := by simp; omega
    have hne2 : ¬ ((na : Int) = (nb : Int)) := by omega
    go_enter Try.func40, Try.ntmps40
    go_wp2_with fail
    go_ret2
    exact itNil (itR_err (itE_bad (fun h => he (by rw [HNA.out, HNB.out]; exact h.2))) (by omega)) (Gr.refl w)
  subst he
  have HOK := Lib.hid (show okM m ∧ xs.length = ys.length from ⟨HM.out, HNA.out.symm.trans HNB.out⟩)
  by_cases hl : (256 : Int) < (na : Int)
  · go_enter Try.func40, Try.ntmps40
    go_wp2_with fail
    go_ret2
    exact itNil (itR_err (itE_long HOK.out (by have := HNA.out; omega)) (by omega)) (Gr.refl w)
  have HL := Lib.hid (show ¬ 256 < xs.length from by have := HNA.out; omega)
  go_enter Try.func40, Try.ntmps40
  go_wp2_with fail
  go_loopw [8] (fun t wr => ∃ i : Nat, t = .int .i64 (i : Nat) ∧ i ≤ na ∧ (∀ j, j < i → Op.cf xs j < m ∧ Op.cf ys j < m) ∧ Gr w wr) (fun t _ => na - (intOf t).toNat)
  case atStart => exact ⟨0, rfl, by omega, fun j hj => by omega, Gr.refl w⟩
  case round =>
    obtain ⟨i, rfl, hi, hlow, hg⟩ := hrel
    have HLOW := Lib.hid hlow
    have HGI := Lib.hid hg
    clear hlow hg
    by_cases hlt : i < na
    · have hi1 : (i : Int) < (na : Int) := by omega
      obtain ⟨gx, ox, rfl, hcx⟩ : ∃ gx ox, xa = some ⟨gx, ox, none⟩ ∧ wr.cell? ⟨gx, ox + i, none⟩ = some (.int .u32 (Op.cf xs i)) := by
        obtain ⟨_, a, c', e, _, _, h3⟩ := HU.out.later HGI.out
        cases e
        obtain ⟨gx, ox, e, hc⟩ := h3 i (by have := HNA.out; omega)
        exact ⟨gx, ox, e, hc⟩
      obtain ⟨gy, oy, rfl, hcy⟩ : ∃ gy oy, xb = some ⟨gy, oy, none⟩ ∧ wr.cell? ⟨gy, oy + i, none⟩ = some (.int .u32 (Op.cf ys i)) := by
        obtain ⟨_, a, c', e, _, _, h3⟩ := HV.out.later HGI.out
        cases e
        obtain ⟨gx, ox, e, hc⟩ := h3 i (by have := HNB.out; omega)
        exact ⟨gx, ox, e, hc⟩
      have hXb := HUX.out.at_ i
      have hYb := HUY.out.at_ i
      obtain ⟨X, hX⟩ : ∃ X, X = Op.cf xs i := ⟨_, rfl⟩
      obtain ⟨Y, hY⟩ : ∃ Y, Y = Op.cf ys i := ⟨_, rfl⟩
      rw [← hX] at hcx hXb
      rw [← hY] at hcy hYb
      have HX := Lib.hid hX
      have HY := Lib.hid hY
      clear hX hY
      by_cases hxm : X ≥ m
      · go_wp2_with fail
        go_ret2
        exact itNil (itR_err (itE_high HOK.out HL.out (fun h => by have := (Op.rs_cf (show 0 < m by omega) h.1 i).2; have := HX.out; omega)) (by omega)) HGI.out
      · by_cases hym : Y ≥ m
        · go_wp2_with fail
          go_ret2
          exact itNil (itR_err (itE_high HOK.out HL.out (fun h => by have := (Op.rs_cf (show 0 < m by omega) h.2 i).2; have := HY.out; omega)) (by omega)) HGI.out
        · go_wp2_with fail
          go_roundw
          case rel =>
            refine ⟨i + 1, by simp, by omega, fun j hj => ?_, HGI.out⟩
            by_cases hji : j = i
            · subst hji; rw [← HX.out, ← HY.out]; omega
            · exact HLOW.out j (by omega)
          case measure => simp [intOf]; omega
    · obtain rfl : i = na := by omega
      have HRX := Lib.hid (rs_of_cf (m := m) HUX.out (fun j hj => (HLOW.out j (by have := HNA.out; omega)).1))
      have HRY := Lib.hid (rs_of_cf (m := m) HUY.out (fun j hj => (HLOW.out j (by have := HNB.out; omega)).2))
      have HMB := Lib.hid (show 1 ≤ m ∧ m ≤ 4294967295 from by omega)
      have HMB2 := Lib.hid (show 2 ≤ m ∧ m ≤ 2147483647 from by omega)
      go_wp2_with fail
      go_loopw [9, 10] (fun s t wr => ∃ (e : Nat), ∃ x n c o, s = .slice x n c ∧ t = .int .i64 (e : Nat) ∧ e ≤ i ∧ HasP wr (.slice x n c) o ∧ Op.Nf m o ∧ Op.LagS m xs ys e o ∧ (∀ a, a < e → ∀ b, b < a → Op.Un m (Op.cf xs a - Op.cf xs b)) ∧ o.length ≤ 2000 ∧ (∀ p, x = some p → w.heap.size ≤ p.block) ∧ Gr w wr) (fun _ t _ => i - (intOf t).toNat)
      case atStart => exact ⟨0, none, 0, 0, [], rfl, rfl, by omega, HasP.nil _, ⟨fun x hx => (by simp at hx), rfl⟩, Op.LagS.start m xs ys, fun a ha => by omega, by simp, fun p hp => (by cases hp), HGI.out⟩
      case round =>
        obtain ⟨e, x, n, c, o, rfl, rfl, he, ho, hnf, hlag, hun, hlo, hfr, hg⟩ := hrel
        have HO := Lib.hid ho
        have HNF := Lib.hid hnf
        have HLAG := Lib.hid hlag
        have HUN := Lib.hid hun
        have HLO := Lib.hid hlo
        have HFR := Lib.hid hfr
        have HG := Lib.hid hg
        clear ho hnf hlag hun hlo hfr hg
        by_cases hlt2 : e < i
        · have hi1 : (e : Int) < (i : Int) := by omega
          obtain ⟨gy, oy, rfl, hcy⟩ : ∃ gy oy, xb = some ⟨gy, oy, none⟩ ∧ wr.cell? ⟨gy, oy + e, none⟩ = some (.int .u32 (Op.cf ys e)) := by
            obtain ⟨_, a, c', e', _, _, h3⟩ := HV.out.later HG.out
            cases e'
            obtain ⟨gx, ox, e', hc⟩ := h3 e (by have := HNB.out; omega)
            exact ⟨gx, ox, e', hc⟩
          have hYb := Op.rs_cf (show 0 < m by omega) HRY.out e
          obtain ⟨Y, hY⟩ : ∃ Y, Y = Op.cf ys e := ⟨_, rfl⟩
          rw [← hY] at hcy hYb
          have HY := Lib.hid hY
          have HP1 := Lib.hid (show HasP (wr.alloc (.cells #[.int .u32 Y] 22)) (.slice (some ⟨wr.heap.size, 0, none⟩) 1 1) [Y] from one_hasP' wr Y _ rfl (by omega))
          have HRS1 := Lib.hid (show Op.Rs m [Y] from fun z hz => (by simp at hz; subst hz; exact hYb))
          clear hY
          go_wp2_with fail
          go_loopw [11, 12] (fun s t wq => ∃ (k : Nat), ∃ y n' c' q, s = .slice y n' c' ∧ t = .int .i64 (k : Nat) ∧ k ≤ i ∧ HasP wq (.slice y n' c') q ∧ Op.Rs m q ∧ q.length ≤ 3 * k + 1 ∧ Op.LagI m xs e k (Op.cf ys e) q ∧ (∀ b, b < k → b ≠ e → Op.Un m (Op.cf xs e - Op.cf xs b)) ∧ Gr wr wq) (fun _ t _ => i - (intOf t).toNat)
          case atStart => exact ⟨0, some ⟨wr.heap.size, 0, none⟩, 1, 1, [Y], rfl, rfl, by omega, HP1.out, HRS1.out, by simp, Op.LagI.start m xs e _ (by rw [← HY.out]; exact Op.Cg.refl m [Y]), fun b hb => by omega, Gr.new wr _⟩
          case round =>
            obtain ⟨k, y, n', c', q, rfl, rfl, hk, hq, hrs, hlq, hlagi, hunk, hgq⟩ := hrel
            have HQ := Lib.hid hq
            have HRS := Lib.hid hrs
            have HLQ := Lib.hid hlq
            have HLAGI := Lib.hid hlagi
            have HUNK := Lib.hid hunk
            have HGQ := Lib.hid hgq
            clear hq hrs hlq hlagi hunk hgq
            by_cases hkl : k < i
            · have hk1 : (k : Int) < (i : Int) := by omega
              by_cases hke : k = e
              · have HKE := Lib.hid hke
                have hke2 : ((k : Int) == (e : Int)) = true := by simp; omega
                have hke3 : (k : Int) = (e : Int) := by omega
                clear hke
                go_wp2_with fail
                go_roundw
                case rel =>
                  refine ⟨k + 1, y, n', c', q, rfl, by simp; omega, by omega, HQ.out, HRS.out, by have := HLQ.out; omega, ?_, fun b hb hbe => ?_, HGQ.out⟩
                  · have h := HLAGI.out
                    rw [HKE.out] at h ⊢
                    exact h.skip
                  · exact HUNK.out b (by have := HKE.out; omega) hbe
                case measure => simp [intOf]; omega
              · have HKE := Lib.hid hke
                have hke2 : ((k : Int) == (e : Int)) = false := by simp; omega
                have hke3 : ¬ (k : Int) = (e : Int) := by omega
                clear hke
                obtain ⟨gx, ox, rfl, hcx⟩ : ∃ gx ox, xa = some ⟨gx, ox, none⟩ ∧ ∀ j, j < i → wr.cell? ⟨gx, ox + j, none⟩ = some (.int .u32 (Op.cf xs j)) := by
                  obtain ⟨_, a, c'', e', _, _, h3⟩ := HU.out.later (HG.out.trans HGQ.out)
                  cases e'
                  obtain ⟨gx, ox, e', _⟩ := h3 0 (by have := HNA.out; omega)
                  refine ⟨gx, ox, e', fun j hj => ?_⟩
                  obtain ⟨g', o', e'', hc⟩ := h3 j (by have := HNA.out; omega)
                  rw [e'] at e''
                  cases e''
                  exact hc
                have hci := hcx e hlt2
                have hck := hcx k hkl
                have hXb := Op.rs_cf (show 0 < m by omega) HRX.out e
                have hZb := Op.rs_cf (show 0 < m by omega) HRX.out k
                obtain ⟨X, hX⟩ : ∃ X, X = Op.cf xs e := ⟨_, rfl⟩
                obtain ⟨Z, hZ⟩ : ∃ Z, Z = Op.cf xs k := ⟨_, rfl⟩
                rw [← hX] at hci hXb
                rw [← hZ] at hck hZb
                have HX := Lib.hid hX
                have HZ := Lib.hid hZ
                have r0 := emod_lo (X + m - Z) m (by omega)
                have r1 := emod_hi (X + m - Z) m (by omega)
                have HRB := Lib.hid (show 0 ≤ (X + m - Z) % m ∧ (X + m - Z) % m < m from ⟨r0, r1⟩)
                have hmz : ¬ (m = 0) := by omega
                have hmzb : (m == 0) = false := by simp; omega
                have q0 : m % 18446744073709551616 = m := Int.emod_eq_of_lt (by omega) (by omega)
                have q1 : (X + m) % 18446744073709551616 = X + m := Int.emod_eq_of_lt (by omega) (by omega)
                have q2 : (X + m - Z) % 18446744073709551616 = X + m - Z := Int.emod_eq_of_lt (by omega) (by omega)
                have q3 : X % 18446744073709551616 = X := Int.emod_eq_of_lt (by omega) (by omega)
                have q4 : Z % 18446744073709551616 = Z := Int.emod_eq_of_lt (by omega) (by omega)
                have q5 : (X + m - Z) % m % 18446744073709551616 = (X + m - Z) % m := Int.emod_eq_of_lt (by omega) (by omega)
                have q6 : (X + m - Z) % m % 4294967296 = (X + m - Z) % m := Int.emod_eq_of_lt (by omega) (by omega)
                have q7 : (X + m - Z).tmod m = (X + m - Z) % m := Int.tmod_eq_emod_of_nonneg (by omega)
                have w1 : IntKind.u64.wrap (X + m) = X + m := IntWalk.u64_in _ (by omega)
                have w2' : IntKind.u64.wrap (X + m - Z) = X + m - Z := IntWalk.u64_in _ (by omega)
                have w3 : IntKind.u64.wrap ((X + m - Z) % m) = (X + m - Z) % m := IntWalk.u64_in _ (by omega)
                have w4 : IntKind.u32.wrap ((X + m - Z) % m) = (X + m - Z) % m := IntWalk.u32_in _ (by omega)
                have w5 : IntKind.u64.wrap m = m := IntWalk.u64_in _ (by omega)
                have w6 : IntKind.u64.wrap X = X := IntWalk.u64_in _ (by omega)
                have w7 : IntKind.u64.wrap Z = Z := IntWalk.u64_in _ (by omega)
                clear hcx hX hZ
                by_cases hu : Op.Un m ((X + m - Z) % m)
                · have HUU := Lib.hid hu
                  clear hu
                  go_wp2_with fail
                  go_region_held3 (fun wz => wz.cell? ⟨gx, ox + e, none⟩ = some (.int .u32 X) ∧ wz.cell? ⟨gx, ox + k, none⟩ = some (.int .u32 Z)) (go_keep)
                    (first | (go_at_call 41; refine (linv_yes m ((X + m - Z) % m) _ HMB2.out HRB.out HUU.out).mono ?_; rintro e w' ⟨b, rfl, hb0, hb1, hb2, rfl⟩; have HB2 := Lib.hid hb2; clear hb2))
                  obtain ⟨L, hL⟩ : ∃ L, L = -Z % m := ⟨_, rfl⟩
                  have hL0 : 0 ≤ L ∧ L < m := by rw [hL]; exact ⟨emod_lo (-Z) m (by omega), emod_hi (-Z) m (by omega)⟩
                  have HLZ := Lib.hid (show m ∣ L + Z from by
                    have h := Op.dvd_mod m (-Z)
                    rw [← hL] at h
                    have e' : L + Z = L - -Z := by omega
                    rw [e']; exact h)
                  have HLL := Lib.hid (show 0 ≤ L ∧ L < 4294967296 from by omega)
                  have HBB := Lib.hid (show 0 ≤ b ∧ b < 4294967296 from by omega)
                  have hL1 : -Z % m = L := hL.symm
                  have hL2 : (m - Z) % m = L := by rw [hL]; simp
                  have hL3 : L % 4294967296 = L := Int.emod_eq_of_lt (by omega) (by omega)
                  clear hL
                  have HGF := Lib.hid (show ∀ ob : Obj, Gr wr ((wr.alloc ob).drew) from fun ob => (Gr.new wr ob).drew)
                  have HFA := Lib.hid (show HasP ((wr.alloc (.cells #[.int .u32 L, .int .u32 1] 22)).drew) (.slice (some ⟨wr.heap.size, 0, none⟩) 2 2) [L, 1] from (two_hasP' wr L 1 _ rfl HLL.out (by omega)).later ((Gr.refl _).drew))
                  have HQL := Lib.hid (show q.length ≤ 1000000 from by have := HLQ.out; omega)
                  go_wp2_with fail
                  refine (trim5_any q _ _ (HQ.out.later (HGF.out _)) HQL.out).mono ?_
                  rintro e1 wt ⟨xt, nt, ct, rfl, ht, hft, hgt⟩
                  have HT := Lib.hid ht
                  have HFA1 := Lib.hid (HFA.out.later hgt)
                  have HGT := Lib.hid ((HGF.out _).trans hgt)
                  have HTL := Lib.hid (show (Op.tz q).length ≤ 100000 from by have := Op.tz_len q; have := HLQ.out; omega)
                  clear ht hft hgt
                  go_wp2_with fail
                  refine (times5_any m (Op.tz q) [L, 1] _ _ _ HMB.out HT.out HFA1.out HTL.out (by simp)).mono ?_
                  rintro e2 wu ⟨xu, nu, cu, rfl, hu2, hfu, hgu⟩
                  have HU2 := Lib.hid hu2
                  have HGU := Lib.hid (HGT.out.trans hgu)
                  have HUL := Lib.hid (show (Op.nf m (Op.mul (Op.tz q) [L, 1])).length ≤ 100000 from by
                    have h1 := Op.nf_len m (Op.mul (Op.tz q) [L, 1])
                    have h2 := Op.mul_len (Op.tz q) [L, 1]
                    have h3 := Op.tz_len q
                    have h4 := HLQ.out
                    simp at h2; omega)
                  clear hu2 hfu hgu
                  have HONE := Lib.hid (show HasP (wu.alloc (.cells #[.int .u32 b] 22)) (.slice (some ⟨wu.heap.size, 0, none⟩) 1 1) [b] from one_hasP' wu b _ rfl HBB.out)
                  go_wp2_with fail
                  refine (times5_any m _ [b] _ _ _ HMB.out (HU2.out.later (Gr.new wu _)) HONE.out HUL.out (by simp)).mono ?_
                  rintro e3 wv ⟨xv, nv, cv, rfl, hv2, hfv, hgv⟩
                  have HV2 := Lib.hid hv2
                  have HGV := Lib.hid ((HGU.out.trans (Gr.new wu _)).trans hgv)
                  clear hv2 hfv hgv
                  go_wp2_with fail
                  go_roundw
                  case rel =>
                    refine ⟨k + 1, _, _, _, _, rfl, by simp, by omega, HV2.out, (Op.nf_nf (by omega) _).1, lag_len HLQ.out, lag_next HKE.out (by rw [← HZ.out]; exact HLZ.out) (by rw [← HX.out, ← HZ.out]; exact ldiff_inv HB2.out) HLAGI.out, fun b hb hbe => ?_, HGQ.out.trans HGV.out⟩
                    by_cases hbk : b = k
                    · subst hbk
                      have h := HUU.out.cg (ldiff_cg m X Z)
                      rw [HX.out, HZ.out] at h
                      exact h
                    · exact HUNK.out b (by omega) hbe
                  case measure => simp [intOf]; omega
                · have HUU := Lib.hid hu
                  clear hu
                  go_wp2_with fail
                  go_region_held3 (fun wz => wz.cell? ⟨gx, ox + e, none⟩ = some (.int .u32 X) ∧ wz.cell? ⟨gx, ox + k, none⟩ = some (.int .u32 Z)) (go_keep)
                    (first | (go_at_call 41; refine (linv_no m ((X + m - Z) % m) _ HMB2.out HRB.out HUU.out).mono ?_; rintro e w' ⟨rfl, rfl⟩))
                  go_wp2_with fail
                  go_ret2
                  exact itNil (itR_err (itE_none HOK.out HL.out ⟨HRX.out, HRY.out⟩ (fun h => HUU.out (by
                    rw [HX.out, HZ.out]
                    exact ldiff_un (h.ne (by have := HNA.out; omega) (by have := HNA.out; omega) (fun hh => HKE.out hh.symm))))) (by omega)) ((HG.out.trans HGQ.out).drew)
            · have HKI := Lib.hid (show k = i by omega)
              have HLAGN := Lib.hid (show Op.LagI m xs e xs.length (Op.cf ys e) q from by
                have h := HLAGI.out
                rw [HKI.out, HNA.out] at h
                exact h)
              have HUNE := Lib.hid (show ∀ b, b < e → Op.Un m (Op.cf xs e - Op.cf xs b) from fun b hb => HUNK.out b (by have := HKI.out; omega) (by omega))
              have HQL := Lib.hid (show q.length ≤ 1000000 from by have := HLQ.out; omega)
              go_wp2_with fail
              refine (trim5_any q _ _ HQ.out HQL.out).mono ?_
              rintro e1 wt ⟨xt, nt, ct, rfl, ht, hft, hgt⟩
              have HT := Lib.hid ht
              have HGT := Lib.hid (HGQ.out.trans hgt)
              have HTL := Lib.hid (show (Op.tz q).length ≤ 100000 from by have := Op.tz_len q; have := HLQ.out; omega)
              have HTR := Lib.hid (show Op.Rs m (Op.tz q) from fun z hz => HRS.out z (Op.tz_mem hz))
              clear ht hft hgt
              go_wp2_with fail
              refine (minus5_any m [] (Op.tz q) _ _ _ HMB.out HTR.out (HasP.nil _) HT.out (by simp) HTL.out).mono ?_
              rintro e2 wu ⟨xu, nu, cu, rfl, hu2, hfu, hgu⟩
              have HU2 := Lib.hid hu2
              have HGU := Lib.hid (HGT.out.trans hgu)
              have HUL := Lib.hid (show (Op.nf m (Op.add [] (Op.sc (-1) (Op.tz q)))).length ≤ 2000 from by
                have h1 := Op.nf_len m (Op.add [] (Op.sc (-1) (Op.tz q)))
                rw [Op.add_len, Op.sc_len] at h1
                have h3 := Op.tz_len q
                have h4 := HLQ.out
                simp at h1; omega)
              have HURS := Lib.hid (Op.nf_nf (show 0 < m by omega) (Op.add [] (Op.sc (-1) (Op.tz q)))).1
              clear hu2 hfu hgu
              go_wp2_with fail
              refine (minus5_any m o _ _ _ _ HMB.out HURS.out (HO.out.later HGU.out) HU2.out (by have := HLO.out; omega) (by have := HUL.out; omega)).mono ?_
              rintro e3 wv ⟨xv, nv, cv, rfl, hv2, hfv, hgv⟩
              have HV2 := Lib.hid hv2
              have HGV := Lib.hid (HGU.out.trans hgv)
              have HFV := Lib.hid (show ∀ p, xv = some p → w.heap.size ≤ p.block from fun p hp => Nat.le_trans (HG.out.trans HGU.out).size (hfv p hp))
              clear hv2 hfv hgv
              go_wp2_with fail
              go_roundw
              case rel =>
                refine ⟨e + 1, _, _, _, _, rfl, by simp, by omega, HV2.out, Op.nf_nf (by omega) _, lag_sum (by have := HNA.out; omega) HLAG.out HLAGN.out, fun a ha b hb => ?_, ?_, HFV.out, HG.out.trans HGV.out⟩
                · by_cases hae : a = e
                  · subst hae; exact HUNE.out b hb
                  · exact HUN.out a (by omega) b hb
                · have h1 := Op.nf_len m (Op.add o (Op.sc (-1) (Op.nf m (Op.add [] (Op.sc (-1) (Op.tz q))))))
                  rw [Op.add_len, Op.sc_len] at h1
                  have := HUL.out
                  have := HLO.out
                  omega
              case measure => simp [intOf]; omega
        · have HEI := Lib.hid (show e = xs.length by have := HNA.out; omega)
          have hz : ¬ (e : Int) < (i : Int) := by omega
          go_wp2_with fail
          go_ret2
          have hau : Op.Au m xs := fun a ha b hb => HUN.out a (by have := HEI.out; omega) b hb
          exact ⟨x, n, c, o, 0, rfl, HO.out, ⟨(itE_ok HOK.out HL.out ⟨HRX.out, HRY.out⟩ hau).symm, fun h => absurd rfl h, fun _ => lag_thr (by omega) HNF.out (by have h := HLAG.out; rw [HEI.out] at h; exact h)⟩, HFR.out, HG.out⟩
end Go.Proofs.Ytaenjbemkeghgaa
