/- The reference: Check, both, Inverse, leads, split. -/
import Derived.Test.YtaenjbemkeghgaaPrb
namespace Go.Proofs.Ytaenjbemkeghgaa
open Go.RowKit
set_option linter.unusedVariables false

set_option maxRecDepth 100000 in
set_option maxHeartbeats 1000000 in
theorem check5_any (m : Int) (a : List Int) (u : Value) (w : World) (hu : HasP w u a) (hla : a.length ≤ 9223372036854775807) :
    Calls Try.prog 19 #[.int .u32 m, u] w (fun e w' => e = .returned (.int .i64 (checkE m [a])) ∧ w = w') := by
  obtain ⟨hd, x, cap, rfl, h1, h2, hc⟩ := hu
  obtain ⟨n, hn⟩ : ∃ n, n = a.length := ⟨_, rfl⟩
  have HC := Lib.hid hc
  have HD := Lib.hid hd
  rw [← hn] at h1 hla ⊢
  have HN := Lib.hid hn
  clear hc hd hn
  have HK := Lib.hid (show chk m [a] = chk1 m a from by unfold chk; split <;> simp_all [chk])
  by_cases hm : okM m
  · have HE := Lib.hid (show checkE m [a] = chk1 m a from (if_pos hm).trans HK.out)
    obtain ⟨hm1, hm2⟩ := hm
    by_cases h256 : 256 < n
    · have HR := Lib.hid (show chk1 m a = 3 from if_pos (by rw [← HN.out]; omega))
      go_enter Try.func19, Try.ntmps19
      go_wp2_with fail
      go_ret
      exact ⟨by rw [HE.out, HR.out]; rfl, rfl⟩
    · have HR := Lib.hid (show chk1 m a = if lowB m a = true ∧ (Op.tz a).length = a.length then 0 else 2 from if_neg (by rw [← HN.out]; omega))
      go_enter Try.func19, Try.ntmps19
      go_wp2_with fail
      go_loop [5] (fun t => ∃ k : Nat, t = .int .i64 k ∧ k ≤ n ∧ ∀ i, i < k → Op.cf a i < m) (fun t => n - (intOf t).toNat)
      case atStart => exact ⟨0, rfl, by omega, fun i hi => by omega⟩
      case round =>
        obtain ⟨k, rfl, hk, ht⟩ := hrel
        have HT := Lib.hid ht
        clear ht
        by_cases hlt : k < n
        · have hjl : k < a.length := by rw [← HN.out]; exact hlt
          obtain ⟨g, o, rfl, hcell⟩ := HC.out k hjl
          have hx := HD.out.at_ k
          obtain ⟨y, hye⟩ : ∃ y, y = Op.cf a k := ⟨_, rfl⟩
          rw [← hye] at hcell hx
          obtain ⟨hx0, hx1⟩ := hx
          have HX := Lib.hid hye
          have HJ := Lib.hid hjl
          clear hye hjl
          by_cases hz : m ≤ y
          · have HR2 := Lib.hid (show chk1 m a = 2 from by
              rw [HR.out]
              apply if_neg
              rintro ⟨h, _⟩
              have := lowB_true.1 h k HJ.out
              rw [← HX.out] at this
              omega)
            go_wp2_with fail
            go_ret
            exact ⟨by rw [HE.out, HR2.out]; rfl, rfl⟩
          · go_wp2_with fail
            go_round
            case rel => exact ⟨k + 1, by go_num, by omega, fun i hi => by
              by_cases h : i < k
              · exact HT.out i h
              · obtain rfl : i = k := by omega
                rw [← HX.out]; omega⟩
            case measure => simp [intOf]; omega
        · obtain rfl : k = n := by omega
          have HLOW := Lib.hid (show lowB m a = true from lowB_true.2 (fun i hi => HT.out i (by rw [HN.out]; exact hi)))
          rcases k with _ | j
          · have HR2 := Lib.hid (show chk1 m a = 0 from by
              rw [HR.out]
              apply if_pos
              have h0 : a = [] := List.eq_nil_of_length_eq_zero HN.out.symm
              refine ⟨HLOW.out, ?_⟩
              rw [h0]; rfl)
            go_wp2_with fail
            go_ret
            exact ⟨by rw [HE.out, HR2.out]; rfl, rfl⟩
          · have hjl : j < a.length := by rw [← HN.out]; omega
            obtain ⟨g, o, rfl, hcell⟩ := HC.out j hjl
            have hx := HD.out.at_ j
            obtain ⟨y, hye⟩ : ∃ y, y = Op.cf a j := ⟨_, rfl⟩
            rw [← hye] at hcell hx
            have HX := Lib.hid (show y = Op.cf a (a.length - 1) from by rw [← HN.out]; exact hye)
            obtain ⟨hx0, hx1⟩ := hx
            have HNE := Lib.hid (show a ≠ [] from by intro h; rw [h] at hjl; simp at hjl)
            clear hye hjl
            have e1 : ((j + 1 : Nat) : Int) - 1 = (j : Int) := by omega
            by_cases hz : y = 0
            · have hb : (y == 0) = true := by simp [hz]
              have HZ := Lib.hid hz
              clear hz
              have HR2 := Lib.hid (show chk1 m a = 2 from by
                rw [HR.out]
                apply if_neg
                rintro ⟨_, h⟩
                have h2 : Op.tz a = a := by rw [tz_take a, h, List.take_length]
                exact Op.tz_last h2 HNE.out (HX.out.symm.trans HZ.out))
              go_wp2_with fail
              go_ret
              exact ⟨by rw [HE.out, HR2.out]; rfl, rfl⟩
            · have hb : (y == 0) = false := by simp [hz]
              have HZ := Lib.hid hz
              clear hz
              have HR2 := Lib.hid (show chk1 m a = 0 from by
                rw [HR.out]
                apply if_pos
                refine ⟨HLOW.out, ?_⟩
                rw [Op.tz_id (fun _ => by rw [← HX.out]; exact HZ.out)])
              go_wp2_with fail
              go_ret
              exact ⟨by rw [HE.out, HR2.out]; rfl, rfl⟩
  · have HE := Lib.hid (show checkE m [a] = 2 from if_neg hm)
    by_cases h1' : m < 2
    · clear hm
      go_enter Try.func19, Try.ntmps19
      go_wp2_with fail
      go_ret
      exact ⟨by rw [HE.out]; rfl, rfl⟩
    · have h2' : 2147483647 < m := by unfold okM at hm; omega
      clear hm
      go_enter Try.func19, Try.ntmps19
      go_wp2_with fail
      go_ret
      exact ⟨by rw [HE.out]; rfl, rfl⟩

theorem checkE_cons (m : Int) (a b : List Int) : checkE m [a, b] = if checkE m [a] = 0 then checkE m [b] else checkE m [a] := by
  unfold checkE
  by_cases h : okM m
  · rw [if_pos h, if_pos h, if_pos h]
    show (if chk1 m a = 0 then chk m [b] else chk1 m a) = _
    have e : ∀ x, chk m [x] = chk1 m x := fun x => by unfold chk; split <;> simp_all [chk]
    rw [e, e]
  · rw [if_neg h, if_neg h, if_neg h]; rfl

set_option maxHeartbeats 1000000 in
theorem both5_any (m : Int) (a b : List Int) (u v : Value) (w : World) (hu : HasP w u a) (hv : HasP w v b) (hla : a.length ≤ 1000) (hlb : b.length ≤ 1000) :
    Calls Try.prog 47 #[.int .u32 m, u, v] w (fun e w' => e = .returned (.int .i64 (checkE m [a, b])) ∧ w = w') := by
  have HU := Lib.hid hu
  have HV := Lib.hid hv
  have HC := Lib.hid (checkE_cons m a b)
  obtain ⟨E, hE⟩ : ∃ E, E = checkE m [a] := ⟨_, rfl⟩
  have HE := Lib.hid hE
  clear hu hv hE
  by_cases h0 : E = 0
  · have hf : (E != 0) = false := by simp [h0]
    have H0 := Lib.hid h0
    clear h0
    go_enter Try.func47, Try.ntmps47
    go_wp2_with fail
    refine (check5_any m a _ _ HU.out (by omega)).mono ?_
    rintro e w1 ⟨rfl, rfl⟩
    rw [← HE.out]
    go_wp2_with fail
    refine (check5_any m b _ _ HV.out (by omega)).mono ?_
    rintro e w1 ⟨rfl, rfl⟩
    go_wp2_with fail
    go_ret
    exact ⟨by rw [HC.out, if_pos (by rw [← HE.out]; exact H0.out)]; rfl, rfl⟩
  · have hf : (E != 0) = true := by simp [h0]
    have H0 := Lib.hid h0
    clear h0
    go_enter Try.func47, Try.ntmps47
    go_wp2_with fail
    refine (check5_any m a _ _ HU.out (by omega)).mono ?_
    rintro e w1 ⟨rfl, rfl⟩
    rw [← HE.out]
    go_wp2_with fail
    go_ret
    exact ⟨by rw [HC.out, if_neg (by rw [← HE.out]; exact H0.out), ← HE.out]; rfl, rfl⟩

/-- The reference's inverse: the inverse and true, or 0 and false. -/
def Inv5 (m a : Int) (w : World) (e : Ending) (w' : World) : Prop :=
  (∃ b, e = .returned (.tuple #[.int .u32 b, .bool true]) ∧ Op.Un m a ∧ 0 ≤ b ∧ b < m ∧ m ∣ a * b - 1 ∧ w = w') ∨ (e = .returned (.tuple #[.int .u32 0, .bool false]) ∧ ¬ Op.Un m a ∧ w = w')
theorem inv_range {m a x : Int} (hm : 2 ≤ m) (h : m ∣ a * x - 1) (h1 : -m ≤ x) (h2 : x ≤ m) : ¬ x = m ∧ ¬ x = -m := by
  constructor
  · rintro rfl
    have := Int.dvd_sub (Int.dvd_mul_left a x) h
    have e : a * x - (a * x - 1) = 1 := by omega
    rw [e] at this
    have := Int.le_of_dvd (by omega) this
    omega
  · rintro rfl
    have h3 : m ∣ a * -m := ⟨-a, by rw [Int.mul_neg, Int.mul_neg, Int.mul_comm]⟩
    have := Int.dvd_sub h3 h
    have e : a * -m - (a * -m - 1) = 1 := by omega
    rw [e] at this
    have := Int.le_of_dvd (by omega) this
    omega

set_option maxHeartbeats 1000000 in
theorem inverse5_nat (a0 n0 : Nat) (w : World) (h : 2 ≤ n0) (h' : n0 ≤ 2147483647) (ha : a0 < n0) :
    Calls Try.prog 41 #[.int .u32 a0, .int .u32 n0] w (Inv5 n0 a0 w) := by
  go_enter Try.func41, Try.ntmps41
  go_wp2_with fail
  go_loop [6, 7, 8, 9] (fun a n x y => ∃ α ν : Nat, ∃ ξ η : Int, a = .int .i64 α ∧ n = .int .i64 ν ∧ x = .int .i64 ξ ∧ y = .int .i64 η ∧ α ≤ 4294967295 ∧ ν ≤ 4294967295 ∧ Bez a0 n0 α ν ξ η) (fun _ n _ _ => (intOf n).toNat)
  case atStart => exact ⟨n0, a0, 0, 1, rfl, rfl, rfl, rfl, by omega, by omega, Bez.start' a0 n0 (by omega)⟩
  case round =>
    obtain ⟨a, n, x, y, rfl, rfl, rfl, rfl, h1, h2, hb⟩ := hrel
    have hx1 := hb.x1
    have hx2 := hb.x2
    have hy1 := hb.y1
    have hy2 := hb.y2
    by_cases h0 : 1 ≤ n
    · have hne : ((n : Int) != 0) = true := by simp; omega
      obtain ⟨hb2, hp1, hp2⟩ := hb.step h0
      have hz1 := hb2.y1
      have hz2 := hb2.y2
      have hq0 : 0 ≤ (a : Int) / n := Int.ediv_nonneg (by omega) (by omega)
      have hq1 : (a : Int) / n ≤ a := Int.ediv_le_self _ (by omega)
      have hr := nat_sub_div a n
      have hlt : a % n < n := Nat.mod_lt _ (by omega)
      have hm1 : 0 ≤ (a : Int) / n * n := Int.mul_nonneg hq0 (by omega)
      have hm2 : (a : Int) / n * n ≤ a := by omega
      have HR := Lib.hid hr
      clear hr
      have HB := Lib.hid hb2
      clear hb2 hb
      go_wp2
      refine ⟨⟨n, a % n, y, _, rfl, congrArg _ HR.out, rfl, rfl, h2, by omega, HB.out⟩, ?_⟩
      simp only [intOf]
      rw [HR.out]; omega
    · obtain rfl : n = 0 := by omega
      have hg := hb.g
      rw [Nat.gcd_zero_right] at hg
      have HG := Lib.hid hg
      clear hg
      have HM := Lib.hid hb.ma
      clear hb
      by_cases h1' : a = 1
      · have ht : ((a : Int) != 1) = false := by simp; omega
        have HD := Lib.hid (show (n0 : Int) ∣ (a0 : Int) * x - 1 from by have := HM.out; rw [h1'] at this; exact this)
        obtain ⟨r1, r2⟩ := inv_range (show (2 : Int) ≤ n0 by omega) HD.out (by omega) (by omega)
        clear h1'
        by_cases hx : x < 0
        · go_wp2_with fail
          go_ret2
          exact .inl ⟨x + n0, rfl, ⟨x, HD.out⟩, by omega, by omega, (by
            have e : (a0 : Int) * (x + n0) - 1 = ((a0 : Int) * x - 1) + n0 * a0 := by rw [Int.mul_add, Int.mul_comm (a0 : Int) (n0 : Int)]; omega
            rw [e]; exact Int.dvd_add HD.out (Int.dvd_mul_right _ _)), rfl⟩
        · go_wp2_with fail
          go_ret2
          exact .inl ⟨x, rfl, ⟨x, HD.out⟩, by omega, by omega, HD.out, rfl⟩
      · have ht : ((a : Int) != 1) = true := by simp; omega
        have HN := Lib.hid h1'
        clear h1'
        go_wp2_with fail
        go_ret2
        exact .inr ⟨rfl, fun hu => HN.out (HG.out.trans (Op.un_gcd hu)), rfl⟩
theorem inverse5_any (m a : Int) (w : World) (hm : 2 ≤ m ∧ m ≤ 2147483647) (ha : 0 ≤ a ∧ a < m) :
    Calls Try.prog 41 #[.int .u32 a, .int .u32 m] w (Inv5 m a w) := by
  obtain ⟨m', rfl⟩ := Int.eq_ofNat_of_zero_le (show 0 ≤ m from by omega)
  obtain ⟨a', rfl⟩ := Int.eq_ofNat_of_zero_le ha.1
  exact inverse5_nat a' m' w (by omega) (by omega) (by omega)

/-- The inverse of the last element. -/
def Leads5 (m : Int) (b : List Int) (w : World) (e : Ending) (w' : World) : Prop :=
  (∃ r, e = .returned (.tuple #[.int .u32 r, .bool true]) ∧ divU m b ∧ 0 ≤ r ∧ r < m ∧ m ∣ Op.ld b * r - 1 ∧ w = w') ∨ (e = .returned (.tuple #[.int .u32 0, .bool false]) ∧ ¬ divU m b ∧ w = w')
set_option maxHeartbeats 1000000 in
theorem leads5_any (m : Int) (b : List Int) (v : Value) (w : World) (hm : 2 ≤ m ∧ m ≤ 2147483647) (hb : Op.Rs m b) (hv : HasP w v b) (hl : b.length ≤ 1000000) :
    Calls Try.prog 54 #[.int .u32 m, v] w (Leads5 m b w) := by
  have HM := Lib.hid hm
  have HV := Lib.hid hv
  have HB := Lib.hid hb
  obtain ⟨-, xb, cb, rfl, -, -, -⟩ := hv
  obtain ⟨nb, hnb⟩ : ∃ nb, nb = b.length := ⟨_, rfl⟩
  rw [← hnb] at HV hl ⊢
  have HNB := Lib.hid hnb
  clear hm hb hnb
  rcases Nat.eq_zero_or_pos nb with h0 | h0
  · subst h0
    have HN := Lib.hid (show ¬ divU m b from fun h => h.1 (List.eq_nil_of_length_eq_zero HNB.out.symm))
    go_enter Try.func54, Try.ntmps54
    go_wp2_with fail
    go_ret2
    exact .inr ⟨rfl, HN.out, rfl⟩
  · have hne : b ≠ [] := by intro e; have := HNB.out; rw [e] at this; simp at this; omega
    have HNE := Lib.hid hne
    obtain ⟨g, o, rfl, hcell⟩ := HV.out.cells0 h0
    have hx := Op.rs_cf (show 0 < m by have := HM.out; omega) HB.out (nb - 1)
    obtain ⟨x, hxe⟩ : ∃ x, x = Op.cf b (nb - 1) := ⟨_, rfl⟩
    rw [← hxe] at hcell hx
    have HX := Lib.hid (show x = Op.ld b from by rw [hxe, HNB.out]; rfl)
    have HXB := Lib.hid hx
    have e1 : ((nb - 1 : Nat) : Int) = (nb : Int) - 1 := by omega
    have e2 : ((nb : Int) - 1).toNat = nb - 1 := by omega
    have hp0 : (0 : Int) < (nb : Int) := by omega
    have hb0 : ((nb : Int) == 0) = false := by simp; omega
    clear hne hxe hx
    go_enter Try.func54, Try.ntmps54
    go_wp2_with fail
    refine (inverse5_any m x _ HM.out HXB.out).mono ?_
    rintro e w1 (⟨r, rfl, hu, hr0, hr1, hr2, rfl⟩ | ⟨rfl, hu, rfl⟩)
    · have HU := Lib.hid hu
      have HR := Lib.hid hr2
      clear hu hr2
      go_wp2_with fail
      go_ret2
      exact .inl ⟨r, rfl, ⟨HNE.out, by rw [← HX.out]; exact HU.out⟩, hr0, hr1, by rw [← HX.out]; exact HR.out, rfl⟩
    · have HU := Lib.hid hu
      clear hu
      go_wp2_with fail
      go_ret2
      exact .inr ⟨rfl, fun h => HU.out (by rw [HX.out]; exact h.2), rfl⟩
end Go.Proofs.Ytaenjbemkeghgaa
