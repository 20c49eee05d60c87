/- takeFrom and minus. -/
import Derived.Test.YtgalgldnhdiggaaDoorSub
namespace Ow
set_option linter.unusedVariables false
/-- The difference of the first digits. -/
def DifI (l m : List Nat) (F k : Nat) (pre : List Nat) (T : Nat) : Prop := pre.length = k ∧ Dg pre ∧ T ≤ 4294967296 ∧ val (l.take k) + T * 4294967296 ^ k = val pre + F * val (m.take k)
theorem DifI.start (l m : List Nat) (F : Nat) : DifI l m F 0 [] 0 := ⟨rfl, dg_nil, by omega, by simp [val]⟩
theorem mul_digit {y F : Nat} (hy : y < 4294967296) (hF : F < 4294967296) : y * F ≤ 18446744065119617025 := Nat.mul_le_mul (show y ≤ 4294967295 by omega) (show F ≤ 4294967295 by omega)
theorem DifI.step {l m : List Nat} {F k T : Nat} {pre : List Nat} (h : DifI l m F k pre T) (hm : Dg m) (hl : Dg l) (hF : F < 4294967296) {s : Nat} (hs : s = T + m[k]?.getD 0 * F) :
    DifI l m F (k + 1) (pre ++ [(l[k]?.getD 0 + 4294967296 - s % 4294967296) % 4294967296]) (s / 4294967296 + brw (l[k]?.getD 0) (s % 4294967296)) := by
  obtain ⟨h1, h2, h3, h4⟩ := h
  have a := dg_at hl k
  have b := mul_digit (dg_at hm k) hF
  have c := brw_le (l[k]?.getD 0) (s % 4294967296)
  refine ⟨by simp [h1], dg_snoc h2 (Nat.mod_lt _ (by omega)), by omega, ?_⟩
  rw [val_snoc, h1, val_take_succ, val_take_succ]
  generalize l[k]?.getD 0 = x at *
  generalize m[k]?.getD 0 = y at *
  have hd : (x + 4294967296 - s % 4294967296) % 4294967296 + s % 4294967296 = x + brw x (s % 4294967296) * 4294967296 := by
    unfold brw; split <;> omega
  have he := Nat.div_add_mod s 4294967296
  generalize (x + 4294967296 - s % 4294967296) % 4294967296 = d at *
  generalize brw x (s % 4294967296) = w at *
  generalize s % 4294967296 = lo at *
  generalize s / 4294967296 = hi at *
  have key : d + s = x + (hi + w) * 4294967296 := by omega
  have k2 : 4294967296 ^ k * d + 4294967296 ^ k * s = 4294967296 ^ k * x + (hi + w) * (4294967296 ^ k * 4294967296) := by
    rw [← Nat.mul_add, key, Nat.mul_add, Nat.mul_left_comm (4294967296 ^ k)]
  rw [hs, Nat.mul_add, Nat.mul_comm (4294967296 ^ k) T] at k2
  rw [Nat.pow_succ, Nat.mul_add F, show F * (4294967296 ^ k * y) = 4294967296 ^ k * (y * F) by rw [Nat.mul_left_comm, Nat.mul_comm F]]
  omega
theorem DifI.all {l m : List Nat} {F T : Nat} {pre : List Nat} (h : DifI l m F l.length pre T) (hm : m.length ≤ l.length) : pre.length = l.length ∧ Dg pre ∧ T ≤ 4294967296 ∧ val l + T * 4294967296 ^ l.length = val pre + F * val m := by
  obtain ⟨h1, h2, h3, h4⟩ := h
  rw [List.take_length, List.take_of_length_le hm] at h4
  exact ⟨h1, h2, h3, h4⟩
theorem no_borrow {l m l' : List Nat} {T : Nat} (h : val l + T * 4294967296 ^ l.length = val l' + 1 * val m) (hl' : Dg l') (hn : l'.length = l.length) (hle : val m ≤ val l) : val l' = val l - val m := by
  have a := val_lt l' hl'
  rw [hn] at a
  rcases Nat.eq_zero_or_pos T with rfl | hT
  · omega
  · have : 1 * 4294967296 ^ l.length ≤ T * 4294967296 ^ l.length := Nat.mul_le_mul_right _ hT
    omega
end Ow
namespace Go.Proofs.YtgalgldnhdiggaaDoor
open Go.RowKit
set_option linter.unusedVariables false

def TakePost (g o : Nat) (l m : List Nat) (F : Nat) (w : World) (e : Ending) (w' : World) : Prop :=
  ∃ l' T, e = .returned (.bool (decide (0 < T))) ∧ l'.length = l.length ∧ Ow.Dg l' ∧ T ≤ 4294967296 ∧ Ow.val l + T * 4294967296 ^ l.length = Ow.val l' + F * Ow.val m ∧ Upd g o l' w w'

set_option maxRecDepth 100000 in
set_option maxHeartbeats 1000000 in
theorem takeFrom_any (g o : Nat) (l m : List Nat) (cap : Nat) (v : Value) (F : Nat) (w : World) (hl : Lies w g o l) (hcap : l.length ≤ cap) (hcap2 : cap ≤ 9223372036854775807) (hm : HasD w v m) (hv : 0 < m.length → v.ownBlock ≠ some g) (hlen : m.length ≤ l.length) (hF : F < 4294967296) :
    Calls Tryd.prog 90 #[.slice (some ⟨g, o, none⟩) l.length cap, v, .int .u32 F] w (TakePost g o l m F w) := by
  obtain ⟨dl, ⟨cur, hrow, hsz⟩, cl⟩ := hl
  obtain ⟨dm, b, cap', rfl, v1, v2, cm⟩ := hm
  obtain ⟨len, hlen1⟩ : ∃ len, len = l.length := ⟨_, rfl⟩
  obtain ⟨len', hlen2⟩ : ∃ len', len' = m.length := ⟨_, rfl⟩
  have HV := Lib.hid (show 0 < m.length → (Value.slice b m.length cap').ownBlock ≠ some g from hv)
  rw [← hlen1] at hcap hlen ⊢
  rw [← hlen2] at v1 hlen ⊢
  have HL := Lib.hid hlen1
  have HL2 := Lib.hid hlen2
  have HDL := Lib.hid dl
  have HDM := Lib.hid dm
  have HCL := Lib.hid cl
  have HCM := Lib.hid cm
  have HROW := Lib.hid hrow
  have HSZ := Lib.hid hsz
  clear hlen1 hlen2 dl dm cl cm hrow hsz hv
  go_enter Tryd.func90, Tryd.ntmps90
  go_wp2_with fail
  go_loopw [7, 13] (fun t i wr => ∃ k T pre, t = .int .u64 (T : Nat) ∧ i = .int .i64 (k : Nat) ∧ k ≤ len ∧ Ow.DifI l m F k pre T ∧ Upd g o pre w wr) (fun _ i _ => len - (intOf i).toNat)
  case atStart => exact ⟨0, 0, [], rfl, rfl, by omega, Ow.DifI.start l m F, Upd.start HROW.out (by have := HSZ.out; omega)⟩
  case round =>
    obtain ⟨k, T, pre, rfl, rfl, hk, hdif, hupd⟩ := hrel
    have hT := hdif.2.2.1
    have hpl := hdif.1
    have HS := Lib.hid hdif
    have HU := Lib.hid hupd
    have HPL := Lib.hid hpl
    clear hdif hupd hpl
    by_cases hlt : k < len
    · have c0 := HCL.out k (by rw [← HL.out]; exact hlt)
      have c1 : wr.cell? ⟨g, o + k, none⟩ = some (.int .u32 ((l[k]?.getD 0 : Nat) : Int)) := (HU.out.cell_out (.inr (by rw [HPL.out]; omega))).trans c0
      have f1 : wr.frozen? ⟨g, o + k, none⟩ = false := HU.out.frozen _
      have hx := Ow.dg_at HDL.out k
      have hy := Ow.dg_at HDM.out k
      obtain ⟨s, hse⟩ : ∃ s, s = T + m[k]?.getD 0 * F := ⟨_, rfl⟩
      have hmul := Ow.mul_digit hy hF
      have HNX := Lib.hid (HS.out.step HDM.out HDL.out hF hse)
      have HC0 := Lib.hid c0
      have hsb : s ≤ 18446744069414584321 := by omega
      have hbw := Ow.brw_le (l[k]?.getD 0) (s % 4294967296)
      obtain ⟨x, hxe⟩ : ∃ x, x = l[k]?.getD 0 := ⟨_, rfl⟩
      have i5 : (k : Int) < (len : Int) := by omega
      have i6 : (0 : Int) ≤ (k : Int) := by omega
      rw [← hxe] at c1 hx HNX hbw
      clear hxe c0
      have e1 : (s : Int) % 4294967296 = ((s % 4294967296 : Nat) : Int) := by omega
      have E1 := Lib.hid e1
      have e3 : ((s / 4294967296 : Nat) : Int) = (s : Int) / 4294967296 := by omega
      have E3 := Lib.hid e3
      clear e1 e3
      by_cases hb : k < len'
      · have hbi : (k : Int) < (len' : Int) := by omega
        obtain ⟨gb, ob, rfl, c2⟩ := HCM.out k (by rw [← HL2.out]; exact hb)
        have c2 : wr.cell? ⟨gb, ob + k, none⟩ = _ := (HU.out.cell_other (p := ⟨gb, ob + k, none⟩) (fun e => HV.out (by rw [← HL2.out]; omega) (by simp only [Value.ownBlock]; exact congrArg some e))).trans c2
        obtain ⟨y, hye⟩ : ∃ y, y = m[k]?.getD 0 := ⟨_, rfl⟩
        rw [← hye] at c2 hy hse hmul
        have hsi : (T : Int) + (y : Int) * (F : Int) = (s : Int) := by rw [hse, Int.natCast_add, Int.natCast_mul]
        have p0 : (0 : Int) ≤ (y : Int) * (F : Int) := by rw [← Int.natCast_mul]; omega
        have p1 : (y : Int) * (F : Int) ≤ 18446744065119617025 := by rw [← Int.natCast_mul]; omega
        clear hye hse hmul
        go_wp2_with fail
        rw [E1.out]
        refine (sub32_any x (s % 4294967296) _ hx (Nat.mod_lt _ (by omega))).mono ?_
        rintro e w' ⟨rfl, rfl⟩
        clear hsi p0 p1
        go_wp2_with fail
        go_roundw
        case rel => exact ⟨k + 1, _, _, by rw [← E3.out]; rfl, by go_num, by omega, HNX.out, HU.out.step HPL.out HC0.out⟩
        case measure => simp [intOf]; omega
      · have hy0 : m[k]?.getD 0 = 0 := by rw [List.getElem?_eq_none (by rw [← HL2.out]; omega)]; rfl
        rw [hy0, Nat.zero_mul, Nat.add_zero] at hse
        subst hse
        clear hy hy0 hmul
        go_wp2_with fail
        rw [E1.out]
        refine (sub32_any x (s % 4294967296) _ hx (Nat.mod_lt _ (by omega))).mono ?_
        rintro e w' ⟨rfl, rfl⟩
        go_wp2_with fail
        go_roundw
        case rel => exact ⟨k + 1, _, _, by rw [← E3.out]; rfl, by go_num, by omega, HNX.out, HU.out.step HPL.out HC0.out⟩
        case measure => simp [intOf]; omega
    · obtain rfl : k = len := by omega
      have HA := Lib.hid (show pre.length = l.length ∧ Ow.Dg pre ∧ T ≤ 4294967296 ∧ Ow.val l + T * 4294967296 ^ l.length = Ow.val pre + F * Ow.val m from Ow.DifI.all (by rw [← HL.out]; exact HS.out) (by rw [← HL.out, ← HL2.out]; omega))
      go_wp2_with fail
      go_ret
      exact ⟨pre, T, ret_bool (by simp), HA.out.1, HA.out.2.1, HA.out.2.2.1, HA.out.2.2.2, HU.out⟩

theorem takeFrom_nil (a : Option Addr) (cap : Nat) (v : Value) (F : Int) (w : World) :
    Calls Tryd.prog 90 #[.slice a 0 cap, v, .int .u32 F] w fun e w' => e = .returned (.bool false) ∧ w = w' := by
  go_enter Tryd.func90, Tryd.ntmps90
  go_wp2_with fail
  go_loop [7, 13] (fun t i => t = .int .u64 0 ∧ i = .int .i64 0) (fun _ _ => 0)
  case atStart => exact ⟨rfl, rfl⟩
  case round =>
    obtain ⟨rfl, rfl⟩ := hrel
    go_wp2_with fail
    go_ret
    exact ⟨rfl, rfl⟩

set_option maxRecDepth 100000 in
set_option maxHeartbeats 600000 in
theorem minus_any (l m : List Nat) (u v : Value) (w : World) (hu : HasD w u l) (hv : HasD w v m) (hl : l.length ≤ 100000) (hlen : m.length ≤ l.length) (hle : Ow.val m ≤ Ow.val l) :
    Calls Tryd.prog 75 #[u, v] w (DigPost (Ow.val l - Ow.val m) w) := by
  have HU := Lib.hid hu
  have HV := Lib.hid hv
  have HLE := Lib.hid hle
  clear hu hv hle
  go_enter Tryd.func75, Tryd.ntmps75
  go_wp2_with fail
  refine (clone_any l _ _ HU.out (by omega)).mono ?_
  rintro e w1 ⟨v1', rfl, hown, g1⟩
  rcases Nat.eq_zero_or_pos l.length with h0 | h0
  · obtain rfl : l = [] := List.length_eq_zero_iff.1 h0
    obtain rfl : m = [] := List.length_eq_zero_iff.1 (by omega)
    have hd := hown.hasD
    obtain ⟨-, a, cap, rfl, -, -, -⟩ := id hd
    have HD := Lib.hid hd
    clear hd hown
    go_wp2_with fail
    refine (takeFrom_nil a cap _ _ _).mono ?_
    rintro e w3 ⟨rfl, rfl⟩
    go_wp2_with fail
    refine (trim_any [] _ _ HD.out).mono ?_
    rintro e w4 ⟨⟨v3, rfl, hcut⟩, rfl⟩
    have HCUT := Lib.hid hcut
    clear hcut
    go_wp2_with fail
    go_ret
    exact ⟨_, _, rfl, HCUT.out _ HD.out, Ow.nm_tr Ow.dg_nil, rfl, g1⟩
  · obtain ⟨g, cap2, rfl, hg1, hg2, hg3, hg4, hlies⟩ := hown.lies h0
    have HLIES := Lib.hid hlies
    clear hlies hown
    go_wp2_with fail
    refine (takeFrom_any g 0 l m cap2 _ 1 _ HLIES.out hg3 hg4 (HV.out.later g1) (fun h0 e => ?_) hlen (by omega)).mono ?_
    · obtain ⟨b2, e2, hb3⟩ := HV.out.block h0
      rw [e2] at e
      have := Option.some.inj e
      omega
    rintro e w3 ⟨l', c, rfl, p1, p2, p3, p4, p5⟩
    have hG3 : Gr w w3 := p5.gr g1 hg1
    have hd := (Lies.upd p5 p2).hasD (cap := cap2) (by rw [p1]; exact hg3) hg4
    rw [p1] at hd
    have hval := Ow.no_borrow p4 p2 p1 HLE.out
    have HD := Lib.hid hd
    have HVAL := Lib.hid hval
    have HP2 := Lib.hid p2
    clear hd hval p1 p2 p3 p4 p5
    go_wp2_with fail
    refine (trim_any l' _ _ HD.out).mono ?_
    rintro e w4 ⟨⟨v3, rfl, hcut⟩, rfl⟩
    have HCUT := Lib.hid hcut
    clear hcut
    go_wp2_with fail
    go_ret
    exact ⟨_, Ow.tr l', rfl, HCUT.out _ HD.out, Ow.nm_tr HP2.out, by rw [Ow.val_tr]; exact HVAL.out, hG3⟩
end Go.Proofs.YtgalgldnhdiggaaDoor
