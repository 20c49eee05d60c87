/- The reference: some bits as a number, a number below n. -/
import Derived.Test.YtmankcmmlcfbaaaVm
namespace Go.Proofs.Ytmankcmmlcfbaaa
open Go.RowKit Ov
set_option linter.unusedVariables false

theorem Rup.placeOf {w : World} {b : Nat} {s : ByteArray} {p : Nat} (h : Rup w b s p) : placeOf b w = p := by
  unfold Go.Proofs.Ytmankcmmlcfbaaa.placeOf; rw [h.c1]; simp
def RSomeP (b : Nat) (s : ByteArray) (p k : Nat) (w : World) (e : Ending) (w' : World) : Prop :=
  (p + k ≤ nbits s ∧ e = .returned (.tuple #[.int .u64 (num s p k : Nat), .bool true]) ∧ Rup w' b s (p + k) ∧ Ex b w w') ∨
  (nbits s < p + k ∧ e = .returned (.tuple #[.int .u64 0, .bool false]) ∧ (∃ q, Rup w' b s q) ∧ Ex b w w')
set_option maxRecDepth 100000 in
set_option maxHeartbeats 2000000 in
theorem rsome_any (b : Nat) (s : ByteArray) (p k : Nat) (w : World) (h : Rup w b s p) (hk : k ≤ 64) : Calls Try.prog 47 #[.pointer (some ⟨b, 0, none⟩), .int .i64 (k : Nat)] w (RSomeP b s p k w) := by
  have H := Lib.hid h
  clear h
  go_enter Try.func47, Try.ntmps47
  go_wp2_with fail
  go_loopw [6, 7] (fun x t wr => ∃ (j : Nat), x = .int .u64 (num s p j : Nat) ∧ t = .int .i64 (j : Nat) ∧ j ≤ k ∧ Rup wr b s (p + j) ∧ Ex b w wr) (fun _ t _ => k - (intOf t).toNat)
  case atStart => exact ⟨0, rfl, rfl, by omega, H.out, Ex.refl b w⟩
  case round =>
    obtain ⟨j, rfl, rfl, hj, hs, hx⟩ := hrel
    have HS := Lib.hid hs
    have HX := Lib.hid hx
    have HB := Lib.hid (rbit_any b s (p + j) wr hs)
    clear hs hx
    have hlt : j < k ∨ ¬ j < k := Classical.em _
    rcases hlt with hlt | hlt
    · have hlti : (j : Int) < (k : Int) := by omega
      obtain ⟨M, hM⟩ : ∃ M, M = num s p j := ⟨_, rfl⟩
      obtain ⟨Z, hZ⟩ : ∃ Z, Z = bit s (p + j) := ⟨_, rfl⟩
      rw [← hM]
      have hM1 : M < 9223372036854775808 := by
        have h1 := num_lt s p j
        have h2 : 2 ^ j ≤ 2 ^ 63 := Nat.pow_le_pow_right (by omega) (by omega)
        rw [hM]; omega
      have hZ2 : Z < 2 := by rw [hZ]; exact bit_lt _ _
      have EA := Lib.hid (show IntKind.u64.wrap (2 * (M : Int)) = 2 * (M : Int) from u64_wrap_id _ (by omega) (by omega))
      have EB := Lib.hid (show IntKind.u64.wrap (2 * (M : Int) + (Z : Int)) = ((2 * M + Z : Nat) : Int) from by rw [u64_wrap_id _ (by omega) (by omega)]; omega)
      have HM := Lib.hid hM
      have HZ := Lib.hid hZ
      clear hM hM1 hZ2 hZ
      have hcase : p + j + 1 ≤ nbits s ∨ nbits s < p + j + 1 := by omega
      rcases hcase with hc | hc
      · have HC := Lib.hid hc
        clear hc
        have ea := EA.out
        have eb := EB.out
        go_wp2_with (go_at_call 49; refine HB.out.mono ?_; rintro e w2 (⟨_, rfl, hs2, hx2⟩ | ⟨h0, _⟩); rotate_left; (exfalso; clear ea eb; have := HC.out; omega); rw [← HZ.out])
        clear ea eb
        go_roundw
        case rel =>
          refine ⟨j + 1, ?_, by simp, by omega, hs2, HX.out.trans hx2⟩
          rw [num, ← HM.out, ← HZ.out]
          have eb := EB.out
          first | rfl | (rw [← eb]; rfl)
        case measure => simp [intOf]; omega
      · have HC := Lib.hid hc
        clear hc
        go_wp2_with (go_at_call 49; refine HB.out.mono ?_; rintro e w2 (⟨h0, _⟩ | ⟨_, rfl, hs2, hx2⟩); (exfalso; have := HC.out; omega))
        go_ret2
        exact .inr ⟨by have := HC.out; omega, rfl, ⟨_, hs2⟩, HX.out.trans hx2⟩
    · obtain rfl : k = j := by omega
      go_wp2_with fail
      go_ret2
      exact .inl ⟨HS.out.place, rfl, HS.out, HX.out⟩
def RBelP (b : Nat) (s : ByteArray) (n p : Nat) (w : World) (e : Ending) (w' : World) : Prop :=
  (∃ v q, bel s n p = some (v, q) ∧ e = .returned (.tuple #[.int .u64 (v : Nat), .bool true]) ∧ Rup w' b s q ∧ Ex b w w') ∨
  (bel s n p = none ∧ e = .returned (.tuple #[.int .u64 0, .bool false]) ∧ (∃ q, Rup w' b s q) ∧ Ex b w w')
set_option maxRecDepth 100000 in
set_option maxHeartbeats 2000000 in
theorem rbelow_any (b : Nat) (s : ByteArray) (n p : Nat) (w : World) (h : Rup w b s p) (hn : 1 ≤ n ∧ n < 18446744073709551616) :
    Calls Try.prog 48 #[.pointer (some ⟨b, 0, none⟩), .int .u64 (n : Nat)] w (RBelP b s n p w) := by
  obtain ⟨hn1, hn2⟩ := hn
  obtain ⟨K, hK⟩ : ∃ K, K = wid n := ⟨_, rfl⟩
  have hK64 : K ≤ 64 := by rw [hK]; exact wid_le n hn2
  obtain ⟨m, hm⟩ : ∃ m, m = n - 1 := ⟨_, rfl⟩
  have hnm : (n : Int) - 1 = (m : Int) := by omega
  have HM := Lib.hid (show m ≠ 0 → m < 2 ^ 64 from fun _ => by omega)
  have HMW := Lib.hid (show K = Lib.bitLen m from by rw [hK, hm]; rfl)
  have HM64 := Lib.hid (show m < 2 ^ 64 from by omega)
  have H := Lib.hid h
  have HK := Lib.hid hK
  have HP := Lib.hid h.place
  have HK64 := Lib.hid hK64
  have HN2 := Lib.hid hn2
  have ewm : IntKind.u64.wrap (m : Int) = (m : Int) := u64_wrap_id _ (by omega) (by omega)
  clear h hK hK64 hn2 hm
  go_enter Try.func48, Try.ntmps48
  go_wp2_with fail
  clear ewm
  go_loopw [6, 7] (fun x t wr => ∃ (k z : Nat), x = .int .i64 (k : Nat) ∧ t = .int .u64 (z : Nat) ∧ k + Lib.bitLen z = K ∧ z < 2 ^ 64 ∧ wr = w) (fun _ t _ => (intOf t).toNat)
  case atStart => exact ⟨0, m, rfl, rfl, by rw [HMW.out]; omega, HM64.out, rfl⟩
  case round =>
    obtain ⟨k, z, rfl, rfl, hkz, hz, rfl⟩ := hrel
    have HKZ := Lib.hid hkz
    have HZ := Lib.hid hz
    have hk64 : k ≤ 64 := by have := HK64.out; omega
    have hzc : z = 0 ∨ 0 < z := by omega
    rcases hzc with rfl | hz0
    · have hkK : k = K := by rw [← HKZ.out]; rfl
      obtain rfl : K = k := hkK.symm
      clear hkz hz HKZ HZ hkK
      rw [show ((0 : Nat) : Int) = 0 from rfl]
      go_wp2_with fail
      go_loopw [8] (fun x wr2 => ∃ (pp f : Nat), Ov.go s n K f pp = bel s n p ∧ nbits s < f + pp ∧ Rup wr2 b s pp ∧ Ex b wr wr2) (fun _ wr2 => nbits s + 1 - placeOf b wr2)
      case atStart => exact ⟨p, nbits s + 1, by rw [HK.out]; rfl, by omega, H.out, Ex.refl _ _⟩
      case round =>
        obtain ⟨pp, f, hgo, hf, hs, hx⟩ := hrel
        have hpl := hs.placeOf
        have HS := Lib.hid hs
        have HX := Lib.hid hx
        have HGO := Lib.hid hgo
        have HF := Lib.hid hf
        have HPL := Lib.hid hpl
        have HT := Lib.hid (rsome_any b s pp K _ hs HK64.out)
        clear hs hx hgo hf hpl
        obtain ⟨M, hM⟩ : ∃ M, M = num s pp K := ⟨_, rfl⟩
        have HM := Lib.hid hM
        clear hM
        have hcase : (pp + K ≤ nbits s ∧ M < n) ∨ (pp + K ≤ nbits s ∧ ¬ M < n) ∨ nbits s < pp + K := by omega
        rcases hcase with ⟨k1, k2⟩ | ⟨k1, k2⟩ | k1
        · have k2' : (M : Int) < (n : Int) := by omega
          have K1 := Lib.hid k1
          have K2 := Lib.hid k2
          clear k1 k2
          go_wp2_with (go_at_call 47; refine HT.out.mono ?_; rintro e w2 (⟨_, rfl, hs2, hx2⟩ | ⟨h0, _⟩); rotate_left; (exfalso; have := K1.out; omega); rw [← HM.out])
          go_ret2
          exact Or.inl ⟨M, pp + K, by rw [← HGO.out, HM.out]; exact go_hit HF.out K1.out (by rw [← HM.out]; exact K2.out), rfl, hs2, HX.out.trans hx2⟩
        · have k2' : ¬ (M : Int) < (n : Int) := by omega
          have K1 := Lib.hid k1
          have K2 := Lib.hid k2
          clear k1 k2
          go_wp2_with (go_at_call 47; refine HT.out.mono ?_; rintro e w2 (⟨_, rfl, hs2, hx2⟩ | ⟨h0, _⟩); rotate_left; (exfalso; have := K1.out; omega); rw [← HM.out])
          have hK0 : K ≠ 0 := fun e => by
            have h1 := HM.out
            have h2 := K2.out
            rw [e] at h1
            simp [num] at h1; omega
          go_roundw
          case rel =>
            obtain ⟨f', hf', hg'⟩ := go_go (n := n) HF.out K1.out (by rw [← HM.out]; exact K2.out)
            exact ⟨pp + K, f', hg'.symm.trans HGO.out, by have := HF.out; omega, hs2, HX.out.trans hx2⟩
          case measure => rw [hs2.placeOf, HPL.out]; have := K1.out; omega
        · have K1 := Lib.hid k1
          clear k1
          go_wp2_with (go_at_call 47; refine HT.out.mono ?_; rintro e w2 (⟨h0, _⟩ | ⟨_, rfl, hs2, hx2⟩); (exfalso; have := K1.out; omega))
          go_ret2
          exact Or.inr ⟨by rw [← HGO.out]; exact go_end K1.out, rfl, hs2, HX.out.trans hx2⟩
    · have hzi : (0 : Int) < (z : Int) := by omega
      have hbl := Lib.bitLen_half z (by omega) HZ.out
      have HBL := Lib.hid hbl
      obtain ⟨y, hy⟩ : ∃ y, y = z / 2 := ⟨_, rfl⟩
      have hyi : (z : Int).tdiv 2 = (y : Int) := by rw [Int.tdiv_eq_ediv_of_nonneg (by omega)]; omega
      have hyi2 : (z : Int) / 2 = (y : Int) := by omega
      have HY := Lib.hid hy
      have ewy : IntKind.u64.wrap (y : Int) = (y : Int) := by
        have := HZ.out
        exact u64_wrap_id _ (by omega) (by omega)
      clear hkz hz hbl hy
      go_wp2_with fail
      clear ewy
      go_roundw
      case rel => exact ⟨k + 1, y, by simp, rfl, by have := HBL.out; have := HKZ.out; rw [HY.out]; omega, by have := HZ.out; have := HY.out; omega, trivial⟩
      case measure => have := HY.out; simp [intOf]; omega
end Go.Proofs.Ytmankcmmlcfbaaa
