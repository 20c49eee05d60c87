/- A number below n, taken by the program. -/
import Derived.Test.YtmankcmmlcfbaaaVd
import Derived.Test.YtmankcmmlcfbaaaShelf
namespace Go.Proofs.Ytmankcmmlcfbaaa
open Go.RowKit Ov
set_option linter.unusedVariables false

/-- What a function returns that takes a number below n. -/
def BelP (b g c : Nat) (s : ByteArray) (n p : Nat) (w : World) (e : Ending) (w' : World) : Prop :=
  (∃ v q, bel s n p = some (v, q) ∧ e = .returned (.tuple #[.int .u64 (v : Nat), .int .i64 0]) ∧ Sup w' b g c s q ∧ Ex b w w') ∨
  (bel s n p = none ∧ e = .returned (.tuple #[.int .u64 0, .int .i64 4]) ∧ (∃ q, Sup w' b g c s q) ∧ Ex b w w')
def placeOf (b : Nat) (w : World) : Nat := match w.cell? ⟨b, 1, none⟩ with | some (.int _ p) => p.toNat | _ => 0
theorem Sup.placeOf {w : World} {b g c : Nat} {s : ByteArray} {p : Nat} (h : Sup w b g c s p) : placeOf b w = p := by
  unfold Go.Proofs.Ytmankcmmlcfbaaa.placeOf; rw [h.c1]; simp
theorem go_go {s : ByteArray} {n k f p : Nat} (hf : nbits s < f + p) (h : p + k ≤ nbits s) (hn : ¬ num s p k < n) : ∃ f', f = f' + 1 ∧ Ov.go s n k f p = Ov.go s n k f' (p + k) := by
  obtain ⟨f', rfl⟩ : ∃ f', f = f' + 1 := ⟨f - 1, by omega⟩
  exact ⟨f', rfl, by rw [Ov.go, if_pos h, if_neg hn]⟩
theorem go_hit {s : ByteArray} {n k f p : Nat} (hf : nbits s < f + p) (h : p + k ≤ nbits s) (hn : num s p k < n) : Ov.go s n k f p = some (num s p k, p + k) := by
  obtain ⟨f', rfl⟩ : ∃ f', f = f' + 1 := ⟨f - 1, by omega⟩
  rw [Ov.go, if_pos h, if_pos hn]
theorem go_end {s : ByteArray} {n k f p : Nat} (h : nbits s < p + k) : Ov.go s n k f p = none := by
  cases f with
  | zero => rfl
  | succ f => rw [Ov.go, if_neg (by omega)]

set_option maxRecDepth 100000 in
set_option maxHeartbeats 2000000 in
theorem below_any (b g c : Nat) (t : Value) (s : ByteArray) (n p : Nat) (w : World) (h : Sup w b g c s p) (ht : IsTk w t b) (hn : 1 ≤ n ∧ n < 18446744073709551616) :
    Calls Try.prog 34 #[t, .int .u64 (n : Nat)] w (BelP b g c s n p w) := by
  obtain ⟨q, rfl, hq, hc⟩ := ht
  obtain ⟨hn1, hn2⟩ := hn
  obtain ⟨K, hK⟩ : ∃ K, K = wid n := ⟨_, rfl⟩
  have hK64 : K ≤ 64 := by rw [hK]; exact wid_le n hn2
  have H := Lib.hid h
  have HQ := Lib.hid hq
  have HC := Lib.hid hc
  have HK := Lib.hid hK
  have HP := Lib.hid h.place
  have hlen := Try.bits_Len64 ((n : Int) - 1) w (by omega) (by omega)
  have hKe : (Lib.bitLen ((n : Int) - 1).toNat : Int) = (K : Int) := by rw [hK]; unfold wid; congr 2; omega
  rw [hKe] at hlen
  have HLEN := Lib.hid hlen
  have HK64 := Lib.hid hK64
  clear h hq hc hK hlen hKe hK64
  go_enter Try.func34, Try.ntmps34
  go_wp2_with (go_at_call 52; refine HLEN.out.mono ?_; rintro e w1 ⟨rfl, rfl⟩)
  go_loopw [7] (fun x wr => ∃ (pp f : Nat), Ov.go s n K f pp = bel s n p ∧ nbits s < f + pp ∧ Sup wr b g c s pp ∧ Ex b w1 wr) (fun _ wr => nbits s + 1 - placeOf b wr)
  case atStart => exact ⟨p, nbits s + 1, by rw [HK.out]; rfl, by omega, H.out, Ex.refl _ _⟩
  case round =>
    obtain ⟨pp, f, hgo, hf, hs, hx⟩ := hrel
    have hpl := hs.placeOf
    have HS := Lib.hid hs
    have HX := Lib.hid hx
    have HGO := Lib.hid hgo
    have HF := Lib.hid hf
    have HPL := Lib.hid hpl
    have cq := hx.keeps HC.out HQ.out
    have HT := Lib.hid (taker_any b g c q s pp K wr hs HQ.out HK64.out cq)
    clear hs hx hgo hf hpl cq
    obtain ⟨M, hM⟩ : ∃ M, M = num s pp K := ⟨_, rfl⟩
    have HM := Lib.hid hM
    clear hM
    have hcase : (pp + K ≤ nbits s ∧ M < n) ∨ (pp + K ≤ nbits s ∧ ¬ M < n) ∨ nbits s < pp + K := by omega
    rcases hcase with ⟨k1, k2⟩ | ⟨k1, k2⟩ | k1
    · have k2' : (M : Int) < (n : Int) := by omega
      have K1 := Lib.hid k1
      have K2 := Lib.hid k2
      clear k1 k2
      go_wp2_with (go_at_call 56; refine HT.out.mono ?_; rintro e w2 (⟨_, rfl, hs2, hx2⟩ | ⟨h0, _⟩); rotate_left; (exfalso; have := K1.out; omega); rw [← HM.out])
      go_ret2
      exact Or.inl ⟨M, pp + K, by rw [← HGO.out, HM.out]; exact go_hit HF.out K1.out (by rw [← HM.out]; exact K2.out), rfl, hs2, HX.out.trans hx2⟩
    · have k2' : ¬ (M : Int) < (n : Int) := by omega
      have K1 := Lib.hid k1
      have K2 := Lib.hid k2
      clear k1 k2
      go_wp2_with (go_at_call 56; refine HT.out.mono ?_; rintro e w2 (⟨_, rfl, hs2, hx2⟩ | ⟨h0, _⟩); rotate_left; (exfalso; have := K1.out; omega); rw [← HM.out])
      go_roundw
      case rel =>
        obtain ⟨f', hf', hg'⟩ := go_go (n := n) HF.out K1.out (by rw [← HM.out]; exact K2.out)
        have hK0 : K ≠ 0 := fun e => by
          have h1 := HM.out
          have h2 := K2.out
          rw [e] at h1
          simp [num] at h1; omega
        exact ⟨pp + K, f', hg'.symm.trans HGO.out, by have := HF.out; omega, hs2, HX.out.trans hx2⟩
      case measure =>
        have hK0 : K ≠ 0 := fun e => by
          have h1 := HM.out
          have h2 := K2.out
          rw [e] at h1
          simp [num] at h1; omega
        rw [hs2.placeOf, HPL.out]; have := K1.out; omega
    · have K1 := Lib.hid k1
      clear k1
      go_wp2_with (go_at_call 56; refine HT.out.mono ?_; rintro e w2 (⟨h0, _⟩ | ⟨_, rfl, hs2, hx2⟩); (exfalso; have := K1.out; omega))
      go_ret2
      exact Or.inr ⟨by rw [← HGO.out]; exact go_end K1.out, rfl, ⟨pp, hs2⟩, HX.out.trans hx2⟩
end Go.Proofs.Ytmankcmmlcfbaaa
