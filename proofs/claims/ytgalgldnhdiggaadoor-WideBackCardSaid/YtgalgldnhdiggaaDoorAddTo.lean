/- addTo. -/
import Derived.Test.YtgalgldnhdiggaaDoorUpd
namespace Go.Proofs.YtgalgldnhdiggaaDoor
open Go.RowKit
set_option linter.unusedVariables false

/-- Digits that may be written: they lie in block g from o on. -/
def Lies (W : World) (g o : Nat) (l : List Nat) : Prop := Ow.Dg l ∧ (∃ cur, Rw W g cur ∧ o + l.length ≤ cur.size) ∧ ∀ i, i < l.length → W.cell? ⟨g, o + i, none⟩ = some (.int .u32 ((l[i]?.getD 0 : Nat) : Int))
theorem Lies.upd {W W' : World} {g o : Nat} {l : List Nat} (h : Upd g o l W W') (hd : Ow.Dg l) : Lies W' g o l := by
  obtain ⟨_, _, _, _, _, cur, cur', r1, r2, r3, r4, r5⟩ := id h
  exact ⟨hd, ⟨cur', r2, by omega⟩, fun i hi => h.cell_in hi⟩
theorem Lies.hasD {W : World} {g o : Nat} {l : List Nat} (h : Lies W g o l) {cap : Nat} (h1 : l.length ≤ cap) (h2 : cap ≤ 9223372036854775807) : HasD W (.slice (some ⟨g, o, none⟩) l.length cap) l :=
  ⟨h.1, _, cap, rfl, h1, h2, fun i hi => ⟨g, o, rfl, h.2.2 i hi⟩⟩

def AddToPost (g o : Nat) (l m : List Nat) (w : World) (e : Ending) (w' : World) : Prop :=
  ∃ l' c, e = .returned (.bool (decide (0 < c))) ∧ l'.length = l.length ∧ Ow.Dg l' ∧ c ≤ 1 ∧ Ow.val l' + c * 4294967296 ^ l.length = Ow.val l + Ow.val m ∧ Upd g o l' w w'

set_option maxRecDepth 100000 in
set_option maxHeartbeats 2000000 in
theorem addTo_any (g o : Nat) (l m : List Nat) (cap : Nat) (v : Value) (w : World) (hl : Lies w g o l) (hcap : l.length ≤ cap) (hcap2 : cap ≤ 9223372036854775807) (hm : HasD w v m) (hv : 0 < m.length → v.ownBlock ≠ some g) (hlen : m.length ≤ l.length) :
    Calls Tryd.prog 87 #[.slice (some ⟨g, o, none⟩) l.length cap, v] w (AddToPost g o l m w) := by
  obtain ⟨dl, ⟨cur, hrow, hsz⟩, cl⟩ := hl
  have HM := Lib.hid hm
  obtain ⟨dm, b, cap', rfl, v1, v2, cm⟩ := hm
  obtain ⟨len, hlen1⟩ : ∃ len, len = l.length := ⟨_, rfl⟩
  obtain ⟨len', hlen2⟩ : ∃ len', len' = m.length := ⟨_, rfl⟩
  have hv : 0 < m.length → (Value.slice b m.length cap').ownBlock ≠ some g := hv
  have HV := Lib.hid hv
  rw [← hlen1] at hcap hlen ⊢
  rw [← hlen2] at v1 hlen HM ⊢
  have HL := Lib.hid hlen1
  have HL2 := Lib.hid hlen2
  have HDL := Lib.hid dl
  have HDM := Lib.hid dm
  have HCL := Lib.hid cl
  have HCM := Lib.hid cm
  have HROW := Lib.hid hrow
  have HSZ := Lib.hid hsz
  clear hlen1 hlen2 dl dm cl cm hrow hsz hv
  go_enter Tryd.func87, Tryd.ntmps87
  go_wp2_with fail
  go_loopw [5, 10] (fun t i wr => ∃ k c pre, t = .int .u32 (c : Nat) ∧ i = .int .i64 (k : Nat) ∧ k ≤ len ∧ Ow.SumI l m k pre c ∧ Upd g o pre w wr) (fun _ i _ => len - (intOf i).toNat)
  case atStart => exact ⟨0, 0, [], rfl, rfl, by omega, Ow.SumI.start l m, Upd.start HROW.out (by have := HSZ.out; omega)⟩
  case round =>
    obtain ⟨k, c, pre, rfl, rfl, hk, hsum, hupd⟩ := hrel
    have hc1 := hsum.2.2.1
    have hpl := hsum.1
    have HS := Lib.hid hsum
    have HU := Lib.hid hupd
    have HPL := Lib.hid hpl
    clear hsum hupd hpl
    by_cases hlt : k < len
    · have c0 := HCL.out k (by rw [← HL.out]; exact hlt)
      have c1 : wr.cell? ⟨g, o + k, none⟩ = some (.int .u32 ((l[k]?.getD 0 : Nat) : Int)) := (HU.out.cell_out (.inr (by rw [HPL.out]; omega))).trans c0
      have f1 : wr.frozen? ⟨g, o + k, none⟩ = false := HU.out.frozen _
      have hx := Ow.dg_at HDL.out k
      have hy := Ow.dg_at HDM.out k
      have HNX := Lib.hid (HS.out.step HDL.out HDM.out)
      have HC0 := Lib.hid c0
      obtain ⟨x, hxe⟩ : ∃ x, x = l[k]?.getD 0 := ⟨_, rfl⟩
      have i5 : (k : Int) < (len : Int) := by omega
      have i6 : (0 : Int) ≤ (k : Int) := by omega
      rw [← hxe] at c1 hx HNX
      clear hxe c0
      by_cases hb : k < len'
      · have hbi : (k : Int) < (len' : Int) := by omega
        obtain ⟨gb, ob, rfl, c2⟩ := HCM.out k (by rw [← HL2.out]; exact hb)
        have c2 : wr.cell? ⟨gb, ob + k, none⟩ = _ := (HU.out.cell_other (p := ⟨gb, ob + k, none⟩) (fun e => HV.out (by rw [← HL2.out]; omega) (by simp only [Value.ownBlock]; exact congrArg some e))).trans c2
        obtain ⟨y, hye⟩ : ∃ y, y = m[k]?.getD 0 := ⟨_, rfl⟩
        rw [← hye] at c2 hy HNX
        clear hye
        go_wp2_with fail
        refine (add32_any x y c _ hx hy hc1).mono ?_
        rintro e w' ⟨rfl, rfl⟩
        go_wp2_with fail
        go_roundw
        case rel => exact ⟨k + 1, _, _, rfl, by go_num, by omega, HNX.out, HU.out.step HPL.out HC0.out⟩
        case measure => simp [intOf]; omega
      · have hy0 : m[k]?.getD 0 = 0 := by rw [List.getElem?_eq_none (by rw [← HL2.out]; omega)]; rfl
        rw [hy0] at HNX
        clear hy hy0
        go_wp2_with fail
        refine (add32_any x 0 c _ hx (by omega) hc1).mono ?_
        rintro e w' ⟨rfl, rfl⟩
        go_wp2_with fail
        go_roundw
        case rel => exact ⟨k + 1, _, _, rfl, by go_num, by omega, HNX.out, HU.out.step HPL.out HC0.out⟩
        case measure => simp [intOf]; omega
    · obtain rfl : k = len := by omega
      have HA := Lib.hid (show pre.length = l.length ∧ Ow.Dg pre ∧ c ≤ 1 ∧ Ow.val pre + c * 4294967296 ^ l.length = Ow.val l + Ow.val m from Ow.SumI.all (by rw [← HL.out]; exact HS.out) (by rw [← HL.out, ← HL2.out]; omega))
      go_wp2_with fail
      go_ret
      exact ⟨pre, c, ret_bool (by simp), HA.out.1, HA.out.2.1, HA.out.2.2.1, HA.out.2.2.2, HU.out⟩
end Go.Proofs.YtgalgldnhdiggaaDoor
