/- Valid, trim: what the smallest functions of package wide return. -/
import Derived.Test.YtgalgldnhdiggaaDoorDig
namespace Ow
set_option linter.unusedVariables false
theorem tr_take_zero {l : List Nat} {j : Nat} (h : j < l.length) (hz : l[j]?.getD 0 = 0) : tr (l.take (j + 1)) = tr (l.take j) := by
  rw [List.take_succ_eq_append_getElem h]
  rw [List.getElem?_eq_getElem h] at hz
  simp at hz
  rw [hz, tr_zero]
theorem tr_take_last {l : List Nat} {j : Nat} (h : j < l.length) (hz : l[j]?.getD 0 ≠ 0) : tr (l.take (j + 1)) = l.take (j + 1) := by
  rw [List.take_succ_eq_append_getElem h]
  rw [List.getElem?_eq_getElem h] at hz
  exact tr_last _ _ (by simpa using hz)
end Ow
namespace Go.Proofs.YtgalgldnhdiggaaDoor
open Go.RowKit
set_option linter.unusedVariables false

def sliceLen (t : Value) : Nat := match t with | .slice _ n _ => n | _ => 0
/-- What is returned holds the digits m in each world in which v holds the digits l. -/
def CutPost (v : Value) (l m : List Nat) (w : World) (e : Ending) (w' : World) : Prop := (∃ v', e = .returned v' ∧ ∀ W, HasD W v l → HasD W v' m) ∧ w = w'

theorem HasD.take {w : World} {a : Option Addr} {l : List Nat} {cap : Nat} (hd : Ow.Dg l) (h1 : l.length ≤ cap) (h2 : cap ≤ 9223372036854775807)
    (hc : ∀ i, i < l.length → ∃ g o, a = some ⟨g, o, none⟩ ∧ w.cell? ⟨g, o + i, none⟩ = some (.int .u32 ((l[i]?.getD 0 : Nat) : Int))) {k : Nat} (hk : k ≤ l.length) : HasD w (.slice a k cap) (l.take k) := by
  have hlen : (l.take k).length = k := by rw [List.length_take]; omega
  refine ⟨fun x hx => hd x (List.mem_of_mem_take hx), a, cap, by rw [hlen], by omega, h2, fun i hi => ?_⟩
  rw [hlen] at hi
  obtain ⟨g, o, e, hcell⟩ := hc i (by omega)
  exact ⟨g, o, e, by rw [List.getElem?_take_of_lt hi]; exact hcell⟩

theorem HasD.cut {W : World} {a : Option Addr} {l : List Nat} {len cap k : Nat} (h : HasD W (.slice a len cap) l) (hk : k ≤ l.length) : HasD W (.slice a k cap) (l.take k) := by
  obtain ⟨hd, a', cap', e, h1, h2, hc⟩ := h
  simp only [Value.slice.injEq] at e
  obtain ⟨rfl, -, rfl⟩ := e
  exact HasD.take hd h1 h2 hc hk

set_option maxRecDepth 100000 in
set_option maxHeartbeats 1000000 in
theorem trim_any (l : List Nat) (v : Value) (w : World) (h : HasD w v l) :
    Calls Tryd.prog 63 #[v] w (CutPost v l (Ow.tr l) w) := by
  obtain ⟨hd, a, cap, rfl, h1, h2, hc⟩ := h
  obtain ⟨len, hlen⟩ : ∃ len, len = l.length := ⟨_, rfl⟩
  have HC := Lib.hid hc
  have HD := Lib.hid hd
  rw [← hlen] at h1 ⊢
  have HLEN := Lib.hid hlen
  clear hc hd hlen
  go_enter Tryd.func63, Tryd.ntmps63
  go_wp2_with fail
  go_loop [0] (fun t => ∃ k : Nat, t = .slice a k cap ∧ k ≤ len ∧ Ow.tr (l.take k) = Ow.tr l) (fun t => sliceLen t)
  case atStart => exact ⟨len, rfl, by omega, by rw [HLEN.out, List.take_length]⟩
  case round =>
    obtain ⟨k, rfl, hk, ht⟩ := hrel
    have HT := Lib.hid ht
    clear ht
    rcases k with _ | j
    · go_wp2_with fail
      go_ret
      refine ⟨⟨_, rfl, fun W hW => ?_⟩, rfl⟩
      have e : Ow.tr l = l.take 0 := by rw [← HT.out]; rfl
      rw [e]
      exact hW.cut (by omega)
    · have hjl : j < l.length := by rw [← HLEN.out]; omega
      obtain ⟨g, o, rfl, hcell⟩ := HC.out j hjl
      have hx := HD.out (l[j]?.getD 0) (by rw [List.getElem?_eq_getElem hjl]; exact List.getElem_mem hjl)
      obtain ⟨x, hxe⟩ : ∃ x, x = l[j]?.getD 0 := ⟨_, rfl⟩
      rw [← hxe] at hcell hx
      have HX := Lib.hid hxe
      have HJ := Lib.hid hjl
      clear hxe hjl
      by_cases hz : x = 0
      · have hb : ((x : Int) == 0) = true := by simp; omega
        have HZ := Lib.hid hz
        clear hz
        have i1 : (j : Int) < ((j + 1 : Nat) : Int) := by omega
        go_wp2_with fail
        go_round
        case rel => exact ⟨j, rfl, by omega, by rw [← Ow.tr_take_zero HJ.out (HX.out.symm.trans HZ.out)]; exact HT.out⟩
        case measure => simp [sliceLen]
      · have hb : ((x : Int) == 0) = false := by simp; omega
        have HZ := Lib.hid hz
        clear hz
        go_wp2_with fail
        go_ret
        refine ⟨⟨_, rfl, fun W hW => ?_⟩, rfl⟩
        have e : Ow.tr l = l.take (j + 1) := by
          rw [← HT.out]; exact Ow.tr_take_last HJ.out (by rw [← HX.out]; exact HZ.out)
        rw [e]
        exact hW.cut (by have := HJ.out; omega)
end Go.Proofs.YtgalgldnhdiggaaDoor
