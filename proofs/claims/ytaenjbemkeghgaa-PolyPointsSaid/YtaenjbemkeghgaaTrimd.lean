/- trimmed, plus, less, valid, has. -/
import Derived.Test.YtaenjbemkeghgaaHp
namespace Go.Proofs.Ytaenjbemkeghgaa
open Go.RowKit
set_option linter.unusedVariables false

def TrimPost (a : Option Addr) (n cap : Nat) (w : World) (e : Ending) (w' : World) : Prop := e = .returned (.slice a n cap) ∧ w = w'

set_option maxRecDepth 100000 in
set_option maxHeartbeats 1000000 in
theorem trimmed_any (l : List Int) (a : Option Addr) (n cap : Nat) (w : World) (h : HasP w (.slice a n cap) l) :
    Calls Try.prog 66 #[.slice a n cap] w (TrimPost a (Op.tz l).length cap w) := by
  obtain ⟨rfl, h1⟩ := h.len
  obtain ⟨hd, a', cap', e, -, h2, hc⟩ := h
  simp only [Value.slice.injEq] at e
  obtain ⟨rfl, -, rfl⟩ := e
  obtain ⟨len, hlen⟩ : ∃ len, len = l.length := ⟨_, rfl⟩
  have HC := Lib.hid hc
  have HD := Lib.hid hd
  rw [← hlen] at h1 ⊢
  have HLEN := Lib.hid hlen
  clear hc hd hlen
  go_enter Try.func66, Try.ntmps66
  go_wp2_with fail
  go_loop [3] (fun t => ∃ k : Nat, t = .int .i64 k ∧ k ≤ len ∧ Op.tz (l.take k) = Op.tz l) (fun t => (intOf t).toNat)
  case atStart => exact ⟨len, rfl, by omega, by rw [HLEN.out, List.take_length]⟩
  case round =>
    obtain ⟨k, rfl, hk, ht⟩ := hrel
    have HT := Lib.hid ht
    clear ht
    rcases k with _ | j
    · have e : (Op.tz l).length = 0 := by rw [← HT.out]; rfl
      have E := Lib.hid e
      clear e
      go_wp2_with fail
      go_ret
      exact ⟨by rw [E.out]; rfl, rfl⟩
    · have hjl : j < l.length := by rw [← HLEN.out]; omega
      obtain ⟨g, o, rfl, hcell⟩ := HC.out j hjl
      have hx := HD.out.at_ j
      obtain ⟨x, hxe⟩ : ∃ x, x = Op.cf l j := ⟨_, rfl⟩
      rw [← hxe] at hcell hx
      obtain ⟨hx0, hx1⟩ := hx
      have HX := Lib.hid hxe
      have HJ := Lib.hid hjl
      clear hxe hjl
      have i1 : (j : Int) < (len : Int) := by omega
      by_cases hz : x = 0
      · have hb : (x == 0) = true := by simp [hz]
        have HZ := Lib.hid hz
        clear hz
        go_wp2_with fail
        go_round
        case rel => exact ⟨j, by go_num, by omega, by rw [← Op.tz_take_zero (HX.out.symm.trans HZ.out)]; exact HT.out⟩
        case measure => simp [intOf]
      · have hb : (x == 0) = false := by simp [hz]
        have HZ := Lib.hid hz
        clear hz
        have e : (Op.tz l).length = j + 1 := by
          rw [← HT.out, Op.tz_take_last HJ.out (by rw [← HX.out]; exact HZ.out), List.length_take]
          have := HJ.out
          omega
        have E := Lib.hid e
        clear e
        go_wp2_with fail
        go_ret
        exact ⟨by rw [E.out]; rfl, rfl⟩

set_option maxHeartbeats 400000 in
theorem plus_any (m a k b : Int) (w : World) (hm : 1 ≤ m ∧ m ≤ 4294967295) (ha : 0 ≤ a ∧ a < 4294967296) (hk : 0 ≤ k ∧ k < 4294967296) (hb : 0 ≤ b ∧ b < 4294967296) :
    Calls Try.prog 69 #[.int .u32 m, .int .u32 a, .int .u32 k, .int .u32 b] w (fun e w' => e = .returned (.int .u32 ((a + k * b) % m)) ∧ w = w') := by
  obtain ⟨hm1, hm2⟩ := hm
  obtain ⟨ha1, ha2⟩ := ha
  obtain ⟨hk1, hk2⟩ := hk
  obtain ⟨hb1, hb2⟩ := hb
  have p0 := mul_lo hk1 hb1
  have p1 := mul_hi hk1 hb1 (by omega) (by omega)
  have r0 := emod_lo (a + k * b) m hm1
  have r1 := emod_hi (a + k * b) m hm1
  go_enter Try.func69, Try.ntmps69
  go_wp2_with fail
  go_ret
  exact ⟨rfl, rfl⟩

set_option maxHeartbeats 400000 in
theorem less_any (m a b : Int) (w : World) (hm : 1 ≤ m ∧ m ≤ 4294967295) (ha : 0 ≤ a ∧ a < 4294967296) (hb : 0 ≤ b ∧ b < 4294967296) :
    Calls Try.prog 70 #[.int .u32 m, .int .u32 a, .int .u32 b] w (fun e w' => e = .returned (.int .u32 ((a + (m - 1) * b) % m)) ∧ w = w') := by
  have H1 := Lib.hid ha
  have H2 := Lib.hid hb
  obtain ⟨hm1, hm2⟩ := hm
  clear ha hb
  go_enter Try.func70, Try.ntmps70
  go_wp2_with fail
  refine (plus_any m a (m - 1) b _ (by omega) H1.out (by omega) H2.out).mono ?_
  rintro e w' ⟨rfl, rfl⟩
  go_wp2_with fail
  go_ret
  exact ⟨rfl, rfl⟩

theorem valid_yes (m : Int) (w : World) (h : 2 ≤ m ∧ m ≤ 2147483647) :
    Calls Try.prog 62 #[.int .u32 m] w (fun e w' => e = .returned (.bool true) ∧ w = w') := by
  obtain ⟨h1, h2⟩ := h
  go_enter Try.func62, Try.ntmps62
  go_wp2_with fail
  go_ret
  exact ⟨rfl, rfl⟩
theorem valid_no (m : Int) (w : World) (h : ¬ (2 ≤ m ∧ m ≤ 2147483647)) :
    Calls Try.prog 62 #[.int .u32 m] w (fun e w' => e = .returned (.bool false) ∧ w = w') := by
  by_cases h1 : 2 ≤ m
  · have h2 : ¬ m ≤ 2147483647 := fun h2 => h ⟨h1, h2⟩
    clear h
    go_enter Try.func62, Try.ntmps62
    go_wp2_with fail
    go_ret
    exact ⟨rfl, rfl⟩
  · clear h
    go_enter Try.func62, Try.ntmps62
    go_wp2_with fail
    go_ret
    exact ⟨rfl, rfl⟩

/-- All are below m. -/
def lowB (m : Int) (l : List Int) : Bool := l.all (fun x => decide (x < m))
theorem lowB_true {m : Int} {l : List Int} : lowB m l = true ↔ ∀ i, i < l.length → Op.cf l i < m := by
  unfold lowB
  rw [List.all_eq_true]
  constructor
  · intro h i hi
    simpa using h _ (Op.cf_mem hi)
  · intro h x hx
    obtain ⟨i, hi, rfl⟩ := List.mem_iff_getElem.1 hx
    have := h i hi
    rw [← Op.cf_at, List.getElem?_eq_getElem hi] at this
    simpa using this

set_option maxRecDepth 100000 in
set_option maxHeartbeats 1000000 in
theorem has_any (m : Int) (l : List Int) (v : Value) (w : World) (h : HasP w v l) :
    Calls Try.prog 63 #[.int .u32 m, v] w (fun e w' => e = .returned (.bool (lowB m l)) ∧ w = w') := by
  obtain ⟨hd, a, cap, rfl, h1, h2, hc⟩ := h
  obtain ⟨len, hlen⟩ : ∃ len, len = l.length := ⟨_, rfl⟩
  have HC := Lib.hid hc
  have HD := Lib.hid hd
  rw [← hlen] at h1 ⊢
  have HLEN := Lib.hid hlen
  clear hc hd hlen
  go_enter Try.func63, Try.ntmps63
  go_wp2_with fail
  go_loop [9] (fun t => ∃ k : Nat, t = .int .i64 k ∧ k ≤ len ∧ ∀ i, i < k → Op.cf l i < m) (fun t => len - (intOf t).toNat)
  case atStart => exact ⟨0, rfl, by omega, fun i hi => by omega⟩
  case round =>
    obtain ⟨k, rfl, hk, ht⟩ := hrel
    have HT := Lib.hid ht
    clear ht
    by_cases hlt : k < len
    · have hjl : k < l.length := by rw [← HLEN.out]; omega
      obtain ⟨g, o, rfl, hcell⟩ := HC.out k hjl
      have hx := HD.out.at_ k
      obtain ⟨x, hxe⟩ : ∃ x, x = Op.cf l k := ⟨_, rfl⟩
      rw [← hxe] at hcell hx
      obtain ⟨hx0, hx1⟩ := hx
      have HX := Lib.hid hxe
      have HJ := Lib.hid hjl
      clear hxe hjl
      by_cases hz : m ≤ x
      · have e : lowB m l = false := by
          rw [Bool.eq_false_iff]
          intro h
          have := lowB_true.1 h k HJ.out
          rw [← HX.out] at this
          omega
        have E := Lib.hid e
        clear e
        go_wp2_with fail
        go_ret
        exact ⟨by rw [E.out]; rfl, rfl⟩
      · go_wp2_with fail
        go_round
        case rel => exact ⟨k + 1, by go_num, by omega, fun i hi => by
          by_cases h : i < k
          · exact HT.out i h
          · obtain rfl : i = k := by omega
            rw [← HX.out]; omega⟩
        case measure => simp [intOf]; omega
    · have e : lowB m l = true := lowB_true.2 (fun i hi => HT.out i (by have := HLEN.out; omega))
      have E := Lib.hid e
      clear e
      go_wp2_with fail
      go_ret
      exact ⟨by rw [E.out]; rfl, rfl⟩
end Go.Proofs.Ytaenjbemkeghgaa
