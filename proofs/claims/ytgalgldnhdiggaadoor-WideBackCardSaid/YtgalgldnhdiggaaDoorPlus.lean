/- plus. -/
import Derived.Test.YtgalgldnhdiggaaDoorClone
namespace Ow
set_option linter.unusedVariables false
theorem dg_zero {l : List Nat} (h : Dg l) : Dg (l ++ [0]) := dg_snoc h (by omega)
theorem no_carry {l m l' : List Nat} {c n : Nat} (h : val l' + c * 4294967296 ^ (n + 1) = val l + val m) (hl : Dg l) (hm : Dg m) (hn : l.length ≤ n ∧ m.length ≤ n) : val l' = val l + val m := by
  have a := val_lt l hl
  have b := val_lt m hm
  have a2 : 4294967296 ^ l.length ≤ 4294967296 ^ n := Nat.pow_le_pow_right (by omega) hn.1
  have b2 : 4294967296 ^ m.length ≤ 4294967296 ^ n := Nat.pow_le_pow_right (by omega) hn.2
  rw [Nat.pow_succ] at h
  rcases Nat.eq_zero_or_pos c with rfl | hc
  · omega
  · have : 1 * (4294967296 ^ n * 4294967296) ≤ c * (4294967296 ^ n * 4294967296) := Nat.mul_le_mul_right _ hc
    omega
theorem val_zero (l : List Nat) : val (l ++ [0]) = val l := by rw [val_snoc]; omega
end Ow
namespace Go.Proofs.YtgalgldnhdiggaaDoor
open Go.RowKit
set_option linter.unusedVariables false

theorem grown_row {w a b : World} {b' : Obj} {e : TypeId} {size k base : Nat} {v : Value} {xs : List Value} (h : Gr w (a.alloc b')) (ho : a.ownsRow base e size v k xs) (hg : (a.alloc b').grownBy b v.ownBlock) (hb : w.heap.size ≤ base := by omega) : Gr w b := by
  refine Below.grown h hg h.size (fun j ej => ?_)
  rcases ho.2 with ⟨rfl, _⟩ | ⟨g, cap, cur, rfl, h1, _, _⟩
  · simp [Value.ownBlock] at ej
  · obtain rfl : g = j := by simpa [Value.ownBlock] using ej
    omega
theorem HasD.block {W : World} {v : Value} {l : List Nat} (h : HasD W v l) (h0 : 0 < l.length) : ∃ b, v.ownBlock = some b ∧ b < W.heap.size := by
  obtain ⟨_, a, cap, rfl, _, _, hc⟩ := h
  obtain ⟨g, o, rfl, hc0⟩ := hc 0 h0
  exact ⟨g, rfl, World.block_lt_of_cell? W _ hc0⟩

/-- New digits, or a part of those that were handed in. -/
def DigPost (n : Nat) (w : World) (e : Ending) (w' : World) : Prop := ∃ v l, e = .returned v ∧ HasD w' v l ∧ Ow.Nm l ∧ Ow.val l = n ∧ Gr w w'

set_option maxRecDepth 100000 in
set_option maxHeartbeats 600000 in
theorem plus_ord (l m : List Nat) (u v : Value) (w : World) (hu : HasD w u l) (hv : HasD w v m) (hlen : m.length ≤ l.length) (hl : l.length ≤ 100000) (hm : m.length ≤ 100000) :
    Calls Tryd.prog 73 #[u, v] w (DigPost (Ow.val l + Ow.val m) w) := by
  have HU := Lib.hid hu
  have HV := Lib.hid hv
  obtain ⟨du, a, cap, rfl, u1, u2, -⟩ := hu
  obtain ⟨dv, b, cap', rfl, v1, v2, -⟩ := hv
  obtain ⟨i0, hi, hz0, hz1, hz2⟩ := info_parts infoU32
  obtain ⟨len, hlen1⟩ : ∃ len, len = l.length := ⟨_, rfl⟩
  obtain ⟨len', hlen2⟩ : ∃ len', len' = m.length := ⟨_, rfl⟩
  rw [← hlen1] at u1 hlen hl HU ⊢
  rw [← hlen2] at v1 hlen hm HV ⊢
  have HL := Lib.hid hlen1
  have HL2 := Lib.hid hlen2
  have HDU := Lib.hid du
  have HDV := Lib.hid dv
  clear hlen1 hlen2 du dv
  have t1 : decide ((len : Int) < (len' : Int)) = false := by simp; omega
  have t2 : decide (len < len') = false := by simp; omega
  go_enter Tryd.func73, Tryd.ntmps73
  go_wp2_with fail
  refine (clone_any l _ _ HU.out (by rw [← HL.out]; omega)).mono ?_
  rintro e w1 ⟨v1', rfl, hown, g1⟩
  have HOWN := Lib.hid hown
  clear hown
  have hb1 : l.length + 1 ≤ maxLen := by have := HL.out; unfold maxLen; omega
  have hb2 : (l.length + 1) * 4 ≤ 140737488355328 := by have := HL.out; omega
  have hs1 := g1.size
  go_wp2_with (at_builtin; refine wpList_append_own _ rfl _ _ 54 rfl w.heap.size 59 i0 (.int .u32 0) 1 4 Tryd.underlying54 hi hz0 hz1 hz2 rfl (by decide) _ _ _ rfl (HOWN.out.2.alloc _) ⟨w1.heap.size, 0, none⟩ 1 1 [.int .u32 0] rfl rfl (cell_one_new _ _ _) (by simp [Value.oneCell']) hb1 hb2 (by simp; omega) ?_; intro v' w2 hown' hgrow _; have HO := Lib.hid hown'; have HG := Lib.hid (grown_row (g1.alloc _) HOWN.out.2 hgrow); clear hown' hgrow)
  have HO1 : Own1 w2 w.heap.size v' (l ++ [0]) := ⟨Ow.dg_zero HDU.out, by rw [wcells_snoc, List.length_append]; exact HO.out⟩
  obtain ⟨g, cap2, rfl, hg1, hg2, hg3, hg4, hlies⟩ := HO1.lies (by simp)
  have HLIES := Lib.hid hlies
  have HG3 := Lib.hid hg3
  clear hlies HO HO1 hg3
  refine (addTo_any g 0 (l ++ [0]) m cap2 _ _ HLIES.out HG3.out hg4 (HV.out.later HG.out) (fun h0 e => ?_) (by have := HL.out; have := HL2.out; simp; omega)).mono ?_
  · obtain ⟨b2, e2, hb3⟩ := HV.out.block h0
    rw [e2] at e
    have := Option.some.inj e
    omega
  rintro e w3 ⟨l', c, rfl, p1, p2, p3, p4, p5⟩
  have hG3 : Gr w w3 := p5.gr HG.out hg1
  have hd := (Lies.upd p5 p2).hasD (cap := cap2) (by rw [p1]; exact HG3.out) hg4
  rw [p1, List.length_append, List.length_singleton] at hd
  have hval : Ow.val l' = Ow.val l + Ow.val m := Ow.no_carry (c := c) (n := l.length) (by have h := p4; rw [List.length_append, List.length_singleton, Ow.val_zero] at h; omega) HDU.out HDV.out (by have := HL.out; have := HL2.out; omega)
  have HD := Lib.hid hd
  have HVAL := Lib.hid hval
  have HP2 := Lib.hid p2
  clear hd hval p1 p2 p3 p4 p5
  go_wp2_with fail
  refine (trim_any l' _ _ HD.out).mono ?_
  rintro e w4 ⟨⟨v3, rfl, hcut⟩, rfl⟩
  have HCUT := Lib.hid hcut
  clear hcut
  go_wp2_with fail
  go_ret
  exact ⟨_, Ow.tr l', rfl, HCUT.out _ HD.out, Ow.nm_tr HP2.out, by rw [Ow.val_tr]; exact HVAL.out, hG3⟩

set_option maxRecDepth 100000 in
set_option maxHeartbeats 600000 in
theorem plus_swap (l m : List Nat) (u v : Value) (w : World) (hu : HasD w u l) (hv : HasD w v m) (hlen : l.length < m.length) (hl : l.length ≤ 100000) (hm : m.length ≤ 100000) :
    Calls Tryd.prog 73 #[u, v] w (DigPost (Ow.val l + Ow.val m) w) := by
  have HU := Lib.hid hu
  have HV := Lib.hid hv
  obtain ⟨du, a, cap, rfl, u1, u2, -⟩ := hu
  obtain ⟨dv, b, cap', rfl, v1, v2, -⟩ := hv
  obtain ⟨i0, hi, hz0, hz1, hz2⟩ := info_parts infoU32
  obtain ⟨len, hlen1⟩ : ∃ len, len = l.length := ⟨_, rfl⟩
  obtain ⟨len', hlen2⟩ : ∃ len', len' = m.length := ⟨_, rfl⟩
  rw [← hlen1] at u1 hlen hl HU ⊢
  rw [← hlen2] at v1 hlen hm HV ⊢
  have HL := Lib.hid hlen1
  have HL2 := Lib.hid hlen2
  have HDU := Lib.hid du
  have HDV := Lib.hid dv
  clear hlen1 hlen2 du dv
  have t1 : decide ((len : Int) < (len' : Int)) = true := by simp; omega
  have t2 : decide (len < len') = true := by simp; omega
  go_enter Tryd.func73, Tryd.ntmps73
  go_wp2_with fail
  refine (clone_any m _ _ HV.out (by rw [← HL2.out]; omega)).mono ?_
  rintro e w1 ⟨v1', rfl, hown, g1⟩
  have HOWN := Lib.hid hown
  clear hown
  have hb1 : m.length + 1 ≤ maxLen := by have := HL2.out; unfold maxLen; omega
  have hb2 : (m.length + 1) * 4 ≤ 140737488355328 := by have := HL2.out; omega
  have hs1 := g1.size
  go_wp2_with (at_builtin; refine wpList_append_own _ rfl _ _ 54 rfl w.heap.size 59 i0 (.int .u32 0) 1 4 Tryd.underlying54 hi hz0 hz1 hz2 rfl (by decide) _ _ _ rfl (HOWN.out.2.alloc _) ⟨w1.heap.size, 0, none⟩ 1 1 [.int .u32 0] rfl rfl (cell_one_new _ _ _) (by simp [Value.oneCell']) hb1 hb2 (by simp; omega) ?_; intro v' w2 hown' hgrow _; have HO := Lib.hid hown'; have HG := Lib.hid (grown_row (g1.alloc _) HOWN.out.2 hgrow); clear hown' hgrow)
  have HO1 : Own1 w2 w.heap.size v' (m ++ [0]) := ⟨Ow.dg_zero HDV.out, by rw [wcells_snoc, List.length_append]; exact HO.out⟩
  obtain ⟨g, cap2, rfl, hg1, hg2, hg3, hg4, hlies⟩ := HO1.lies (by simp)
  have HLIES := Lib.hid hlies
  have HG3 := Lib.hid hg3
  clear hlies HO HO1 hg3
  refine (addTo_any g 0 (m ++ [0]) l cap2 _ _ HLIES.out HG3.out hg4 (HU.out.later HG.out) (fun h0 e => ?_) (by have := HL.out; have := HL2.out; simp; omega)).mono ?_
  · obtain ⟨b2, e2, hb3⟩ := HU.out.block h0
    rw [e2] at e
    have := Option.some.inj e
    omega
  rintro e w3 ⟨l', c, rfl, p1, p2, p3, p4, p5⟩
  have hG3 : Gr w w3 := p5.gr HG.out hg1
  have hd := (Lies.upd p5 p2).hasD (cap := cap2) (by rw [p1]; exact HG3.out) hg4
  rw [p1, List.length_append, List.length_singleton] at hd
  have hval : Ow.val l' = Ow.val l + Ow.val m := Ow.no_carry (c := c) (n := m.length) (by have h := p4; rw [List.length_append, List.length_singleton, Ow.val_zero] at h; omega) HDU.out HDV.out (by have := HL.out; have := HL2.out; omega)
  have HD := Lib.hid hd
  have HVAL := Lib.hid hval
  have HP2 := Lib.hid p2
  clear hd hval p1 p2 p3 p4 p5
  go_wp2_with fail
  refine (trim_any l' _ _ HD.out).mono ?_
  rintro e w4 ⟨⟨v3, rfl, hcut⟩, rfl⟩
  have HCUT := Lib.hid hcut
  clear hcut
  go_wp2_with fail
  go_ret
  exact ⟨_, Ow.tr l', rfl, HCUT.out _ HD.out, Ow.nm_tr HP2.out, by rw [Ow.val_tr]; exact HVAL.out, hG3⟩

theorem plus_any (l m : List Nat) (u v : Value) (w : World) (hu : HasD w u l) (hv : HasD w v m) (hl : l.length ≤ 100000) (hm : m.length ≤ 100000) :
    Calls Tryd.prog 73 #[u, v] w (DigPost (Ow.val l + Ow.val m) w) := by
  by_cases h : m.length ≤ l.length
  · exact plus_ord l m u v w hu hv h hl hm
  · exact plus_swap l m u v w hu hv (by omega) hl hm
end Go.Proofs.YtgalgldnhdiggaaDoor
