/- The comparison of digits: as the numbers that they stand for. -/
import Derived.Test.YtgalgldnhdiggaaDoorCmp
namespace Ow
set_option linter.unusedVariables false
theorem val_split : ∀ (k : Nat) (l : List Nat), k ≤ l.length → val l = val (l.take k) + 4294967296 ^ k * val (l.drop k)
  | 0, l, _ => by simp [val]
  | k + 1, [], h => by simp at h
  | k + 1, d :: l, h => by
    have ih := val_split k l (by simpa using h)
    simp only [List.take_succ_cons, List.drop_succ_cons, val]
    rw [ih, Nat.mul_add, Nat.pow_succ, Nat.mul_comm (4294967296 ^ k) 4294967296, Nat.mul_assoc]
    omega

theorem dg_take {l : List Nat} (h : Dg l) (k : Nat) : Dg (l.take k) := fun x hx => h x (List.mem_of_mem_take hx)

theorem val_lt_of {l m : List Nat} {i : Nat} (hl : Dg l) (hm : Dg m) (h1 : i < l.length) (h2 : i < m.length) (hd : l.drop (i + 1) = m.drop (i + 1)) (hlt : l[i]?.getD 0 < m[i]?.getD 0) : val l < val m := by
  rw [val_split i l (by omega), val_split i m (by omega), List.drop_eq_getElem_cons h1, List.drop_eq_getElem_cons h2, hd]
  rw [List.getElem?_eq_getElem h1, List.getElem?_eq_getElem h2] at hlt
  simp only [Option.getD_some] at hlt
  have a := val_lt (l.take i) (dg_take hl i)
  rw [List.length_take, Nat.min_eq_left (by omega)] at a
  simp only [val]
  have b := Nat.mul_le_mul_left (4294967296 ^ i) (show l[i] + 1 ≤ m[i] by omega)
  rw [Nat.mul_add, Nat.mul_one] at b
  rw [Nat.mul_add, Nat.mul_add]
  omega

theorem drop_prev {l m : List Nat} {i : Nat} (h1 : i < l.length) (h2 : i < m.length) (hd : l.drop (i + 1) = m.drop (i + 1)) (he : l[i]?.getD 0 = m[i]?.getD 0) : l.drop i = m.drop i := by
  rw [List.drop_eq_getElem_cons h1, List.drop_eq_getElem_cons h2, hd]
  rw [List.getElem?_eq_getElem h1, List.getElem?_eq_getElem h2] at he
  simp only [Option.getD_some] at he
  rw [he]

/-- The top digit is not 0. -/
theorem val_ge : ∀ l : List Nat, tr l = l → l ≠ [] → 4294967296 ^ (l.length - 1) ≤ val l
  | [], _, h => absurd rfl h
  | [d], h, _ => by
    have : d ≠ 0 := fun h0 => by rw [h0] at h; simp [tr] at h
    simp [val]; omega
  | d :: e :: l, h, _ => by
    have h1 : tr (e :: l) = e :: l := by
      rw [tr] at h
      split at h
      · cases h
      · exact (List.cons.inj h).2
    have ih := val_ge (e :: l) h1 (by simp)
    simp only [List.length_cons, Nat.add_sub_cancel] at ih ⊢
    show 4294967296 ^ (l.length + 1) ≤ d + 4294967296 * val (e :: l)
    rw [Nat.pow_succ]
    have := Nat.mul_le_mul_left 4294967296 ih
    omega

theorem val_short {l m : List Nat} (hl : Nm l) (hm : Nm m) (h : l.length < m.length) : val l < val m := by
  have a := val_lt l hl.1
  have b := val_ge m hm.2 (fun h0 => by rw [h0] at h; simp at h)
  have c : 4294967296 ^ l.length ≤ 4294967296 ^ (m.length - 1) := Nat.pow_le_pow_right (by omega) (by omega)
  omega
end Ow
namespace Go.Proofs.YtgalgldnhdiggaaDoor
open Go.RowKit
set_option linter.unusedVariables false

def CmpPost (c : Int) (w : World) (e : Ending) (w' : World) : Prop := e = .returned (.int .i64 c) ∧ Gr w w'

set_option maxRecDepth 100000 in
set_option maxHeartbeats 2000000 in
theorem compare_any (l m : List Nat) (u v : Value) (w : World) (hu : HasD w u l) (hv : HasD w v m) (hl : Ow.Nm l) (hm : Ow.Nm m) :
    Calls Tryd.prog 74 #[u, v] w (CmpPost (sgn (Ow.val l) (Ow.val m)) w) := by
  obtain ⟨du, a, cap, rfl, u1, u2, uc⟩ := hu
  obtain ⟨dv, b, cap', rfl, v1, v2, vc⟩ := hv
  obtain ⟨len, hlen⟩ : ∃ len, len = l.length := ⟨_, rfl⟩
  obtain ⟨len', hlen'⟩ : ∃ len', len' = m.length := ⟨_, rfl⟩
  rw [← hlen] at u1 ⊢
  rw [← hlen'] at v1 ⊢
  have HU := Lib.hid uc
  have HV := Lib.hid vc
  have HDU := Lib.hid du
  have HDV := Lib.hid dv
  have HL := Lib.hid hlen
  have HM := Lib.hid hlen'
  have HNL := Lib.hid hl
  have HNM := Lib.hid hm
  clear uc vc du dv hlen hlen' hl hm
  by_cases hne : len = len'
  · have HE := Lib.hid hne
    have hb : ((len : Int) != (len' : Int)) = false := by simp; omega
    clear hne
    go_enter Tryd.func74, Tryd.ntmps74
    go_wp2_with fail
    go_loopw [5] (fun i wr => ∃ k : Nat, i = .int .i64 ((k : Int) - 1) ∧ k ≤ len ∧ l.drop k = m.drop k ∧ Gr w wr) (fun i _ => (intOf i + 1).toNat)
    case atStart => exact ⟨len, rfl, by omega, by rw [HL.out, List.drop_length, ← HL.out, HE.out, HM.out, List.drop_length], Gr.refl _⟩
    case round =>
      obtain ⟨k, rfl, hk, hd, g1⟩ := hrel
      have HDR := Lib.hid hd
      clear hd
      rcases k with _ | j
      · have HEQ := Lib.hid (show Ow.val l = Ow.val m from by have := HDR.out; simp at this; rw [this])
        have t0 : decide ((0 : Int) ≤ ((0 : Nat) : Int) - 1) = false := by simp
        go_wp2_with fail
        go_ret
        exact ⟨ret_int (by rw [sgn_eq (by have := HEQ.out; omega)]), g1⟩
      · rw [show ((j + 1 : Nat) : Int) - 1 = (j : Int) by omega]
        have hjl : j < l.length := by rw [← HL.out]; omega
        have hjm : j < m.length := by rw [← HM.out, ← HE.out]; omega
        obtain ⟨ga, oa, rfl, ca⟩ := HU.out j hjl
        obtain ⟨gb, ob, rfl, cb⟩ := HV.out j hjm
        have ca' := g1.keeps ca
        have cb' := g1.keeps cb
        have hx := HDU.out (l[j]?.getD 0) (by rw [List.getElem?_eq_getElem hjl]; exact List.getElem_mem hjl)
        have hy := HDV.out (m[j]?.getD 0) (by rw [List.getElem?_eq_getElem hjm]; exact List.getElem_mem hjm)
        obtain ⟨x, hxe⟩ : ∃ x, x = l[j]?.getD 0 := ⟨_, rfl⟩
        obtain ⟨y, hye⟩ : ∃ y, y = m[j]?.getD 0 := ⟨_, rfl⟩
        rw [← hxe] at ca' hx
        rw [← hye] at cb' hy
        have HX := Lib.hid hxe
        have HY := Lib.hid hye
        have HJL := Lib.hid hjl
        have HJM := Lib.hid hjm
        clear hxe hye hjl hjm ca cb
        have i1 : (j : Int) < (len : Int) := by omega
        have i2 : (j : Int) < (len' : Int) := by have := HE.out; omega
        have i3 : (0 : Int) ≤ (j : Int) := by omega
        by_cases hxy : x = y
        · have t1 : ((x : Int) != (y : Int)) = false := by simp; omega
          have HXY := Lib.hid hxy
          clear hxy
          go_wp2_with fail
          go_quiet (fail)
          go_wp2_with fail
          go_roundw
          case rel => exact ⟨j, by simp, by omega, Ow.drop_prev HJL.out HJM.out HDR.out (by rw [← HX.out, ← HY.out]; exact HXY.out), g1.drewN _⟩
          case measure => simp [intOf]
        · have t1 : ((x : Int) != (y : Int)) = true := by simp; omega
          have HS := Lib.hid (show sgn x y = sgn (Ow.val l) (Ow.val m) from by
            rcases Nat.lt_or_gt_of_ne hxy with h | h
            · have := Ow.val_lt_of HDU.out HDV.out HJL.out HJM.out HDR.out (by rw [← HX.out, ← HY.out]; exact h)
              rw [sgn_lt (by omega), sgn_lt (by omega)]
            · have := Ow.val_lt_of HDV.out HDU.out HJM.out HJL.out HDR.out.symm (by rw [← HX.out, ← HY.out]; exact h)
              rw [sgn_gt (by omega), sgn_gt (by omega)])
          clear hxy
          go_wp2_with fail
          go_quiet (fail)
          have g2 : Gr w (wr.drewN nq) := g1.drewN _
          have ca2 : (wr.drewN nq).cell? _ = _ := (show Gr wr (wr.drewN nq) from (Gr.refl wr).drewN _).keeps ca'
          have cb2 : (wr.drewN nq).cell? _ = _ := (show Gr wr (wr.drewN nq) from (Gr.refl wr).drewN _).keeps cb'
          clear ca' cb' g1
          generalize wr.drewN nq = w2 at *
          go_wp2_with fail
          go_quiet ((go_at_call 89; exact Calls.quiet_of_same ((cmp_u32 _ _ _).mono fun e w' ⟨h1, h2⟩ => ⟨h1, h2.symm⟩)))
          go_wp2_with fail
          go_ret
          exact ⟨ret_int HS.out, g2.drewN _⟩
  · have hb : ((len : Int) != (len' : Int)) = true := by simp; omega
    have HE := Lib.hid hne
    have HS := Lib.hid (show sgn len len' = sgn (Ow.val l) (Ow.val m) from by
      rcases Nat.lt_or_gt_of_ne hne with h | h
      · have := Ow.val_short HNL.out HNM.out (by rw [← HL.out, ← HM.out]; exact h)
        rw [sgn_lt (by omega), sgn_lt (by omega)]
      · have := Ow.val_short HNM.out HNL.out (by rw [← HL.out, ← HM.out]; exact h)
        rw [sgn_gt (by omega), sgn_gt (by omega)])
    clear hne
    go_enter Tryd.func74, Tryd.ntmps74
    go_wp2_with (go_at_call 88; refine (cmp_int _ _ _).mono ?_; rintro e w' ⟨rfl, rfl⟩)
    go_ret
    exact ⟨ret_int HS.out, Gr.refl _⟩
end Go.Proofs.YtgalgldnhdiggaaDoor
