/- takeOut: a digit of a quotient. -/
import Derived.Test.YtgalgldnhdiggaaDoorSum
namespace Ow
set_option linter.unusedVariables false
/-- The quotient of the highest digits is never too small. -/
theorem guess_ge {l m : List Nat} (hl : Dg l) (hm : Dg m) (h0 : 0 < m.length) (hlen : l.length = m.length + 1) {p d : Nat}
    (hp : p = l[m.length]?.getD 0 * 4294967296 + l[m.length - 1]?.getD 0) (hd : d = m[m.length - 1]?.getD 0) (hd1 : 1 ≤ d) (hlt : val l < val m * 4294967296) :
    val l / val m ≤ min (p / d) 4294967295 := by
  have h1 := val_split (m.length - 1) l (by omega)
  have h2 := val_lt _ (dg_take hl (m.length - 1))
  rw [List.length_take, Nat.min_eq_left (by omega)] at h2
  have h3 := val_split (m.length - 1) m (by omega)
  have e1 : val (l.drop (m.length - 1)) = p := by
    rw [drop_at (by omega), show m.length - 1 + 1 = m.length by omega, drop_at (by omega), List.drop_of_length_le (by omega), hp]
    simp [val]; omega
  have e2 : val (m.drop (m.length - 1)) = d := by
    rw [drop_at (by omega), show m.length - 1 + 1 = m.length by omega, List.drop_of_length_le (by omega), hd]
    simp [val]
  rw [e1] at h1
  rw [e2] at h3
  have hB : 0 < 4294967296 ^ (m.length - 1) := Nat.pow_pos (by omega)
  generalize 4294967296 ^ (m.length - 1) = Bn at *
  have hm0 : 0 < val m := by
    have : Bn * 1 ≤ Bn * d := Nat.mul_le_mul_left _ hd1
    omega
  refine Nat.le_min.2 ⟨?_, ?_⟩
  · rw [Nat.le_div_iff_mul_le (by omega)]
    have hq := Nat.div_mul_le_self (val l) (val m)
    generalize val l / val m = q at *
    have k1 : q * (Bn * d) ≤ q * val m := Nat.mul_le_mul_left _ (by omega)
    have k2 : Bn * (q * d) < Bn * (p + 1) := by
      rw [Nat.mul_left_comm, Nat.mul_add]
      omega
    have := Nat.lt_of_mul_lt_mul_left k2
    omega
  · have : val l / val m < 4294967296 := by
      rw [Nat.div_lt_iff_lt_mul hm0, Nat.mul_comm]; exact hlt
    omega
/-- What the loop keeps: digits L, after G times the divisor was taken, and T is missing at the top. -/
def OutI (R D Bn : Nat) (V G T : Nat) : Prop := T ≤ 1 ∧ V < Bn ∧ V + G * D = R + T * Bn ∧ R / D ≤ G
theorem OutI.first {R D Bn V G T : Nat} (hV : V < Bn) (hR : R < Bn) (h : R + T * Bn = V + G * D) (hG : R / D ≤ G) (hGD : G * D < Bn) : OutI R D Bn V G T := by
  refine ⟨?_, hV, h.symm, hG⟩
  apply Classical.byContradiction; intro hn
  have : 2 * Bn ≤ T * Bn := Nat.mul_le_mul_right _ (by omega)
  omega
theorem OutI.step {R D Bn V G V' c : Nat} (h : OutI R D Bn V G 1) (hD : 0 < D) (hV' : V' < Bn) (hc : c ≤ 1) (e : V' + c * Bn = V + D) : 1 ≤ G ∧ OutI R D Bn V' (G - 1) (1 - c) := by
  obtain ⟨h1, h2, h3, h4⟩ := h
  have hlt : R / D < G := by
    rw [Nat.div_lt_iff_lt_mul hD]; omega
  have hq : R / D ≤ G - 1 := Nat.le_sub_one_of_lt hlt
  have hG : 1 ≤ G := Nat.lt_of_le_of_lt (Nat.zero_le _) hlt
  clear hlt h4
  have h5 : (G - 1) * D + D = G * D := by rw [← Nat.succ_mul]; congr 1; omega
  refine ⟨hG, by omega, hV', ?_, hq⟩
  clear hq
  rcases (show c = 0 ∨ c = 1 by omega) with rfl | rfl
  · simp only [Nat.sub_zero, Nat.one_mul, Nat.zero_mul] at *; omega
  · simp only [Nat.sub_self, Nat.one_mul, Nat.zero_mul] at *; omega
theorem OutI.last {R D Bn V G : Nat} (h : OutI R D Bn V G 0) (hD : 0 < D) : G = R / D ∧ V = R % D := by
  obtain ⟨h1, h2, h3, h4⟩ := h
  have h5 : G ≤ R / D := by rw [Nat.le_div_iff_mul_le hD]; omega
  have h6 : G = R / D := by omega
  refine ⟨h6, ?_⟩
  have := Nat.div_add_mod R D
  rw [← h6, Nat.mul_comm] at this
  omega
end Ow
namespace Go.Proofs.YtgalgldnhdiggaaDoor
open Go.RowKit
set_option linter.unusedVariables false

theorem Upd.trans {W W1 W2 : World} {g o : Nat} {l l' : List Nat} (h : Upd g o l W W1) (k : Upd g o l' W1 W2) (hl : l'.length = l.length) : Upd g o l' W W2 := by
  obtain ⟨h1, h2, h3, h4, h5, cur, cur', r1, r2, r3, r4, r5⟩ := h
  obtain ⟨k1, k2, k3, k4, k5, cur2, cur2', s1, s2, s3, s4, s5⟩ := k
  have e : cur2 = cur' := by
    have := (show W1.heap[g]? = _ from s1).symm.trans r2
    simp only [Option.some.injEq, Obj.cells.injEq] at this
    exact this.1
  subst e
  refine ⟨k1.trans h1, k2.trans h2, k3.trans h3, k4.trans h4, fun j hj => (k5 j hj).trans (h5 j hj), cur, cur2', r1, s2, by omega, by omega, fun j => ?_⟩
  rw [s5, r5, hl]
  by_cases hj : o ≤ j ∧ j < o + l.length
  · rw [if_pos hj, if_pos hj]
  · rw [if_neg hj, if_neg hj, if_neg hj]
theorem Upd.of_drew {W W' : World} {g o : Nat} {l : List Nat} (h : Upd g o l W.drew W') : Upd g o l W W' := by
  obtain ⟨h1, h2, h3, h4, h5, h6⟩ := h
  exact ⟨h1, h2, h3, h4, h5, h6⟩
theorem Lies.drew {W : World} {g o : Nat} {l : List Nat} (h : Lies W g o l) : Lies W.drew g o l := h

def OutPost (g o : Nat) (l m : List Nat) (w : World) (e : Ending) (w' : World) : Prop :=
  ∃ l', e = .returned (.int .u32 ((Ow.val l / Ow.val m : Nat) : Int)) ∧ l'.length = l.length ∧ Ow.Dg l' ∧ Ow.val l' = Ow.val l % Ow.val m ∧ Upd g o l' w w'

set_option maxRecDepth 100000 in
set_option maxHeartbeats 2000000 in
theorem takeOut_any (g o : Nat) (l m : List Nat) (cap : Nat) (v : Value) (w : World) (hl : Lies w g o l) (hcap : l.length ≤ cap) (hcap2 : cap ≤ 9223372036854775807) (hm : HasD w v m) (hv : v.ownBlock ≠ some g) (hlen : l.length = m.length + 1) (hm0 : 0 < m.length) (hn : Ow.Nm m) (hlt : Ow.val l < Ow.val m * 4294967296) (hlm : m.length ≤ 100000) :
    Calls Tryd.prog 93 #[.slice (some ⟨g, o, none⟩) l.length cap, v] w (OutPost g o l m w) := by
  obtain ⟨n, hne⟩ : ∃ n, m.length = n + 1 := ⟨m.length - 1, by omega⟩
  have HM := Lib.hid hm
  obtain ⟨dv, b, cp, rfl, v1, v2, cv⟩ := hm
  obtain ⟨gb, ob, rfl, c3⟩ := cv n (by omega)
  have hdl := hl.1
  have c1 := hl.2.2 (n + 1) (by omega)
  have c2 := hl.2.2 n (by omega)
  have hd1 : 1 ≤ m[n]?.getD 0 := by
    have := Ow.snoc_of (l := m) (by omega)
    rw [hne, Nat.add_sub_cancel] at this
    exact Ow.nm_last (by rw [← this]; exact hn)
  obtain ⟨x, hx⟩ : ∃ x, x = l[n + 1]?.getD 0 := ⟨_, rfl⟩
  obtain ⟨y, hy⟩ : ∃ y, y = l[n]?.getD 0 := ⟨_, rfl⟩
  obtain ⟨d, hd⟩ : ∃ d, d = m[n]?.getD 0 := ⟨_, rfl⟩
  have hxb := Ow.dg_at hdl (n + 1)
  have hyb := Ow.dg_at hdl n
  have hdb := Ow.dg_at dv n
  rw [← hx] at c1 hxb
  rw [← hy] at c2 hyb
  rw [← hd] at c3 hd1 hdb
  obtain ⟨p, hp⟩ : ∃ p, p = x * 4294967296 + y := ⟨_, rfl⟩
  have hor := or_digit x y hxb hyb
  rw [← hp] at hor
  have hpb : p ≤ 18446744073709551615 := by omega
  have hge := Ow.guess_ge (l := l) (m := m) (p := p) (d := d) hdl dv hm0 hlen (by rw [hp, hx, hy, hne, Nat.add_sub_cancel]) (by rw [hd, hne, Nat.add_sub_cancel]) hd1 hlt
  have HGE := Lib.hid hge
  have HLI := Lib.hid hl
  have HV := Lib.hid hv
  have HN := Lib.hid hn
  have HLT := Lib.hid hlt
  have HNE := Lib.hid hne
  have HLEN := Lib.hid hlen
  have HCAP := Lib.hid hcap
  have hll : l.length = n + 2 := by omega
  have HLL := Lib.hid hll
  clear hge hl hv hn hlt hp hx hy hd dv cv hlen hm0 hdl hcap
  rw [hne] at v1 HM HV
  rw [hll, hne]
  have i1 : ((n + 1 : Nat) : Int) - 1 = (n : Int) := by omega
  have u1 : (0 : Int) ≤ (p : Int) / (d : Int) := Int.ediv_nonneg (by omega) (by omega)
  have u2 : (p : Int) / (d : Int) ≤ 18446744073709551615 := by
    rw [← Int.natCast_ediv]; have := Nat.div_le_self p d; omega
  clear hll hne
  go_enter Tryd.func93, Tryd.ntmps93
  go_wp2_with fail
  go_region
  go_wp2_with fail
  obtain ⟨G0, hG0⟩ : ∃ G0, G0 = min (p / d) 4294967295 := ⟨_, rfl⟩
  have eG : min ((p : Int) / (d : Int)) 4294967295 = (G0 : Int) := by rw [hG0, ← Int.natCast_ediv]; omega
  have hGb : G0 < 4294967296 := by rw [hG0]; omega
  have HGE := Lib.hid (show Ow.val l / Ow.val m ≤ G0 by rw [hG0]; exact HGE.out)
  rw [eG, ← HLL.out]
  clear eG hG0 u1 u2
  refine (takeFrom_any g o l m cap _ G0 _ HLI.out.drew HCAP.out hcap2 (HM.out.later (Below.drew (Gr.refl w))) (fun _ => HV.out) (by rw [HLEN.out]; omega) hGb).mono ?_
  rintro e w2 ⟨l', T, rfl, p1, p2, p3, p4, p5⟩
  have hD : 0 < Ow.val m := Nat.lt_of_lt_of_le (Nat.pow_pos (by omega)) (Ow.val_ge m HN.out.2 (by intro e; have := HNE.out; rw [e] at this; simp at this))
  have HD := Lib.hid hD
  have HOI := Lib.hid (show Ow.OutI (Ow.val l) (Ow.val m) (4294967296 ^ l.length) (Ow.val l') G0 T from by
    refine Ow.OutI.first ?_ (Ow.val_lt l HLI.out.1) p4 HGE.out ?_
    · rw [← p1]; exact Ow.val_lt l' p2
    · have h1 := Ow.val_lt m HN.out.1
      rw [HLEN.out, Nat.pow_succ, Nat.mul_comm]
      have h2 : Ow.val m * G0 ≤ Ow.val m * 4294967296 := Nat.mul_le_mul_left _ (by omega)
      have h3 : Ow.val m * 4294967296 < 4294967296 ^ m.length * 4294967296 := Nat.mul_lt_mul_of_pos_right h1 (by omega)
      omega)
  have HU0 := Lib.hid p5.of_drew
  have HL0 := Lib.hid (And.intro p1 p2)
  clear p1 p2 p3 p4 p5 hD
  go_wp2_with fail
  go_loopw [7, 8] (fun t7 t8 wr => ∃ G T L, t7 = .int .u32 (G : Nat) ∧ t8 = .bool (decide (0 < T)) ∧ G < 4294967296 ∧ L.length = l.length ∧ Ow.Dg L ∧ Ow.OutI (Ow.val l) (Ow.val m) (4294967296 ^ l.length) (Ow.val L) G T ∧ Upd g o L w wr) (fun t7 _ _ => (intOf t7).toNat)
  case atStart => exact ⟨G0, T, l', rfl, rfl, hGb, HL0.out.1, HL0.out.2, HOI.out, HU0.out⟩
  case round =>
    obtain ⟨G, T, L, rfl, rfl, hGb, hLl, hLd, hoi, hupd⟩ := hrel
    have HLl := Lib.hid hLl
    have HLd := Lib.hid hLd
    have HU := Lib.hid hupd
    have HO := Lib.hid hoi
    clear hLl hLd hupd
    rcases (show T = 0 ∨ T = 1 by have := hoi.1; omega) with rfl | rfl
    · have HE := Lib.hid (HO.out.last HD.out)
      clear hoi
      go_wp2_with fail
      go_ret
      exact ⟨L, by rw [← HE.out.1]; rfl, HLl.out, HLd.out, HE.out.2, HU.out⟩
    · have hG1 : 1 ≤ G := by
        have := hoi.2.2.1
        have h2 := Ow.val_lt l HLI.out.1
        rcases Nat.eq_zero_or_pos G with h | h
        · exfalso; rw [h] at this; have := hoi.2.1; omega
        · exact h
      clear hoi
      go_wp2_with fail
      have hadd := addTo_any g o L m cap _ wr (Lies.upd HU.out HLd.out) (by rw [HLl.out]; exact HCAP.out) hcap2 (HM.out.upd HU.out HV.out) (fun _ => HV.out) (by rw [HLl.out, HLEN.out]; omega)
      rw [HLl.out] at hadd
      refine hadd.mono ?_
      clear hadd
      rintro e w3 ⟨L', c, rfl, p1, p2, p3, p4, p5⟩
      have hst := HO.out.step HD.out (V' := Ow.val L') (c := c) (by rw [← HLl.out, ← p1]; exact Ow.val_lt L' p2) p3 (by rw [← HLl.out]; exact p4)
      have HST := Lib.hid hst.2
      have HP := Lib.hid (And.intro p1 (And.intro p2 (HU.out.trans p5 p1)))
      clear hst p1 p2 p4 p5
      have e1 : ((G : Int) - 1) % 4294967296 = ((G - 1 : Nat) : Int) := by omega
      have e2 : (!decide (0 < c)) = decide (0 < 1 - c) := by
        rcases (show c = 0 ∨ c = 1 by omega) with rfl | rfl <;> rfl
      go_wp2_with fail
      go_roundw
      case rel => exact ⟨G - 1, 1 - c, L', by go_num, by rw [← e2], by omega, by rw [HP.out.1, HLl.out], HP.out.2.1, HST.out, HP.out.2.2⟩
      case measure => simp [intOf]; omega
end Go.Proofs.YtgalgldnhdiggaaDoor
