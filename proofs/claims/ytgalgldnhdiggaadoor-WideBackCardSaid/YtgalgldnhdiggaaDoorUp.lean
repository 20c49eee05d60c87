/- up: a times a power of 2, with zeros at the top. -/
import Derived.Test.YtgalgldnhdiggaaDoorIntOf
namespace Ow
set_option linter.unusedVariables false
theorem or_low (c x F r : Nat) (hF : F = 2 ^ r) (hc : c < F) : c ||| x * F = c + x * F := by
  subst hF
  have := Nat.two_pow_add_eq_or_of_lt hc x
  rw [Nat.or_comm, Nat.mul_comm, ← this, Nat.add_comm]
/-- The low digit of a digit that was moved up, and what goes over. -/
theorem up_digit (c x F r : Nat) (hr : r < 32) (hF : F = 2 ^ r) (hc : c < F) (hx : x < 4294967296) :
    c ||| (x * F) % 4294967296 = (c + x * F) % 4294967296 ∧ (x * F) / 4294967296 = (c + x * F) / 4294967296 ∧ (c + x * F) / 4294967296 < F ∧ (x * F) % 4294967296 < 4294967296 := by
  obtain ⟨G, hG⟩ : ∃ G, F * G = 4294967296 := ⟨2 ^ (32 - r), by rw [hF, ← Nat.pow_add, show r + (32 - r) = 32 by omega]⟩
  have e := Nat.div_add_mod x G
  have hG0 : 0 < G := by rcases Nat.eq_zero_or_pos G with h | h; · rw [h] at hG; omega
                         · exact h
  have hm := Nat.mod_lt x hG0
  generalize x / G = a at *
  generalize x % G = b at *
  have k1 : x * F = 4294967296 * a + b * F := by rw [← e, Nat.add_mul, Nat.mul_comm (G * a), ← Nat.mul_assoc, hG]
  have k2 : (b + 1) * F ≤ G * F := Nat.mul_le_mul_right _ hm
  rw [Nat.mul_comm G, hG, Nat.add_mul, Nat.one_mul] at k2
  have m1 : (x * F) % 4294967296 = b * F := by omega
  have m2 : (x * F) / 4294967296 = a := by omega
  have m3 : (c + x * F) / 4294967296 = a := by omega
  have m4 : (c + x * F) % 4294967296 = c + b * F := by omega
  rw [m1, m2, m3, m4]
  refine ⟨or_low c b F r hF hc, rfl, ?_, by omega⟩
  have : G * a < G * F := by
    rw [Nat.mul_comm G F, hG]; omega
  exact Nat.lt_of_mul_lt_mul_left this
theorem val_shift (q : Nat) (l : List Nat) : val (List.replicate q 0 ++ l) = 4294967296 ^ q * val l := by
  induction q with
  | zero => simp
  | succ q ih =>
    rw [List.replicate_succ, List.cons_append]
    simp only [val]
    rw [ih, Nat.pow_succ, Nat.mul_comm (4294967296 ^ q) 4294967296, Nat.mul_assoc]; omega
theorem SclI.at_end {l : List Nat} {F A c k : Nat} {pre : List Nat} (h : SclI l F A k pre c) : (pre ++ [c])[k]?.getD 0 = c := by
  rw [List.getElem?_append_right (by rw [h.1]; exact Nat.le_refl _), h.1]; simp
theorem SclI.set_end {l : List Nat} {F A c k : Nat} {pre : List Nat} (h : SclI l F A k pre c) (d : Nat) : (pre ++ [c]).set k d = pre ++ [d] := by
  rw [List.set_append, if_neg (by rw [h.1]; omega), h.1]; simp
end Ow
namespace Go.Proofs.YtgalgldnhdiggaaDoor
open Go.RowKit
set_option linter.unusedVariables false

theorem Upd.setAt {W W' : World} {g o : Nat} {l : List Nat} (h : Upd g o l W W') {q : Nat} (hq : q < l.length) (d : Nat) : Upd g o (l.set q d) W (W'.setCell ⟨g, o + q, none⟩ (.int .u32 (d : Nat))) := by
  obtain ⟨h1, h2, h3, h4, h5, cur, cur', r1, r2, r3, r4, r5⟩ := h
  refine ⟨h1, h2, h3, by simpa using h4, fun k hk => ?_, cur, _, r1, r2.set _ _, by simpa using r3, by simpa using r4, fun j => ?_⟩
  · rw [Below.heap_setCell _ _ _ _ hk]; exact h5 k hk
  · rw [Array.getElem?_setIfInBounds]
    by_cases e : o + q = j
    · subst e
      rw [if_pos rfl, if_pos (by omega), if_pos (by simp; omega)]
      simp [hq]
    · rw [if_neg e, r5]
      by_cases e2 : o ≤ j ∧ j < o + l.length
      · rw [if_pos e2, if_pos (by simp; omega), List.getElem?_set, if_neg (by omega)]
      · rw [if_neg e2, if_neg (by simp; omega)]
/-- Digits above zeros. -/
theorem Upd.above {W W' : World} {g q : Nat} {l : List Nat} (h : Upd g q l W W') (hd : Ow.Dg l) (hz : Rw W g (zrow (q + l.length))) : Lies W' g 0 (List.replicate q 0 ++ l) := by
  refine ⟨fun x hx => ?_, ?_, fun i hi => ?_⟩
  · rcases List.mem_append.1 hx with h1 | h1
    · rw [List.mem_replicate] at h1; omega
    · exact hd x h1
  · obtain ⟨_, _, _, _, _, cur, cur', r1, r2, r3, r4, r5⟩ := h
    exact ⟨cur', r2, by simp; omega⟩
  · by_cases hi2 : i < q
    · rw [Nat.zero_add, h.cell_out (.inl hi2), hz.cell, zrow_at _ _ (by omega), List.getElem?_append_left (by simpa using hi2)]
      simp [hi2]
    · have := h.cell_in (j := i - q) (by simp at hi; omega)
      rw [show q + (i - q) = i by omega] at this
      rw [Nat.zero_add, this, List.getElem?_append_right (by simp; omega)]
      simp

/-- A new row of digits, with zeros at the top perhaps. -/
def RowPost (N n : Nat) (w : World) (e : Ending) (w' : World) : Prop := ∃ g L, e = .returned (.slice (some ⟨g, 0, none⟩) N N) ∧ L.length = N ∧ w.heap.size ≤ g ∧ Lies w' g 0 L ∧ Ow.val L = n ∧ Gr w w'

set_option maxRecDepth 100000 in
set_option maxHeartbeats 1000000 in
theorem up_any (l : List Nat) (v : Value) (s : Nat) (w : World) (hv : HasD w v l) (hl : l.length ≤ 100000) (hs : s ≤ 100000) :
    Calls Tryd.prog 58 #[v, .int .i64 s] w (RowPost (l.length + s / 32 + 1) (Ow.val l * 2 ^ s) w) := by
  obtain ⟨dv, b, cap, rfl, v1, v2, cv⟩ := hv
  obtain ⟨len, hlen⟩ : ∃ len, len = l.length := ⟨_, rfl⟩
  rw [← hlen] at v1 hl ⊢
  have HL := Lib.hid hlen
  have HDV := Lib.hid dv
  have HCV := Lib.hid cv
  obtain ⟨q, r, hsq, hr⟩ : ∃ q r, s = 32 * q + r ∧ r < 32 := ⟨s / 32, s % 32, by omega, by omega⟩
  rw [show s / 32 = q by omega]
  obtain ⟨F, hF⟩ : ∃ F, F = 2 ^ r := ⟨_, rfl⟩
  have hF0 : 1 ≤ F := by rw [hF]; exact Nat.two_pow_pos r
  have hFb : F ≤ 2147483648 := by
    rw [hF]; exact Nat.pow_le_pow_right (by omega) (by omega : r ≤ 31)
  have hpow : 2 ^ s = 4294967296 ^ q * F := by rw [hF, hsq, Nat.pow_add, Nat.pow_mul]
  have HPOW := Lib.hid hpow
  have HFE := Lib.hid hF
  have hFi : (2 : Int) ^ r = (F : Int) := by rw [hF, Int.natCast_pow]; rfl
  have q1 : (s : Int) / 32 = (q : Int) := by omega
  have q2 : (s : Int) % 32 = (r : Int) := by omega
  have hq : q ≤ 10000 := by omega
  have hmk := mk_row (len + q + 1) ((len : Int) + (q : Int) + 1) (by omega) (by omega)
  have HSQ := Lib.hid hsq
  clear hlen dv cv hsq hpow hF
  go_enter Tryd.func58, Tryd.ntmps58
  go_wp2_with fail
  clear hmk
  have hrow := Rw.new w (zrow (len + q + 1))
  have g1 : Gr w (w.alloc (.cells (zrow (len + q + 1)) 59)) := Gr.new _ _
  have hzs := zrow_size (len + q + 1)
  have hz : ∀ k, k ≤ len → (w.alloc (.cells (zrow (len + q + 1)) 59)).cell? ⟨w.heap.size, q + k, none⟩ = some (.int .u32 0) := fun k hk => by
    rw [hrow.cell, zrow_at _ _ (by omega)]
  obtain ⟨W, hW⟩ : ∃ W, W = w.alloc (.cells (zrow (len + q + 1)) 59) := ⟨_, rfl⟩
  rw [← hW] at hrow g1 hz ⊢
  clear hW
  have HROW := Lib.hid hrow
  have HZ := Lib.hid hz
  have HG := Lib.hid g1
  have HZS := Lib.hid hzs
  have h0 : Upd w.heap.size q [0] W W := by
    refine ⟨rfl, rfl, rfl, rfl, fun _ _ => rfl, _, _, HROW.out, HROW.out, rfl, by rw [HZS.out]; simp, fun j => ?_⟩
    by_cases hj : q ≤ j ∧ j < q + [0].length
    · rw [if_pos hj, zrow_at _ _ (by simp at hj; omega)]
      simp at hj
      rw [show j - q = 0 by omega]; rfl
    · rw [if_neg hj]
  have H0 := Lib.hid h0
  clear hrow hz g1 hzs h0
  go_loopw [18] (fun i wr => ∃ k c pre, i = .int .i64 (k : Nat) ∧ k ≤ len ∧ c < F ∧ Ow.SclI l F 0 k pre c ∧ Upd w.heap.size q (pre ++ [c]) W wr) (fun i _ => len - (intOf i).toNat)
  case atStart => exact ⟨0, 0, [], rfl, by omega, by omega, Ow.SclI.start l F 0 (by omega), H0.out⟩
  case round =>
    obtain ⟨k, c, pre, rfl, hk, hcF, hscl, hupd⟩ := hrel
    have HPL := Lib.hid hscl.1
    have HS := Lib.hid hscl
    have HU := Lib.hid hupd
    clear hscl hupd
    by_cases hlt : k < len
    · obtain ⟨gb, ob, rfl, c2⟩ := HCV.out k (by rw [← HL.out]; exact hlt)
      have hgb : gb < w.heap.size := World.block_lt_of_cell? w _ c2
      have c2 := HG.out.keeps c2
      have c2 : wr.cell? ⟨gb, ob + k, none⟩ = _ := (HU.out.cell_other (p := ⟨gb, ob + k, none⟩) (fun e => by simp only at e; omega)).trans c2
      have c1 := HU.out.cell_in (j := k) (by rw [List.length_append, HPL.out]; simp)
      rw [HS.out.at_end] at c1
      have f1 : wr.frozen? ⟨w.heap.size, q + k, none⟩ = false := HU.out.frozen _
      have c3 : wr.cell? ⟨w.heap.size, q + (k + 1), none⟩ = some (.int .u32 0) := (HU.out.cell_out (.inr (by rw [List.length_append, HPL.out]; simp))).trans (HZ.out (k + 1) hlt)
      have f3 : wr.frozen? ⟨w.heap.size, q + (k + 1), none⟩ = false := HU.out.frozen _
      rw [Nat.add_comm q] at c1 c3 f1 f3
      rw [show k + 1 + q = k + q + 1 by omega] at c3 f3
      have hx := Ow.dg_at HDV.out k
      obtain ⟨x, hxe⟩ : ∃ x, x = l[k]?.getD 0 := ⟨_, rfl⟩
      rw [← hxe] at c2 hx
      obtain ⟨d1, d2, d3, d4⟩ := Ow.up_digit c x F r hr HFE.out hcF hx
      have hmul : x * F ≤ 4294967295 * 2147483648 := Nat.mul_le_mul (by omega) hFb
      have HNX := Lib.hid (HS.out.step HDV.out (by omega) (s := c + x * F) (by rw [hxe]))
      rw [← d1, ← d2] at HNX
      rw [← d2] at d3
      have p0 : (0 : Int) ≤ (x : Int) * (F : Int) := by rw [← Int.natCast_mul]; omega
      have p1 : (x : Int) * (F : Int) ≤ 9223372034707292160 := by rw [← Int.natCast_mul]; omega
      have hor := (bits32 c (x * F % 4294967296) (by omega) d4).2
      rw [Int.natCast_emod, Int.natCast_mul] at hor
      have E2 := Lib.hid (show ((x * F / 4294967296 : Nat) : Int) = (x : Int) * (F : Int) / 4294967296 by rw [Int.natCast_ediv, Int.natCast_mul]; rfl)
      have HD3 := Lib.hid d3
      have HOR := Lib.hid hor
      clear hxe hmul d1 d2 d3 d4 hor
      go_wp2_with fail
      go_roundw
      case rel => exact ⟨k + 1, _, _, by go_num, by omega, HD3.out, HNX.out, by
        have h := (HU.out.setAt (q := k) (by rw [List.length_append, HPL.out]; simp) (c ||| x * F % 4294967296))
        rw [HS.out.set_end] at h
        have h2 := h.step (k := k + 1) (d := x * F / 4294967296) (by rw [List.length_append, HPL.out]; rfl) (HZ.out (k + 1) (by omega))
        rw [E2.out, show q + (k + 1) = k + q + 1 by omega, Nat.add_comm q, ← HOR.out] at h2
        exact h2⟩
      case measure => simp [intOf]; omega
    · obtain rfl : k = len := by omega
      have HA := Lib.hid (show (pre ++ [c]).length = l.length + 1 ∧ Ow.Dg (pre ++ [c]) ∧ Ow.val (pre ++ [c]) = Ow.val l * F + 0 from Ow.SclI.all (by rw [← HL.out]; exact HS.out))
      have hG := HU.out.gr HG.out (Nat.le_refl _)
      have hls := HU.out.above HA.out.2.1 (by rw [HA.out.1, ← HL.out, show q + (k + 1) = k + q + 1 by omega]; exact HROW.out)
      have HGG := Lib.hid hG
      have HLS := Lib.hid hls
      clear hG hls
      go_wp2_with fail
      go_ret
      exact ⟨_, _, rfl, by simp [HPL.out]; omega, Nat.le_refl _, HLS.out, by rw [Ow.val_shift, HA.out.2.2, HPOW.out, Nat.add_zero, Nat.mul_left_comm], HGG.out⟩
end Go.Proofs.YtgalgldnhdiggaaDoor
