/- up: a times a power of 2, with zeros at the top. -/
import Derived.Test.YtnehcafmebokmaaGreatDoorPGc
import Derived.Deep.RegionHeld3
namespace Ow
set_option linter.unusedVariables false
theorem or_low (c x F r : Nat) (hF : F = 2 ^ r) (hc : c < F) : c ||| x * F = c + x * F := by
  subst hF
  have := Nat.two_pow_add_eq_or_of_lt hc x
  rw [Nat.or_comm, Nat.mul_comm, ← this, Nat.add_comm]
/-- The low digit of a digit that was moved up, and what goes over. -/
theorem up_digit (c x F r : Nat) (hr : r < 32) (hF : F = 2 ^ r) (hc : c < F) (hx : x < 4294967296) :
    c ||| (x * F) % 4294967296 = (c + x * F) % 4294967296 ∧ (x * F) / 4294967296 = (c + x * F) / 4294967296 ∧ (c + x * F) / 4294967296 < F ∧ (x * F) % 4294967296 < 4294967296 := by
  obtain ⟨G, hG⟩ : ∃ G, F * G = 4294967296 := ⟨2 ^ (32 - r), by rw [hF, ← Nat.pow_add, show r + (32 - r) = 32 by omega]⟩
  have e := Nat.div_add_mod x G
  have hG0 : 0 < G := by rcases Nat.eq_zero_or_pos G with h | h; · rw [h] at hG; omega
                         · exact h
  have hm := Nat.mod_lt x hG0
  generalize x / G = a at *
  generalize x % G = b at *
  have k1 : x * F = 4294967296 * a + b * F := by rw [← e, Nat.add_mul, Nat.mul_comm (G * a), ← Nat.mul_assoc, hG]
  have k2 : (b + 1) * F ≤ G * F := Nat.mul_le_mul_right _ hm
  rw [Nat.mul_comm G, hG, Nat.add_mul, Nat.one_mul] at k2
  have m1 : (x * F) % 4294967296 = b * F := by omega
  have m2 : (x * F) / 4294967296 = a := by omega
  have m3 : (c + x * F) / 4294967296 = a := by omega
  have m4 : (c + x * F) % 4294967296 = c + b * F := by omega
  rw [m1, m2, m3, m4]
  refine ⟨or_low c b F r hF hc, rfl, ?_, by omega⟩
  have : G * a < G * F := by
    rw [Nat.mul_comm G F, hG]; omega
  exact Nat.lt_of_mul_lt_mul_left this
theorem val_shift (q : Nat) (l : List Nat) : val (List.replicate q 0 ++ l) = 4294967296 ^ q * val l := by
  induction q with
  | zero => simp
  | succ q ih =>
    rw [List.replicate_succ, List.cons_append]
    simp only [val]
    rw [ih, Nat.pow_succ, Nat.mul_comm (4294967296 ^ q) 4294967296, Nat.mul_assoc]; omega
theorem SclI.at_end {l : List Nat} {F A c k : Nat} {pre : List Nat} (h : SclI l F A k pre c) : (pre ++ [c])[k]?.getD 0 = c := by
  rw [List.getElem?_append_right (by rw [h.1]; exact Nat.le_refl _), h.1]; simp
theorem SclI.set_end {l : List Nat} {F A c k : Nat} {pre : List Nat} (h : SclI l F A k pre c) (d : Nat) : (pre ++ [c]).set k d = pre ++ [d] := by
  rw [List.set_append, if_neg (by rw [h.1]; omega), h.1]; simp
end Ow
namespace Go.Proofs.YtnehcafmebokmaaGreatDoor
open Go.RowKit
set_option linter.unusedVariables false

theorem Upd.setAt {W W' : World} {g o : Nat} {l : List Nat} (h : Upd g o l W W') {q : Nat} (hq : q < l.length) (d : Nat) : Upd g o (l.set q d) W (W'.setCell ⟨g, o + q, none⟩ (.int .u32 (d : Nat))) := by
  obtain ⟨h1, h2, h3, h4, h5, cur, cur', r1, r2, r3, r4, r5⟩ := h
  refine ⟨h1, h2, h3, by simpa using h4, fun k hk => ?_, cur, _, r1, r2.set _ _, by simpa using r3, by simpa using r4, fun j => ?_⟩
  · rw [Below.heap_setCell _ _ _ _ hk]; exact h5 k hk
  · rw [Array.getElem?_setIfInBounds]
    by_cases e : o + q = j
    · subst e
      rw [if_pos rfl, if_pos (by omega), if_pos (by simp; omega)]
      simp [hq]
    · rw [if_neg e, r5]
      by_cases e2 : o ≤ j ∧ j < o + l.length
      · rw [if_pos e2, if_pos (by simp; omega), List.getElem?_set, if_neg (by omega)]
      · rw [if_neg e2, if_neg (by simp; omega)]
/-- Digits above zeros. -/
theorem Upd.above {W W' : World} {g q : Nat} {l : List Nat} (h : Upd g q l W W') (hd : Ow.Dg l) (hz : Rw W g (zrow (q + l.length))) : Lies W' g 0 (List.replicate q 0 ++ l) := by
  refine ⟨fun x hx => ?_, ?_, fun i hi => ?_⟩
  · rcases List.mem_append.1 hx with h1 | h1
    · rw [List.mem_replicate] at h1; omega
    · exact hd x h1
  · obtain ⟨_, _, _, _, _, cur, cur', r1, r2, r3, r4, r5⟩ := h
    exact ⟨cur', r2, by simp; omega⟩
  · by_cases hi2 : i < q
    · rw [Nat.zero_add, h.cell_out (.inl hi2), hz.cell, zrow_at _ _ (by omega), List.getElem?_append_left (by simpa using hi2)]
      simp [hi2]
    · have := h.cell_in (j := i - q) (by simp at hi; omega)
      rw [show q + (i - q) = i by omega] at this
      rw [Nat.zero_add, this, List.getElem?_append_right (by simp; omega)]
      simp

/-- A new row of digits, with zeros at the top perhaps. -/
def RowPost (N n : Nat) (w : World) (e : Ending) (w' : World) : Prop := ∃ g L, e = .returned (.slice (some ⟨g, 0, none⟩) N N) ∧ L.length = N ∧ w.heap.size ≤ g ∧ Lies w' g 0 L ∧ Ow.val L = n ∧ Gr w w'

set_option maxRecDepth 100000 in
set_option maxHeartbeats 1000000 in
theorem up_any (l : List Nat) (v : Value) (s : Nat) (w : World) (hv : HasD w v l) (hl : l.length ≤ 100000) (hs : s ≤ 100000) :
    Calls Tryz.prog 44 #[v, .int .i64 s] w (RowPost (l.length + s / 32 + 1) (Ow.val l * 2 ^ s) w) := by
  obtain ⟨dv, b, cap, rfl, v1, v2, cv⟩ := hv
  obtain ⟨len, hlen⟩ : ∃ len, len = l.length := ⟨_, rfl⟩
  rw [← hlen] at v1 hl ⊢
  have HL := Lib.hid hlen
  have HDV := Lib.hid dv
  have HCV := Lib.hid cv
  obtain ⟨q, r, hsq, hr⟩ : ∃ q r, s = 32 * q + r ∧ r < 32 := ⟨s / 32, s % 32, by omega, by omega⟩
  rw [show s / 32 = q by omega]
  obtain ⟨F, hF⟩ : ∃ F, F = 2 ^ r := ⟨_, rfl⟩
  have hF0 : 1 ≤ F := by rw [hF]; exact Nat.two_pow_pos r
  have hFb : F ≤ 2147483648 := by
    rw [hF]; exact Nat.pow_le_pow_right (by omega) (by omega : r ≤ 31)
  have hpow : 2 ^ s = 4294967296 ^ q * F := by rw [hF, hsq, Nat.pow_add, Nat.pow_mul]
  have HPOW := Lib.hid hpow
  have HFE := Lib.hid hF
  have hFi : (2 : Int) ^ r = (F : Int) := by rw [hF, Int.natCast_pow]; rfl
  have q1 : (s : Int) / 32 = (q : Int) := by omega
  have q2 : (s : Int) % 32 = (r : Int) := by omega
  have hq : q ≤ 10000 := by omega
  have hmk := mk_row (len + q + 1) ((len : Int) + (q : Int) + 1) (by omega) (by omega)
  have HSQ := Lib.hid hsq
  clear hlen dv cv hsq hpow hF
  go_enter Tryz.func44, Tryz.ntmps44
  go_wp2_with fail
  clear hmk
  have hrow := Rw.new w (zrow (len + q + 1))
  have g1 : Gr w (w.alloc (.cells (zrow (len + q + 1)) 24)) := Gr.new _ _
  have hzs := zrow_size (len + q + 1)
  have hz : ∀ k, k ≤ len → (w.alloc (.cells (zrow (len + q + 1)) 24)).cell? ⟨w.heap.size, q + k, none⟩ = some (.int .u32 0) := fun k hk => by
    rw [hrow.cell, zrow_at _ _ (by omega)]
  obtain ⟨W, hW⟩ : ∃ W, W = w.alloc (.cells (zrow (len + q + 1)) 24) := ⟨_, rfl⟩
  rw [← hW] at hrow g1 hz ⊢
  clear hW
  have HROW := Lib.hid hrow
  have HZ := Lib.hid hz
  have HG := Lib.hid g1
  have HZS := Lib.hid hzs
  have h0 : Upd w.heap.size q [0] W W := by
    refine ⟨rfl, rfl, rfl, rfl, fun _ _ => rfl, _, _, HROW.out, HROW.out, rfl, by rw [HZS.out]; simp, fun j => ?_⟩
    by_cases hj : q ≤ j ∧ j < q + [0].length
    · rw [if_pos hj, zrow_at _ _ (by simp at hj; omega)]
      simp at hj
      rw [show j - q = 0 by omega]; rfl
    · rw [if_neg hj]
  have H0 := Lib.hid h0
  clear hrow hz g1 hzs h0
  go_loopw [18] (fun i wr => ∃ k c pre, i = .int .i64 (k : Nat) ∧ k ≤ len ∧ c < F ∧ Ow.SclI l F 0 k pre c ∧ Upd w.heap.size q (pre ++ [c]) W wr) (fun i _ => len - (intOf i).toNat)
  case atStart => exact ⟨0, 0, [], rfl, by omega, by omega, Ow.SclI.start l F 0 (by omega), H0.out⟩
  case round =>
    obtain ⟨k, c, pre, rfl, hk, hcF, hscl, hupd⟩ := hrel
    have HPL := Lib.hid hscl.1
    have HS := Lib.hid hscl
    have HU := Lib.hid hupd
    clear hscl hupd
    by_cases hlt : k < len
    · obtain ⟨gb, ob, rfl, c2⟩ := HCV.out k (by rw [← HL.out]; exact hlt)
      have hgb : gb < w.heap.size := World.block_lt_of_cell? w _ c2
      have c2 := HG.out.keeps c2
      have c2 : wr.cell? ⟨gb, ob + k, none⟩ = _ := (HU.out.cell_other (p := ⟨gb, ob + k, none⟩) (fun e => by simp only at e; omega)).trans c2
      have c1 := HU.out.cell_in (j := k) (by rw [List.length_append, HPL.out]; simp)
      rw [HS.out.at_end] at c1
      have f1 : wr.frozen? ⟨w.heap.size, q + k, none⟩ = false := HU.out.frozen _
      have c3 : wr.cell? ⟨w.heap.size, q + (k + 1), none⟩ = some (.int .u32 0) := (HU.out.cell_out (.inr (by rw [List.length_append, HPL.out]; simp))).trans (HZ.out (k + 1) hlt)
      have f3 : wr.frozen? ⟨w.heap.size, q + (k + 1), none⟩ = false := HU.out.frozen _
      rw [Nat.add_comm q] at c1 c3 f1 f3
      rw [show k + 1 + q = k + q + 1 by omega] at c3 f3
      have hx := Ow.dg_at HDV.out k
      obtain ⟨x, hxe⟩ : ∃ x, x = l[k]?.getD 0 := ⟨_, rfl⟩
      rw [← hxe] at c2 hx
      obtain ⟨d1, d2, d3, d4⟩ := Ow.up_digit c x F r hr HFE.out hcF hx
      have hmul : x * F ≤ 4294967295 * 2147483648 := Nat.mul_le_mul (by omega) hFb
      have HNX := Lib.hid (HS.out.step HDV.out (by omega) (s := c + x * F) (by rw [hxe]))
      rw [← d1, ← d2] at HNX
      rw [← d2] at d3
      have p0 : (0 : Int) ≤ (x : Int) * (F : Int) := by rw [← Int.natCast_mul]; omega
      have p1 : (x : Int) * (F : Int) ≤ 9223372034707292160 := by rw [← Int.natCast_mul]; omega
      have hor := (bits32 c (x * F % 4294967296) (by omega) d4).2
      rw [Int.natCast_emod, Int.natCast_mul] at hor
      have E2 := Lib.hid (show ((x * F / 4294967296 : Nat) : Int) = (x : Int) * (F : Int) / 4294967296 by rw [Int.natCast_ediv, Int.natCast_mul]; rfl)
      have HD3 := Lib.hid d3
      have HOR := Lib.hid hor
      clear hxe hmul d1 d2 d3 d4 hor
      go_wp2_with fail
      go_roundw
      case rel => exact ⟨k + 1, _, _, by go_num, by omega, HD3.out, HNX.out, by
        have h := (HU.out.setAt (q := k) (by rw [List.length_append, HPL.out]; simp) (c ||| x * F % 4294967296))
        rw [HS.out.set_end] at h
        have h2 := h.step (k := k + 1) (d := x * F / 4294967296) (by rw [List.length_append, HPL.out]; rfl) (HZ.out (k + 1) (by omega))
        rw [E2.out, show q + (k + 1) = k + q + 1 by omega, Nat.add_comm q, ← HOR.out] at h2
        exact h2⟩
      case measure => simp [intOf]; omega
    · obtain rfl : k = len := by omega
      have HA := Lib.hid (show (pre ++ [c]).length = l.length + 1 ∧ Ow.Dg (pre ++ [c]) ∧ Ow.val (pre ++ [c]) = Ow.val l * F + 0 from Ow.SclI.all (by rw [← HL.out]; exact HS.out))
      have hG := HU.out.gr HG.out (Nat.le_refl _)
      have hls := HU.out.above HA.out.2.1 (by rw [HA.out.1, ← HL.out, show q + (k + 1) = k + q + 1 by omega]; exact HROW.out)
      have HGG := Lib.hid hG
      have HLS := Lib.hid hls
      clear hG hls
      go_wp2_with fail
      go_ret
      exact ⟨_, _, rfl, by simp [HPL.out]; omega, Nat.le_refl _, HLS.out, by rw [Ow.val_shift, HA.out.2.2, HPOW.out, Nat.add_zero, Nat.mul_left_comm], HGG.out⟩
end Go.Proofs.YtnehcafmebokmaaGreatDoor

/- down: a quotient by a power of 2. -/
namespace Ow
set_option linter.unusedVariables false
theorem or_above (x y : Nat) (hx : x < 4294967296) (hy : y < 4294967296) : x ||| y * 4294967296 = x + y * 4294967296 := by
  have := Nat.two_pow_add_eq_or_of_lt (i := 32) (show x < 2 ^ 32 by omega) y
  rw [Nat.or_comm, Nat.mul_comm, Nat.add_comm]
  exact this.symm
/-- A digit of the quotient, out of two digits. -/
theorem down_digit (l : List Nat) (F r k : Nat) (hr : r < 32) (hF : F = 2 ^ r) (hk : k < l.length) (hl : Dg l) :
    (digs l.length (val l / F))[k]?.getD 0 = (l[k]?.getD 0 + l[k + 1]?.getD 0 * 4294967296) / F % 4294967296 := by
  obtain ⟨G, hG⟩ : ∃ G, F * G = 4294967296 := ⟨2 ^ (32 - r), by rw [hF, ← Nat.pow_add, show r + (32 - r) = 32 by omega]⟩
  have hF0 : 0 < F := by rw [hF]; exact Nat.two_pow_pos r
  rw [digs_at _ _ _ hk, Nat.div_div_eq_div_mul, Nat.mul_comm F, ← Nat.div_div_eq_div_mul]
  have h1 := val_split k l (by omega)
  have h2 := val_lt _ (dg_take hl k)
  rw [List.length_take, Nat.min_eq_left (by omega)] at h2
  have h3 : val l / 4294967296 ^ k = val (l.drop k) := by
    rw [h1, Nat.add_comm, Nat.mul_add_div (Nat.pow_pos (by omega)), Nat.div_eq_of_lt h2, Nat.add_zero]
  rw [h3, drop_at hk]
  obtain ⟨R, hR⟩ : ∃ R, val (l.drop (k + 1)) = l[k + 1]?.getD 0 + 4294967296 * R := by
    by_cases h : k + 1 < l.length
    · exact ⟨_, drop_at h⟩
    · refine ⟨0, ?_⟩
      rw [List.drop_of_length_le (by omega), List.getElem?_eq_none (by omega)]; rfl
  rw [hR]
  generalize l[k]?.getD 0 = x
  generalize l[k + 1]?.getD 0 = y
  have e : x + 4294967296 * (y + 4294967296 * R) = F * (4294967296 * (G * R)) + (x + y * 4294967296) := by
    have : F * (4294967296 * (G * R)) = 4294967296 * (4294967296 * R) := by
      rw [Nat.mul_left_comm, ← Nat.mul_assoc F, hG]
    rw [this]; omega
  rw [e, Nat.mul_add_div hF0, Nat.mul_add_mod]
theorem take_snoc {l : List Nat} {k : Nat} (h : k < l.length) : l.take (k + 1) = l.take k ++ [l[k]?.getD 0] := by
  rw [List.take_succ_eq_append_getElem h, List.getElem?_eq_getElem h]; rfl
end Ow
namespace Go.Proofs.YtnehcafmebokmaaGreatDoor
open Go.RowKit
set_option linter.unusedVariables false

theorem or_digit2 (x y : Nat) (hx : x < 4294967296) (hy : y < 4294967296) : bits .or .u64 (x : Int) ((y : Int) * 4294967296) = ((x + y * 4294967296 : Nat) : Int) := by
  have h := bits_or_u64_nat x (y * 4294967296) (by omega) (by omega)
  rw [show ((y : Int) * 4294967296) = ((y * 4294967296 : Nat) : Int) by omega, h, Ow.or_above x y hx hy]

set_option maxRecDepth 100000 in
set_option maxHeartbeats 1000000 in
theorem down_any (l : List Nat) (v : Value) (s : Nat) (w : World) (hv : HasD w v l) (hl : l.length ≤ 100000) (hs : s ≤ 100000) :
    Calls Tryz.prog 67 #[v, .int .i64 s] w (DigPost (Ow.val l / 2 ^ s) w) := by
  obtain ⟨dv, b, cap, rfl, v1, v2, cv⟩ := hv
  obtain ⟨q, r, hsq, hr⟩ : ∃ q r, s = 32 * q + r ∧ r < 32 := ⟨s / 32, s % 32, by omega, by omega⟩
  have q1 : (s : Int) / 32 = (q : Int) := by omega
  have q2 : (s : Int) % 32 = (r : Int) := by omega
  obtain ⟨F, hF⟩ : ∃ F, F = 2 ^ r := ⟨_, rfl⟩
  have hF0 : 1 ≤ F := by rw [hF]; exact Nat.two_pow_pos r
  have hFb : F ≤ 2147483648 := by rw [hF]; exact Nat.pow_le_pow_right (by omega) (by omega : r ≤ 31)
  have hpow : 2 ^ s = 4294967296 ^ q * F := by rw [hF, hsq, Nat.pow_add, Nat.pow_mul]
  have hFi : (2 : Int) ^ r = (F : Int) := by rw [hF, Int.natCast_pow]; rfl
  by_cases hlen0 : l.length ≤ q
  · have hz : Ow.val l / 2 ^ s = 0 := by
      rw [Nat.div_eq_of_lt]
      have h1 := Ow.val_lt l dv
      have h2 : 4294967296 ^ l.length ≤ 4294967296 ^ q := Nat.pow_le_pow_right (by omega) hlen0
      have h3 : 4294967296 ^ q * 1 ≤ 4294967296 ^ q * F := Nat.mul_le_mul_left _ hF0
      rw [hpow]; omega
    have HZ := Lib.hid hz
    obtain ⟨len, hlen⟩ : ∃ len, len = l.length := ⟨_, rfl⟩
    rw [← hlen] at v1 hl hlen0 ⊢
    have t0 : decide ((len : Int) ≤ (q : Int)) = true := by simp; omega
    clear hz hpow hFi hF cv dv hlen hsq
    go_enter Tryz.func67, Tryz.ntmps67
    go_wp2_with fail
    go_ret
    exact ⟨_, [], rfl, HasD.nil _, ⟨Ow.dg_nil, rfl⟩, HZ.out.symm, Gr.refl _⟩
  · obtain ⟨n, hn⟩ : ∃ n, l.length = q + n := ⟨l.length - q, by omega⟩
    obtain ⟨cp, hcp⟩ : ∃ cp, cap = q + cp := ⟨cap - q, by omega⟩
    obtain ⟨m, hm⟩ : ∃ m, m = l.drop q := ⟨_, rfl⟩
    have hmlen : m.length = n := by rw [hm, List.length_drop]; omega
    have hmd : Ow.Dg m := by rw [hm]; exact fun x hx => dv x (List.mem_of_mem_drop hx)
    have hmat : ∀ k, m[k]?.getD 0 = l[q + k]?.getD 0 := fun k => by rw [hm, List.getElem?_drop]
    have hval : Ow.val l / 2 ^ s = Ow.val m / F := by
      have h1 := Ow.val_split q l (by omega)
      have h2 := Ow.val_lt _ (Ow.dg_take dv q)
      rw [List.length_take, Nat.min_eq_left (by omega)] at h2
      rw [hpow, ← Nat.div_div_eq_div_mul, h1, Nat.add_comm, Nat.mul_add_div (Nat.pow_pos (by omega)), Nat.div_eq_of_lt h2, Nat.add_zero, hm]
    have hn0 : 0 < n := by omega
    obtain ⟨gb, ob, rfl, -⟩ := cv 0 (by omega)
    have hcv : ∀ k, k < n → w.cell? ⟨gb, ob + q + k, none⟩ = some (.int .u32 ((m[k]?.getD 0 : Nat) : Int)) := fun k hk => by
      obtain ⟨g', o', e, hc⟩ := cv (q + k) (by omega)
      cases e
      rw [hmat, Nat.add_assoc]; exact hc
    rw [hn] at v1 hl hlen0 ⊢
    subst hcp
    rw [hval]
    have HCV := Lib.hid hcv
    have HMD := Lib.hid hmd
    have HML := Lib.hid hmlen
    have HFE := Lib.hid hF
    have t0 : decide (((q + n : Nat) : Int) ≤ (q : Int)) = false := by simp; omega
    have t1 : decide ((q : Int) + (n : Int) ≤ (q : Int)) = false := by simp; omega
    have hmk := mk_row n (n : Int) rfl (by omega)
    clear hval hpow hF cv dv hn hm hmlen hmd hmat hcv hlen0 hsq
    go_enter Tryz.func67, Tryz.ntmps67
    go_wp2_with fail
    clear hmk
    have hrow := Rw.new w (zrow n)
    have g1 : Gr w (w.alloc (.cells (zrow n) 24)) := Gr.new _ _
    have hzs := zrow_size n
    have hz : ∀ k, k < n → (w.alloc (.cells (zrow n) 24)).cell? ⟨w.heap.size, 0 + k, none⟩ = some (.int .u32 0) := fun k hk => by
      rw [Nat.zero_add, hrow.cell, zrow_at _ _ hk]
    obtain ⟨W, hW⟩ : ∃ W, W = w.alloc (.cells (zrow n) 24) := ⟨_, rfl⟩
    rw [← hW] at hrow g1 hz ⊢
    clear hW
    have HROW := Lib.hid hrow
    have HZ := Lib.hid hz
    have HG := Lib.hid g1
    have HZS := Lib.hid hzs
    clear hrow hz g1 hzs t0 t1 q1
    obtain ⟨D, hD⟩ : ∃ D, D = Ow.digs n (Ow.val m / F) := ⟨_, rfl⟩
    have hDl : D.length = n := by rw [hD, Ow.digs_len]
    have hDat : ∀ k, k < n → D[k]?.getD 0 = (m[k]?.getD 0 + m[k + 1]?.getD 0 * 4294967296) / F % 4294967296 := fun k hk => by
      have := Ow.down_digit m F r k hr HFE.out (by rw [HML.out]; exact hk) HMD.out
      rw [HML.out] at this
      rw [hD, this]
    have HDA := Lib.hid hDat
    have HDL := Lib.hid hDl
    have HDE := Lib.hid hD
    clear hDat hDl hD
    go_loopw [23] (fun i wr => ∃ k, i = .int .i64 (k : Nat) ∧ k ≤ n ∧ Upd w.heap.size 0 (D.take k) W wr) (fun i _ => n - (intOf i).toNat)
    case atStart => exact ⟨0, rfl, by omega, Upd.start HROW.out (by omega)⟩
    case round =>
      obtain ⟨k, rfl, hk, hupd⟩ := hrel
      have HU := Lib.hid hupd
      have HPL := Lib.hid (show (D.take k).length = k by rw [List.length_take, HDL.out]; omega)
      clear hupd
      by_cases hlt : k < n
      · have c2 := HCV.out k hlt
        have hgb : gb < w.heap.size := World.block_lt_of_cell? w _ c2
        have c2 := HG.out.keeps c2
        have c2 : wr.cell? ⟨gb, ob + q + k, none⟩ = _ := (HU.out.cell_other (p := ⟨gb, ob + q + k, none⟩) (fun e => by simp only at e; omega)).trans c2
        have HC1 := Lib.hid (HZ.out k hlt)
        have c1 : wr.cell? ⟨w.heap.size, 0 + k, none⟩ = some (.int .u32 0) := (HU.out.cell_out (.inr (by rw [HPL.out]; omega))).trans (HZ.out k hlt)
        rw [Nat.zero_add] at c1
        have f1 : wr.frozen? ⟨w.heap.size, k, none⟩ = false := HU.out.frozen _
        have hx := Ow.dg_at HMD.out k
        have hy := Ow.dg_at HMD.out (k + 1)
        have hd := HDA.out k hlt
        have HST := Lib.hid (Ow.take_snoc (l := D) (k := k) (by rw [HDL.out]; exact hlt))
        by_cases hlast : k + 1 < n
        · have c3 := HCV.out (k + 1) hlast
          have c3 := HG.out.keeps c3
          have c3 : wr.cell? ⟨gb, ob + q + (k + 1), none⟩ = _ := (HU.out.cell_other (p := ⟨gb, ob + q + (k + 1), none⟩) (fun e => by simp only at e; omega)).trans c3
          obtain ⟨x, hxe⟩ : ∃ x, x = m[k]?.getD 0 := ⟨_, rfl⟩
          obtain ⟨y, hye⟩ : ∃ y, y = m[k + 1]?.getD 0 := ⟨_, rfl⟩
          rw [← hxe] at c2 hx hd
          rw [← hye] at c3 hy hd
          clear hxe hye
          have t1 : decide ((k : Int) + 1 < (n : Int)) = true := by simp; omega
          have hor := or_digit2 x y hx hy
          obtain ⟨p, hp⟩ : ∃ p, p = x + y * 4294967296 := ⟨_, rfl⟩
          rw [← hp] at hor hd
          have hpb : p ≤ 18446744073709551615 := by omega
          have E1 := Lib.hid (show ((D[k]?.getD 0 : Nat) : Int) = (p : Int) / (F : Int) % 4294967296 by rw [hd, Int.natCast_emod, Int.natCast_ediv]; rfl)
          clear hp hd
          have i5 : (k : Int) < (n : Int) := by omega
          have i6 : (0 : Int) ≤ (k : Int) := by omega
          go_wp2_with fail
          go_roundw
          case rel => exact ⟨k + 1, by go_num, by omega, by rw [HST.out]; have h := HU.out.step (d := D[k]?.getD 0) HPL.out HC1.out; rw [Nat.zero_add, E1.out] at h; exact h⟩
          case measure => simp [intOf]; omega
        · obtain ⟨x, hxe⟩ : ∃ x, x = m[k]?.getD 0 := ⟨_, rfl⟩
          have hy0 : m[k + 1]?.getD 0 = 0 := by rw [List.getElem?_eq_none (by rw [HML.out]; omega)]; rfl
          rw [← hxe] at c2 hx hd
          rw [hy0, Nat.zero_mul, Nat.add_zero] at hd
          clear hxe hy0 hy
          have t1 : decide ((k : Int) + 1 < (n : Int)) = false := by simp; omega
          have E1 := Lib.hid (show ((D[k]?.getD 0 : Nat) : Int) = (x : Int) / (F : Int) % 4294967296 by rw [hd, Int.natCast_emod, Int.natCast_ediv]; rfl)
          clear hd
          have i5 : (k : Int) < (n : Int) := by omega
          have i6 : (0 : Int) ≤ (k : Int) := by omega
          go_wp2_with fail
          go_roundw
          case rel => exact ⟨k + 1, by go_num, by omega, by rw [HST.out]; have h := HU.out.step (d := D[k]?.getD 0) HPL.out HC1.out; rw [Nat.zero_add, E1.out] at h; exact h⟩
          case measure => simp [intOf]; omega
      · obtain rfl : k = n := by omega
        have hu := HU.out
        rw [List.take_of_length_le (by rw [HDL.out]; exact Nat.le_refl _)] at hu
        have hDd : Ow.Dg D := by rw [HDE.out]; exact Ow.digs_dg _ _
        have hd := hu.hasD (w := w) (cap := k) hDd (by rw [HDL.out]; exact Nat.le_refl _) (by omega)
        rw [HDL.out] at hd
        have HD := Lib.hid hd
        have HGG := Lib.hid (hu.gr HG.out (Nat.le_refl _))
        have HDD := Lib.hid hDd
        have HDV := Lib.hid (show Ow.val D = Ow.val m / F by
          rw [HDE.out]
          exact Ow.digs_val _ _ (by
            have := Ow.val_lt m HMD.out
            rw [HML.out] at this
            exact Nat.lt_of_le_of_lt (Nat.div_le_self _ _) this))
        clear hd hu hDd
        go_wp2_with fail
        refine (trim_any D _ _ HD.out).mono ?_
        rintro e w4 ⟨⟨v3, rfl, hcut⟩, rfl⟩
        have HCUT := Lib.hid hcut
        clear hcut
        go_wp2_with fail
        go_ret
        exact ⟨_, Ow.tr D, rfl, HCUT.out _ HD.out, Ow.nm_tr HDD.out, by rw [Ow.val_tr]; exact HDV.out, HGG.out⟩
end Go.Proofs.YtnehcafmebokmaaGreatDoor

/- Integers: what stands for one; negative. -/
namespace Ow
set_option linter.unusedVariables false
theorem tr_pos {l : List Nat} (h : Dg l) : 0 < (tr l).length ↔ 0 < val l := by
  constructor
  · intro h1
    have := val_ge (tr l) (tr_tr l) (by intro e; rw [e] at h1; simp at h1)
    rw [val_tr] at this
    exact Nat.lt_of_lt_of_le (Nat.pow_pos (by omega)) this
  · intro h1
    rcases Nat.eq_zero_or_pos (tr l).length with h2 | h2
    · have := List.length_eq_zero_iff.1 h2
      rw [← val_tr, this] at h1; simp [val] at h1
    · exact h2
theorem nm_len {l : List Nat} (h : Nm l) {N : Nat} (hv : val l < 4294967296 ^ N) : l.length ≤ N := by
  rcases Nat.eq_zero_or_pos l.length with h0 | h0
  · omega
  · have := val_ge l h.2 (by intro e; rw [e] at h0; simp at h0)
    have := (Nat.pow_lt_pow_iff_right (by omega : 1 < 4294967296)).1 (Nat.lt_of_le_of_lt this hv)
    omega
end Ow
namespace Go.Proofs.YtnehcafmebokmaaGreatDoor
open Go.RowKit
set_option linter.unusedVariables false

/-- A value stands for an integer of at most N digits. -/
def HasI (N : Nat) (W : World) (v : Value) (z : Int) : Prop := ∃ s l, v = .agg #[.bool (decide (z < 0)), s] ∧ HasD W s l ∧ Ow.Nm l ∧ Ow.val l = z.natAbs ∧ l.length ≤ N
theorem HasI.later {N : Nat} {W W' : World} {v : Value} {z : Int} (h : HasI N W v z) (hg : Gr W W') : HasI N W' v z := by
  obtain ⟨s, l, h1, h2, h3⟩ := h
  exact ⟨s, l, h1, h2.later hg, h3⟩
theorem HasI.wider {N M : Nat} {W : World} {v : Value} {z : Int} (h : HasI N W v z) (hm : N ≤ M) : HasI M W v z := by
  obtain ⟨s, l, h1, h2, h3, h4, h5⟩ := h
  exact ⟨s, l, h1, h2, h3, h4, by omega⟩
def IntZ (N : Nat) (z : Int) (w : World) (e : Ending) (w' : World) : Prop := ∃ v, e = .returned v ∧ HasI N w' v z ∧ Gr w w'
theorem Gr.frozen {a b : World} (h : Gr a b) {p : Addr} {v : Value} (hv : a.cell? p = some v) (hf : a.frozen? p = false) : b.frozen? p = false :=
  (World.frozen?_of_block (w := a) (h.block p.block (World.block_lt_of_cell? a p hv))).trans hf
theorem HasD.setAt {W : World} {v : Value} {l : List Nat} {p : Addr} {u0 : Value} (h : HasD W v l) (hc : W.cell? p = some u0) (hu : ∀ n, u0 ≠ .int .u32 n) (u : Value) : HasD (W.setCell p u) v l := by
  obtain ⟨hd, a, cap, rfl, h1, h2, h3⟩ := h
  refine ⟨hd, a, cap, rfl, h1, h2, fun i hi => ?_⟩
  obtain ⟨b, o, e, hc2⟩ := h3 i hi
  refine ⟨b, o, e, ?_⟩
  rw [World.cell?_setCell_other W p ⟨b, o + i, none⟩ u (fun e => by rw [e, hc2] at hc; exact hu _ (Option.some.inj hc).symm)]
  exact hc2
/-- An integer is stored as a call's answer. -/
theorem intz_stored {N : Nat} {z z' : Int} {w w' : World} {B : Nat} {neg : Bool} {s u0 u1 : Value} {l : List Nat} (hz : z' = z) (hneg : neg = decide (z' < 0)) (hs : HasD w' s l) (hn : Ow.Nm l) (hv : Ow.val l = z'.natAbs) (hl : l.length ≤ N) (hG : Gr w w') (hB : w.heap.size ≤ B)
    (j0 : w'.cell? ⟨B, 0, none⟩ = some u0) (j1 : w'.cell? ⟨B, 1, none⟩ = some u1) (h0 : ∀ n, u0 ≠ .int .u32 n) (h1 : ∀ n, u1 ≠ .int .u32 n) :
    IntZ N z w (.returned (.agg #[.bool neg, s])) ((w'.setCell ⟨B, 0, none⟩ (.bool neg)).setCell ⟨B, 1, none⟩ s) := by
  subst hz hneg
  refine ⟨_, rfl, ⟨s, l, rfl, ?_, hn, hv, hl⟩, (hG.setCell (p := ⟨B, 0, none⟩) hB _).setCell (p := ⟨B, 1, none⟩) hB _⟩
  exact (hs.setAt j0 h0 _).setAt ((World.cell?_setCell_other w' ⟨B, 0, none⟩ ⟨B, 1, none⟩ _ (by simp)).trans j1) h1 _
/-- What a sign and digits stand for. -/
def sg (neg : Bool) (n : Nat) : Int := if neg then -(n : Int) else n
theorem sg_neg (neg : Bool) (n : Nat) : decide (sg neg n < 0) = (neg && decide (0 < n)) := by
  unfold sg; cases neg
  · simp
  · simp [Int.natCast_pos]
theorem sg_abs (neg : Bool) (n : Nat) : (sg neg n).natAbs = n := by unfold sg; cases neg <;> simp
theorem sg_self (z : Int) : sg (decide (z < 0)) z.natAbs = z := by
  unfold sg
  by_cases h : z < 0
  · simp [h]; try omega
  · simp [h]; try omega
theorem sg_not (z : Int) : sg (!decide (z < 0)) z.natAbs = -z := by
  unfold sg
  by_cases h : z < 0
  · simp [h]; omega
  · simp [h]; omega

theorem signs1_int (neg : Bool) (l : List Nat) (v : Value) (B N : Nat) (w : World) (h : HasD w v l) (hB : w.cell? ⟨B, 0, none⟩ = some (.bool neg)) (hN : (Ow.tr l).length ≤ N) :
    Calls Tryz.prog 62 #[v, .pointer (some ⟨B, 0, none⟩)] w (IntZ N (sg neg (Ow.val l)) w) := by
  refine (signs1_any neg l v B w h hB).mono ?_
  rintro e w' ⟨s, rfl, h1, h2⟩
  refine ⟨_, rfl, ⟨s, Ow.tr l, ?_, h1, Ow.nm_tr h.1, by rw [Ow.val_tr, sg_abs], hN⟩, h2⟩
  have hp := Ow.tr_pos h.1
  rw [sg_neg, show decide (0 < (Ow.tr l).length) = decide (0 < Ow.val l) from by simp [hp]]

set_option maxRecDepth 100000 in
set_option maxHeartbeats 1000000 in
theorem negative_any (N : Nat) (z : Int) (v : Value) (w : World) (h : HasI N w v z) :
    Calls Tryz.prog 55 #[v] w (IntZ N (-z) w) := by
  obtain ⟨s, l, rfl, hd, hn, hval, hN⟩ := h
  have HD := Lib.hid hd
  have HN := Lib.hid hn
  have HV := Lib.hid hval
  have HNN := Lib.hid (show (Ow.tr l).length ≤ N by rw [hn.2]; exact hN)
  clear hd hn hval hN
  obtain ⟨neg, hneg⟩ : ∃ neg, neg = decide (z < 0) := ⟨_, rfl⟩
  rw [← hneg]
  have HNEG := Lib.hid hneg
  clear hneg
  go_enter Tryz.func55, Tryz.ntmps55
  go_wp2_with fail
  obtain ⟨W, hW⟩ : ∃ W, W = (w.alloc (.cells #[.bool neg, s] 44)).alloc (.cells #[.bool false, .slice none 0 0] 44) := ⟨_, rfl⟩
  rw [← hW]
  have g1 : Gr w W := by rw [hW]; exact (Gr.new w _).alloc _
  have c0 : W.cell? ⟨w.heap.size, 0, none⟩ = some (.bool neg) := by rw [hW]; simp [go_sem]
  have c1 : W.cell? ⟨w.heap.size, 1, none⟩ = some s := by rw [hW]; simp [go_sem]
  have r0 : W.cell? ⟨w.heap.size + 1, 0, none⟩ = some (.bool false) := by rw [hW]; simp [go_sem]
  have r1 : W.cell? ⟨w.heap.size + 1, 1, none⟩ = some (.slice none 0 0) := by rw [hW]; simp [go_sem]
  have e0 : W.frozen? ⟨w.heap.size + 1, 0, none⟩ = false := by rw [hW]; simp [go_sem]
  have e1 : W.frozen? ⟨w.heap.size + 1, 1, none⟩ = false := by rw [hW]; simp [go_sem]
  clear hW
  have HG := Lib.hid g1
  clear g1
  go_region_held3 (fun w' => w'.cell? ⟨w.heap.size, 0, none⟩ = some (.bool neg) ∧ w'.cell? ⟨w.heap.size, 1, none⟩ = some s) (go_keep)
    (first
      | (go_at_call 39; refine (signs_any _ _).mono ?_; rintro e w' ⟨rfl, rfl⟩)
      | (go_at_call 62; have gA : Gr W (W.alloc (.cells #[.bool !neg] 4)).drew := Below.drew (Gr.new W _); refine (signs1_int (!neg) l s W.heap.size N _ (HD.out.later (HG.out.trans gA)) (by simp [go_sem]) HNN.out).mono ?_; rintro e w' ⟨v, rfl, ⟨s', l', rfl, hs, hnl, hvl, hln⟩, hG⟩; have k0 := (gA.trans hG).keeps c0; have k1 := (gA.trans hG).keeps c1; have j0 := (gA.trans hG).keeps r0; have j1 := (gA.trans hG).keeps r1; have f0 := (gA.trans hG).frozen r0 e0; have f1 := (gA.trans hG).frozen r1 e1; have HGG := Lib.hid (gA.trans hG); have hs2 := hs; obtain ⟨-, a', cap', rfl, -, -, -⟩ := hs2; have HS := Lib.hid hs; have HE := Lib.hid (And.intro hnl (And.intro hvl hln)); clear hs hnl hvl hln hG gA))
  go_wp2_with fail
  refine bodyPost_ret (v := .agg #[.bool (decide (sg (!neg) (Ow.val l) < 0)), .slice a' l'.length cap']) (by simp [results, Tryz.results55, go_sem, j0, j1]) rfl ?_
  exact intz_stored (by rw [HNEG.out, HV.out]; exact sg_not z) rfl HS.out HE.out.1 HE.out.2.1 HE.out.2.2 (HG.out.trans HGG.out) (by omega) j0 j1 (by simp) (by simp)
end Go.Proofs.YtnehcafmebokmaaGreatDoor

/- order of integers. -/
namespace Go.Proofs.YtnehcafmebokmaaGreatDoor
open Go.RowKit
set_option linter.unusedVariables false

set_option maxRecDepth 100000 in
set_option maxHeartbeats 4000000 in
theorem order_any (M : Nat) (x y : Int) (u v : Value) (w : World) (hu : HasI M w u x) (hv : HasI M w v y) :
    Calls Tryz.prog 53 #[u, v] w (CmpPost (sgn x y) w) := by
  obtain ⟨s, l, rfl, hd, hn, hval, hlM⟩ := hu
  obtain ⟨t, m, rfl, hd', hn', hval', hmM⟩ := hv
  have HD := Lib.hid hd
  have HD' := Lib.hid hd'
  have HNm := Lib.hid hn
  have HNm' := Lib.hid hn'
  have HV := Lib.hid hval
  have HV' := Lib.hid hval'
  obtain ⟨nx, hnx⟩ : ∃ nx, nx = decide (x < 0) := ⟨_, rfl⟩
  obtain ⟨ny, hny⟩ : ∃ ny, ny = decide (y < 0) := ⟨_, rfl⟩
  rw [← hnx, ← hny]
  have HNX := Lib.hid hnx
  have HNY := Lib.hid hny
  clear hd hd' hn hn' hval hval' hlM hmM hnx hny
  obtain ⟨-, a, cap, rfl, -, -, -⟩ := id HD.out
  obtain ⟨-, a', cap', rfl, -, -, -⟩ := id HD'.out
  rcases nx with _ | _ <;> rcases ny with _ | _
  · have h1 : ¬ x < 0 := by simpa using HNX.out.symm
    have h2 : ¬ y < 0 := by simpa using HNY.out.symm
    have HS := Lib.hid (show sgn (Ow.val l : Int) (Ow.val m : Int) = sgn x y by rw [HV.out, HV'.out, show ((x.natAbs : Nat) : Int) = x by omega, show ((y.natAbs : Nat) : Int) = y by omega])
    clear h1 h2
    go_enter Tryz.func53, Tryz.ntmps53
    go_wp2_with fail
    refine (compare_any l m _ _ _ (HD.out.later ((Gr.new w _).alloc _)) (HD'.out.later ((Gr.new w _).alloc _)) HNm.out HNm'.out).mono ?_
    rintro e w2 ⟨rfl, g2⟩
    have HG := Lib.hid ((((Gr.new w _).alloc _)).trans g2)
    clear g2
    go_wp2_with fail
    go_ret
    exact ⟨by rw [HS.out]; rfl, HG.out⟩
  · have HS := Lib.hid (show sgn x y = 1 from sgn_gt (by have h1 : ¬ x < 0 := by simpa using HNX.out.symm
                                                         have h2 : y < 0 := by simpa using HNY.out.symm
                                                         omega))
    go_enter Tryz.func53, Tryz.ntmps53
    go_wp2_with fail
    go_ret
    exact ⟨by rw [HS.out]; rfl, (Gr.new w _).alloc _⟩
  · have HS := Lib.hid (show sgn x y = -1 from sgn_lt (by have h1 : x < 0 := by simpa using HNX.out.symm
                                                          have h2 : ¬ y < 0 := by simpa using HNY.out.symm
                                                          omega))
    go_enter Tryz.func53, Tryz.ntmps53
    go_wp2_with fail
    go_ret
    exact ⟨by rw [HS.out]; rfl, (Gr.new w _).alloc _⟩
  · have HS := Lib.hid (show sgn (Ow.val m : Int) (Ow.val l : Int) = sgn x y by
      have h1 : x < 0 := by simpa using HNX.out.symm
      have h2 : y < 0 := by simpa using HNY.out.symm
      rw [HV.out, HV'.out, show ((x.natAbs : Nat) : Int) = -x by omega, show ((y.natAbs : Nat) : Int) = -y by omega]
      unfold sgn
      by_cases a : x < y
      · rw [if_pos (by omega), if_pos a]
      · rw [if_neg (by omega), if_neg a]
        by_cases b : y < x
        · rw [if_pos (by omega), if_pos b]
        · rw [if_neg (by omega), if_neg b])
    go_enter Tryz.func53, Tryz.ntmps53
    go_wp2_with fail
    refine (compare_any m l _ _ _ (HD'.out.later ((Gr.new w _).alloc _)) (HD.out.later ((Gr.new w _).alloc _)) HNm'.out HNm.out).mono ?_
    rintro e w2 ⟨rfl, g2⟩
    have HG := Lib.hid ((((Gr.new w _).alloc _)).trans g2)
    clear g2
    go_wp2_with fail
    go_ret
    exact ⟨by rw [HS.out]; rfl, HG.out⟩
end Go.Proofs.YtnehcafmebokmaaGreatDoor

/- order and sum of integers. -/
namespace Go.Proofs.YtnehcafmebokmaaGreatDoor
open Go.RowKit
set_option linter.unusedVariables false

theorem sg_same (x y : Int) (h : decide (x < 0) = decide (y < 0)) : sg (decide (x < 0)) (x.natAbs + y.natAbs) = x + y := by
  unfold sg
  by_cases h1 : x < 0 <;> by_cases h2 : y < 0 <;> simp [h1, h2] at h ⊢ <;> omega
theorem sg_diff (x y : Int) (h : decide (x < 0) ≠ decide (y < 0)) (hle : y.natAbs ≤ x.natAbs) : sg (decide (x < 0)) (x.natAbs - y.natAbs) = x + y := by
  unfold sg
  by_cases h1 : x < 0 <;> by_cases h2 : y < 0 <;> simp [h1, h2] at h ⊢ <;> omega
theorem sg_diff2 (x y : Int) (h : decide (x < 0) ≠ decide (y < 0)) (hle : x.natAbs ≤ y.natAbs) : -(sg (decide (x < 0)) (y.natAbs - x.natAbs)) = x + y := by
  unfold sg
  by_cases h1 : x < 0 <;> by_cases h2 : y < 0 <;> simp [h1, h2] at h ⊢ <;> omega
theorem len_le {l m : List Nat} (hl : Ow.Nm l) (hm : Ow.Nm m) (h : Ow.val m ≤ Ow.val l) : m.length ≤ l.length := by
  apply Classical.byContradiction; intro hn
  have := Ow.val_short hl hm (by omega)
  omega

set_option maxRecDepth 100000 in
set_option maxHeartbeats 1000000 in
theorem sum_any (M N : Nat) (x y : Int) (u v : Value) (w : World) (hu : HasI M w u x) (hv : HasI M w v y) (hM : M ≤ 100000) (hN : x.natAbs + y.natAbs < 4294967296 ^ N) :
    Calls Tryz.prog 54 #[u, v] w (IntZ N (x + y) w) := by
  obtain ⟨s, l, rfl, hd, hn, hval, hlM⟩ := hu
  obtain ⟨t, m, rfl, hd', hn', hval', hmM⟩ := hv
  have HD := Lib.hid hd
  have HD' := Lib.hid hd'
  have HNm := Lib.hid hn
  have HNm' := Lib.hid hn'
  have HV := Lib.hid hval
  have HV' := Lib.hid hval'
  have HN := Lib.hid hN
  have hl : l.length ≤ 100000 := by omega
  have hm : m.length ≤ 100000 := by omega
  obtain ⟨nx, hnx⟩ : ∃ nx, nx = decide (x < 0) := ⟨_, rfl⟩
  obtain ⟨ny, hny⟩ : ∃ ny, ny = decide (y < 0) := ⟨_, rfl⟩
  rw [← hnx, ← hny]
  have HNX := Lib.hid hnx
  have HNY := Lib.hid hny
  clear hd hd' hn hn' hval hval' hlM hmM hnx hny hM hN
  obtain ⟨-, a, cap, rfl, -, -, -⟩ := id HD.out
  obtain ⟨-, a', cap', rfl, -, -, -⟩ := id HD'.out
  go_enter Tryz.func54, Tryz.ntmps54
  go_wp2_with fail
  refine (signs_any _ _).mono ?_
  rintro e w1 ⟨rfl, hw1⟩
  obtain ⟨z0, hz0⟩ : ∃ z0 : World, z0 = ((w.alloc (.cells #[.bool nx, .slice a l.length cap] 44)).alloc (.cells #[.bool ny, .slice a' m.length cap'] 44)).alloc (.cells #[.bool false, .slice none 0 0] 44) := ⟨_, rfl⟩
  rw [← hz0] at hw1 ⊢
  have g0 : Gr w z0 := by rw [hz0]; exact ((Gr.new w _).alloc _).alloc _
  have g1 : Gr z0 w1 := by rw [← hw1]; exact Gr.new _ _
  have x0 : z0.cell? ⟨w.heap.size, 0, none⟩ = some (.bool nx) := by rw [hz0]; simp [go_sem]
  have x1 : z0.cell? ⟨w.heap.size, 1, none⟩ = some (.slice a l.length cap) := by rw [hz0]; simp [go_sem]
  have y0 : z0.cell? ⟨w.heap.size + 1, 0, none⟩ = some (.bool ny) := by rw [hz0]; simp [go_sem]
  have y1 : z0.cell? ⟨w.heap.size + 1, 1, none⟩ = some (.slice a' m.length cap') := by rw [hz0]; simp [go_sem]
  have r0 : z0.cell? ⟨w.heap.size + 1 + 1, 0, none⟩ = some (.bool false) := by rw [hz0]; simp [go_sem]
  have r1 : z0.cell? ⟨w.heap.size + 1 + 1, 1, none⟩ = some (.slice none 0 0) := by rw [hz0]; simp [go_sem]
  have e0 : z0.frozen? ⟨w.heap.size + 1 + 1, 0, none⟩ = false := by rw [hz0]; simp [go_sem]
  have e1 : z0.frozen? ⟨w.heap.size + 1 + 1, 1, none⟩ = false := by rw [hz0]; simp [go_sem]
  have b0 : w1.cell? ⟨z0.heap.size, 0, none⟩ = some (.bool nx) := by rw [← hw1]; simp [go_sem]
  have E0 := Lib.hid (g1.frozen r0 e0)
  have E1 := Lib.hid (g1.frozen r1 e1)
  have R0 := Lib.hid (g1.keeps r0)
  have R1 := Lib.hid (g1.keeps r1)
  have B0 := Lib.hid b0
  have x0 := g1.keeps x0
  have x1 := g1.keeps x1
  have y0 := g1.keeps y0
  have y1 := g1.keeps y1
  have HG := Lib.hid (g0.trans g1)
  clear hz0 hw1 g0 g1 b0 e0 e1 r0 r1
  by_cases heq : nx = ny
  · subst heq
    have HEQ := Lib.hid (show sg nx (x.natAbs + y.natAbs) = x + y by rw [HNX.out]; exact sg_same x y (by rw [← HNX.out, ← HNY.out]))
    go_wp2_with fail
    refine (plus_any l m _ _ _ (HD.out.later HG.out) (HD'.out.later HG.out) hl hm).mono ?_
    rintro e w2 ⟨p, lp, rfl, hdp, hnp, hvp, g2⟩
    have HDP := Lib.hid hdp
    have HNP := Lib.hid hnp
    have HVP := Lib.hid hvp
    have HG2 := Lib.hid g2
    clear hdp hnp hvp g2
    go_wp2_with fail
    refine (signs1_int nx lp p z0.heap.size N _ HDP.out (HG2.out.keeps B0.out) (Ow.nm_len (by rw [HNP.out.2]; exact HNP.out) (by rw [HNP.out.2, HVP.out, HV.out, HV'.out]; exact HN.out))).mono ?_
    rintro e w3 ⟨q, rfl, ⟨s', l', rfl, hs, hnl, hvl, hln⟩, g3⟩
    have HG3 := Lib.hid (HG2.out.trans g3)
    obtain ⟨-, a'', cap'', rfl, -, -, -⟩ := id hs
    have j0 := HG3.out.keeps R0.out
    have j1 := HG3.out.keeps R1.out
    have f0 := HG3.out.frozen R0.out E0.out
    have f1 := HG3.out.frozen R1.out E1.out
    have HS := Lib.hid hs
    have HL := Lib.hid (And.intro hnl (And.intro hvl hln))
    clear hs hnl hvl hln g3
    go_wp2_with fail
    refine bodyPost_ret (v := .agg #[.bool (decide (sg nx (Ow.val lp) < 0)), .slice a'' l'.length cap'']) (by simp [results, Tryz.results54, go_sem, j0, j1]) rfl ?_
    exact intz_stored (by rw [HVP.out, HV.out, HV'.out]; exact HEQ.out) rfl HS.out HL.out.1 HL.out.2.1 HL.out.2.2 (HG.out.trans HG3.out) (by omega) j0 j1 (by simp) (by simp)
  · have t0 : (nx == ny) = false := by simpa using heq
    have hne : decide (x < 0) ≠ decide (y < 0) := by rw [← HNX.out, ← HNY.out]; exact heq
    have HNE := Lib.hid hne
    clear hne heq
    go_wp2_with fail
    refine (compare_any l m _ _ _ (HD.out.later HG.out) (HD'.out.later HG.out) HNm.out HNm'.out).mono ?_
    rintro e w2 ⟨rfl, g2⟩
    have x0 := g2.keeps x0
    have x1 := g2.keeps x1
    have y0 := g2.keeps y0
    have y1 := g2.keeps y1
    have E0 := Lib.hid (g2.frozen R0.out E0.out)
    have E1 := Lib.hid (g2.frozen R1.out E1.out)
    have R0 := Lib.hid (g2.keeps R0.out)
    have R1 := Lib.hid (g2.keeps R1.out)
    have B0 := Lib.hid (g2.keeps B0.out)
    have HG := Lib.hid (HG.out.trans g2)
    clear g2
    by_cases hle : Ow.val m ≤ Ow.val l
    · have t1 : decide ((0 : Int) ≤ sgn (Ow.val l) (Ow.val m)) = true := by unfold sgn; simp; split <;> (try split) <;> omega
      have HLE := Lib.hid hle
      clear hle
      go_wp2_with fail
      refine (minus_any l m _ _ _ (HD.out.later HG.out) (HD'.out.later HG.out) hl (len_le HNm.out HNm'.out HLE.out) HLE.out).mono ?_
      rintro e w3 ⟨p, lp, rfl, hdp, hnp, hvp, g2⟩
      have HDP := Lib.hid hdp
      have HNP := Lib.hid hnp
      have HVP := Lib.hid hvp
      have HG2 := Lib.hid g2
      clear hdp hnp hvp g2
      go_wp2_with fail
      refine (signs1_int nx lp p z0.heap.size N _ HDP.out (HG2.out.keeps B0.out) (Ow.nm_len (by rw [HNP.out.2]; exact HNP.out) (by rw [HNP.out.2, HVP.out, HV.out, HV'.out]; have := HN.out; omega))).mono ?_
      rintro e w4 ⟨q, rfl, ⟨s', l', rfl, hs, hnl, hvl, hln⟩, g3⟩
      have HG3 := Lib.hid (HG2.out.trans g3)
      obtain ⟨-, a'', cap'', rfl, -, -, -⟩ := id hs
      have j0 := HG3.out.keeps R0.out
      have j1 := HG3.out.keeps R1.out
      have f0 := HG3.out.frozen R0.out E0.out
      have f1 := HG3.out.frozen R1.out E1.out
      have HS := Lib.hid hs
      have HL := Lib.hid (And.intro hnl (And.intro hvl hln))
      clear hs hnl hvl hln g3
      go_wp2_with fail
      refine bodyPost_ret (v := .agg #[.bool (decide (sg nx (Ow.val lp) < 0)), .slice a'' l'.length cap'']) (by simp [results, Tryz.results54, go_sem, j0, j1]) rfl ?_
      exact intz_stored (by rw [HVP.out, HV.out, HV'.out, HNX.out]; exact sg_diff x y HNE.out (by rw [← HV.out, ← HV'.out]; exact HLE.out)) rfl HS.out HL.out.1 HL.out.2.1 HL.out.2.2 (HG.out.trans HG3.out) (by omega) j0 j1 (by simp) (by simp)
    · have t1 : decide ((0 : Int) ≤ sgn (Ow.val l) (Ow.val m)) = false := by unfold sgn; simp; split <;> (try split) <;> omega
      have HLE := Lib.hid (show Ow.val l ≤ Ow.val m by omega)
      clear hle
      go_wp2_with fail
      refine (minus_any m l _ _ _ (HD'.out.later HG.out) (HD.out.later HG.out) hm (len_le HNm'.out HNm.out HLE.out) HLE.out).mono ?_
      rintro e w3 ⟨p, lp, rfl, hdp, hnp, hvp, g2⟩
      have HDP := Lib.hid hdp
      have HNP := Lib.hid hnp
      have HVP := Lib.hid hvp
      have HG2 := Lib.hid g2
      clear hdp hnp hvp g2
      go_wp2_with fail
      refine (signs1_int nx lp p z0.heap.size N _ HDP.out (HG2.out.keeps B0.out) (Ow.nm_len (by rw [HNP.out.2]; exact HNP.out) (by rw [HNP.out.2, HVP.out, HV.out, HV'.out]; have := HN.out; omega))).mono ?_
      rintro e w4 ⟨q, rfl, hI, g3⟩
      have HG3 := Lib.hid (HG2.out.trans g3)
      have HI := Lib.hid hI
      clear hI g3
      go_wp2_with fail
      refine (negative_any N _ q _ HI.out).mono ?_
      rintro e w5 ⟨q2, rfl, ⟨s', l', rfl, hs, hnl, hvl, hln⟩, g4⟩
      have HG4 := Lib.hid (HG3.out.trans g4)
      obtain ⟨nz, hnz⟩ : ∃ nz, nz = decide (-(sg nx (Ow.val lp)) < 0) := ⟨_, rfl⟩
      rw [← hnz]
      have HNZ := Lib.hid hnz
      clear hnz
      obtain ⟨-, a'', cap'', rfl, -, -, -⟩ := id hs
      have j0 := HG4.out.keeps R0.out
      have j1 := HG4.out.keeps R1.out
      have f0 := HG4.out.frozen R0.out E0.out
      have f1 := HG4.out.frozen R1.out E1.out
      have HS := Lib.hid hs
      have HL := Lib.hid (And.intro hnl (And.intro hvl hln))
      clear hs hnl hvl hln g4
      go_wp2_with fail
      refine bodyPost_ret (v := .agg #[.bool nz, .slice a'' l'.length cap'']) (by simp [results, Tryz.results54, go_sem, j0, j1]) rfl ?_
      exact intz_stored (z' := -(sg nx (Ow.val lp))) (by rw [HVP.out, HV.out, HV'.out, HNX.out]; exact sg_diff2 x y HNE.out (by rw [← HV.out, ← HV'.out]; exact HLE.out)) HNZ.out HS.out HL.out.1 HL.out.2.1 HL.out.2.2 (HG.out.trans HG4.out) (by omega) j0 j1 (by simp) (by simp)
end Go.Proofs.YtnehcafmebokmaaGreatDoor

