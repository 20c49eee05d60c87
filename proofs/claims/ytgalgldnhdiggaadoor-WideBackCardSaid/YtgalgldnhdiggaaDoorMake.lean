/- New rows of zeros; digits written from the top; scaled. -/
import Derived.Test.YtgalgldnhdiggaaDoorTake
import Derived.Laws.MakeOwn
namespace Ow
set_option linter.unusedVariables false
/-- a times F plus A, the first digits. -/
def SclI (l : List Nat) (F A k : Nat) (pre : List Nat) (c : Nat) : Prop := pre.length = k ∧ Dg pre ∧ c < 4294967296 ∧ val pre + c * 4294967296 ^ k = val (l.take k) * F + A
theorem SclI.start (l : List Nat) (F A : Nat) (hA : A < 4294967296) : SclI l F A 0 [] A := ⟨rfl, dg_nil, hA, by simp [val]⟩
theorem SclI.step {l : List Nat} {F A k c : Nat} {pre : List Nat} (h : SclI l F A k pre c) (hl : Dg l) (hF : F < 4294967296) {s : Nat} (hs : s = c + l[k]?.getD 0 * F) :
    SclI l F A (k + 1) (pre ++ [s % 4294967296]) (s / 4294967296) := by
  obtain ⟨h1, h2, h3, h4⟩ := h
  have b := mul_digit (dg_at hl k) hF
  refine ⟨by simp [h1], dg_snoc h2 (Nat.mod_lt _ (by omega)), by omega, ?_⟩
  rw [val_snoc, h1, val_take_succ]
  generalize l[k]?.getD 0 = x at *
  have he := Nat.div_add_mod s 4294967296
  generalize s % 4294967296 = lo at *
  generalize s / 4294967296 = hi at *
  have k2 : 4294967296 ^ k * lo + hi * (4294967296 ^ k * 4294967296) = 4294967296 ^ k * c + 4294967296 ^ k * (x * F) := by
    rw [← Nat.mul_add, ← hs, ← he, Nat.mul_add, Nat.mul_left_comm hi, Nat.mul_comm hi, Nat.add_comm]
  rw [Nat.mul_comm (4294967296 ^ k) c] at k2
  rw [Nat.pow_succ, Nat.add_mul, Nat.mul_assoc]
  omega
theorem SclI.all {l : List Nat} {F A c : Nat} {pre : List Nat} (h : SclI l F A l.length pre c) : (pre ++ [c]).length = l.length + 1 ∧ Dg (pre ++ [c]) ∧ val (pre ++ [c]) = val l * F + A := by
  obtain ⟨h1, h2, h3, h4⟩ := h
  rw [List.take_length] at h4
  exact ⟨by simp [h1], dg_snoc h2 h3, by rw [val_snoc, h1, Nat.mul_comm]; exact h4⟩
/-- The quotient by a digit, from the top. -/
def QuoI (l : List Nat) (by' i : Nat) (q : List Nat) (r : Nat) : Prop := i + q.length = l.length ∧ Dg q ∧ r < by' ∧ val (l.drop i) = val q * by' + r
theorem QuoI.start (l : List Nat) (b : Nat) (hb : 1 ≤ b) : QuoI l b l.length [] 0 := ⟨by simp, dg_nil, by omega, by simp [val]⟩
theorem drop_at {l : List Nat} {i : Nat} (h : i < l.length) : val (l.drop i) = l[i]?.getD 0 + 4294967296 * val (l.drop (i + 1)) := by
  rw [List.drop_eq_getElem_cons h, List.getElem?_eq_getElem h]; rfl
theorem QuoI.step {l : List Nat} {b i r : Nat} {q : List Nat} (h : QuoI l b (i + 1) q r) (hl : Dg l) (hb : b < 4294967296) {p : Nat} (hp : p = r * 4294967296 + l[i]?.getD 0) :
    p / b < 4294967296 ∧ QuoI l b i (p / b :: q) (p % b) := by
  obtain ⟨h1, h2, h3, h4⟩ := h
  have hx := dg_at hl i
  have h5 : p / b < 4294967296 := by
    rw [Nat.div_lt_iff_lt_mul (by omega)]
    have : (r + 1) * 4294967296 ≤ b * 4294967296 := Nat.mul_le_mul_right _ h3
    omega
  refine ⟨h5, by simp; omega, fun x hx => ?_, Nat.mod_lt _ (by omega), ?_⟩
  · rcases List.mem_cons.1 hx with rfl | hx
    · exact h5
    · exact h2 x hx
  · rw [drop_at (by omega), h4]
    simp only [val]
    have he := Nat.div_add_mod p b
    generalize l[i]?.getD 0 = x at *
    rw [Nat.add_mul, Nat.mul_comm (p / b) b, Nat.mul_assoc]
    omega
end Ow
namespace Go.Proofs.YtgalgldnhdiggaaDoor
open Go.RowKit
set_option linter.unusedVariables false

/-- A row of zeros. -/
def zrow (n : Nat) : Array Value := madeCells #[.int .u32 0] n
theorem zrow_size (n : Nat) : (zrow n).size = n := size_madeCells _ _
theorem zrow_at (n j : Nat) (h : j < n) : (zrow n)[j]? = some (.int .u32 0) := by
  unfold zrow madeCells
  rw [Array.getElem?_eq_getElem (by simpa using h)]
  simp [Nat.mod_one]
theorem mk_row (n : Nat) (L : Int) (hL : L = n) (hn : n ≤ 1000000) (w : World) : (Instr.makeSlice 54 (.int .i64 L) (.int .i64 L)).run Tryd.prog w = .ok (.slice (some ⟨w.heap.size, 0, none⟩) n n) (w.alloc (.cells (zrow n) 59)) := by
  obtain ⟨i0, hi, hz0, hz1, hz2⟩ := info_parts infoU32
  subst hL
  have := run_make (P := Tryd.prog) w 54 59 i0 (.int .u32 0) Tryd.underlying54 hi hz0 .i64 .i64 (n : Int) (n : Int) (by omega) (Int.le_refl _) (by rw [hz2]; omega) (by omega)
  rw [this, hz1, Int.toNat_natCast, Nat.mul_one]
  rfl
theorem Rw.new (w : World) (cur : Array Value) : Rw (w.alloc (.cells cur 59)) w.heap.size cur := heap_alloc_new w _
theorem Upd.consStart {W : World} {g o : Nat} {cur : Array Value} (h : Rw W g cur) (ho : o ≤ cur.size) : Upd g o [] W W := Upd.start h ho
/-- A digit ahead of those that were written. -/
theorem Upd.cons {W W' : World} {g o : Nat} {l : List Nat} (h : Upd g (o + 1) l W W') (d : Nat) : Upd g o (d :: l) W (W'.setCell ⟨g, o, none⟩ (.int .u32 (d : Nat))) := by
  obtain ⟨h1, h2, h3, h4, h5, cur, cur', r1, r2, r3, r4, r5⟩ := h
  refine ⟨h1, h2, h3, by simpa using h4, fun k hk => ?_, cur, _, r1, r2.set _ _, by simpa using r3, by simp; omega, fun j => ?_⟩
  · rw [Below.heap_setCell _ _ _ _ hk]; exact h5 k hk
  · rw [Array.getElem?_setIfInBounds]
    by_cases e : o = j
    · subst e
      rw [if_pos rfl, if_pos (by omega), if_pos (by simp)]
      simp
    · rw [if_neg e, r5]
      by_cases e2 : o + 1 ≤ j ∧ j < o + 1 + l.length
      · rw [if_pos e2, if_pos (by simp; omega), show j - o = (j - (o + 1)) + 1 by omega, List.getElem?_cons_succ]
      · rw [if_neg e2, if_neg (by simp; omega)]

/-- A row of the call's own, all of whose digits are written: what is trimmed. -/
theorem Upd.hasD {w W W' : World} {g cap : Nat} {l : List Nat} (h : Upd g 0 l W W') (hd : Ow.Dg l) (h1 : l.length ≤ cap) (h2 : cap ≤ 9223372036854775807) : HasD W' (.slice (some ⟨g, 0, none⟩) l.length cap) l :=
  (Lies.upd h hd).hasD h1 h2

set_option maxRecDepth 100000 in
set_option maxHeartbeats 1000000 in
theorem scaled_any (l : List Nat) (v : Value) (F A : Nat) (w : World) (hv : HasD w v l) (hl : l.length ≤ 100000) (hF : F < 4294967296) (hA : A < 4294967296) :
    Calls Tryd.prog 65 #[v, .int .u32 F, .int .u32 A] w (DigPost (Ow.val l * F + A) w) := by
  obtain ⟨dv, b, cap, rfl, v1, v2, cv⟩ := hv
  obtain ⟨len, hlen⟩ : ∃ len, len = l.length := ⟨_, rfl⟩
  rw [← hlen] at v1 hl ⊢
  have HL := Lib.hid hlen
  have HDV := Lib.hid dv
  have HCV := Lib.hid cv
  have hmk := mk_row (len + 1) ((len : Int) + 1) (by omega) (by omega)
  clear hlen dv cv
  go_enter Tryd.func65, Tryd.ntmps65
  go_wp2_with fail
  clear hmk
  have hrow := Rw.new w (zrow (len + 1))
  have g1 : Gr w (w.alloc (.cells (zrow (len + 1)) 59)) := Gr.new _ _
  have hzs := zrow_size (len + 1)
  have hz : ∀ k, k ≤ len → (w.alloc (.cells (zrow (len + 1)) 59)).cell? ⟨w.heap.size, 0 + k, none⟩ = some (.int .u32 0) := fun k hk => by
    rw [Nat.zero_add, hrow.cell, zrow_at _ _ (by omega)]
  obtain ⟨W, hW⟩ : ∃ W, W = w.alloc (.cells (zrow (len + 1)) 59) := ⟨_, rfl⟩
  rw [← hW] at hrow g1 hz ⊢
  clear hW
  have HROW := Lib.hid hrow
  have HZ := Lib.hid hz
  have HG := Lib.hid g1
  have HZS := Lib.hid hzs
  clear hrow hz g1 hzs
  go_loopw [8, 19] (fun t i wr => ∃ k c pre, t = .int .u64 (c : Nat) ∧ i = .int .i64 (k : Nat) ∧ k ≤ len ∧ Ow.SclI l F A k pre c ∧ Upd w.heap.size 0 pre W wr) (fun _ i _ => len - (intOf i).toNat)
  case atStart => exact ⟨0, A, [], rfl, rfl, by omega, Ow.SclI.start l F A hA, Upd.start HROW.out (by omega)⟩
  case round =>
    obtain ⟨k, c, pre, rfl, rfl, hk, hscl, hupd⟩ := hrel
    have hc := hscl.2.2.1
    have HPL := Lib.hid hscl.1
    have HS := Lib.hid hscl
    have HU := Lib.hid hupd
    clear hscl hupd
    have c1 : wr.cell? ⟨w.heap.size, 0 + k, none⟩ = some (.int .u32 0) := (HU.out.cell_out (.inr (by rw [HPL.out]; omega))).trans (HZ.out k hk)
    have c1' := c1
    rw [Nat.zero_add] at c1'
    have HC1 := Lib.hid (HZ.out k hk)
    have f1 : wr.frozen? ⟨w.heap.size, k, none⟩ = false := HU.out.frozen _
    clear c1
    by_cases hlt : k < len
    · obtain ⟨gb, ob, rfl, c2⟩ := HCV.out k (by rw [← HL.out]; exact hlt)
      have hgb : gb < w.heap.size := World.block_lt_of_cell? w _ c2
      have c2 := HG.out.keeps c2
      have c2 : wr.cell? ⟨gb, ob + k, none⟩ = _ := (HU.out.cell_other (p := ⟨gb, ob + k, none⟩) (fun e => by simp only at e; omega)).trans c2
      have hx := Ow.dg_at HDV.out k
      obtain ⟨s, hse⟩ : ∃ s, s = c + l[k]?.getD 0 * F := ⟨_, rfl⟩
      have hmul := Ow.mul_digit hx hF
      have HNX := Lib.hid (HS.out.step HDV.out hF hse)
      have hsb : s ≤ 18446744069414584321 := by omega
      obtain ⟨x, hxe⟩ : ∃ x, x = l[k]?.getD 0 := ⟨_, rfl⟩
      rw [← hxe] at c2 hx hse hmul
      have i5 : (k : Int) < (len : Int) := by omega
      have i6 : (0 : Int) ≤ (k : Int) := by omega
      have hsi : (c : Int) + (x : Int) * (F : Int) = (s : Int) := by rw [hse, Int.natCast_add, Int.natCast_mul]
      have p0 : (0 : Int) ≤ (x : Int) * (F : Int) := by rw [← Int.natCast_mul]; omega
      have p1 : (x : Int) * (F : Int) ≤ 18446744065119617025 := by rw [← Int.natCast_mul]; omega
      have E1 := Lib.hid (show ((s % 4294967296 : Nat) : Int) = (s : Int) % 4294967296 by omega)
      have E3 := Lib.hid (show ((s / 4294967296 : Nat) : Int) = (s : Int) / 4294967296 by omega)
      clear hxe hse hmul
      go_wp2_with fail
      go_roundw
      case rel => exact ⟨k + 1, _, _, by rw [E3.out], by go_num, by omega, HNX.out, by have h := HU.out.step (d := s % 4294967296) HPL.out HC1.out; rw [Nat.zero_add, E1.out] at h; exact h⟩
      case measure => simp [intOf]; omega
    · obtain rfl : k = len := by omega
      have HA := Lib.hid (show (pre ++ [c]).length = l.length + 1 ∧ Ow.Dg (pre ++ [c]) ∧ Ow.val (pre ++ [c]) = Ow.val l * F + A from Ow.SclI.all (by rw [← HL.out]; exact HS.out))
      have hd := (HU.out.step (d := c) HPL.out HC1.out).hasD (w := w) (cap := k + 1) HA.out.2.1 (by rw [HA.out.1, ← HL.out]; omega) (by omega)
      have hG := (HU.out.step (d := c) HPL.out HC1.out).gr HG.out (Nat.le_refl _)
      rw [HA.out.1, ← HL.out, Nat.zero_add] at hd
      rw [Nat.zero_add] at hG
      have HD := Lib.hid hd
      have HGG := Lib.hid hG
      have e1 : (c : Int) % 4294967296 = (c : Int) := by omega
      clear hd hG
      go_wp2_with fail
      refine (trim_any (pre ++ [c]) _ _ HD.out).mono ?_
      rintro e w4 ⟨⟨v3, rfl, hcut⟩, rfl⟩
      have HCUT := Lib.hid hcut
      clear hcut
      go_wp2_with fail
      go_ret
      exact ⟨_, Ow.tr (pre ++ [c]), rfl, HCUT.out _ HD.out, Ow.nm_tr HA.out.2.1, by rw [Ow.val_tr]; exact HA.out.2.2, HGG.out⟩
end Go.Proofs.YtgalgldnhdiggaaDoor
