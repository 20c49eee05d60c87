/- form: the bytes of an integer. -/
import Derived.Test.YtgalgldnhdiggaaDoorBy
import Derived.Laws.IdiomStrings
namespace Ow
set_option linter.unusedVariables false
theorem val_digit : ∀ (l : List Nat) (q : Nat), Dg l → val l / 4294967296 ^ q % 4294967296 = l[q]?.getD 0
  | [], q, _ => by simp [val]
  | d :: l, 0, h => by
    have := h d (List.mem_cons_self ..)
    simp [val]; omega
  | d :: l, q + 1, h => by
    have h1 := h d (List.mem_cons_self ..)
    have ih := val_digit l q (fun x hx => h x (List.mem_cons_of_mem _ hx))
    simp only [val, List.getElem?_cons_succ]
    rw [Nat.pow_succ, Nat.mul_comm (4294967296 ^ q), ← Nat.div_div_eq_div_mul, show (d + 4294967296 * val l) / 4294967296 = val l by omega]
    exact ih
/-- A byte of a number out of its digit. -/
theorem byte_digit {l : List Nat} (h : Dg l) (q r : Nat) (hr : r < 4) : val l / 256 ^ (4 * q + r) % 256 = l[q]?.getD 0 / 256 ^ r % 256 := by
  rw [← val_digit l q h, Nat.pow_add, Nat.pow_mul, ← Nat.div_div_eq_div_mul]
  rw [show (256 : Nat) ^ 4 = 4294967296 from rfl]
  generalize val l / 4294967296 ^ q = X
  have : r = 0 ∨ r = 1 ∨ r = 2 ∨ r = 3 := by omega
  rcases this with rfl | rfl | rfl | rfl <;> simp <;> omega
theorem bitLen_bytes {M b : Nat} (h : BitLen M b) : (b + 7) / 8 = (byt M).length := by
  obtain ⟨h1, h2, h3⟩ := h
  rcases Nat.eq_zero_or_pos M with h0 | h0
  · rw [h3 h0, h0, byt_zero]; rfl
  · have h2 := h2 h0
    have a : (byt M).length ≤ (b + 7) / 8 := byt_len.1 (by
      rw [show (256 : Nat) = 2 ^ 8 from rfl, ← Nat.pow_mul]
      exact Nat.lt_of_lt_of_le h1 (Nat.pow_le_pow_right (by omega) (by omega)))
    have c := byt_lt M
    rw [show (256 : Nat) = 2 ^ 8 from rfl, ← Nat.pow_mul] at c
    have d := (Nat.pow_lt_pow_iff_right (by omega : 1 < 2)).1 (Nat.lt_of_le_of_lt h2.2 c)
    omega
end Ow
namespace Go.Proofs.YtgalgldnhdiggaaDoor
open Go.RowKit
set_option linter.unusedVariables false

theorem infoU8 : (Tryd.prog.info? 5).map (fun i => (i.zero, i.size, i.bytes)) = some (some (.int .u8 0), 1, 1) := by kernel_rfl
def brow (n : Nat) : Array Value := madeCells #[.int .u8 0] n
theorem brow_size (n : Nat) : (brow n).size = n := size_madeCells _ _
theorem brow_at (n j : Nat) (h : j < n) : (brow n)[j]? = some (.int .u8 0) := by
  unfold brow madeCells
  rw [Array.getElem?_eq_getElem (by simpa using h)]
  simp [Nat.mod_one]
theorem mk_brow (n : Nat) (L : Int) (hL : L = n) (hn : n ≤ 1000000) (w : World) : (Instr.makeSlice 75 (.int .i64 L) (.int .i64 L)).run Tryd.prog w = .ok (.slice (some ⟨w.heap.size, 0, none⟩) n n) (w.alloc (.cells (brow n) 5)) := by
  obtain ⟨i0, hi, hz0, hz1, hz2⟩ := info_parts infoU8
  subst hL
  have := run_make (P := Tryd.prog) w 75 5 i0 (.int .u8 0) Tryd.underlying75 hi hz0 .i64 .i64 (n : Int) (n : Int) (by omega) (Int.le_refl _) (by rw [hz2]; omega) (by omega)
  rw [this, hz1, Int.toNat_natCast, Nat.mul_one]
  rfl

/-- A block of cells of type T. -/
def Rt (T : TypeId) (W : World) (g : Nat) (cur : Array Value) : Prop := W.heap[g]? = some (.cells cur T (0, 0))
theorem Rt.cell {T : TypeId} {W : World} {g : Nat} {cur : Array Value} (h : Rt T W g cur) (j : Nat) : W.cell? ⟨g, j, none⟩ = cur[j]? := by
  simp [World.cell?, show W.heap[g]? = _ from h]
theorem Rt.frozen {T : TypeId} {W : World} {g : Nat} {cur : Array Value} (h : Rt T W g cur) (j : Nat) : W.frozen? ⟨g, j, none⟩ = false := by
  simp [World.frozen?, show W.heap[g]? = _ from h]
theorem Rt.set {T : TypeId} {W : World} {g : Nat} {cur : Array Value} (h : Rt T W g cur) (j : Nat) (u : Value) : Rt T (W.setCell ⟨g, j, none⟩ u) g (cur.setIfInBounds j u) := by
  obtain ⟨hlt, hk⟩ := Array.getElem?_eq_some_iff.1 (show W.heap[g]? = _ from h)
  show (W.heap.modify g _)[g]? = _
  rw [Array.getElem?_eq_getElem (by rw [Array.size_modify]; exact hlt), Array.getElem_modify_self, hk]
  rfl
theorem Rt.new (T : TypeId) (w : World) (cur : Array Value) : Rt T (w.alloc (.cells cur T)) w.heap.size cur := heap_alloc_new w _
theorem Rt.lt {T : TypeId} {W : World} {g : Nat} {cur : Array Value} (h : Rt T W g cur) : g < W.heap.size := (Array.getElem?_eq_some_iff.1 (show W.heap[g]? = _ from h)).1

/-- k bytes of M are written, from the end of n bytes on. -/
def ByI (M n k g : Nat) (W wr : World) : Prop := ∃ cur, Rt 5 wr g cur ∧ cur.size = n ∧ (∀ j, j < k → cur[n - 1 - j]? = some (.int .u8 ((M / 256 ^ j % 256 : Nat) : Int))) ∧ Below g W wr
theorem ByI.start {M n g : Nat} {W wr : World} (h : Rt 5 wr g (brow n)) (hb : Below g W wr) : ByI M n 0 g W wr :=
  ⟨_, h, brow_size n, fun j hj => absurd hj (Nat.not_lt_zero _), hb⟩
theorem ByI.step {M n k g : Nat} {W wr : World} (h : ByI M n k g W wr) (hk : k < n) : ByI M n (k + 1) g W (wr.setCell ⟨g, n - 1 - k, none⟩ (.int .u8 ((M / 256 ^ k % 256 : Nat) : Int))) := by
  obtain ⟨cur, h1, h2, h3, h4⟩ := h
  refine ⟨_, h1.set _ _, by simpa using h2, fun j hj => ?_, h4.setCell (Nat.le_refl _) _⟩
  rw [Array.getElem?_setIfInBounds]
  by_cases e : k = j
  · subst e
    rw [if_pos rfl, if_pos (by omega)]
  · rw [if_neg (by omega)]
    exact h3 j (by omega)
theorem ByI.below {M n k g : Nat} {W wr : World} (h : ByI M n k g W wr) : Below g W wr := by obtain ⟨_, _, _, _, h⟩ := h; exact h
theorem ByI.place {M n k g : Nat} {W wr : World} (h : ByI M n k g W wr) {j : Nat} (hj : j < n) : (∃ u, wr.cell? ⟨g, j, none⟩ = some u) ∧ wr.frozen? ⟨g, j, none⟩ = false := by
  obtain ⟨cur, h1, h2, _⟩ := h
  refine ⟨⟨cur[j]'(by omega), ?_⟩, h1.frozen j⟩
  rw [h1.cell, Array.getElem?_eq_getElem (by omega)]
theorem ByI.all {M n g : Nat} {W wr : World} (h : ByI M n n g W wr) (hn : n = (Ow.byt M).length) : ∀ j (hj : j < (Ow.byt M).length), wr.cell? ((⟨g, 0, none⟩ : Addr).add j) = some (.int .u8 ((Ow.byt M)[j].toNat : Int)) := by
  intro j hj
  obtain ⟨cur, h1, h2, h3, _⟩ := h
  have e2 : (⟨g, 0, none⟩ : Addr).add j = ⟨g, j, none⟩ := by unfold Addr.add; split <;> simp_all
  rw [e2, h1.cell]
  have a := h3 (n - 1 - j) (by omega)
  have b := Ow.byt_at M (n - 1 - j) (by omega)
  rw [show n - 1 - (n - 1 - j) = j by omega] at a
  rw [← hn, show n - 1 - (n - 1 - j) = j by omega, List.getElem?_eq_getElem hj] at b
  have b := Option.some.inj b
  rw [a, b, UInt8.toNat_ofNat']
  have : M / 256 ^ (n - 1 - j) % 256 % 2 ^ 8 = M / 256 ^ (n - 1 - j) % 256 := by omega
  rw [this]
theorem bytes_string (M n g : Nat) (W wr : World) (h : ByI M n n g W wr) (hn : n = (Ow.byt M).length) : (convert 75 9 (.slice (some ⟨g, 0, none⟩) n n)).run Tryd.prog wr = .ok (.string (bstr M)) wr := by
  have := run_convert_bytes_back (P := Tryd.prog) wr 75 9 5 ⟨g, 0, none⟩ n (Ow.byt M) Tryd.underlying75 Tryd.underlying5 Tryd.underlying9 (h.all hn)
  rw [← hn] at this
  exact this

set_option maxRecDepth 100000 in
set_option maxHeartbeats 1000000 in
theorem form_long (N : Nat) (z : Int) (v : Value) (w : World) (h : HasI N w v z) (hN : N ≤ 100000) (hz : ¬ z.natAbs < Ow.R) :
    Calls Tryd.prog 33 #[v] w (Res (fNeg z) (fStr z) (fErr z) w) := by
  obtain ⟨s, l, rfl, hd, hn, hval, hlN⟩ := h
  have hl64 : 64 < l.length := by
    apply Classical.byContradiction; intro h
    apply hz
    have := Ow.val_lt l hd.1
    rw [hval] at this
    rw [Ow.R_digits]
    exact Nat.lt_of_lt_of_le this (Nat.pow_le_pow_right (by omega) (by omega))
  obtain ⟨-, a, cap, rfl, -, -, -⟩ := id hd
  rw [fNeg_out hz, fStr_out hz, fErr_out hz]
  have i1 : (64 : Int) < (l.length : Int) := by omega
  generalize decide (z < 0) = neg
  clear hd hn hval hz
  go_enter Tryd.func33, Tryd.ntmps33
  go_wp2_with fail
  refine bodyPost_ret (v := .tuple #[.agg #[.bool false, .string ⟨#[]⟩], .int .i64 7]) (by simp [results, Tryd.results33, go_sem]) rfl ?_
  exact ⟨rfl, (Gr.new w _).alloc _⟩

set_option maxRecDepth 100000 in
set_option maxHeartbeats 2000000 in
theorem form_short (N : Nat) (z : Int) (v : Value) (w : World) (h : HasI N w v z) (hN : N ≤ 100000) (hz : z.natAbs < Ow.R) :
    Calls Tryd.prog 33 #[v] w (Res (fNeg z) (fStr z) (fErr z) w) := by
  obtain ⟨s, l, rfl, hd, hn, hval, hlN⟩ := h
  rw [fNeg_in hz, fStr_in hz, fErr_in hz]
  have hl64 : l.length ≤ 64 := Ow.nm_len hn (by rw [hval, ← Ow.R_digits]; exact hz)
  obtain ⟨M, hM⟩ : ∃ M, M = z.natAbs := ⟨_, rfl⟩
  rw [← hM] at hval ⊢
  generalize decide (z < 0) = neg
  have HD := Lib.hid hd
  have HN := Lib.hid hn
  have HV := Lib.hid hval
  obtain ⟨-, a, cap, rfl, v1, v2, cv⟩ := hd
  obtain ⟨n, hne⟩ : ∃ n, n = (Ow.byt M).length := ⟨_, rfl⟩
  have hn4 : n ≤ 4 * l.length := by
    rw [hne]
    apply Ow.byt_len.1
    rw [Nat.pow_mul, ← hval]
    exact Ow.val_lt l hn.1
  have HNE := Lib.hid hne
  have HCV := Lib.hid cv
  obtain ⟨len, hlen⟩ : ∃ len, len = l.length := ⟨_, rfl⟩
  rw [← hlen] at hl64 hn4 v1 HD
  have HLEN := Lib.hid hlen
  rw [← hlen]
  clear hn hval hlN hN hz hM cv hne hlen
  have i1 : decide ((64 : Int) < (len : Int)) = false := by simp; omega
  have i2 : decide (64 < len) = false := by simp; omega
  go_enter Tryd.func33, Tryd.ntmps33
  go_wp2_with fail
  refine (length_any l _ _ (HD.out.later ((Gr.new w _).alloc _)) HN.out (by rw [← HLEN.out]; omega)).mono ?_
  rintro e w1 ⟨b, rfl, hb, rfl⟩
  have hbn := Ow.bitLen_bytes hb
  rw [HV.out, ← HNE.out] at hbn
  have hmk := mk_brow n (((b : Int) + 7) / 8) (by omega) (by omega)
  have i3 : (0 : Int) ≤ ((b : Int) + 7) / 8 := by omega
  have i4 : (b : Int) ≤ 2056 := by omega
  have HBN := Lib.hid hbn
  clear hbn hb
  go_wp2_with fail
  clear hmk
  obtain ⟨W, hW⟩ : ∃ W, W = ((w.alloc (.cells #[.bool neg, .slice a len cap] 56)).alloc (.cells #[.bool false, .string ⟨#[]⟩] 23)).alloc (.cells (brow n) 5) := ⟨_, rfl⟩
  rw [← hW]
  have hrow : Rt 5 W (w.heap.size + 1 + 1) (brow n) := by
    have := Rt.new 5 ((w.alloc (.cells #[.bool neg, .slice a len cap] 56)).alloc (.cells #[.bool false, .string ⟨#[]⟩] 23)) (brow n)
    rw [World.size_alloc, World.size_alloc] at this
    rw [hW]; exact this
  have g1 : Gr w W := by rw [hW]; exact ((Gr.new w _).alloc _).alloc _
  have k0 : W.cell? ⟨w.heap.size, 0, none⟩ = some (.bool neg) := by rw [hW]; simp [go_sem]
  have k1 : W.cell? ⟨w.heap.size, 1, none⟩ = some (.slice a len cap) := by rw [hW]; simp [go_sem]
  have r0 : W.cell? ⟨w.heap.size + 1, 0, none⟩ = some (.bool false) := by rw [hW]; simp [go_sem]
  have r1 : W.cell? ⟨w.heap.size + 1, 1, none⟩ = some (.string ⟨#[]⟩) := by rw [hW]; simp [go_sem]
  have e0 : W.frozen? ⟨w.heap.size + 1, 0, none⟩ = false := by rw [hW]; simp [go_sem]
  have e1 : W.frozen? ⟨w.heap.size + 1, 1, none⟩ = false := by rw [hW]; simp [go_sem]
  clear hW
  have HR0 := Lib.hid r0
  have HR1 := Lib.hid r1
  have HE0 := Lib.hid e0
  have HE1 := Lib.hid e1
  have HROW := Lib.hid hrow
  have HG := Lib.hid g1
  have HK0 := Lib.hid k0
  have HK1 := Lib.hid k1
  have hrow2 := hrow.lt
  clear r0 r1 e0 e1 hrow g1 k0 k1
  go_loopw [19] (fun i wr => ∃ k : Nat, i = .int .i64 k ∧ k ≤ n ∧ ByI M n k (w.heap.size + 1 + 1) W wr) (fun i _ => n - (intOf i).toNat)
  case atStart => exact ⟨0, rfl, by omega, ByI.start HROW.out (Below.refl _ _)⟩
  case round =>
    obtain ⟨k, rfl, hk, hby⟩ := hrel
    have HB := Lib.hid hby
    clear hby
    obtain ⟨wr0, rfl⟩ : ∃ wr0 : World, wr0 = wr := ⟨_, rfl⟩
    have c1 : wr0.cell? ⟨w.heap.size, 1, none⟩ = some (.slice a len cap) := (HB.out.below.cell (p := ⟨w.heap.size, 1, none⟩) (by simp; omega)).trans HK1.out
    by_cases hlt : k < n
    · obtain ⟨q, r, hkq, hr⟩ : ∃ q r, k = 4 * q + r ∧ r < 4 := ⟨k / 4, k % 4, by omega, by omega⟩
      have hql : q < len := by omega
      obtain ⟨gd, od, rfl, c2⟩ := HCV.out q (by rw [← HLEN.out]; exact hql)
      have hgb : gd < w.heap.size := World.block_lt_of_cell? w _ c2
      have c2 := HG.out.keeps c2
      have c2 : wr0.cell? ⟨gd, od + q, none⟩ = _ := (HB.out.below.cell (p := ⟨gd, od + q, none⟩) (by simp; omega)).trans c2
      have hx := Ow.dg_at HN.out.1 q
      have hbyte := Ow.byte_digit HN.out.1 q r hr
      rw [HV.out, ← hkq] at hbyte
      obtain ⟨x, hxe⟩ : ∃ x, x = l[q]?.getD 0 := ⟨_, rfl⟩
      rw [← hxe] at c2 hx hbyte
      obtain ⟨⟨u, c3⟩, f3⟩ := HB.out.place (j := n - 1 - k) (by omega)
      have HST := Lib.hid (HB.out.step hlt)
      have HBY := Lib.hid hbyte
      have HKQ := Lib.hid hkq
      have q1 : (k : Int) / 4 = (q : Int) := by omega
      have q2 : (k : Int) % 4 = (r : Int) := by omega
      have q3 : (0 : Int) ≤ (q : Int) := by omega
      have q4 : (q : Int) < (len : Int) := by omega
      have q5 : ((n : Int) - 1 - (k : Int)).toNat = n - 1 - k := by omega
      have q6 : (0 : Int) ≤ (n : Int) - 1 - (k : Int) := by omega
      have q7 : (n : Int) - 1 - (k : Int) < (n : Int) := by omega
      clear hxe hbyte hkq
      have hr4 : r = 0 ∨ r = 1 ∨ r = 2 ∨ r = 3 := by omega
      rcases hr4 with rfl | rfl | rfl | rfl
      · go_wp2_with fail
        go_roundw
        case rel => exact ⟨k + 1, by go_num, by omega, by have h := HST.out; rw [HBY.out] at h; simpa using h⟩
        case measure => simp [intOf]; omega
      · go_wp2_with fail
        go_roundw
        case rel => exact ⟨k + 1, by go_num, by omega, by have h := HST.out; rw [HBY.out] at h; simpa using h⟩
        case measure => simp [intOf]; omega
      · go_wp2_with fail
        go_roundw
        case rel => exact ⟨k + 1, by go_num, by omega, by have h := HST.out; rw [HBY.out] at h; simpa using h⟩
        case measure => simp [intOf]; omega
      · go_wp2_with fail
        go_roundw
        case rel => exact ⟨k + 1, by go_num, by omega, by have h := HST.out; rw [HBY.out, Nat.mod_eq_of_lt (by omega : x / 256 ^ 3 < 256)] at h; simpa using h⟩
        case measure => simp [intOf]; omega
    · obtain rfl : k = n := by omega
      have c0 : wr0.cell? ⟨w.heap.size, 0, none⟩ = some (.bool neg) := (HB.out.below.cell (p := ⟨w.heap.size, 0, none⟩) (by simp; omega)).trans HK0.out
      have r0 : wr0.cell? ⟨w.heap.size + 1, 0, none⟩ = some (.bool false) := (HB.out.below.cell (p := ⟨w.heap.size + 1, 0, none⟩) (by simp)).trans HR0.out
      have r1 : wr0.cell? ⟨w.heap.size + 1, 1, none⟩ = some (.string ⟨#[]⟩) := (HB.out.below.cell (p := ⟨w.heap.size + 1, 1, none⟩) (by simp)).trans HR1.out
      have e0 : wr0.frozen? ⟨w.heap.size + 1, 0, none⟩ = false := (World.frozen?_of_block (w := W) (HB.out.below.block _ (by simp))).trans HE0.out
      have e1 : wr0.frozen? ⟨w.heap.size + 1, 1, none⟩ = false := (World.frozen?_of_block (w := W) (HB.out.below.block _ (by simp))).trans HE1.out
      have hst := bytes_string M k _ _ _ HB.out HNE.out
      have HGG := Lib.hid (show Gr w wr0 from Below.trans HG.out (Below.mono HB.out.below (by omega)))
      go_wp2_with fail
      refine bodyPost_ret (v := .tuple #[.agg #[.bool neg, .string (bstr M)], .int .i64 0]) (by simp [results, Tryd.results33, go_sem, r0, r1]) rfl ?_
      exact ⟨rfl, (HGG.out.setCell (p := ⟨w.heap.size + 1, 0, none⟩) (by simp) _).setCell (p := ⟨w.heap.size + 1, 1, none⟩) (by simp) _⟩

theorem form_any (N : Nat) (z : Int) (v : Value) (w : World) (h : HasI N w v z) (hN : N ≤ 100000) :
    Calls Tryd.prog 33 #[v] w (Res (fNeg z) (fStr z) (fErr z) w) := by
  by_cases hz : z.natAbs < Ow.R
  · exact form_short N z v w h hN hz
  · exact form_long N z v w h hN hz
end Go.Proofs.YtgalgldnhdiggaaDoor
