import Derived.Test.YtlfiakpmnkhcdaaLWE
import Derived.Laws.IdiomStrings
import Derived.Deep.RegionHeld3
import Derived.Laws.Rows
import Derived.Laws.CopyOwn
namespace Ow
set_option linter.unusedVariables false
theorem val_digit : ∀ (l : List Nat) (q : Nat), Dg l → val l / 4294967296 ^ q % 4294967296 = l[q]?.getD 0
  | [], q, _ => by simp [val]
  | d :: l, 0, h => by
    have := h d (List.mem_cons_self ..)
    simp [val]; omega
  | d :: l, q + 1, h => by
    have h1 := h d (List.mem_cons_self ..)
    have ih := val_digit l q (fun x hx => h x (List.mem_cons_of_mem _ hx))
    simp only [val, List.getElem?_cons_succ]
    rw [Nat.pow_succ, Nat.mul_comm (4294967296 ^ q), ← Nat.div_div_eq_div_mul, show (d + 4294967296 * val l) / 4294967296 = val l by omega]
    exact ih
theorem byte_digit {l : List Nat} (h : Dg l) (q r : Nat) (hr : r < 4) : val l / 256 ^ (4 * q + r) % 256 = l[q]?.getD 0 / 256 ^ r % 256 := by
  rw [← val_digit l q h, Nat.pow_add, Nat.pow_mul, ← Nat.div_div_eq_div_mul]
  rw [show (256 : Nat) ^ 4 = 4294967296 from rfl]
  generalize val l / 4294967296 ^ q = X
  have : r = 0 ∨ r = 1 ∨ r = 2 ∨ r = 3 := by omega
  rcases this with rfl | rfl | rfl | rfl <;> simp <;> omega
theorem bitLen_bytes {M b : Nat} (h : BitLen M b) : (b + 7) / 8 = (byt M).length := by
  obtain ⟨h1, h2, h3⟩ := h
  rcases Nat.eq_zero_or_pos M with h0 | h0
  · rw [h3 h0, h0, byt_zero]; rfl
  · have h2 := h2 h0
    have a : (byt M).length ≤ (b + 7) / 8 := byt_len.1 (by
      rw [show (256 : Nat) = 2 ^ 8 from rfl, ← Nat.pow_mul]
      exact Nat.lt_of_lt_of_le h1 (Nat.pow_le_pow_right (by omega) (by omega)))
    have c := byt_lt M
    rw [show (256 : Nat) = 2 ^ 8 from rfl, ← Nat.pow_mul] at c
    have d := (Nat.pow_lt_pow_iff_right (by omega : 1 < 2)).1 (Nat.lt_of_le_of_lt h2.2 c)
    omega
end Ow
namespace Go.Proofs.Ytlfiakpmnkhcdaa
open Go.RowKit
set_option linter.unusedVariables false
theorem infoU8 : (Try.prog.info? 5).map (fun i => (i.zero, i.size, i.bytes)) = some (some (.int .u8 0), 1, 1) := by kernel_rfl
def brow (n : Nat) : Array Value := madeCells #[.int .u8 0] n
theorem brow_size (n : Nat) : (brow n).size = n := size_madeCells _ _
theorem mk_brow (n : Nat) (L : Int) (hL : L = n) (hn : n ≤ 1000000) (w : World) : (Instr.makeSlice 84 (.int .i64 L) (.int .i64 L)).run Try.prog w = .ok (.slice (some ⟨w.heap.size, 0, none⟩) n n) (w.alloc (.cells (brow n) 5)) := by
  obtain ⟨i0, hi, hz0, hz1, hz2⟩ := info_parts infoU8
  subst hL
  have := run_make (P := Try.prog) w 84 5 i0 (.int .u8 0) Try.underlying84 hi hz0 .i64 .i64 (n : Int) (n : Int) (by omega) (Int.le_refl _) (by rw [hz2]; omega) (by omega)
  rw [this, hz1, Int.toNat_natCast, Nat.mul_one]
  rfl
def Rt (T : TypeId) (W : World) (g : Nat) (cur : Array Value) : Prop := W.heap[g]? = some (.cells cur T (0, 0))
theorem Rt.cell {T : TypeId} {W : World} {g : Nat} {cur : Array Value} (h : Rt T W g cur) (j : Nat) : W.cell? ⟨g, j, none⟩ = cur[j]? := by
  simp [World.cell?, show W.heap[g]? = _ from h]
theorem Rt.frozen {T : TypeId} {W : World} {g : Nat} {cur : Array Value} (h : Rt T W g cur) (j : Nat) : W.frozen? ⟨g, j, none⟩ = false := by
  simp [World.frozen?, show W.heap[g]? = _ from h]
theorem Rt.set {T : TypeId} {W : World} {g : Nat} {cur : Array Value} (h : Rt T W g cur) (j : Nat) (u : Value) : Rt T (W.setCell ⟨g, j, none⟩ u) g (cur.setIfInBounds j u) := by
  obtain ⟨hlt, hk⟩ := Array.getElem?_eq_some_iff.1 (show W.heap[g]? = _ from h)
  show (W.heap.modify g _)[g]? = _
  rw [Array.getElem?_eq_getElem (by rw [Array.size_modify]; exact hlt), Array.getElem_modify_self, hk]
  rfl
theorem Rt.new (T : TypeId) (w : World) (cur : Array Value) : Rt T (w.alloc (.cells cur T)) w.heap.size cur := heap_alloc_new w _
theorem Rt.lt {T : TypeId} {W : World} {g : Nat} {cur : Array Value} (h : Rt T W g cur) : g < W.heap.size := (Array.getElem?_eq_some_iff.1 (show W.heap[g]? = _ from h)).1
def ByI (M n k g : Nat) (W wr : World) : Prop := ∃ cur, Rt 5 wr g cur ∧ cur.size = n ∧ (∀ j, j < k → cur[n - 1 - j]? = some (.int .u8 ((M / 256 ^ j % 256 : Nat) : Int))) ∧ Below g W wr
theorem ByI.start {M n g : Nat} {W wr : World} (h : Rt 5 wr g (brow n)) (hb : Below g W wr) : ByI M n 0 g W wr :=
  ⟨_, h, brow_size n, fun j hj => absurd hj (Nat.not_lt_zero _), hb⟩
theorem ByI.step {M n k g : Nat} {W wr : World} (h : ByI M n k g W wr) (hk : k < n) : ByI M n (k + 1) g W (wr.setCell ⟨g, n - 1 - k, none⟩ (.int .u8 ((M / 256 ^ k % 256 : Nat) : Int))) := by
  obtain ⟨cur, h1, h2, h3, h4⟩ := h
  refine ⟨_, h1.set _ _, by simpa using h2, fun j hj => ?_, h4.setCell (Nat.le_refl _) _⟩
  rw [Array.getElem?_setIfInBounds]
  by_cases e : k = j
  · subst e
    rw [if_pos rfl, if_pos (by omega)]
  · rw [if_neg (by omega)]
    exact h3 j (by omega)
theorem ByI.below {M n k g : Nat} {W wr : World} (h : ByI M n k g W wr) : Below g W wr := by obtain ⟨_, _, _, _, h⟩ := h; exact h
theorem ByI.place {M n k g : Nat} {W wr : World} (h : ByI M n k g W wr) {j : Nat} (hj : j < n) : (∃ u, wr.cell? ⟨g, j, none⟩ = some u) ∧ wr.frozen? ⟨g, j, none⟩ = false := by
  obtain ⟨cur, h1, h2, _⟩ := h
  refine ⟨⟨cur[j]'(by omega), ?_⟩, h1.frozen j⟩
  rw [h1.cell, Array.getElem?_eq_getElem (by omega)]
theorem ByI.all {M n g : Nat} {W wr : World} (h : ByI M n n g W wr) (hn : n = (Ow.byt M).length) : ∀ j (hj : j < (Ow.byt M).length), wr.cell? ((⟨g, 0, none⟩ : Addr).add j) = some (.int .u8 ((Ow.byt M)[j].toNat : Int)) := by
  intro j hj
  obtain ⟨cur, h1, h2, h3, _⟩ := h
  have e2 : (⟨g, 0, none⟩ : Addr).add j = ⟨g, j, none⟩ := by unfold Addr.add; split <;> simp_all
  rw [e2, h1.cell]
  have a := h3 (n - 1 - j) (by omega)
  have b := Ow.byt_at M (n - 1 - j) (by omega)
  rw [show n - 1 - (n - 1 - j) = j by omega] at a
  rw [← hn, show n - 1 - (n - 1 - j) = j by omega, List.getElem?_eq_getElem hj] at b
  have b := Option.some.inj b
  rw [a, b, UInt8.toNat_ofNat']
  have : M / 256 ^ (n - 1 - j) % 256 % 2 ^ 8 = M / 256 ^ (n - 1 - j) % 256 := by omega
  rw [this]
theorem bytes_string (M n g : Nat) (W wr : World) (h : ByI M n n g W wr) (hn : n = (Ow.byt M).length) : (convert 84 9 (.slice (some ⟨g, 0, none⟩) n n)).run Try.prog wr = .ok (.string (bstr M)) wr := by
  have := run_convert_bytes_back (P := Try.prog) wr 84 9 5 ⟨g, 0, none⟩ n (Ow.byt M) Try.underlying84 Try.underlying5 Try.underlying9 (h.all hn)
  rw [← hn] at this
  exact this
set_option maxRecDepth 100000 in
set_option maxHeartbeats 1000000 in
theorem form_long (N : Nat) (z : Int) (v : Value) (w : World) (h : HasI N w v z) (hN : N ≤ 100000) (hz : ¬ z.natAbs < Ow.R) :
    Calls Try.prog 45 #[v] w (Res (fNeg z) (fStr z) (fErr z) w) := by
  obtain ⟨s, l, rfl, hd, hn, hval, hlN⟩ := h
  have hl64 : 64 < l.length := by
    apply Classical.byContradiction; intro h
    apply hz
    have := Ow.val_lt l hd.1
    rw [hval] at this
    rw [Ow.R_digits]
    exact Nat.lt_of_lt_of_le this (Nat.pow_le_pow_right (by omega) (by omega))
  obtain ⟨-, a, cap, rfl, -, -, -⟩ := id hd
  rw [fNeg_out hz, fStr_out hz, fErr_out hz]
  have i1 : (64 : Int) < (l.length : Int) := by omega
  generalize decide (z < 0) = neg
  clear hd hn hval hz
  go_enter Try.func45, Try.ntmps45
  go_wp2_with fail
  refine bodyPost_ret (v := .tuple #[.agg #[.bool false, .string ⟨#[]⟩], .int .i64 7]) (by simp [results, Try.results45, go_sem]) rfl ?_
  exact ⟨rfl, (Gr.new w _).alloc _⟩
set_option maxRecDepth 100000 in
set_option maxHeartbeats 2000000 in
theorem form_short (N : Nat) (z : Int) (v : Value) (w : World) (h : HasI N w v z) (hN : N ≤ 100000) (hz : z.natAbs < Ow.R) :
    Calls Try.prog 45 #[v] w (Res (fNeg z) (fStr z) (fErr z) w) := by
  obtain ⟨s, l, rfl, hd, hn, hval, hlN⟩ := h
  rw [fNeg_in hz, fStr_in hz, fErr_in hz]
  have hl64 : l.length ≤ 64 := Ow.nm_len hn (by rw [hval, ← Ow.R_digits]; exact hz)
  obtain ⟨M, hM⟩ : ∃ M, M = z.natAbs := ⟨_, rfl⟩
  rw [← hM] at hval ⊢
  generalize decide (z < 0) = neg
  have HD := Lib.hid hd
  have HN := Lib.hid hn
  have HV := Lib.hid hval
  obtain ⟨-, a, cap, rfl, v1, v2, cv⟩ := hd
  obtain ⟨n, hne⟩ : ∃ n, n = (Ow.byt M).length := ⟨_, rfl⟩
  have hn4 : n ≤ 4 * l.length := by
    rw [hne]
    apply Ow.byt_len.1
    rw [Nat.pow_mul, ← hval]
    exact Ow.val_lt l hn.1
  have HNE := Lib.hid hne
  have HCV := Lib.hid cv
  obtain ⟨len, hlen⟩ : ∃ len, len = l.length := ⟨_, rfl⟩
  rw [← hlen] at hl64 hn4 v1 HD
  have HLEN := Lib.hid hlen
  rw [← hlen]
  clear hn hval hlN hN hz hM cv hne hlen
  have i1 : decide ((64 : Int) < (len : Int)) = false := by simp; omega
  have i2 : decide (64 < len) = false := by simp; omega
  go_enter Try.func45, Try.ntmps45
  go_wp2_with fail
  refine (length_any l _ _ (HD.out.later ((Gr.new w _).alloc _)) HN.out (by rw [← HLEN.out]; omega)).mono ?_
  rintro e w1 ⟨b, rfl, hb, rfl⟩
  have hbn := Ow.bitLen_bytes hb
  rw [HV.out, ← HNE.out] at hbn
  have hmk := mk_brow n (((b : Int) + 7) / 8) (by omega) (by omega)
  have i3 : (0 : Int) ≤ ((b : Int) + 7) / 8 := by omega
  have i4 : (b : Int) ≤ 2056 := by omega
  have HBN := Lib.hid hbn
  clear hbn hb
  go_wp2_with fail
  clear hmk
  obtain ⟨W, hW⟩ : ∃ W, W = ((w.alloc (.cells #[.bool neg, .slice a len cap] 87)).alloc (.cells #[.bool false, .string ⟨#[]⟩] 42)).alloc (.cells (brow n) 5) := ⟨_, rfl⟩
  rw [← hW]
  have hrow : Rt 5 W (w.heap.size + 1 + 1) (brow n) := by
    have := Rt.new 5 ((w.alloc (.cells #[.bool neg, .slice a len cap] 87)).alloc (.cells #[.bool false, .string ⟨#[]⟩] 42)) (brow n)
    rw [World.size_alloc, World.size_alloc] at this
    rw [hW]; exact this
  have g1 : Gr w W := by rw [hW]; exact ((Gr.new w _).alloc _).alloc _
  have k0 : W.cell? ⟨w.heap.size, 0, none⟩ = some (.bool neg) := by rw [hW]; simp [go_sem]
  have k1 : W.cell? ⟨w.heap.size, 1, none⟩ = some (.slice a len cap) := by rw [hW]; simp [go_sem]
  have r0 : W.cell? ⟨w.heap.size + 1, 0, none⟩ = some (.bool false) := by rw [hW]; simp [go_sem]
  have r1 : W.cell? ⟨w.heap.size + 1, 1, none⟩ = some (.string ⟨#[]⟩) := by rw [hW]; simp [go_sem]
  have e0 : W.frozen? ⟨w.heap.size + 1, 0, none⟩ = false := by rw [hW]; simp [go_sem]
  have e1 : W.frozen? ⟨w.heap.size + 1, 1, none⟩ = false := by rw [hW]; simp [go_sem]
  clear hW
  have HR0 := Lib.hid r0
  have HR1 := Lib.hid r1
  have HE0 := Lib.hid e0
  have HE1 := Lib.hid e1
  have HROW := Lib.hid hrow
  have HG := Lib.hid g1
  have HK0 := Lib.hid k0
  have HK1 := Lib.hid k1
  have hrow2 := hrow.lt
  clear r0 r1 e0 e1 hrow g1 k0 k1
  go_loopw [19] (fun i wr => ∃ k : Nat, i = .int .i64 k ∧ k ≤ n ∧ ByI M n k (w.heap.size + 1 + 1) W wr) (fun i _ => n - (intOf i).toNat)
  case atStart => exact ⟨0, rfl, by omega, ByI.start HROW.out (Below.refl _ _)⟩
  case round =>
    obtain ⟨k, rfl, hk, hby⟩ := hrel
    have HB := Lib.hid hby
    clear hby
    obtain ⟨wr0, rfl⟩ : ∃ wr0 : World, wr0 = wr := ⟨_, rfl⟩
    have c1 : wr0.cell? ⟨w.heap.size, 1, none⟩ = some (.slice a len cap) := (HB.out.below.cell (p := ⟨w.heap.size, 1, none⟩) (by simp; omega)).trans HK1.out
    by_cases hlt : k < n
    · obtain ⟨q, r, hkq, hr⟩ : ∃ q r, k = 4 * q + r ∧ r < 4 := ⟨k / 4, k % 4, by omega, by omega⟩
      have hql : q < len := by omega
      obtain ⟨gd, od, rfl, c2⟩ := HCV.out q (by rw [← HLEN.out]; exact hql)
      have hgb : gd < w.heap.size := World.block_lt_of_cell? w _ c2
      have c2 := HG.out.keeps c2
      have c2 : wr0.cell? ⟨gd, od + q, none⟩ = _ := (HB.out.below.cell (p := ⟨gd, od + q, none⟩) (by simp; omega)).trans c2
      have hx := Ow.dg_at HN.out.1 q
      have hbyte := Ow.byte_digit HN.out.1 q r hr
      rw [HV.out, ← hkq] at hbyte
      obtain ⟨x, hxe⟩ : ∃ x, x = l[q]?.getD 0 := ⟨_, rfl⟩
      rw [← hxe] at c2 hx hbyte
      obtain ⟨⟨u, c3⟩, f3⟩ := HB.out.place (j := n - 1 - k) (by omega)
      have HST := Lib.hid (HB.out.step hlt)
      have HBY := Lib.hid hbyte
      have HKQ := Lib.hid hkq
      have q1 : (k : Int) / 4 = (q : Int) := by omega
      have q2 : (k : Int) % 4 = (r : Int) := by omega
      have q3 : (0 : Int) ≤ (q : Int) := by omega
      have q4 : (q : Int) < (len : Int) := by omega
      have q5 : ((n : Int) - 1 - (k : Int)).toNat = n - 1 - k := by omega
      have q6 : (0 : Int) ≤ (n : Int) - 1 - (k : Int) := by omega
      have q7 : (n : Int) - 1 - (k : Int) < (n : Int) := by omega
      clear hxe hbyte hkq
      have hr4 : r = 0 ∨ r = 1 ∨ r = 2 ∨ r = 3 := by omega
      rcases hr4 with rfl | rfl | rfl | rfl
      · go_wp2_with fail
        go_roundw
        case rel => exact ⟨k + 1, by go_num, by omega, by have h := HST.out; rw [HBY.out] at h; simpa using h⟩
        case measure => simp [intOf]; omega
      · go_wp2_with fail
        go_roundw
        case rel => exact ⟨k + 1, by go_num, by omega, by have h := HST.out; rw [HBY.out] at h; simpa using h⟩
        case measure => simp [intOf]; omega
      · go_wp2_with fail
        go_roundw
        case rel => exact ⟨k + 1, by go_num, by omega, by have h := HST.out; rw [HBY.out] at h; simpa using h⟩
        case measure => simp [intOf]; omega
      · go_wp2_with fail
        go_roundw
        case rel => exact ⟨k + 1, by go_num, by omega, by have h := HST.out; rw [HBY.out, Nat.mod_eq_of_lt (by omega : x / 256 ^ 3 < 256)] at h; simpa using h⟩
        case measure => simp [intOf]; omega
    · obtain rfl : k = n := by omega
      have c0 : wr0.cell? ⟨w.heap.size, 0, none⟩ = some (.bool neg) := (HB.out.below.cell (p := ⟨w.heap.size, 0, none⟩) (by simp; omega)).trans HK0.out
      have r0 : wr0.cell? ⟨w.heap.size + 1, 0, none⟩ = some (.bool false) := (HB.out.below.cell (p := ⟨w.heap.size + 1, 0, none⟩) (by simp)).trans HR0.out
      have r1 : wr0.cell? ⟨w.heap.size + 1, 1, none⟩ = some (.string ⟨#[]⟩) := (HB.out.below.cell (p := ⟨w.heap.size + 1, 1, none⟩) (by simp)).trans HR1.out
      have e0 : wr0.frozen? ⟨w.heap.size + 1, 0, none⟩ = false := (World.frozen?_of_block (w := W) (HB.out.below.block _ (by simp))).trans HE0.out
      have e1 : wr0.frozen? ⟨w.heap.size + 1, 1, none⟩ = false := (World.frozen?_of_block (w := W) (HB.out.below.block _ (by simp))).trans HE1.out
      have hst := bytes_string M k _ _ _ HB.out HNE.out
      have HGG := Lib.hid (show Gr w wr0 from Below.trans HG.out (Below.mono HB.out.below (by omega)))
      go_wp2_with fail
      refine bodyPost_ret (v := .tuple #[.agg #[.bool neg, .string (bstr M)], .int .i64 0]) (by simp [results, Try.results45, go_sem, r0, r1]) rfl ?_
      exact ⟨rfl, (HGG.out.setCell (p := ⟨w.heap.size + 1, 0, none⟩) (by simp) _).setCell (p := ⟨w.heap.size + 1, 1, none⟩) (by simp) _⟩
theorem form_any (N : Nat) (z : Int) (v : Value) (w : World) (h : HasI N w v z) (hN : N ≤ 100000) :
    Calls Try.prog 45 #[v] w (Res (fNeg z) (fStr z) (fErr z) w) := by
  by_cases hz : z.natAbs < Ow.R
  · exact form_short N z v w h hN hz
  · exact form_long N z v w h hN hz
end Go.Proofs.Ytlfiakpmnkhcdaa
namespace Go.Proofs.Ytlfiakpmnkhcdaa
open Go.RowKit
set_option linter.unusedVariables false
def Enters (n : Nat) : Prop := ∀ (args : Array Value) (w : World), (callFunc n args).run Try.prog w = .ok (.enter n args) w
theorem enters_of {n : Nat} {fn : Func} (hf : Try.prog.funcs[n]? = some fn) (hname : (fn.name == "runtime.NumGoroutine") = false) (hb : fn.body.isSome = true) : Enters n := fun args w => by
  obtain ⟨c, hb⟩ := Option.isSome_iff_exists.1 hb
  have h1 : fn.name ≠ "runtime.NumGoroutine" := by simpa using hname
  simp [callFunc, hf, h1, hb]
set_option maxRecDepth 100000 in
set_option maxHeartbeats 1000000 in
theorem unary_ok (n N : Nat) (caps : Array Value) (z : Int) (neg : Bool) (s : ByteArray) (w : World) (h : Form neg s) (hN : N ≤ 100000) (hen : Enters n)
    (hop : ∀ W v, Gr w W → HasI 64 W v (zOf neg s) → Calls Try.prog n (#[v] ++ caps) W (IntZ N z W)) :
    Calls Try.prog 47 #[.agg #[.bool neg, .string s], .func (.func n) #[] caps] w (Res (fNeg z) (fStr z) (fErr z) w) := by
  have HF := Lib.hid h
  have hs : s.size ≤ 256 := by rcases h with ⟨h0, _⟩ | ⟨_, h2, _⟩ <;> omega
  have HOP := Lib.hid hop
  have HEN := Lib.hid hen
  clear h hop hen
  go_enter Try.func47, Try.ntmps47
  go_wp2_with fail
  refine (valid_any neg s _ (by omega)).mono ?_
  rintro e w1 ⟨r, rfl, hr, g1⟩
  obtain rfl : r = true := hr.2 HF.out
  clear hr
  have g0 : Gr w ((w.alloc (.cells #[.bool neg, .string s] 42)).alloc (.cells #[.bool false, .string ⟨#[]⟩] 42)) := (Gr.new w _).alloc _
  have k0 := g1.keeps (p := ⟨w.heap.size, 0, none⟩) (v := .bool neg) (by simp [go_sem])
  have k1 := g1.keeps (p := ⟨w.heap.size, 1, none⟩) (v := .string s) (by simp [go_sem])
  have r0 := g1.keeps (p := ⟨w.heap.size + 1, 0, none⟩) (v := .bool false) (by simp [go_sem])
  have r1 := g1.keeps (p := ⟨w.heap.size + 1, 1, none⟩) (v := .string ⟨#[]⟩) (by simp [go_sem])
  have f0 := g1.frozen (p := ⟨w.heap.size + 1, 0, none⟩) (v := .bool false) (by simp [go_sem]) (by simp [go_sem])
  have f1 := g1.frozen (p := ⟨w.heap.size + 1, 1, none⟩) (v := .string ⟨#[]⟩) (by simp [go_sem]) (by simp [go_sem])
  have HR0 := Lib.hid r0
  have HR1 := Lib.hid r1
  have HE0 := Lib.hid f0
  have HE1 := Lib.hid f1
  have HG := Lib.hid (g0.trans g1)
  clear g0 g1 r0 r1 f0 f1
  go_wp2_with fail
  refine (integerOf_form neg s _ HF.out).mono ?_
  rintro e w2 ⟨v, rfl, hv, g2⟩
  have HV := Lib.hid hv
  have HG2 := Lib.hid g2
  clear hv g2
  go_wp2_with fail
  rw [HEN.out, Oper.upon_enter]
  refine (HOP.out _ v (HG.out.trans HG2.out) HV.out).mono ?_
  rintro e w3 ⟨u, rfl, hu, g3⟩
  have HU := Lib.hid hu
  have HG3 := Lib.hid (HG2.out.trans g3)
  clear hu g3
  go_wp2_with fail
  refine (form_any N z u _ HU.out hN).mono ?_
  rintro e w4 ⟨rfl, g4⟩
  have g := HG3.out.trans g4
  have r0 := g.keeps HR0.out
  have r1 := g.keeps HR1.out
  have f0 := g.frozen HR0.out HE0.out
  have f1 := g.frozen HR1.out HE1.out
  have HGG := Lib.hid (HG.out.trans g)
  clear g g4
  go_wp2_with fail
  refine bodyPost_ret (v := .tuple #[.agg #[.bool (fNeg z), .string (fStr z)], .int .i64 (fErr z)]) (by simp [results, Try.results47, go_sem, r0, r1]) rfl ?_
  exact ⟨rfl, (HGG.out.setCell (p := ⟨w.heap.size + 1, 0, none⟩) (by simp) _).setCell (p := ⟨w.heap.size + 1, 1, none⟩) (by simp) _⟩
set_option maxRecDepth 100000 in
set_option maxHeartbeats 2000000 in
theorem binary_ok (n N : Nat) (caps : Array Value) (z : Int) (neg : Bool) (s : ByteArray) (neg' : Bool) (s' : ByteArray) (w : World) (h : Form neg s) (h' : Form neg' s') (hN : N ≤ 100000) (hen : Enters n)
    (hop : ∀ W u v, Gr w W → HasI 64 W u (zOf neg s) → HasI 64 W v (zOf neg' s') → Calls Try.prog n (#[u, v] ++ caps) W (IntZ N z W)) :
    Calls Try.prog 49 #[.agg #[.bool neg, .string s], .agg #[.bool neg', .string s'], .func (.func n) #[] caps] w (Res (fNeg z) (fStr z) (fErr z) w) := by
  have HF := Lib.hid h
  have HF' := Lib.hid h'
  have hs : s.size ≤ 256 := by rcases h with ⟨h0, _⟩ | ⟨_, h2, _⟩ <;> omega
  have hs' : s'.size ≤ 256 := by rcases h' with ⟨h0, _⟩ | ⟨_, h2, _⟩ <;> omega
  have HOP := Lib.hid hop
  have HEN := Lib.hid hen
  clear h h' hop hen
  go_enter Try.func49, Try.ntmps49
  go_wp2_with fail
  refine (valid_any neg s _ (by omega)).mono ?_
  rintro e w1 ⟨r, rfl, hr, g1⟩
  obtain rfl : r = true := hr.2 HF.out
  clear hr
  have g0 : Gr w (((w.alloc (.cells #[.bool neg, .string s] 42)).alloc (.cells #[.bool neg', .string s'] 42)).alloc (.cells #[.bool false, .string ⟨#[]⟩] 42)) := ((Gr.new w _).alloc _).alloc _
  have x0 := g1.keeps (p := ⟨w.heap.size, 0, none⟩) (v := .bool neg) (by simp [go_sem])
  have x1 := g1.keeps (p := ⟨w.heap.size, 1, none⟩) (v := .string s) (by simp [go_sem])
  have y0 := g1.keeps (p := ⟨w.heap.size + 1, 0, none⟩) (v := .bool neg') (by simp [go_sem])
  have y1 := g1.keeps (p := ⟨w.heap.size + 1, 1, none⟩) (v := .string s') (by simp [go_sem])
  have r0 := g1.keeps (p := ⟨w.heap.size + 1 + 1, 0, none⟩) (v := .bool false) (by simp [go_sem])
  have r1 := g1.keeps (p := ⟨w.heap.size + 1 + 1, 1, none⟩) (v := .string ⟨#[]⟩) (by simp [go_sem])
  have f0 := g1.frozen (p := ⟨w.heap.size + 1 + 1, 0, none⟩) (v := .bool false) (by simp [go_sem]) (by simp [go_sem])
  have f1 := g1.frozen (p := ⟨w.heap.size + 1 + 1, 1, none⟩) (v := .string ⟨#[]⟩) (by simp [go_sem]) (by simp [go_sem])
  have HG := Lib.hid (g0.trans g1)
  have R0 := Lib.hid r0
  have R1 := Lib.hid r1
  have F0 := Lib.hid f0
  have F1 := Lib.hid f1
  clear g0 g1 r0 r1 f0 f1
  go_wp2_with fail
  refine (valid_any neg' s' _ (by omega)).mono ?_
  rintro e w2 ⟨r, rfl, hr, g1⟩
  obtain rfl : r = true := hr.2 HF'.out
  clear hr
  have x0 := g1.keeps x0
  have x1 := g1.keeps x1
  have y0 := g1.keeps y0
  have y1 := g1.keeps y1
  have F0 := Lib.hid (g1.frozen R0.out F0.out)
  have F1 := Lib.hid (g1.frozen R1.out F1.out)
  have R0 := Lib.hid (g1.keeps R0.out)
  have R1 := Lib.hid (g1.keeps R1.out)
  have HG := Lib.hid (HG.out.trans g1)
  have hen : ∀ (args : Array Value) (w : World), (callFunc n args).run Try.prog w = .ok (.enter n args) w := HEN.out
  have n1 : ¬ (w.heap.size = w.heap.size + 1 + 1) := by omega
  have n2 : ¬ (w.heap.size + 1 + 1 = w.heap.size) := by omega
  clear g1
  go_wp2_with fail
  go_region_held3 (fun w' => w'.cell? ⟨w.heap.size, 0, none⟩ = some (.bool neg) ∧ w'.cell? ⟨w.heap.size, 1, none⟩ = some (.string s) ∧ w'.cell? ⟨w.heap.size + 1, 0, none⟩ = some (.bool neg') ∧ w'.cell? ⟨w.heap.size + 1, 1, none⟩ = some (.string s')) (first | exact ⟨x0, x1, y0, y1⟩ | go_keep)
    (first
      | (go_at_call 70; (with_reducible refine (integerOf_form neg s _ HF.out).mono ?_); rintro e w' ⟨u, rfl, hv, g⟩; (try (have g := Gr.trans (show Gr w2 w2.drew from Below.drew (Gr.refl w2)) g)); have x0 := g.keeps x0; have x1 := g.keeps x1; have y0 := g.keeps y0; have y1 := g.keeps y1; have HX := Lib.hid hv; (try have HY := Lib.hid (HY.out.later g)); have F0 := Lib.hid (g.frozen R0.out F0.out); have F1 := Lib.hid (g.frozen R1.out F1.out); have R0 := Lib.hid (g.keeps R0.out); have R1 := Lib.hid (g.keeps R1.out); have HG := Lib.hid (HG.out.trans g); clear hv g)
      | (go_at_call 70; (with_reducible refine (integerOf_form neg' s' _ HF'.out).mono ?_); rintro e w' ⟨v, rfl, hv, g⟩; (try (have g := Gr.trans (show Gr w2 w2.drew from Below.drew (Gr.refl w2)) g)); have x0 := g.keeps x0; have x1 := g.keeps x1; have y0 := g.keeps y0; have y1 := g.keeps y1; (try have HX := Lib.hid (HX.out.later g)); have HY := Lib.hid hv; have F0 := Lib.hid (g.frozen R0.out F0.out); have F1 := Lib.hid (g.frozen R1.out F1.out); have R0 := Lib.hid (g.keeps R0.out); have R1 := Lib.hid (g.keeps R1.out); have HG := Lib.hid (HG.out.trans g); clear hv g)
      | (go_at_call 45; (with_reducible refine (form_any N z _ _ HU.out hN).mono ?_); rintro e w' ⟨rfl, g⟩; have x0 := g.keeps x0; have x1 := g.keeps x1; have y0 := g.keeps y0; have y1 := g.keeps y1; have f0 := g.frozen R0.out F0.out; have f1 := g.frozen R1.out F1.out; have r0 := g.keeps R0.out; have r1 := g.keeps R1.out; have HG := Lib.hid (HG.out.trans g); clear g)
      | ((with_reducible refine (HOP.out _ _ _ HG.out HX.out HY.out).mono ?_); rintro e w' ⟨t, rfl, hv, g⟩; have x0 := g.keeps x0; have x1 := g.keeps x1; have y0 := g.keeps y0; have y1 := g.keeps y1; have HU := Lib.hid hv; have F0 := Lib.hid (g.frozen R0.out F0.out); have F1 := Lib.hid (g.frozen R1.out F1.out); have R0 := Lib.hid (g.keeps R0.out); have R1 := Lib.hid (g.keeps R1.out); have HG := Lib.hid (HG.out.trans g); clear hv g))
  all_goals
    go_wp2_with fail
    refine bodyPost_ret (v := .tuple #[.agg #[.bool (fNeg z), .string (fStr z)], .int .i64 (fErr z)]) (by simp [results, Try.results49, go_sem, r0, r1]) rfl ?_
    exact ⟨rfl, (HG.out.setCell (p := ⟨w.heap.size + 1 + 1, 0, none⟩) (by simp; omega) _).setCell (p := ⟨w.heap.size + 1 + 1, 1, none⟩) (by simp; omega) _⟩
end Go.Proofs.Ytlfiakpmnkhcdaa
namespace Ow
set_option linter.unusedVariables false
theorem val_set : ∀ (L : List Nat) (j d : Nat), j < L.length → val (L.set j d) + 4294967296 ^ j * (L[j]?.getD 0) = val L + 4294967296 ^ j * d
  | [], j, d, h => by simp at h
  | x :: L, 0, d, h => by simp [val]; omega
  | x :: L, j + 1, d, h => by
    have := val_set L j d (by simpa using h)
    simp only [List.set_cons_succ, val, List.getElem?_cons_succ, Nat.pow_succ]
    have e : ∀ y : Nat, 4294967296 ^ j * 4294967296 * y = 4294967296 * (4294967296 ^ j * y) := fun y => by rw [Nat.mul_comm (4294967296 ^ j), Nat.mul_assoc]
    rw [e, e]; omega
theorem dg_set {L : List Nat} (h : Dg L) (j : Nat) {d : Nat} (hd : d < 4294967296) : Dg (L.set j d) := fun x hx => by
  rcases List.mem_or_eq_of_mem_set hx with hx | rfl
  · exact h x hx
  · exact hd
theorem val_rep (n : Nat) : val (List.replicate n 0) = 0 := by
  induction n with
  | zero => rfl
  | succ n ih => simp [List.replicate_succ, val, ih]
theorem rep_at (n j : Nat) : (List.replicate n 0)[j]?.getD 0 = 0 := by
  rw [List.getElem?_replicate]; split <;> rfl
theorem dg_rep (n : Nat) : Dg (List.replicate n 0) := fun x hx => by rw [List.eq_of_mem_replicate hx]; omega
def RowI (L m : List Nat) (d o k : Nat) (cur : List Nat) (c : Nat) : Prop :=
  cur.length = L.length ∧ Dg cur ∧ c < 4294967296 ∧ (∀ j, o + m.length ≤ j → cur[j]?.getD 0 = L[j]?.getD 0) ∧
  val cur + c * 4294967296 ^ (o + k) = val L + 4294967296 ^ o * (d * val (m.take k))
theorem RowI.start {L : List Nat} (m : List Nat) (d o : Nat) (hL : Dg L) : RowI L m d o 0 L 0 := ⟨rfl, hL, by omega, fun _ _ => rfl, by simp [val]⟩
theorem RowI.step {L m cur : List Nat} {d o k c : Nat} (h : RowI L m d o k cur c) (hm : Dg m) (hd : d < 4294967296) (ho : o + m.length < L.length) (hk : k < m.length) {s : Nat} (hs : s = c + (cur[o + k]?.getD 0 + m[k]?.getD 0 * d)) :
    s ≤ 18446744073709551615 ∧ RowI L m d o (k + 1) (cur.set (o + k) (s % 4294967296)) (s / 4294967296) := by
  obtain ⟨h1, h2, h3, h4, h5⟩ := h
  have x2 := dg_at hm k
  have x3 := dg_at h2 (o + k)
  have hmm := mul_digit x2 hd
  refine ⟨by omega, by simpa using h1, dg_set h2 _ (Nat.mod_lt _ (by omega)), by omega, fun j hj => ?_, ?_⟩
  · rw [List.getElem?_set_ne (by omega)]; exact h4 j hj
  · have hv := val_set cur (o + k) (s % 4294967296) (by omega)
    rw [val_take_succ]
    generalize m[k]?.getD 0 = y at *
    generalize cur[o + k]?.getD 0 = z at *
    have e1 : 4294967296 ^ o * (d * (4294967296 ^ k * y)) = 4294967296 ^ (o + k) * (y * d) := by
      rw [Nat.pow_add, Nat.mul_left_comm d, Nat.mul_assoc, Nat.mul_comm d]
    rw [Nat.mul_add d, Nat.mul_add (4294967296 ^ o), e1, show o + (k + 1) = (o + k) + 1 by omega, Nat.pow_succ]
    generalize 4294967296 ^ (o + k) = P at *
    have e2 : P * s = P * c + (P * z + P * (y * d)) := by rw [hs, Nat.mul_add, Nat.mul_add]
    have e3 : P * s = P * (s % 4294967296) + P * (4294967296 * (s / 4294967296)) := by rw [← Nat.mul_add]; congr 1; omega
    have e4 : s / 4294967296 * (P * 4294967296) = P * (4294967296 * (s / 4294967296)) := by rw [Nat.mul_comm, Nat.mul_assoc]
    rw [e4]
    rw [Nat.mul_comm c P] at h5
    omega
theorem RowI.last {L m cur : List Nat} {d o c : Nat} (h : RowI L m d o m.length cur c) (ho : o + m.length < L.length) (hz : L[o + m.length]?.getD 0 = 0) :
    (cur.set (o + m.length) c).length = L.length ∧ Dg (cur.set (o + m.length) c) ∧ (∀ j, o + m.length + 1 ≤ j → (cur.set (o + m.length) c)[j]?.getD 0 = L[j]?.getD 0) ∧ val (cur.set (o + m.length) c) = val L + 4294967296 ^ o * (d * val m) := by
  obtain ⟨h1, h2, h3, h4, h5⟩ := h
  refine ⟨by simpa using h1, dg_set h2 _ h3, fun j hj => ?_, ?_⟩
  · rw [List.getElem?_set_ne (by omega)]; exact h4 j (by omega)
  · have hv := val_set cur (o + m.length) c (by omega)
    rw [h4 _ (Nat.le_refl _), hz, Nat.mul_zero] at hv
    rw [List.take_length] at h5
    rw [← h5, Nat.mul_comm c]
    omega
end Ow
namespace Go.Proofs.Ytlfiakpmnkhcdaa
open Go.RowKit
set_option linter.unusedVariables false
def acells (L : List Nat) : Array Value := (wcells L).toArray
theorem acells_size (L : List Nat) : (acells L).size = L.length := by simp [acells, wcells]
theorem acells_at (L : List Nat) (j : Nat) (h : j < L.length) : (acells L)[j]? = some (.int .u32 ((L[j]?.getD 0 : Nat) : Int)) := by
  unfold acells; rw [List.getElem?_toArray]; exact wcells_at L j h
theorem acells_set (L : List Nat) (j d : Nat) : (acells L).setIfInBounds j (.int .u32 (d : Nat)) = acells (L.set j d) := by
  simp [acells, wcells]
theorem acells_one (L : List Nat) : (acells L).all (·.oneCell') = true := by
  rw [Array.all_eq_true_iff_forall_mem]
  intro v hv
  simp only [acells, wcells, List.mem_toArray, List.mem_map] at hv
  obtain ⟨x, _, rfl⟩ := hv
  rfl
theorem infoCols : (Try.prog.info? 128).map (fun i => (i.size)) = some 128 := by kernel_rfl
def RowOut (L m : List Nat) (d o : Nat) (w : World) (e : Ending) (w' : World) : Prop :=
  ∃ L', e = .returned (.agg (acells L')) ∧ L'.length = L.length ∧ Ow.Dg L' ∧ (∀ j, o + m.length + 1 ≤ j → L'[j]?.getD 0 = L[j]?.getD 0) ∧ Ow.val L' = Ow.val L + 4294967296 ^ o * (d * Ow.val m) ∧ Gr w w'
def RowS (L m : List Nat) (d o k c g : Nat) (W wr : World) : Prop := ∃ cur, Rt 128 wr g (acells cur) ∧ Ow.RowI L m d o k cur c ∧ (∀ b, b ≠ g → wr.heap[b]? = W.heap[b]?) ∧ Below g W wr
theorem RowS.below {L m : List Nat} {d o k c g : Nat} {W wr : World} (h : RowS L m d o k c g W wr) : Below g W wr := by obtain ⟨_, _, _, _, h⟩ := h; exact h
theorem RowS.place {L m : List Nat} {d o k c g : Nat} {W wr : World} (h : RowS L m d o k c g W wr) {j : Nat} (hj : j < L.length) : ∃ z, z < 4294967296 ∧ wr.cell? ⟨g, j, none⟩ = some (.int .u32 (z : Nat)) ∧ wr.frozen? ⟨g, j, none⟩ = false ∧
    ∀ s, c < 4294967296 → o + m.length < L.length → k < m.length → j = o + k → Ow.Dg m → d < 4294967296 → s = c + (z + m[k]?.getD 0 * d) → s ≤ 18446744073709551615 ∧ RowS L m d o (k + 1) (s / 4294967296) g W (wr.setCell ⟨g, j, none⟩ (.int .u32 ((s % 4294967296 : Nat) : Int))) := by
  obtain ⟨cur, h1, h2, h3, h4⟩ := h
  refine ⟨cur[j]?.getD 0, Ow.dg_at h2.2.1 j, by rw [h1.cell, acells_at _ _ (by rw [h2.1]; exact hj)], h1.frozen j, fun s hc ho hk hj2 hm hd hs => ?_⟩
  subst hj2
  obtain ⟨a, b⟩ := h2.step hm hd ho hk hs
  refine ⟨a, _, by rw [← acells_set]; exact h1.set _ _, b, fun b hb => ?_, h4.setCell (Nat.le_refl _) _⟩
  rw [Below.heap_setCell _ _ _ _ hb]; exact h3 b hb
set_option maxRecDepth 100000 in
set_option maxHeartbeats 1000000 in
theorem withRow_any (L m : List Nat) (v : Value) (d o : Nat) (w : World) (hv : HasD w v m) (hL : Ow.Dg L) (hL2 : L.length = 128) (hd : d < 4294967296) (ho : o + m.length < 128) (hz : L[o + m.length]?.getD 0 = 0) :
    Calls Try.prog 92 #[.agg (acells L), v, .int .u32 d, .int .i64 o] w (RowOut L m d o w) := by
  obtain ⟨dv, b, cap, rfl, v1, v2, cv⟩ := hv
  obtain ⟨len, hlen⟩ : ∃ len, len = m.length := ⟨_, rfl⟩
  rw [← hlen] at v1 ho ⊢
  have HL := Lib.hid hlen
  have HDV := Lib.hid dv
  have HCV := Lib.hid cv
  have HLL := Lib.hid hL
  have HL2 := Lib.hid hL2
  have HZ := Lib.hid hz
  clear hlen dv cv hL hL2 hz
  go_enter Try.func92, Try.ntmps92
  go_wp2_with fail
  obtain ⟨W, hW⟩ : ∃ W, W = (w.alloc (.cells (acells L) 128)).alloc (.cells Try.zeroCells128 128) := ⟨_, rfl⟩
  rw [← hW]
  have hrow : Rt 128 W w.heap.size (acells L) := by
    have := Rt.new 128 w (acells L)
    rw [hW]
    show (_ : World).heap[_]? = _
    rw [show ((w.alloc (.cells (acells L) 128)).alloc (.cells Try.zeroCells128 128)).heap[w.heap.size]? = (w.alloc (.cells (acells L) 128)).heap[w.heap.size]? from heap_alloc_old _ _ (by simp)]
    exact this
  have hres : Rt 128 W (w.heap.size + 1) Try.zeroCells128 := by
    have := Rt.new 128 (w.alloc (.cells (acells L) 128)) Try.zeroCells128
    rw [World.size_alloc] at this
    rw [hW]; exact this
  have g1 : Gr w W := by rw [hW]; exact (Gr.new w _).alloc _
  clear hW
  have HROW := Lib.hid hrow
  have HRES := Lib.hid hres
  have HG := Lib.hid g1
  clear hrow hres g1
  go_loopw [9, 14] (fun t i wr => ∃ k c : Nat, t = .int .u64 (c : Nat) ∧ i = .int .i64 k ∧ k ≤ len ∧ c < 4294967296 ∧ RowS L m d o k c w.heap.size W wr) (fun _ i _ => len - (intOf i).toNat)
  case atStart => exact ⟨0, 0, rfl, rfl, by omega, by omega, L, HROW.out, Ow.RowI.start m d o HLL.out, fun _ _ => rfl, Below.refl _ _⟩
  case round =>
    obtain ⟨k, c, rfl, rfl, hk, hc, hrs⟩ := hrel
    have HS := Lib.hid hrs
    clear hrs
    by_cases hlt : k < len
    · obtain ⟨gb, ob, rfl, c2⟩ := HCV.out k (by rw [← HL.out]; exact hlt)
      have hgb : gb < w.heap.size := World.block_lt_of_cell? w _ c2
      have c2 := HG.out.keeps c2
      have c2 : wr.cell? ⟨gb, ob + k, none⟩ = _ := (HS.out.below.cell (p := ⟨gb, ob + k, none⟩) hgb).trans c2
      have hx := Ow.dg_at HDV.out k
      obtain ⟨z, hz, c1, f1, hst⟩ := HS.out.place (j := o + k) (by rw [HL2.out]; omega)
      obtain ⟨x, hxe⟩ : ∃ x, x = m[k]?.getD 0 := ⟨_, rfl⟩
      obtain ⟨s, hse⟩ : ∃ s, s = c + (z + x * d) := ⟨_, rfl⟩
      have hst := hst s hc (by rw [← HL.out, HL2.out]; exact ho) (by rw [← HL.out]; exact hlt) rfl HDV.out hd (by rw [hse, hxe])
      rw [← hxe] at c2 hx
      have hmul := Ow.mul_digit hx hd
      have hsb := hst.1
      have HST := Lib.hid hst.2
      have i5 : (k : Int) < (len : Int) := by omega
      have i6 : (0 : Int) ≤ (k : Int) := by omega
      have i7 : ((o : Int) + (k : Int)).toNat = o + k := by omega
      have i8 : (o : Int) + (k : Int) < 128 := by omega
      have i9 : (0 : Int) ≤ (o : Int) + (k : Int) := by omega
      have hsi : (c : Int) + ((z : Int) + (x : Int) * (d : Int)) = (s : Int) := by rw [hse, Int.natCast_add, Int.natCast_add, Int.natCast_mul]
      have p0 : (0 : Int) ≤ (x : Int) * (d : Int) := by rw [← Int.natCast_mul]; omega
      have p1 : (x : Int) * (d : Int) ≤ 18446744065119617025 := by rw [← Int.natCast_mul]; omega
      have E1 := Lib.hid (show ((s % 4294967296 : Nat) : Int) = (s : Int) % 4294967296 by omega)
      have E3 := Lib.hid (show ((s / 4294967296 : Nat) : Int) = (s : Int) / 4294967296 by omega)
      clear hxe hse hmul hst
      go_wp2_with fail
      go_roundw
      case rel => exact ⟨k + 1, s / 4294967296, by rw [E3.out], by go_num, by omega, by omega, by have h := HST.out; rw [E1.out] at h; exact h⟩
      case measure => simp [intOf]; omega
    · obtain rfl : k = len := by omega
      obtain ⟨cur, h1, h2, h3, h4⟩ := HS.out
      obtain ⟨q1, q2, q3, q4⟩ := Ow.RowI.last (L := L) (m := m) (d := d) (o := o) (c := c) (by rw [← HL.out]; exact h2) (by rw [← HL.out, HL2.out]; exact ho) HZ.out
      rw [← HL.out] at q1 q2 q3 q4
      have c1 : wr.cell? ⟨w.heap.size, o + k, none⟩ = some (.int .u32 ((cur[o + k]?.getD 0 : Nat) : Int)) := by rw [h1.cell, acells_at _ _ (by rw [h2.1, HL2.out]; exact ho)]
      have f1 : wr.frozen? ⟨w.heap.size, o + k, none⟩ = false := h1.frozen _
      have i7 : ((o : Int) + (k : Int)).toNat = o + k := by omega
      have i8 : (o : Int) + (k : Int) < 128 := by omega
      have i9 : (0 : Int) ≤ (o : Int) + (k : Int) := by omega
      have e1 : (c : Int) % 4294967296 = (c : Int) := by omega
      generalize cur[o + k]?.getD 0 = z at c1
      have hr2 : Rt 128 (wr.setCell ⟨w.heap.size, o + k, none⟩ (.int .u32 (c : Nat))) w.heap.size (acells (cur.set (o + k) c)) := by rw [← acells_set]; exact h1.set _ _
      obtain ⟨L', hL'⟩ : ∃ L', L' = cur.set (o + k) c := ⟨_, rfl⟩
      rw [← hL'] at hr2 q1 q2 q3 q4
      have hs8 : (acells L').size = 128 := by rw [acells_size, q1]; exact HL2.out
      have hr3 : Rt 128 (wr.setCell ⟨w.heap.size, o + k, none⟩ (.int .u32 (c : Nat))) (w.heap.size + 1) Try.zeroCells128 := by
        show (_ : World).heap[_]? = _
        rw [Below.heap_setCell _ _ _ _ (by simp), h3 _ (by omega)]
        exact HRES.out
      have hr2' := hr2
      have hr3' := hr3
      have HQ := Lib.hid (And.intro q1 (And.intro q2 (And.intro q3 q4)))
      have HB4 := Lib.hid (And.intro h3 h4)
      have HLL2 := Lib.hid hL'
      have HR2 := Lib.hid hr2
      have HR3 := Lib.hid hr3
      have HS8 := Lib.hid hs8
      have HGG := Lib.hid (show Gr w (wr.setCell ⟨w.heap.size, o + k, none⟩ (.int .u32 (c : Nat))) from Below.trans HG.out ((HB4.out.2.setCell (Nat.le_refl _) _)))
      clear q1 q2 q3 q4 h1 h2 h3 h4 hr2 hr3 hs8 hL' hr2' hr3'
      have hso : Sem.run Try.prog (storeCells ⟨w.heap.size + 1, 0, none⟩ (acells L').toList) (wr.setCell ⟨w.heap.size, o + k, none⟩ (.int .u32 (c : Nat))) = .ok () ((wr.setCell ⟨w.heap.size, o + k, none⟩ (.int .u32 (c : Nat))).setRow (w.heap.size + 1) (acells L')) := by
        have h := run_storeCells_from (P := Try.prog) (w.heap.size + 1) 128 (acells L').toList 0 _ _ HR3.out (by rw [Nat.zero_add, Array.length_toList, HS8.out]; exact Try.zeroCells128_size.symm) (fun v hv => (Array.all_eq_true_iff_forall_mem.1 (acells_one L')) v (by simpa using hv))
        rw [h]; simp
      go_wp2_with fail
      refine wp_load_row 128 (.tmp 4) rfl w.heap.size (by simp [Act.eval]) _ (acells L') _ _ HR2.out Try.underlying128 rfl (by rw [HS8.out]; exact infoCols) ?_
      go_wp2_with fail
      have hr5 : Rt 128 ((wr.setCell ⟨w.heap.size, o + k, none⟩ (.int .u32 (c : Nat))).setRow (w.heap.size + 1) (acells L')) (w.heap.size + 1) (acells L') := setRow_heap _ _ _ _ _ _ HR3.out
      have hlr := run_loadVar_row (P := Try.prog) _ _ _ 128 _ _ _ hr5 Try.underlying128 rfl (by rw [HS8.out]; exact infoCols)
      refine bodyPost_ret (v := .agg (acells L')) (by simp [results, Try.results92, asAddr, hlr]) rfl ?_
      exact ⟨L', rfl, HQ.out.1, HQ.out.2.1, by rw [← HL.out]; exact HQ.out.2.2.1, HQ.out.2.2.2, below_setRow HGG.out (by omega) _⟩
end Go.Proofs.Ytlfiakpmnkhcdaa
