import Derived.Test.YtlfiakpmnkhcdaaLWB
import Derived.Laws.MakeOwn
import Derived.Laws.Bits64b
import Derived.Test.YtlfiakpmnkhcdaaShelf
import Derived.Lib.ItoaNum
import Derived.StillTailTactics
namespace Ow
set_option linter.unusedVariables false
theorem drop_at {l : List Nat} {i : Nat} (h : i < l.length) : val (l.drop i) = l[i]?.getD 0 + 4294967296 * val (l.drop (i + 1)) := by
  rw [List.drop_eq_getElem_cons h, List.getElem?_eq_getElem h]; rfl
end Ow
namespace Go.Proofs.Ytlfiakpmnkhcdaa
open Go.RowKit
set_option linter.unusedVariables false
def zrow (n : Nat) : Array Value := madeCells #[.int .u32 0] n
theorem zrow_size (n : Nat) : (zrow n).size = n := size_madeCells _ _
theorem zrow_at (n j : Nat) (h : j < n) : (zrow n)[j]? = some (.int .u32 0) := by
  unfold zrow madeCells
  rw [Array.getElem?_eq_getElem (by simpa using h)]
  simp [Nat.mod_one]
theorem mk_row (n : Nat) (L : Int) (hL : L = n) (hn : n ≤ 1000000) (w : World) : (Instr.makeSlice 23 (.int .i64 L) (.int .i64 L)).run Try.prog w = .ok (.slice (some ⟨w.heap.size, 0, none⟩) n n) (w.alloc (.cells (zrow n) 22)) := by
  obtain ⟨i0, hi, hz0, hz1, hz2⟩ := info_parts infoU32
  subst hL
  have := run_make (P := Try.prog) w 23 22 i0 (.int .u32 0) Try.underlying23 hi hz0 .i64 .i64 (n : Int) (n : Int) (by omega) (Int.le_refl _) (by rw [hz2]; omega) (by omega)
  rw [this, hz1, Int.toNat_natCast, Nat.mul_one]
  rfl
theorem Rw.new (w : World) (cur : Array Value) : Rw (w.alloc (.cells cur 22)) w.heap.size cur := heap_alloc_new w _
theorem Upd.hasD {w W W' : World} {g cap : Nat} {l : List Nat} (h : Upd g 0 l W W') (hd : Ow.Dg l) (h1 : l.length ≤ cap) (h2 : cap ≤ 9223372036854775807) : HasD W' (.slice (some ⟨g, 0, none⟩) l.length cap) l :=
  (Lies.upd h hd).hasD h1 h2
end Go.Proofs.Ytlfiakpmnkhcdaa
namespace Go.Proofs.Ytlfiakpmnkhcdaa
open Go.RowKit
set_option linter.unusedVariables false
end Go.Proofs.Ytlfiakpmnkhcdaa
namespace Ow
set_option linter.unusedVariables false
def BitLen (v n : Nat) : Prop := v < 2 ^ n ∧ (0 < v → 1 ≤ n ∧ 2 ^ (n - 1) ≤ v) ∧ (v = 0 → n = 0)
theorem bitLen_bl (x : Nat) (h : x < 18446744073709551616) : BitLen x (Go.Lib.bitLen x) := by
  rcases Nat.eq_zero_or_pos x with rfl | hx
  · have e : Go.Lib.bitLen 0 = 0 := Go.Lib.bitLenAux_zero 64
    rw [e]; exact ⟨by simp, fun h => by omega, fun _ => rfl⟩
  · obtain ⟨a, b, c⟩ := Go.Lib.bitLenAux_bounds 64 x (by omega) (by omega)
    exact ⟨c, fun _ => ⟨a, b⟩, fun h => by omega⟩
theorem pow32 (k : Nat) : 4294967296 ^ k = 2 ^ (32 * k) := by rw [Nat.pow_mul]
theorem bl_digits {l : List Nat} {x k : Nat} (hl : Dg l) (hx : 1 ≤ x) (h : BitLen x k) : BitLen (val (l ++ [x])) (32 * l.length + k) := by
  have a := val_lt l hl
  rw [pow32] at a
  rw [val_snoc, pow32]
  obtain ⟨b, c, _⟩ := h
  have c := c hx
  refine ⟨?_, fun _ => ⟨by omega, ?_⟩, fun h => ?_⟩
  · have : 2 ^ (32 * l.length) * (x + 1) ≤ 2 ^ (32 * l.length) * 2 ^ k := Nat.mul_le_mul_left _ b
    rw [Nat.mul_add, Nat.mul_one] at this
    rw [Nat.pow_add]; omega
  · have : 2 ^ (32 * l.length) * 2 ^ (k - 1) ≤ 2 ^ (32 * l.length) * x := Nat.mul_le_mul_left _ c.2
    rw [← Nat.pow_add] at this
    rw [show 32 * l.length + k - 1 = 32 * l.length + (k - 1) by omega]; omega
  · have : 2 ^ (32 * l.length) * 1 ≤ 2 ^ (32 * l.length) * x := Nat.mul_le_mul_left _ hx
    have := Nat.two_pow_pos (32 * l.length)
    omega
theorem nm_last {l : List Nat} {x : Nat} (h : Nm (l ++ [x])) : 1 ≤ x := by
  rcases Nat.eq_zero_or_pos x with rfl | hx
  · have h2 := h.2
    rw [tr_zero] at h2
    have := tr_len l
    rw [h2] at this
    simp at this
    omega
  · exact hx
theorem snoc_of {l : List Nat} (h : 0 < l.length) : l = l.take (l.length - 1) ++ [l[l.length - 1]?.getD 0] := by
  have e : l.length - 1 + 1 = l.length := by omega
  have := List.take_succ_eq_append_getElem (l := l) (i := l.length - 1) (by omega)
  rw [e, List.take_length] at this
  conv => lhs; rw [this]
  rw [List.getElem?_eq_getElem (by omega)]; rfl
end Ow
namespace Go.Proofs.Ytlfiakpmnkhcdaa
open Go.RowKit
set_option linter.unusedVariables false
def LenPost (v : Nat) (w : World) (e : Ending) (w' : World) : Prop := ∃ n : Nat, e = .returned (.int .i64 (n : Nat)) ∧ Ow.BitLen v n ∧ w = w'
set_option maxRecDepth 100000 in
set_option maxHeartbeats 1000000 in
theorem length_any (l : List Nat) (v : Value) (w : World) (hv : HasD w v l) (hn : Ow.Nm l) (hl : l.length ≤ 100000) :
    Calls Try.prog 66 #[v] w (LenPost (Ow.val l) w) := by
  obtain ⟨dv, a, cap, rfl, v1, v2, cv⟩ := hv
  obtain ⟨len, hlen⟩ : ∃ len, len = l.length := ⟨_, rfl⟩
  rw [← hlen] at v1 hl ⊢
  have HL := Lib.hid hlen
  have HN := Lib.hid hn
  rcases Nat.eq_zero_or_pos len with h0 | h0
  · subst h0
    have hz : l = [] := List.length_eq_zero_iff.1 hlen.symm
    have HZ := Lib.hid hz
    clear hlen hn dv cv hz
    go_enter Try.func66, Try.ntmps66
    go_wp2_with fail
    go_ret
    exact ⟨0, rfl, by rw [HZ.out]; exact ⟨by simp [Ow.val], fun h => by simp [Ow.val] at h, fun _ => rfl⟩, rfl⟩
  · obtain ⟨g, o, rfl, c1⟩ := cv (len - 1) (by omega)
    have hs := Ow.snoc_of (l := l) (by omega)
    rw [← hlen] at hs
    obtain ⟨x, hxe⟩ : ∃ x, x = l[len - 1]?.getD 0 := ⟨_, rfl⟩
    have hx := Ow.dg_at hn.1 (len - 1)
    rw [← hxe] at c1 hx hs
    have hx1 : 1 ≤ x := Ow.nm_last (by rw [← hs]; exact hn)
    have hdt : Ow.Dg (l.take (len - 1)) := Ow.dg_take hn.1 _
    have hbl := Ow.bl_digits hdt hx1 (Ow.bitLen_bl x (by omega))
    rw [← hs, List.length_take, Nat.min_eq_left (by omega)] at hbl
    have hb32 := Any.bitLen_le32 (x : Int) (by omega) (by omega)
    rw [Int.toNat_natCast] at hb32
    have HBL := Lib.hid hbl
    have i1 : ((len : Int) - 1).toNat = len - 1 := by omega
    have i2 : (0 : Int) ≤ (len : Int) - 1 := by omega
    have t0 : ((len : Int) == 0) = false := by simp; omega
    clear hlen hn dv cv hs hxe hdt hbl
    go_enter Try.func66, Try.ntmps66
    go_wp2_with fail
    refine (Try.bits_Len32 (x : Int) _ (by omega) (by omega)).mono ?_
    rintro e w1 ⟨rfl, rfl⟩
    rw [Int.toNat_natCast]
    generalize Lib.bitLen x = n at *
    go_wp2_with fail
    go_ret
    exact ⟨32 * (len - 1) + n, ret_int (by omega), HBL.out, rfl⟩
end Go.Proofs.Ytlfiakpmnkhcdaa
namespace Ow
set_option linter.unusedVariables false
def digs : Nat → Nat → List Nat
  | 0, _ => []
  | n + 1, M => M % 4294967296 :: digs n (M / 4294967296)
theorem digs_len : ∀ n M, (digs n M).length = n
  | 0, _ => rfl
  | n + 1, M => by simp [digs, digs_len n]
theorem digs_dg : ∀ n M, Dg (digs n M)
  | 0, _ => dg_nil
  | n + 1, M => fun x hx => by
    rcases List.mem_cons.1 hx with rfl | hx
    · exact Nat.mod_lt _ (by omega)
    · exact digs_dg n _ x hx
theorem digs_val : ∀ n M, M < 4294967296 ^ n → val (digs n M) = M
  | 0, M, h => by simp at h; simp [digs, val, h]
  | n + 1, M, h => by
    have := digs_val n (M / 4294967296) (by rw [Nat.div_lt_iff_lt_mul (by omega), ← Nat.pow_succ]; exact h)
    simp only [digs, val, this]
    omega
theorem digs_at : ∀ n M q, q < n → (digs n M)[q]?.getD 0 = M / 4294967296 ^ q % 4294967296
  | 0, M, q, h => by omega
  | n + 1, M, 0, h => by simp [digs]
  | n + 1, M, q + 1, h => by
    have := digs_at n (M / 4294967296) q (by omega)
    simp only [digs, List.getElem?_cons_succ]
    rw [this, Nat.div_div_eq_div_mul, Nat.pow_succ, Nat.mul_comm]
theorem digs_nm {n M : Nat} (h : M < 4294967296 ^ n) (h2 : n = 0 ∨ 4294967296 ^ (n - 1) ≤ M) : Nm (digs n M) := by
  refine ⟨digs_dg n M, ?_⟩
  rcases n with _ | n
  · rfl
  · have h3 : 4294967296 ^ n ≤ M := by rcases h2 with h2 | h2; omega; simpa using h2
    have hs := snoc_of (l := digs (n + 1) M) (by rw [digs_len]; omega)
    rw [digs_len, Nat.add_sub_cancel, digs_at _ _ _ (by omega)] at hs
    have h4 : M / 4294967296 ^ n % 4294967296 ≠ 0 := by
      have h5 : M / 4294967296 ^ n < 4294967296 := by
        rw [Nat.div_lt_iff_lt_mul (Nat.pow_pos (by omega)), Nat.mul_comm, ← Nat.pow_succ]; exact h
      have h6 : 1 ≤ M / 4294967296 ^ n := Nat.div_pos h3 (Nat.pow_pos (by omega))
      rw [Nat.mod_eq_of_lt h5]; omega
    rw [hs]; exact tr_last _ _ h4
theorem digs_byte (n M b q r : Nat) (hr : r < 4) (hM : M < 256 ^ (4 * q + r)) (hb : b < 256) (hq : q < n) :
    M / 4294967296 ^ q % 4294967296 < 256 ^ r ∧ digs n (M + b * 256 ^ (4 * q + r)) = (digs n M).set q (M / 4294967296 ^ q % 4294967296 + b * 256 ^ r) := by
  have e : (256 : Nat) ^ (4 * q + r) = 4294967296 ^ q * 256 ^ r := by rw [Nat.pow_add, Nat.pow_mul]
  have hB : 0 < (4294967296 : Nat) ^ q := Nat.pow_pos (by omega)
  have h1 : M / 4294967296 ^ q < 256 ^ r := by rw [Nat.div_lt_iff_lt_mul hB, Nat.mul_comm, ← e]; exact hM
  have h2 : (256 : Nat) ^ r ≤ 16777216 := by
    have : (256 : Nat) ^ r ≤ 256 ^ 3 := Nat.pow_le_pow_right (by omega) (by omega)
    simpa using this
  have h3 : M / 4294967296 ^ q % 4294967296 = M / 4294967296 ^ q := Nat.mod_eq_of_lt (by omega)
  refine ⟨by rw [h3]; exact h1, List.ext_getElem? fun j => ?_⟩
  by_cases hj : j < n
  · have g : ∀ X : Nat, (digs n X)[j]? = some (X / 4294967296 ^ j % 4294967296) := fun X => by
      have := digs_at n X j hj
      rw [List.getElem?_eq_getElem (by rw [digs_len]; exact hj)] at this ⊢
      simpa using this
    rw [g, List.getElem?_set, digs_len]
    by_cases ej : q = j
    · subst ej
      rw [if_pos rfl, if_pos hj, h3, e, show M + b * (4294967296 ^ q * 256 ^ r) = M + 4294967296 ^ q * (b * 256 ^ r) by rw [Nat.mul_left_comm], Nat.add_mul_div_left _ _ hB, Nat.mod_eq_of_lt]
      have : b * 256 ^ r ≤ 255 * 256 ^ r := Nat.mul_le_mul_right _ (by omega)
      omega
    · rw [if_neg ej, g]
      rcases Nat.lt_or_gt_of_ne ej with hlt | hlt
      · -- above: both are 0
        have hp : 4294967296 ^ (q + 1) ≤ 4294967296 ^ j := Nat.pow_le_pow_right (by omega) hlt
        have hs : M + b * 256 ^ (4 * q + r) < 4294967296 ^ (q + 1) := by
          have h5 : M + b * 256 ^ (4 * q + r) < 256 * 256 ^ (4 * q + r) := by
            have : b * 256 ^ (4 * q + r) ≤ 255 * 256 ^ (4 * q + r) := Nat.mul_le_mul_right _ (by omega)
            omega
          have h6 : 256 * 256 ^ (4 * q + r) ≤ 256 ^ (4 * (q + 1)) := by
            rw [Nat.mul_comm, ← Nat.pow_succ]; exact Nat.pow_le_pow_right (by omega) (by omega)
          have h7 : (256 : Nat) ^ (4 * (q + 1)) = 4294967296 ^ (q + 1) := by rw [Nat.pow_mul]
          omega
        rw [Nat.div_eq_of_lt (by omega), Nat.div_eq_of_lt (by have : 0 ≤ b * 256 ^ (4 * q + r) := Nat.zero_le _; omega)]
      · -- below: as before
        obtain ⟨d, rfl⟩ : ∃ d, q = j + 1 + d := ⟨q - j - 1, by omega⟩
        have e2 : b * 256 ^ (4 * (j + 1 + d) + r) = 4294967296 ^ j * (4294967296 * (4294967296 ^ d * (b * 256 ^ r))) := by
          rw [e, Nat.pow_add, Nat.pow_succ]
          rw [Nat.mul_left_comm b, Nat.mul_assoc, Nat.mul_assoc]
        rw [e2, Nat.add_mul_div_left _ _ (Nat.pow_pos (by omega)), Nat.add_mul_mod_self_left]
  · rw [List.getElem?_eq_none (by rw [digs_len]; omega), List.getElem?_eq_none (by rw [List.length_set, digs_len]; omega)]
theorem or_byte (d b r : Nat) (hd : d < 256 ^ r) : d ||| b * 256 ^ r = d + b * 256 ^ r := by
  have e : (256 : Nat) ^ r = 2 ^ (8 * r) := by rw [Nat.pow_mul]
  have := Nat.two_pow_add_eq_or_of_lt (i := 8 * r) (show d < 2 ^ (8 * r) by rw [← e]; exact hd) b
  rw [e, Nat.or_comm, Nat.mul_comm b, ← this, Nat.add_comm]
theorem mg_cons (b : UInt8) : ∀ t : List UInt8, mg (b :: t) = b.toNat * 256 ^ t.length + mg t := by
  have key : ∀ (t : List UInt8) (a : Nat), t.foldl (fun a b => a * 256 + b.toNat) a = a * 256 ^ t.length + t.foldl (fun a b => a * 256 + b.toNat) 0 := by
    intro t
    induction t with
    | nil => intro a; simp
    | cons c t ih =>
      intro a
      simp only [List.foldl_cons, List.length_cons]
      rw [ih, ih (0 * 256 + c.toNat), Nat.pow_succ, Nat.add_mul, Nat.zero_mul, Nat.zero_add, Nat.mul_assoc, Nat.mul_comm 256]
      omega
  intro t
  unfold mg
  rw [List.foldl_cons, key]
  simp
theorem mg_bound : ∀ t : List UInt8, mg t < 256 ^ t.length
  | [] => by simp [mg]
  | b :: t => by
    have h := mg_bound t
    have hb := b.toNat_lt
    rw [mg_cons, List.length_cons, Nat.pow_succ]
    have : b.toNat * 256 ^ t.length ≤ 255 * 256 ^ t.length := Nat.mul_le_mul_right _ (by omega)
    omega
end Ow
namespace Go.Proofs.Ytlfiakpmnkhcdaa
open Go.RowKit
set_option linter.unusedVariables false
theorem Upd.set {W W' : World} {g : Nat} {l : List Nat} (h : Upd g 0 l W W') {q : Nat} (hq : q < l.length) (d : Nat) : Upd g 0 (l.set q d) W (W'.setCell ⟨g, q, none⟩ (.int .u32 (d : Nat))) := by
  obtain ⟨h1, h2, h3, h4, h5, cur, cur', r1, r2, r3, r4, r5⟩ := h
  refine ⟨h1, h2, h3, by simpa using h4, fun k hk => ?_, cur, _, r1, r2.set _ _, by simpa using r3, by simpa using r4, fun j => ?_⟩
  · rw [Below.heap_setCell _ _ _ _ hk]; exact h5 k hk
  · rw [Array.getElem?_setIfInBounds]
    by_cases e : q = j
    · subst e
      rw [if_pos rfl, if_pos (by omega), if_pos (by simp; omega)]
      simp [hq]
    · rw [if_neg e, r5]
      by_cases e2 : 0 ≤ j ∧ j < 0 + l.length
      · rw [if_pos e2, if_pos (by simp; omega), List.getElem?_set, if_neg (by omega)]
      · rw [if_neg e2, if_neg (by simp; omega)]
theorem Upd.zeros {W : World} {g n : Nat} (h : Rw W g (zrow n)) : Upd g 0 (Ow.digs n 0) W W := by
  refine ⟨rfl, rfl, rfl, rfl, fun _ _ => rfl, _, _, h, h, rfl, by rw [Ow.digs_len, zrow_size]; omega, fun j => ?_⟩
  by_cases hj : j < n
  · rw [if_pos (by rw [Ow.digs_len]; omega), zrow_at _ _ hj, Nat.sub_zero, Ow.digs_at _ _ _ hj, Nat.zero_div]; rfl
  · rw [if_neg (by rw [Ow.digs_len]; omega)]
theorem Upd.drew {W W' : World} {g o : Nat} {l : List Nat} (h : Upd g o l W W') : Upd g o l W W'.drew := by
  obtain ⟨h1, h2, h3, h4, h5, h6⟩ := h
  exact ⟨h1, h2, h3, h4, h5, h6⟩
theorem Upd.frozen_other {W W' : World} {g o : Nat} {l : List Nat} (h : Upd g o l W W') {p : Addr} (hp : p.block ≠ g) : W'.frozen? p = W.frozen? p := World.frozen?_of_block (w := W) (h.block p.block hp)
theorem or_int (d b r : Nat) (hd : d < 256 ^ r) (hr : r < 4) (hb : b < 256) (X : Int) (hX : X = ((b * 256 ^ r : Nat) : Int)) : bits .or .u32 (d : Int) X = ((d + b * 256 ^ r : Nat) : Int) := by
  have h2 : (256 : Nat) ^ r ≤ 256 ^ 3 := Nat.pow_le_pow_right (by omega) (by omega)
  have h3 : b * 256 ^ r ≤ 255 * 256 ^ 3 := Nat.mul_le_mul (by omega) h2
  have e : (256 : Nat) ^ 3 = 16777216 := rfl
  rw [hX, (bits32 d (b * 256 ^ r) (by omega) (by omega)).2, Ow.or_byte d b r hd]
theorem HasD.set {W : World} {v : Value} {l : List Nat} {p : Addr} (h : HasD W v l) (hb : ∀ g, v.ownBlock = some g → g ≠ p.block) (u : Value) : HasD (W.setCell p u) v l := by
  obtain ⟨hd, a, cap, rfl, h1, h2, h3⟩ := h
  refine ⟨hd, a, cap, rfl, h1, h2, fun i hi => ?_⟩
  obtain ⟨b, o, e, hc⟩ := h3 i hi
  subst e
  refine ⟨b, o, rfl, ?_⟩
  rw [World.cell?_setCell_other W p ⟨b, o + i, none⟩ u (fun e => hb b rfl (by rw [e]))]
  exact hc
theorem str_at (s : ByteArray) (i : Int) (j : Nat) (hi : i = j) (hj : j < s.size) (w : World) : (Instr.index 9 (.string s) (.int .i64 i)).run Try.prog w = .ok (.int .u8 (s[j].toNat : Int)) w := by
  subst hi
  rw [run_index_string (P := Try.prog) w 9 s .i64 (j : Int) Try.underlying9]
  simp [hj]
set_option maxRecDepth 100000 in
set_option maxHeartbeats 1000000 in
theorem integerOf_any (neg : Bool) (s : ByteArray) (w : World) (hs : s.size ≤ 100000) :
    Calls Try.prog 70 #[.agg #[.bool neg, .string s]] w fun e w' => ∃ v, e = .returned (.agg #[.bool neg, v]) ∧ HasD w' v (Ow.digs ((s.size + 3) / 4) (Ow.mg s.data.toList)) ∧ Gr w w' := by
  obtain ⟨n, hn⟩ : ∃ n, n = (s.size + 3) / 4 := ⟨_, rfl⟩
  have hmk := mk_row n (((s.size : Int) + 3) / 4) (by omega) (by omega)
  rw [← hn]
  have hn4 : s.size ≤ 4 * n := by omega
  have hn5 : n ≤ 100000 := by omega
  have HN := Lib.hid hn
  clear hn
  go_enter Try.func70, Try.ntmps70
  go_wp2_with fail
  clear hmk
  obtain ⟨W, hW⟩ : ∃ W, W = ((w.alloc (.cells #[.bool neg, .string s] 42)).alloc (.cells #[.bool false, .slice none 0 0] 87)).alloc (.cells (zrow n) 22) := ⟨_, rfl⟩
  rw [← hW]
  have hrow : Rw W (w.heap.size + 1 + 1) (zrow n) := by
    have := Rw.new ((w.alloc (.cells #[.bool neg, .string s] 42)).alloc (.cells #[.bool false, .slice none 0 0] 87)) (zrow n)
    rw [World.size_alloc, World.size_alloc] at this
    rw [hW]; exact this
  have g1 : Gr w W := by rw [hW]; exact ((Gr.new w _).alloc _).alloc _
  have k0 : W.cell? ⟨w.heap.size, 0, none⟩ = some (.bool neg) := by rw [hW]; simp [go_sem]
  have k1 : W.cell? ⟨w.heap.size, 1, none⟩ = some (.string s) := by rw [hW]; simp [go_sem]
  have r0 : W.cell? ⟨w.heap.size + 1, 0, none⟩ = some (.bool false) := by rw [hW]; simp [go_sem]
  have r1 : W.cell? ⟨w.heap.size + 1, 1, none⟩ = some (.slice none 0 0) := by rw [hW]; simp [go_sem]
  have e0 : W.frozen? ⟨w.heap.size + 1, 0, none⟩ = false := by rw [hW]; simp [go_sem]
  have e1 : W.frozen? ⟨w.heap.size + 1, 1, none⟩ = false := by rw [hW]; simp [go_sem]
  clear hW
  have HR0 := Lib.hid r0
  have HR1 := Lib.hid r1
  have HE0 := Lib.hid e0
  have HE1 := Lib.hid e1
  clear r0 r1 e0 e1
  have HROW := Lib.hid hrow
  have HG := Lib.hid g1
  have HK0 := Lib.hid k0
  have HK1 := Lib.hid k1
  clear hrow g1 k0 k1
  go_loopw [14] (fun i wr => ∃ k : Nat, i = .int .i64 k ∧ k ≤ s.size ∧ Upd (w.heap.size + 1 + 1) 0 (Ow.digs n (Ow.mg (s.data.toList.drop (s.size - k)))) W wr) (fun i _ => s.size - (intOf i).toNat)
  case atStart => exact ⟨0, rfl, by omega, by rw [Nat.sub_zero, List.drop_of_length_le (by simp)]; exact Upd.zeros HROW.out⟩
  case round =>
    obtain ⟨k, rfl, hk, hupd⟩ := hrel
    obtain ⟨wr0, rfl⟩ : ∃ wr0 : World, wr0 = wr := ⟨_, rfl⟩
    have HU := Lib.hid hupd
    clear hupd
    have c1 : wr0.cell? ⟨w.heap.size, 1, none⟩ = some (.string s) := (HU.out.cell_other (p := ⟨w.heap.size, 1, none⟩) (by show _ ≠ _; simp; omega)).trans HK1.out
    by_cases hlt : k < s.size
    · obtain ⟨M, hM⟩ : ∃ M, M = Ow.mg (s.data.toList.drop (s.size - k)) := ⟨_, rfl⟩
      have hlt2 : s.size - 1 - k < s.data.toList.length := by simp; omega
      have hstep : Ow.mg (s.data.toList.drop (s.size - (k + 1))) = M + s[s.size - 1 - k].toNat * 256 ^ k := by
        rw [show s.size - (k + 1) = s.size - 1 - k by omega, List.drop_eq_getElem_cons hlt2, Ow.mg_cons, hM, show s.size - 1 - k + 1 = s.size - k by omega]
        have : (s.data.toList.drop (s.size - k)).length = k := by simp; omega
        rw [this, Nat.add_comm]; rfl
      have hMb : M < 256 ^ k := by
        have := Ow.mg_bound (s.data.toList.drop (s.size - k))
        rw [show (s.data.toList.drop (s.size - k)).length = k by simp; omega] at this
        rw [hM]; exact this
      obtain ⟨q, r, hkq, hr⟩ : ∃ q r, k = 4 * q + r ∧ r < 4 := ⟨k / 4, k % 4, by omega, by omega⟩
      have hqn : q < n := by omega
      have hbyte := s[s.size - 1 - k].toNat_lt
      rw [← hM] at HU
      obtain ⟨hd, hset⟩ := Ow.digs_byte n M s[s.size - 1 - k].toNat q r hr (by rw [← hkq]; exact hMb) hbyte hqn
      have cD := HU.out.cell_in (j := q) (by rw [Ow.digs_len]; exact hqn)
      rw [Ow.digs_at _ _ _ hqn, Nat.zero_add] at cD
      have fD : wr0.frozen? ⟨w.heap.size + 1 + 1, q, none⟩ = false := HU.out.frozen _
      obtain ⟨d, hde⟩ : ∃ d, d = M / 4294967296 ^ q % 4294967296 := ⟨_, rfl⟩
      rw [← hde] at cD hd hset
      have hor := Ow.or_byte d s[s.size - 1 - k].toNat r hd
      have HSET := Lib.hid hset
      have HSTEP := Lib.hid hstep
      have HKQ := Lib.hid hkq
      clear hset hstep hde hM hMb
      have q1 : (k : Int) / 4 = (q : Int) := by omega
      have q2 : (k : Int) % 4 = (r : Int) := by omega
      have q3 : (0 : Int) ≤ (q : Int) := by omega
      have q4 : (q : Int) < (n : Int) := by omega
      have q5 : ((s.size : Int) - 1 - (k : Int)).toNat = s.size - 1 - k := by omega
      have q6 : (0 : Int) ≤ (s.size : Int) - 1 - (k : Int) := by omega
      have q7 : (s.size : Int) - 1 - (k : Int) < (s.size : Int) := by omega
      have hix := str_at s ((s.size : Int) - 1 - (k : Int)) (s.size - 1 - k) (by omega) (by omega)
      generalize s[s.size - 1 - k].toNat = b at *
      clear hkq q5 q6 q7
      have HOR := Lib.hid (fun X hX => or_int d b r hd hr hbyte X hX)
      have HD2 := Lib.hid hd
      clear hor hd
      have hr4 : r = 0 ∨ r = 1 ∨ r = 2 ∨ r = 3 := by omega
      rcases hr4 with rfl | rfl | rfl | rfl
      · go_wp2_with fail
        go_region
        go_wp2_with fail
        go_roundw
        case rel => exact ⟨k + 1, by go_num, by omega, by rw [HSTEP.out, show 256 ^ k = 256 ^ (4 * q + 0) by rw [← HKQ.out], HSET.out, HOR.out _ (by simp)]; exact (HU.out.set (by rw [Ow.digs_len]; exact hqn) _).drew⟩
        case measure => simp [intOf]; omega
      · go_wp2_with fail
        go_region
        go_wp2_with fail
        go_roundw
        case rel => exact ⟨k + 1, by go_num, by omega, by rw [HSTEP.out, show 256 ^ k = 256 ^ (4 * q + 1) by rw [← HKQ.out], HSET.out, HOR.out _ (by simp)]; exact (HU.out.set (by rw [Ow.digs_len]; exact hqn) _).drew⟩
        case measure => simp [intOf]; omega
      · go_wp2_with fail
        go_region
        go_wp2_with fail
        go_roundw
        case rel => exact ⟨k + 1, by go_num, by omega, by rw [HSTEP.out, show 256 ^ k = 256 ^ (4 * q + 2) by rw [← HKQ.out], HSET.out, HOR.out _ (by simp)]; exact (HU.out.set (by rw [Ow.digs_len]; exact hqn) _).drew⟩
        case measure => simp [intOf]; omega
      · go_wp2_with fail
        go_region
        go_wp2_with fail
        go_roundw
        case rel => exact ⟨k + 1, by go_num, by omega, by rw [HSTEP.out, show 256 ^ k = 256 ^ (4 * q + 3) by rw [← HKQ.out], HSET.out, HOR.out _ (by simp)]; exact (HU.out.set (by rw [Ow.digs_len]; exact hqn) _).drew⟩
        case measure => simp [intOf]; omega
    · obtain rfl : k = s.size := by omega
      have hu := HU.out
      rw [Nat.sub_self, List.drop_zero] at hu
      have hd := hu.hasD (w := w) (cap := n) (Ow.digs_dg _ _) (by rw [Ow.digs_len]; omega) (by omega)
      rw [Ow.digs_len] at hd
      have HD := Lib.hid hd
      have HGG := Lib.hid (hu.gr HG.out (by omega))
      have c0 : wr0.cell? ⟨w.heap.size, 0, none⟩ = some (.bool neg) := (HU.out.cell_other (p := ⟨w.heap.size, 0, none⟩) (by show _ ≠ _; simp; omega)).trans HK0.out
      have r0 : wr0.cell? ⟨w.heap.size + 1, 0, none⟩ = some (.bool false) := (HU.out.cell_other (p := ⟨w.heap.size + 1, 0, none⟩) (by show _ ≠ _; simp)).trans HR0.out
      have r1 : wr0.cell? ⟨w.heap.size + 1, 1, none⟩ = some (.slice none 0 0) := (HU.out.cell_other (p := ⟨w.heap.size + 1, 1, none⟩) (by show _ ≠ _; simp)).trans HR1.out
      have e0 : wr0.frozen? ⟨w.heap.size + 1, 0, none⟩ = false := (HU.out.frozen_other (p := ⟨w.heap.size + 1, 0, none⟩) (by show _ ≠ _; simp)).trans HE0.out
      have e1 : wr0.frozen? ⟨w.heap.size + 1, 1, none⟩ = false := (HU.out.frozen_other (p := ⟨w.heap.size + 1, 1, none⟩) (by show _ ≠ _; simp)).trans HE1.out
      clear hu hd
      go_wp2_with fail
      refine bodyPost_ret (v := .agg #[.bool neg, .slice (some ⟨w.heap.size + 1 + 1, 0, none⟩) n n]) (by simp [results, Try.results70, go_sem, r0, r1]) rfl ?_
      exact ⟨_, rfl, (HD.out.set (fun g e => by cases e; simp) _).set (fun g e => by cases e; simp) _, (HGG.out.setCell (p := ⟨w.heap.size + 1, 0, none⟩) (by simp) _).setCell (p := ⟨w.heap.size + 1, 1, none⟩) (by simp) _⟩
end Go.Proofs.Ytlfiakpmnkhcdaa
