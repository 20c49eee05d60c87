/- Decimal digits; FormatUint. -/
import Derived.Test.YtgalgldnhdiggaaDoorQuo
import Derived.Lib.ItoaMem
import Derived.Lib.AppendIntMem
namespace Ow
set_option linter.unusedVariables false
open Go.Lib
/-- The number that decimal digits stand for. -/
def dval (l : List UInt8) : Nat := l.foldl (fun a b => 10 * a + (b.toNat - 48)) 0
def Dec (l : List UInt8) : Prop := ∀ b ∈ l, 48 ≤ b.toNat ∧ b.toNat ≤ 57
theorem dval_snoc (l : List UInt8) (b : UInt8) : dval (l ++ [b]) = 10 * dval l + (b.toNat - 48) := by
  unfold dval; rw [List.foldl_append]; rfl
theorem dval_append : ∀ (k : Nat) (l m : List UInt8), m.length = k → dval (l ++ m) = dval l * 10 ^ k + dval m
  | 0, l, m, h => by
    rw [List.length_eq_zero_iff.1 h]; simp [dval]
  | k + 1, l, m, h => by
    rcases List.eq_nil_or_concat m with e | ⟨t, b, e⟩
    · subst e; simp at h
    · rw [List.concat_eq_append] at e
      subst e
      have ht : t.length = k := by simp at h; omega
      rw [← List.append_assoc, dval_snoc, dval_snoc, dval_append k l t ht, Nat.pow_succ, Nat.mul_add, ← Nat.mul_assoc]
      have : 10 * dval l * 10 ^ k = dval l * (10 ^ k * 10) := by
        rw [Nat.mul_comm 10, Nat.mul_assoc, Nat.mul_comm 10]
      omega
theorem dval_lt : ∀ (k : Nat) (l : List UInt8), l.length = k → Dec l → dval l < 10 ^ k
  | 0, l, h, _ => by rw [List.length_eq_zero_iff.1 h]; simp [dval]
  | k + 1, l, h, hd => by
    rcases List.eq_nil_or_concat l with e | ⟨t, b, e⟩
    · subst e; simp at h
    · rw [List.concat_eq_append] at e
      subst e
      have ht : t.length = k := by simp at h; omega
      have ih := dval_lt k t ht (fun x hx => hd x (by simp [hx]))
      have hb := hd b (by simp)
      rw [dval_snoc, Nat.pow_succ]
      omega
theorem dec_digits (n : Nat) : Dec (decDigits n) := by
  induction n using Nat.strongRecOn with
  | ind n ih =>
    rw [decDigits]
    split
    · intro b hb
      rw [List.mem_singleton.1 hb, UInt8.toNat_ofNat']
      omega
    · intro b hb
      rcases List.mem_append.1 hb with hb | hb
      · exact ih _ (by omega) b hb
      · rw [List.mem_singleton.1 hb, UInt8.toNat_ofNat']; omega
theorem dval_digits (n : Nat) : dval (decDigits n) = n := by
  induction n using Nat.strongRecOn with
  | ind n ih =>
    rw [decDigits]
    split
    · simp [dval]; omega
    · have : (UInt8.ofNat (48 + n % 10)).toNat = 48 + n % 10 := by rw [UInt8.toNat_ofNat']; omega
      rw [dval_snoc, ih _ (by omega), this]; omega
theorem digits_ne (n : Nat) : decDigits n ≠ [] := by
  rw [decDigits]; split <;> simp
/-- The first digit is 0 only of 0. -/
theorem digits_head (n : Nat) : ∀ b l, decDigits n = b :: l → b = 48 → n = 0 := by
  induction n using Nat.strongRecOn with
  | ind n ih =>
    intro b l h hb
    rw [decDigits] at h
    split at h
    · simp only [List.cons.injEq] at h
      have := congrArg UInt8.toNat (h.1.trans hb)
      rw [UInt8.toNat_ofNat'] at this
      have e : (48 : UInt8).toNat = 48 := rfl
      rw [e] at this; omega
    · cases hd : decDigits (n / 10) with
      | nil => exact absurd hd (digits_ne _)
      | cons c t =>
        rw [hd] at h
        simp only [List.cons_append, List.cons.injEq] at h
        have := ih _ (by omega) c t hd (h.1.trans hb)
        omega
theorem byte_of (b : UInt8) (h : 48 ≤ b.toNat) : UInt8.ofNat (48 + (b.toNat - 48)) = b := by
  rw [show 48 + (b.toNat - 48) = b.toNat by omega, UInt8.ofNat_toNat]
theorem lead_pos : ∀ (k : Nat) (l : List UInt8), l.length = k → (∀ b t, l = b :: t → b ≠ 48) → Dec l → l ≠ [] → 0 < dval l
  | 0, l, h, _, _, hn => absurd (List.length_eq_zero_iff.1 h) hn
  | k + 1, l, h, h0, hd, hn => by
    rcases List.eq_nil_or_concat l with e | ⟨t, b, e⟩
    · exact absurd e hn
    · rw [List.concat_eq_append] at e
      subst e
      have ht : t.length = k := by simp at h; omega
      rw [dval_snoc]
      cases t with
      | nil =>
        have h1 := h0 b [] (by simp)
        have h2 := hd b (by simp)
        have : b.toNat ≠ 48 := fun e => h1 (UInt8.toNat_inj.1 (by rw [e]; rfl))
        omega
      | cons c s =>
        have := lead_pos k (c :: s) ht (fun x y e => by
          have := h0 x (y ++ [b]) (by rw [e]; rfl)
          exact this) (fun x hx => hd x (List.mem_append_left _ hx)) (by simp)
        omega
/-- Decimal digits without a 0 in front are those of their number. -/
theorem digits_dval : ∀ (k : Nat) (l : List UInt8), l.length = k → l ≠ [] → Dec l → (∀ b t, l = b :: t → b = 48 → t = []) → decDigits (dval l) = l
  | 0, l, h, hn, _, _ => absurd (List.length_eq_zero_iff.1 h) hn
  | k + 1, l, h, hn, hd, h0 => by
    rcases List.eq_nil_or_concat l with e | ⟨t, b, e⟩
    · exact absurd e hn
    · rw [List.concat_eq_append] at e
      subst e
      have ht : t.length = k := by simp at h; omega
      have hb := hd b (by simp)
      rw [dval_snoc, decDigits]
      cases t with
      | nil =>
        rw [dif_pos (by simp [dval]; omega)]
        simp only [dval, List.foldl_nil, Nat.mul_zero, Nat.zero_add, List.nil_append]
        rw [byte_of b hb.1]
      | cons c s =>
        have hdt : Dec (c :: s) := fun x hx => hd x (List.mem_append_left _ hx)
        have hc : c ≠ 48 := fun e => by
          have := h0 c (s ++ [b]) rfl e
          simp at this
        have hp := lead_pos k (c :: s) ht (fun x y e => by simp only [List.cons.injEq] at e; rw [← e.1]; exact hc) hdt (by simp)
        have ih := digits_dval k (c :: s) ht (by simp) hdt (fun x y e hx => by simp only [List.cons.injEq] at e; exact absurd (e.1.trans hx) hc)
        rw [dif_neg (by omega), show (10 * dval (c :: s) + (b.toNat - 48)) / 10 = dval (c :: s) by omega, ih, show (10 * dval (c :: s) + (b.toNat - 48)) % 10 = b.toNat - 48 by omega, byte_of b hb.1]
end Ow
namespace Go.Proofs.YtgalgldnhdiggaaDoor
open Go.RowKit
set_option linter.unusedVariables false

/-- The table of powers of ten. -/
def Tab (w : World) : Prop := Lib.TabIs Tryd.prog w "internal/strconv.uint64pow10" .u64 Lib.pow10Tab
theorem Tab.later {w w' : World} (h : Tab w) (hg : Gr w w') : Tab w' := by
  unfold Tab Lib.TabIs World.var? at *
  cases hgl : Tryd.prog.globalNamed "internal/strconv.uint64pow10" with
  | none => simp [hgl] at h
  | some g =>
    simp only [hgl, Option.bind_some] at h ⊢
    have hlt : g < w.heap.size := by
      apply Classical.byContradiction; intro hn
      rw [show w.heap[g]? = none from by simp; omega] at h
      simp at h
    rw [hg.block g hlt]
    exact h
def Str (l : List UInt8) (w : World) (e : Ending) (w' : World) : Prop := e = .returned (.string ⟨l.toArray⟩) ∧ Gr w w'
theorem below_putRow {α : Type} [Inhabited α] (enc : α → Value) {w W : World} {g o : Nat} (h : Gr w W) (hg : w.heap.size ≤ g) (d : Array α) : Gr w (Sort.putRow enc W g o d) :=
  ⟨h.os, h.tape, h.output, by rw [Sort.size_putRow]; exact h.size, fun k hk => by
    rw [← h.block k hk]
    simp only [Sort.putRow, Sort.mapBlock, Array.getElem?_modify]
    rw [if_neg (by omega)]⟩

set_option maxRecDepth 100000 in
set_option maxHeartbeats 2000000 in
theorem ifmt_any (u : Nat) (hu : u < 18446744073709551616) (w : World) (htab : Tab w) :
    Calls Tryd.prog 80 #[.int .u64 u, .int .i64 10] w (Str (Lib.decDigits u) w) := by
  by_cases hs : u < 100
  · have i1 : (u : Int) < 100 := by omega
    go_enter Tryd.func80, Tryd.ntmps80
    go_wp2_with fail
    refine (Tryd.internal_strconv_small u hs _).mono ?_
    rintro e w' ⟨rfl, rfl⟩
    go_wp2_with fail
    go_ret
    exact ⟨rfl, Gr.refl _⟩
  · have hu1 : 1 ≤ u := by omega
    have hnd20 : Lib.nDigits u ≤ 20 := by have := Lib.numDigits_eq u hu1 hu; split at this <;> omega
    have i1 : ¬ (u : Int) < 100 := by omega
    have t1 : decide ((u : Int) < 100) = false := by simp; omega
    have t2 : decide (u < 100) = false := by simp; omega
    have hal : Tryd.prog.arrayLen 118 = 24 := by kernel_rfl
    have hsl1 : ∀ W, (Instr.sliceAt 118 (.pointer (some ⟨w.heap.size, 0, none⟩)) none (some (.int .i64 (Lib.nDigits u : Int))) none).run Tryd.prog W = .ok (.slice (some ⟨w.heap.size, 0, none⟩) (Lib.nDigits u) 24) W := fun W => by
      rw [run_sliceAt_array_h W 118 ⟨w.heap.size, 0, none⟩ (by simp [Program.arrayLen, Program.elem, Tryd.underlying118]) .i64 (Lib.nDigits u : Int) (by omega) (by rw [hal]; omega)]
      go_simp
    have hH0 := Lib.holds_zero0 w 118 (Lib.nDigits u) (by omega)
    have hfmt := Tryd.internal_strconv_formatBase10 w.heap.size 0 24 u (Array.replicate (Lib.nDigits u) 0) (w.alloc (.cells Lib.zeros24 118)) hH0 (by rw [Array.size_replicate]; exact Lib.lt_pow_nDigits u) hu (by rw [Array.size_replicate]; omega)
    rw [Array.size_replicate] at hfmt
    have HH0 := Lib.hid hH0
    have HFM := Lib.hid hfmt
    have HT := Lib.hid htab
    clear hH0 hal hfmt htab
    go_enter Tryd.func80, Tryd.ntmps80
    go_wp2_with fail
    refine (Tryd.internal_strconv_numDigits u hu1 hu _ (HT.out.later (Gr.new _ _))).mono ?_
    rintro e w' ⟨rfl, rfl⟩
    go_wp2_with fail
    refine HFM.out.mono ?_
    rintro e w' ⟨rfl, k, v', dk, rfl, hF⟩
    have hcv : (convert 75 9 (.slice (some ⟨w.heap.size, 0, none⟩) (Lib.nDigits u) 24)).run Tryd.prog ((Sort.putRow (fun (b : UInt8) => Value.int .u8 (b.toNat : Int)) (w.alloc (.cells Lib.zeros24 118)) w.heap.size 0 dk).drewN k) = .ok (.string ⟨(Lib.decDigits u).toArray⟩) ((Sort.putRow (fun (b : UInt8) => Value.int .u8 (b.toNat : Int)) (w.alloc (.cells Lib.zeros24 118)) w.heap.size 0 dk).drewN k) := by
      have h := run_convert_bytes_back (P := Tryd.prog) ((Sort.putRow (fun (b : UInt8) => Value.int .u8 (b.toNat : Int)) (w.alloc (.cells Lib.zeros24 118)) w.heap.size 0 dk).drewN k) 75 9 5 ⟨w.heap.size, 0, none⟩ 24 (Lib.decDigits u) Tryd.underlying75 Tryd.underlying5 Tryd.underlying9 (fun j hj => by
        rw [Lib.row_is_numeral hF j hj, Lib.add_plain, World.cell?_drewN]
        exact Sort.cell?_putRow (fun (b : UInt8) => Value.int .u8 (b.toNat : Int)) _ w.heap.size 0 _ dk HH0.out (by rw [hF.size, Array.size_replicate]) j (by rw [hF.size]; rw [Lib.decDigits_length] at hj; exact hj))
      rw [Lib.decDigits_length] at h
      exact h
    have HG := Lib.hid (show Gr w ((Sort.putRow (fun (b : UInt8) => Value.int .u8 (b.toNat : Int)) (w.alloc (.cells Lib.zeros24 118)) w.heap.size 0 dk).drewN k) from (below_putRow (fun (b : UInt8) => Value.int .u8 (b.toNat : Int)) (Gr.new w _) (Nat.le_refl _) dk).drewN k)
    clear hF
    go_wp2_with fail
    go_ret
    exact ⟨rfl, HG.out⟩
set_option maxRecDepth 100000 in
set_option maxHeartbeats 2000000 in
theorem fmt_any (u : Nat) (hu : u < 18446744073709551616) (w : World) (htab : Tab w) :
    Calls Tryd.prog 71 #[.int .u64 u, .int .i64 10] w (Str (Lib.decDigits u) w) := by
  have HT := Lib.hid htab
  clear htab
  go_enter Tryd.func71, Tryd.ntmps71
  go_wp2_with fail
  refine (ifmt_any u hu _ HT.out).mono ?_
  rintro e w' ⟨rfl, hg⟩
  have HG := Lib.hid hg
  clear hg
  go_wp2_with fail
  go_ret
  exact ⟨rfl, HG.out⟩
end Go.Proofs.YtgalgldnhdiggaaDoor
