/- splitDigit: quotient and rest by a digit. -/
import Derived.Test.YtgalgldnhdiggaaDoorMake
import Derived.Laws.Bits64b
namespace Go.Proofs.YtgalgldnhdiggaaDoor
open Go.RowKit
set_option linter.unusedVariables false

/-- A digit above another one. -/
theorem or_digit (r x : Nat) (hr : r < 4294967296) (hx : x < 4294967296) : bits .or .u64 ((r : Int) * 4294967296) (x : Int) = ((r * 4294967296 + x : Nat) : Int) := by
  have h := bits_or_u64_nat (r * 4294967296) x (by omega) (by omega)
  rw [show ((r : Int) * 4294967296) = ((r * 4294967296 : Nat) : Int) by omega, h]
  have e : r * 4294967296 ||| x = r * 4294967296 + x := by
    have := Nat.two_pow_add_eq_or_of_lt (i := 32) (show x < 2 ^ 32 by omega) r
    rw [Nat.mul_comm] at this
    exact this.symm
  rw [e]

def SplitPost (l : List Nat) (b : Nat) (w : World) (e : Ending) (w' : World) : Prop := ∃ v q, e = .returned (.tuple #[v, .int .u32 ((Ow.val l % b : Nat) : Int)]) ∧ HasD w' v q ∧ Ow.Nm q ∧ Ow.val q = Ow.val l / b ∧ Gr w w'

set_option maxRecDepth 100000 in
set_option maxHeartbeats 1000000 in
theorem splitDigit_any (l : List Nat) (v : Value) (b : Nat) (w : World) (hv : HasD w v l) (hl : l.length ≤ 100000) (hb1 : 1 ≤ b) (hb : b < 4294967296) :
    Calls Tryd.prog 70 #[v, .int .u32 b] w (SplitPost l b w) := by
  obtain ⟨dv, a, cap, rfl, v1, v2, cv⟩ := hv
  obtain ⟨len, hlen⟩ : ∃ len, len = l.length := ⟨_, rfl⟩
  rw [← hlen] at v1 hl ⊢
  have HL := Lib.hid hlen
  have HDV := Lib.hid dv
  have HCV := Lib.hid cv
  have hmk := mk_row len (len : Int) rfl (by omega)
  clear hlen dv cv
  go_enter Tryd.func70, Tryd.ntmps70
  go_wp2_with fail
  clear hmk
  have hrow := Rw.new w (zrow len)
  have g1 : Gr w (w.alloc (.cells (zrow len) 59)) := Gr.new _ _
  have hzs := zrow_size len
  have hz : ∀ k, k < len → (w.alloc (.cells (zrow len) 59)).cell? ⟨w.heap.size, k, none⟩ = some (.int .u32 0) := fun k hk => by
    rw [hrow.cell, zrow_at _ _ hk]
  obtain ⟨W, hW⟩ : ∃ W, W = w.alloc (.cells (zrow len) 59) := ⟨_, rfl⟩
  rw [← hW] at hrow g1 hz ⊢
  clear hW
  have HROW := Lib.hid hrow
  have HZ := Lib.hid hz
  have HG := Lib.hid g1
  have HZS := Lib.hid hzs
  clear hrow hz g1 hzs
  go_loopw [5, 6] (fun t i wr => ∃ k r q, t = .int .u32 (r : Nat) ∧ i = .int .i64 ((k : Nat) - 1) ∧ k ≤ len ∧ Ow.QuoI l b k q r ∧ Upd w.heap.size k q W wr) (fun _ i _ => (intOf i + 1).toNat)
  case atStart => exact ⟨len, 0, [], rfl, rfl, by omega, by rw [HL.out]; exact Ow.QuoI.start l b hb1, Upd.start HROW.out (by rw [HZS.out]; omega)⟩
  case round =>
    obtain ⟨k, r, q, rfl, rfl, hk, hquo, hupd⟩ := hrel
    have hr := hquo.2.2.1
    have HS := Lib.hid hquo
    have HU := Lib.hid hupd
    clear hquo hupd
    rcases k with _ | j
    · rw [show ((0 : Nat) : Int) - 1 = -1 from rfl]
      have hq := HS.out
      obtain ⟨q1, q2, q3, q4⟩ := id hq
      rw [Nat.zero_add] at q1
      rw [List.drop_zero] at q4
      have hd := HU.out.hasD (w := w) (cap := len) q2 (by rw [q1, ← HL.out]; omega) (by omega)
      rw [q1, ← HL.out] at hd
      have HD := Lib.hid hd
      have HGG := Lib.hid (HU.out.gr HG.out (Nat.le_refl _))
      have HQ2 := Lib.hid q2
      have HQV := Lib.hid (show Ow.val q = Ow.val l / b ∧ r = Ow.val l % b from by
        rw [q4, Nat.mul_comm, Nat.mul_add_div (by omega), Nat.div_eq_of_lt q3, Nat.mul_add_mod, Nat.mod_eq_of_lt q3]
        exact ⟨rfl, rfl⟩)
      clear hd hq q1 q2 q3 q4
      go_wp2_with fail
      refine (trim_any q _ _ HD.out).mono ?_
      rintro e w4 ⟨⟨v3, rfl, hcut⟩, rfl⟩
      have HCUT := Lib.hid hcut
      clear hcut
      go_wp2_with fail
      go_ret2
      exact ⟨_, Ow.tr q, by rw [← HQV.out.2]; rfl, HCUT.out _ HD.out, Ow.nm_tr HQ2.out, by rw [Ow.val_tr]; exact HQV.out.1, HGG.out⟩
    · rw [show ((j + 1 : Nat) : Int) - 1 = (j : Int) by omega]
      have hjl : j < len := by omega
      obtain ⟨gb, ob, rfl, c2⟩ := HCV.out j (by rw [← HL.out]; exact hjl)
      have hgb : gb < w.heap.size := World.block_lt_of_cell? w _ c2
      have c2 := HG.out.keeps c2
      have c2 : wr.cell? ⟨gb, ob + j, none⟩ = _ := (HU.out.cell_other (p := ⟨gb, ob + j, none⟩) (fun e => by simp only at e; omega)).trans c2
      have c1 : wr.cell? ⟨w.heap.size, j, none⟩ = some (.int .u32 0) := (HU.out.cell_out (.inl (by omega))).trans (HZ.out j hjl)
      have f1 : wr.frozen? ⟨w.heap.size, j, none⟩ = false := HU.out.frozen _
      have hx := Ow.dg_at HDV.out j
      obtain ⟨p, hpe⟩ : ∃ p, p = r * 4294967296 + l[j]?.getD 0 := ⟨_, rfl⟩
      have hnx := HS.out.step HDV.out hb hpe
      have hpq := hnx.1
      have HNX := Lib.hid hnx.2
      clear hnx
      obtain ⟨x, hxe⟩ : ∃ x, x = l[j]?.getD 0 := ⟨_, rfl⟩
      rw [← hxe] at c2 hx hpe
      clear hxe
      have i5 : (j : Int) < (len : Int) := by omega
      have i6 : (0 : Int) ≤ (j : Int) := by omega
      have hor := or_digit r x (by omega) hx
      rw [← hpe] at hor
      have hpb : p ≤ 18446744073709551615 := by omega
      have E1 := Lib.hid (show ((p / b : Nat) : Int) = (p : Int) / (b : Int) from Int.natCast_ediv _ _)
      have E3 := Lib.hid (show ((p % b : Nat) : Int) = (p : Int) % (b : Int) from Int.natCast_emod _ _)
      have u1 : (0 : Int) ≤ (p : Int) / (b : Int) := Int.ediv_nonneg (by omega) (by omega)
      have u2 : (p : Int) / (b : Int) ≤ 4294967295 := by rw [← Int.natCast_ediv]; omega
      have hpm : p % b < b := Nat.mod_lt _ (by omega)
      have u3 : (0 : Int) ≤ (p : Int) % (b : Int) := Int.emod_nonneg _ (by omega)
      have u4 : (p : Int) % (b : Int) ≤ 4294967295 := by rw [← Int.natCast_emod]; omega
      clear hpe
      go_wp2_with fail
      go_roundw
      case rel => exact ⟨j, p % b, p / b :: q, by rw [E3.out], rfl, by omega, HNX.out, by have h := HU.out.cons (p / b); rw [E1.out] at h; exact h⟩
      case measure => simp [intOf]
end Go.Proofs.YtgalgldnhdiggaaDoor
