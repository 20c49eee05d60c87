import Derived.Test.YtfpdemmdkiohhaaLWO
/- The reference: short, Text. -/
namespace Go.Proofs.Ytfpdemmdkiohhaa
open Go.RowKit
set_option linter.unusedVariables false

def ShortPost (N : Nat) (V b : Nat) (w : World) (e : Ending) (w' : World) : Prop := ∃ v q, e = .returned (.tuple #[v, .int .u32 ((V % b : Nat) : Int)]) ∧ HasD w' v q ∧ Oh.Dg q ∧ Oh.val q = V / b ∧ q.length ≤ N ∧ Gr w w'

set_option maxRecDepth 100000 in
set_option maxHeartbeats 2000000 in
theorem rshort_any (l : List Nat) (v : Value) (b : Nat) (w : World) (hv : HasD w v l) (hd : Oh.Dg l) (N : Nat) (hlN : l.length ≤ N) (hN : N ≤ 100000) (hb1 : 1 ≤ b) (hb : b < 65536) :
    Calls Try.prog 91 #[v, .int .u32 b] w (ShortPost N (Oh.val l) b w) := by
  obtain ⟨-, a, cap, rfl, v1, v2, cv⟩ := hv
  obtain ⟨len, hlen⟩ : ∃ len, len = l.length := ⟨_, rfl⟩
  rw [← hlen] at v1 hlN ⊢
  have HL := Lib.hid hlen
  have HDV := Lib.hid hd
  have HCV := Lib.hid cv
  have hmk := mk_row len (len : Int) rfl (by omega)
  clear hlen hd cv
  go_enter Try.func91, Try.ntmps91
  go_wp2_with fail
  clear hmk
  have hrow := Rw.new w (zrow len)
  have g1 : Gr w (w.alloc (.cells (zrow len) 33)) := Gr.new _ _
  have hzs := zrow_size len
  have hz : ∀ k, k < len → (w.alloc (.cells (zrow len) 33)).cell? ⟨w.heap.size, k, none⟩ = some (.int .u32 0) := fun k hk => by
    rw [hrow.cell, zrow_at _ _ hk]
  obtain ⟨W, hW⟩ : ∃ W, W = w.alloc (.cells (zrow len) 33) := ⟨_, rfl⟩
  rw [← hW] at hrow g1 hz ⊢
  clear hW
  have HROW := Lib.hid hrow
  have HZ := Lib.hid hz
  have HG := Lib.hid g1
  have HZS := Lib.hid hzs
  clear hrow hz g1 hzs
  go_loopw [7, 8] (fun t i wr => ∃ k r q, t = .int .u32 (r : Nat) ∧ i = .int .i64 ((k : Nat) - 1) ∧ k ≤ len ∧ Oh.QuoI l b k q r ∧ Upd w.heap.size k q W wr) (fun _ i _ => (intOf i + 1).toNat)
  case atStart => exact ⟨len, 0, [], rfl, rfl, by omega, by rw [HL.out]; exact Oh.QuoI.start l b hb1, Upd.start HROW.out (by rw [HZS.out]; omega)⟩
  case round =>
    obtain ⟨k, r, q, rfl, rfl, hk, hquo, hupd⟩ := hrel
    have hr := hquo.2.2.1
    have HS := Lib.hid hquo
    have HU := Lib.hid hupd
    clear hquo hupd
    rcases k with _ | j
    · rw [show ((0 : Nat) : Int) - 1 = -1 from rfl]
      have hq := HS.out
      obtain ⟨q1, q2, q3, q4⟩ := id hq
      rw [Nat.zero_add] at q1
      rw [List.drop_zero] at q4
      have hd := HU.out.hasD (w := w) (cap := len) q2.wide (by rw [q1, ← HL.out]; omega) (by omega)
      rw [q1, ← HL.out] at hd
      have HD := Lib.hid hd
      have HGG := Lib.hid (HU.out.gr HG.out (Nat.le_refl _))
      have HQ2 := Lib.hid q2
      have HQ1 := Lib.hid q1
      have HQV := Lib.hid (show Oh.val q = Oh.val l / b ∧ r = Oh.val l % b from by
        rw [q4, Nat.mul_comm, Nat.mul_add_div (by omega), Nat.div_eq_of_lt q3, Nat.mul_add_mod, Nat.mod_eq_of_lt q3]
        exact ⟨rfl, rfl⟩)
      clear hd hq q1 q2 q3 q4
      go_wp2_with fail
      go_ret2
      exact ⟨_, q, by rw [← HQV.out.2]; rfl, HD.out, HQ2.out, HQV.out.1, by rw [HQ1.out, ← HL.out]; exact hlN, HGG.out⟩
    · rw [show ((j + 1 : Nat) : Int) - 1 = (j : Int) by omega]
      have hjl : j < len := by omega
      obtain ⟨gb, ob, rfl, c2⟩ := HCV.out j (by rw [← HL.out]; exact hjl)
      have hgb : gb < w.heap.size := World.block_lt_of_cell? w _ c2
      have c2 := HG.out.keeps c2
      have c2 : wr.cell? ⟨gb, ob + j, none⟩ = _ := (HU.out.cell_other (p := ⟨gb, ob + j, none⟩) (fun e => by simp only at e; omega)).trans c2
      have c1 : wr.cell? ⟨w.heap.size, j, none⟩ = some (.int .u32 0) := (HU.out.cell_out (.inl (by omega))).trans (HZ.out j hjl)
      have f1 : wr.frozen? ⟨w.heap.size, j, none⟩ = false := HU.out.frozen _
      have hx := Oh.dg_at HDV.out j
      obtain ⟨p, hpe⟩ : ∃ p, p = r * 65536 + l[j]?.getD 0 := ⟨_, rfl⟩
      have hnx := HS.out.step HDV.out hb hpe
      have hpq := hnx.1
      have HNX := Lib.hid hnx.2
      clear hnx
      obtain ⟨x, hxe⟩ : ∃ x, x = l[j]?.getD 0 := ⟨_, rfl⟩
      rw [← hxe] at c2 hx hpe
      clear hxe
      have i5 : (j : Int) < (len : Int) := by omega
      have i6 : (0 : Int) ≤ (j : Int) := by omega
      have hpb : p ≤ 4294967295 := by omega
      have E0 := Lib.hid (show (r : Int) * 65536 + (x : Int) = (p : Int) by omega)
      have E1 := Lib.hid (show ((p / b : Nat) : Int) = (p : Int) / (b : Int) from Int.natCast_ediv _ _)
      have E3 := Lib.hid (show ((p % b : Nat) : Int) = (p : Int) % (b : Int) from Int.natCast_emod _ _)
      have u1 : (0 : Int) ≤ ((r : Int) * 65536 + (x : Int)) / (b : Int) := Int.ediv_nonneg (by omega) (by omega)
      have u2 : ((r : Int) * 65536 + (x : Int)) / (b : Int) ≤ 4294967295 := by rw [E0.out, ← Int.natCast_ediv]; omega
      have hpm : p % b < b := Nat.mod_lt _ (by omega)
      have u3 : (0 : Int) ≤ ((r : Int) * 65536 + (x : Int)) % (b : Int) := Int.emod_nonneg _ (by omega)
      have u4 : ((r : Int) * 65536 + (x : Int)) % (b : Int) ≤ 4294967295 := by rw [E0.out, ← Int.natCast_emod]; omega
      have hrs : (r : Int) * 65536 + (x : Int) ≤ 4294967295 := by omega
      clear hpe
      go_wp2_with fail
      go_roundw
      case rel => exact ⟨j, p % b, p / b :: q, by rw [E3.out, ← E0.out], rfl, by omega, HNX.out, by have h := HU.out.cons (p / b); rw [E1.out, ← E0.out] at h; exact h⟩
      case measure => simp [intOf]

theorem field_words (b : Bool) (a : Option Addr) (n c : Nat) (W : World) : (Instr.field 74 (.agg #[.bool b, .slice a n c]) 1).run Try.prog W = .ok (.slice a n c) W := by
  unfold Instr.field
  rw [Sem.run_bind, run_underlying Try.underlying74 W]
  simp [part, isAgg, Sem.run_bind, run_underlying Try.underlying22, asAgg]
end Go.Proofs.Ytfpdemmdkiohhaa
