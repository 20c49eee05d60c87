/- times: the product of digits. -/
import Derived.Test.YtgalgldnhdiggaaDoorRow
namespace Go.Proofs.YtgalgldnhdiggaaDoor
open Go.RowKit
set_option linter.unusedVariables false

theorem zero_cols : Tryd.zeroCells114 = acells (List.replicate 128 0) := by kernel_rfl
/-- The columns behind k rows. -/
def TimesS (l m : List Nat) (k g : Nat) (w wr : World) : Prop := ∃ L, Rt 114 wr g (acells L) ∧ L.length = 128 ∧ Ow.Dg L ∧ (∀ j, k + m.length ≤ j → L[j]?.getD 0 = 0) ∧ Ow.val L = Ow.val (l.take k) * Ow.val m ∧ Gr w wr
theorem val_take_all {L : List Nat} {n : Nat} (h : ∀ j, n ≤ j → L[j]?.getD 0 = 0) : Ow.val (L.take n) = Ow.val L := by
  by_cases hn : n ≤ L.length
  · have e := Ow.val_split n L hn
    have hz : ∀ (M : List Nat), (∀ j : Nat, M[j]?.getD 0 = 0) → Ow.val M = 0 := by
      intro M
      induction M with
      | nil => intro _; rfl
      | cons x M ih =>
        intro hM
        have h0 := hM 0
        simp at h0
        have := ih (fun j => by have := hM (j + 1); simpa using this)
        simp [Ow.val, h0, this]
    have := hz (L.drop n) (fun j => by rw [List.getElem?_drop]; exact h _ (by omega))
    rw [this] at e
    omega
  · rw [List.take_of_length_le (by omega)]

set_option maxRecDepth 100000 in
set_option maxHeartbeats 1000000 in
theorem times_any (l m : List Nat) (u v : Value) (w : World) (hu : HasD w u l) (hv : HasD w v m) (hl : l.length ≤ 64) (hm : m.length ≤ 64) :
    Calls Tryd.prog 76 #[u, v] w (DigPost (Ow.val l * Ow.val m) w) := by
  have HV := Lib.hid hv
  obtain ⟨du, a, cap, rfl, u1, u2, cu⟩ := hu
  obtain ⟨dv, b, cap', rfl, v1, v2, -⟩ := hv
  obtain ⟨la, hla⟩ : ∃ la, la = l.length := ⟨_, rfl⟩
  obtain ⟨lb, hlb⟩ : ∃ lb, lb = m.length := ⟨_, rfl⟩
  rw [← hla] at u1 hl ⊢
  rw [← hlb] at v1 hm HV ⊢
  have HLA := Lib.hid hla
  have HLB := Lib.hid hlb
  have HDU := Lib.hid du
  have HDV := Lib.hid dv
  have HCU := Lib.hid cu
  clear hla hlb du dv cu
  go_enter Tryd.func76, Tryd.ntmps76
  go_wp2_with fail
  have hrow : Rt 114 (w.alloc (.cells Tryd.zeroCells114 114)) w.heap.size (acells (List.replicate 128 0)) := by
    rw [zero_cols]; exact Rt.new _ _ _
  have g1 : Gr w (w.alloc (.cells Tryd.zeroCells114 114)) := Gr.new _ _
  obtain ⟨W, hW⟩ : ∃ W, W = w.alloc (.cells Tryd.zeroCells114 114) := ⟨_, rfl⟩
  rw [← hW] at hrow g1 ⊢
  clear hW
  have HROW := Lib.hid hrow
  have HG := Lib.hid g1
  clear hrow g1
  go_loopw [10] (fun i wr => ∃ k : Nat, i = .int .i64 k ∧ k ≤ la ∧ TimesS l m k w.heap.size w wr) (fun i _ => la - (intOf i).toNat)
  case atStart => exact ⟨0, rfl, by omega, _, HROW.out, by simp, Ow.dg_rep _, fun j _ => Ow.rep_at _ _, by rw [Ow.val_rep]; simp [Ow.val], HG.out⟩
  case round =>
    obtain ⟨k, rfl, hk, L, h1, h2, h3, h4, h5, h6⟩ := hrel
    have H1 := Lib.hid h1
    have H2 := Lib.hid h2
    have H3 := Lib.hid h3
    have H4 := Lib.hid h4
    have H5 := Lib.hid h5
    have H6 := Lib.hid h6
    have HS8 := Lib.hid (show (acells L).size = 128 by rw [acells_size]; exact h2)
    clear h1 h2 h3 h4 h5 h6
    by_cases hlt : k < la
    · obtain ⟨ga, oa, rfl, c2⟩ := HCU.out k (by rw [← HLA.out]; exact hlt)
      have c2 := H6.out.keeps c2
      have hx := Ow.dg_at HDU.out k
      obtain ⟨x, hxe⟩ : ∃ x, x = l[k]?.getD 0 := ⟨_, rfl⟩
      rw [← hxe] at c2 hx
      have HX := Lib.hid hxe
      have i5 : (k : Int) < (la : Int) := by omega
      have i6 : (0 : Int) ≤ (k : Int) := by omega
      clear hxe
      go_wp2_with fail
      refine wp_load_row 114 (.tmp 5) rfl w.heap.size (by simp [Act.eval]) _ (acells L) _ _ H1.out Tryd.underlying114 rfl (by rw [HS8.out]; exact infoCols) ?_
      go_wp2_with fail
      refine (withRow_any L m _ x k _ (HV.out.later H6.out) H3.out H2.out hx (by rw [← HLB.out]; omega) (H4.out _ (Nat.le_refl _))).mono ?_
      rintro e w2 ⟨L', rfl, p1, p2, p3, p4, g2⟩
      have hr2 : Rt 114 w2 w.heap.size (acells L) := (g2.block _ H1.out.lt).trans H1.out
      have hs9 : (acells L').size = 128 := by rw [acells_size, p1]; exact H2.out
      have hso : Sem.run Tryd.prog (storeCells ⟨w.heap.size, 0, none⟩ (acells L').toList) w2 = .ok () (w2.setRow w.heap.size (acells L')) := by
        have h := run_storeCells_from (P := Tryd.prog) w.heap.size 114 (acells L').toList 0 _ _ hr2 (by rw [Nat.zero_add, Array.length_toList, hs9, HS8.out]) (fun v hv => (Array.all_eq_true_iff_forall_mem.1 (acells_one L')) v (by simpa using hv))
        rw [h]; simp
      have HR2 := Lib.hid (show Rt 114 (w2.setRow w.heap.size (acells L')) w.heap.size (acells L') from setRow_heap _ _ _ _ _ _ hr2)
      have HP := Lib.hid (And.intro p1 (And.intro p2 (And.intro p3 p4)))
      have HG2 := Lib.hid (show Gr w (w2.setRow w.heap.size (acells L')) from below_setRow (H6.out.trans g2) (Nat.le_refl _) _)
      have HS9 := Lib.hid hs9
      clear p1 p2 p3 p4 g2 hr2 hs9
      go_wp2_with fail
      go_roundw
      case rel => exact ⟨k + 1, by go_num, by omega, L', HR2.out, by rw [HP.out.1]; exact H2.out, HP.out.2.1, fun j hj => by rw [HP.out.2.2.1 j (by omega)]; exact H4.out j (by omega), by rw [HP.out.2.2.2, H5.out, Ow.val_take_succ, Nat.add_mul, ← HX.out, Nat.mul_assoc], HG2.out⟩
      case measure => simp [intOf]; omega
    · obtain rfl : k = la := by omega
      have hcl : HasD wr (.slice (some ⟨w.heap.size, 0, none⟩) (k + lb) 128) (L.take (k + lb)) := by
        have hlen : (L.take (k + lb)).length = k + lb := by rw [List.length_take, H2.out]; omega
        refine ⟨Ow.dg_take H3.out _, _, 128, by rw [hlen], by rw [hlen]; omega, by omega, fun i hi => ⟨w.heap.size, 0, rfl, ?_⟩⟩
        rw [hlen] at hi
        rw [Nat.zero_add, H1.out.cell, acells_at _ _ (by rw [H2.out]; omega), List.getElem?_take_of_lt hi]
      have hvv : Ow.val (L.take (k + lb)) = Ow.val l * Ow.val m := by
        rw [val_take_all (fun j hj => H4.out j (by rw [← HLB.out]; exact hj)), H5.out, List.take_of_length_le (by rw [← HLA.out]; omega)]
      have HCL := Lib.hid hcl
      have HVV := Lib.hid hvv
      have i7 : (k : Int) + (lb : Int) ≤ 128 := by omega
      have i8 : (0 : Int) ≤ (k : Int) + (lb : Int) := by omega
      have i9 : ((k : Int) + (lb : Int)).toNat = k + lb := by omega
      clear hcl hvv
      go_wp2_with fail
      refine (clone_any (L.take (k + lb)) _ _ (by have h := HCL.out; exact h) (by rw [List.length_take]; omega)).mono ?_
      rintro e w2 ⟨v2, rfl, hown, g2⟩
      have HO := Lib.hid hown.hasD
      have HG2 := Lib.hid (H6.out.trans g2)
      clear hown g2
      go_wp2_with fail
      refine (trim_any _ _ _ HO.out).mono ?_
      rintro e w4 ⟨⟨v3, rfl, hcut⟩, rfl⟩
      have HCUT := Lib.hid hcut
      clear hcut
      go_wp2_with fail
      go_ret
      exact ⟨_, Ow.tr (L.take (k + lb)), rfl, HCUT.out _ HO.out, Ow.nm_tr (Ow.dg_take H3.out _), by rw [Ow.val_tr]; exact HVV.out, HG2.out⟩
end Go.Proofs.YtgalgldnhdiggaaDoor
