import Derived.Test.YtlfiakpmnkhcdaaLWF
namespace Go.Proofs.Ytlfiakpmnkhcdaa
open Go.RowKit
set_option linter.unusedVariables false
theorem zero_cols : Try.zeroCells128 = acells (List.replicate 128 0) := by kernel_rfl
def TimesS (l m : List Nat) (k g : Nat) (w wr : World) : Prop := ∃ L, Rt 128 wr g (acells L) ∧ L.length = 128 ∧ Ow.Dg L ∧ (∀ j, k + m.length ≤ j → L[j]?.getD 0 = 0) ∧ Ow.val L = Ow.val (l.take k) * Ow.val m ∧ Gr w wr
theorem val_take_all {L : List Nat} {n : Nat} (h : ∀ j, n ≤ j → L[j]?.getD 0 = 0) : Ow.val (L.take n) = Ow.val L := by
  by_cases hn : n ≤ L.length
  · have e := Ow.val_split n L hn
    have hz : ∀ (M : List Nat), (∀ j : Nat, M[j]?.getD 0 = 0) → Ow.val M = 0 := by
      intro M
      induction M with
      | nil => intro _; rfl
      | cons x M ih =>
        intro hM
        have h0 := hM 0
        simp at h0
        have := ih (fun j => by have := hM (j + 1); simpa using this)
        simp [Ow.val, h0, this]
    have := hz (L.drop n) (fun j => by rw [List.getElem?_drop]; exact h _ (by omega))
    rw [this] at e
    omega
  · rw [List.take_of_length_le (by omega)]
set_option maxRecDepth 100000 in
set_option maxHeartbeats 1000000 in
theorem times_any (l m : List Nat) (u v : Value) (w : World) (hu : HasD w u l) (hv : HasD w v m) (hl : l.length ≤ 64) (hm : m.length ≤ 64) :
    Calls Try.prog 79 #[u, v] w (DigPost (Ow.val l * Ow.val m) w) := by
  have HV := Lib.hid hv
  obtain ⟨du, a, cap, rfl, u1, u2, cu⟩ := hu
  obtain ⟨dv, b, cap', rfl, v1, v2, -⟩ := hv
  obtain ⟨la, hla⟩ : ∃ la, la = l.length := ⟨_, rfl⟩
  obtain ⟨lb, hlb⟩ : ∃ lb, lb = m.length := ⟨_, rfl⟩
  rw [← hla] at u1 hl ⊢
  rw [← hlb] at v1 hm HV ⊢
  have HLA := Lib.hid hla
  have HLB := Lib.hid hlb
  have HDU := Lib.hid du
  have HDV := Lib.hid dv
  have HCU := Lib.hid cu
  clear hla hlb du dv cu
  go_enter Try.func79, Try.ntmps79
  go_wp2_with fail
  have hrow : Rt 128 (w.alloc (.cells Try.zeroCells128 128)) w.heap.size (acells (List.replicate 128 0)) := by
    rw [zero_cols]; exact Rt.new _ _ _
  have g1 : Gr w (w.alloc (.cells Try.zeroCells128 128)) := Gr.new _ _
  obtain ⟨W, hW⟩ : ∃ W, W = w.alloc (.cells Try.zeroCells128 128) := ⟨_, rfl⟩
  rw [← hW] at hrow g1 ⊢
  clear hW
  have HROW := Lib.hid hrow
  have HG := Lib.hid g1
  clear hrow g1
  go_loopw [10] (fun i wr => ∃ k : Nat, i = .int .i64 k ∧ k ≤ la ∧ TimesS l m k w.heap.size w wr) (fun i _ => la - (intOf i).toNat)
  case atStart => exact ⟨0, rfl, by omega, _, HROW.out, by simp, Ow.dg_rep _, fun j _ => Ow.rep_at _ _, by rw [Ow.val_rep]; simp [Ow.val], HG.out⟩
  case round =>
    obtain ⟨k, rfl, hk, L, h1, h2, h3, h4, h5, h6⟩ := hrel
    have H1 := Lib.hid h1
    have H2 := Lib.hid h2
    have H3 := Lib.hid h3
    have H4 := Lib.hid h4
    have H5 := Lib.hid h5
    have H6 := Lib.hid h6
    have HS8 := Lib.hid (show (acells L).size = 128 by rw [acells_size]; exact h2)
    clear h1 h2 h3 h4 h5 h6
    by_cases hlt : k < la
    · obtain ⟨ga, oa, rfl, c2⟩ := HCU.out k (by rw [← HLA.out]; exact hlt)
      have c2 := H6.out.keeps c2
      have hx := Ow.dg_at HDU.out k
      obtain ⟨x, hxe⟩ : ∃ x, x = l[k]?.getD 0 := ⟨_, rfl⟩
      rw [← hxe] at c2 hx
      have HX := Lib.hid hxe
      have i5 : (k : Int) < (la : Int) := by omega
      have i6 : (0 : Int) ≤ (k : Int) := by omega
      clear hxe
      go_wp2_with fail
      refine wp_load_row 128 (.tmp 5) rfl w.heap.size (by simp [Act.eval]) _ (acells L) _ _ H1.out Try.underlying128 rfl (by rw [HS8.out]; exact infoCols) ?_
      go_wp2_with fail
      refine (withRow_any L m _ x k _ (HV.out.later H6.out) H3.out H2.out hx (by rw [← HLB.out]; omega) (H4.out _ (Nat.le_refl _))).mono ?_
      rintro e w2 ⟨L', rfl, p1, p2, p3, p4, g2⟩
      have hr2 : Rt 128 w2 w.heap.size (acells L) := (g2.block _ H1.out.lt).trans H1.out
      have hs9 : (acells L').size = 128 := by rw [acells_size, p1]; exact H2.out
      have hso : Sem.run Try.prog (storeCells ⟨w.heap.size, 0, none⟩ (acells L').toList) w2 = .ok () (w2.setRow w.heap.size (acells L')) := by
        have h := run_storeCells_from (P := Try.prog) w.heap.size 128 (acells L').toList 0 _ _ hr2 (by rw [Nat.zero_add, Array.length_toList, hs9, HS8.out]) (fun v hv => (Array.all_eq_true_iff_forall_mem.1 (acells_one L')) v (by simpa using hv))
        rw [h]; simp
      have HR2 := Lib.hid (show Rt 128 (w2.setRow w.heap.size (acells L')) w.heap.size (acells L') from setRow_heap _ _ _ _ _ _ hr2)
      have HP := Lib.hid (And.intro p1 (And.intro p2 (And.intro p3 p4)))
      have HG2 := Lib.hid (show Gr w (w2.setRow w.heap.size (acells L')) from below_setRow (H6.out.trans g2) (Nat.le_refl _) _)
      have HS9 := Lib.hid hs9
      clear p1 p2 p3 p4 g2 hr2 hs9
      go_wp2_with fail
      go_roundw
      case rel => exact ⟨k + 1, by go_num, by omega, L', HR2.out, by rw [HP.out.1]; exact H2.out, HP.out.2.1, fun j hj => by rw [HP.out.2.2.1 j (by omega)]; exact H4.out j (by omega), by rw [HP.out.2.2.2, H5.out, Ow.val_take_succ, Nat.add_mul, ← HX.out, Nat.mul_assoc], HG2.out⟩
      case measure => simp [intOf]; omega
    · obtain rfl : k = la := by omega
      have hcl : HasD wr (.slice (some ⟨w.heap.size, 0, none⟩) (k + lb) 128) (L.take (k + lb)) := by
        have hlen : (L.take (k + lb)).length = k + lb := by rw [List.length_take, H2.out]; omega
        refine ⟨Ow.dg_take H3.out _, _, 128, by rw [hlen], by rw [hlen]; omega, by omega, fun i hi => ⟨w.heap.size, 0, rfl, ?_⟩⟩
        rw [hlen] at hi
        rw [Nat.zero_add, H1.out.cell, acells_at _ _ (by rw [H2.out]; omega), List.getElem?_take_of_lt hi]
      have hvv : Ow.val (L.take (k + lb)) = Ow.val l * Ow.val m := by
        rw [val_take_all (fun j hj => H4.out j (by rw [← HLB.out]; exact hj)), H5.out, List.take_of_length_le (by rw [← HLA.out]; omega)]
      have HCL := Lib.hid hcl
      have HVV := Lib.hid hvv
      have i7 : (k : Int) + (lb : Int) ≤ 128 := by omega
      have i8 : (0 : Int) ≤ (k : Int) + (lb : Int) := by omega
      have i9 : ((k : Int) + (lb : Int)).toNat = k + lb := by omega
      clear hcl hvv
      go_wp2_with fail
      refine (clone_any (L.take (k + lb)) _ _ (by have h := HCL.out; exact h) (by rw [List.length_take]; omega)).mono ?_
      rintro e w2 ⟨v2, rfl, hown, g2⟩
      have HO := Lib.hid hown.hasD
      have HG2 := Lib.hid (H6.out.trans g2)
      clear hown g2
      go_wp2_with fail
      refine (trim_any _ _ _ HO.out).mono ?_
      rintro e w4 ⟨⟨v3, rfl, hcut⟩, rfl⟩
      have HCUT := Lib.hid hcut
      clear hcut
      go_wp2_with fail
      go_ret
      exact ⟨_, Ow.tr (L.take (k + lb)), rfl, HCUT.out _ HO.out, Ow.nm_tr (Ow.dg_take H3.out _), by rw [Ow.val_tr]; exact HVV.out, HG2.out⟩
end Go.Proofs.Ytlfiakpmnkhcdaa
namespace Go.Proofs.Ytlfiakpmnkhcdaa
open Go.RowKit
set_option linter.unusedVariables false
theorem signs_box (neg : Bool) (w : World) :
    Calls Try.prog 46 #[.bool neg] w fun e w' => ∃ p, e = .returned (.func (.func 67) #[] #[.pointer (some ⟨p, 0, none⟩)]) ∧ w'.cell? ⟨p, 0, none⟩ = some (.bool neg) ∧ Gr w w' := by
  refine (signs_any neg w).mono ?_
  rintro e w' ⟨rfl, rfl⟩
  exact ⟨_, rfl, cell_new _ _ _, Gr.new _ _⟩
theorem sg_mul (x y : Int) : sg (decide (x < 0) != decide (y < 0)) (x.natAbs * y.natAbs) = x * y := by
  unfold sg
  by_cases h1 : x < 0 <;> by_cases h2 : y < 0
  · have hx : (x.natAbs : Int) = -x := by omega
    have hy : (y.natAbs : Int) = -y := by omega
    simp [h1, h2, hx, hy, Int.neg_mul_neg]
  · have hx : (x.natAbs : Int) = -x := by omega
    have hy : (y.natAbs : Int) = y := by omega
    simp [h1, h2, hx, hy, Int.neg_mul]
  · have hx : (x.natAbs : Int) = x := by omega
    have hy : (y.natAbs : Int) = -y := by omega
    simp [h1, h2, hx, hy, Int.mul_neg]
  · have hx : (x.natAbs : Int) = x := by omega
    have hy : (y.natAbs : Int) = y := by omega
    simp [h1, h2, hx, hy]
set_option maxRecDepth 100000 in
set_option maxHeartbeats 2000000 in
theorem product_any (N : Nat) (x y : Int) (u v : Value) (w : World) (hu : HasI 64 w u x) (hv : HasI 64 w v y) (hN : x.natAbs * y.natAbs < 4294967296 ^ N) :
    Calls Try.prog 63 #[u, v] w (IntZ N (x * y) w) := by
  obtain ⟨s, l, rfl, hd, hn, hval, hl⟩ := hu
  obtain ⟨t, m, rfl, hd', hn', hval', hm⟩ := hv
  have HD := Lib.hid hd
  have HD' := Lib.hid hd'
  have HV := Lib.hid hval
  have HV' := Lib.hid hval'
  have HN := Lib.hid hN
  have HSG := Lib.hid (sg_mul x y)
  obtain ⟨nx, hnx⟩ : ∃ nx, nx = decide (x < 0) := ⟨_, rfl⟩
  obtain ⟨ny, hny⟩ : ∃ ny, ny = decide (y < 0) := ⟨_, rfl⟩
  rw [← hnx, ← hny] at HSG ⊢
  clear hd hd' hn hn' hval hval' hnx hny hN
  obtain ⟨-, a, cap, rfl, -, -, -⟩ := id HD.out
  obtain ⟨-, a', cap', rfl, -, -, -⟩ := id HD'.out
  go_enter Try.func63, Try.ntmps63
  go_wp2_with fail
  obtain ⟨W, hW⟩ : ∃ W : World, W = ((w.alloc (.cells #[.bool nx, .slice a l.length cap] 87)).alloc (.cells #[.bool ny, .slice a' m.length cap'] 87)).alloc (.cells #[.bool false, .slice none 0 0] 87) := ⟨_, rfl⟩
  rw [← hW]
  have g1 : Gr w W := by rw [hW]; exact ((Gr.new w _).alloc _).alloc _
  have x0 : W.cell? ⟨w.heap.size, 0, none⟩ = some (.bool nx) := by rw [hW]; simp [go_sem]
  have x1 : W.cell? ⟨w.heap.size, 1, none⟩ = some (.slice a l.length cap) := by rw [hW]; simp [go_sem]
  have y0 : W.cell? ⟨w.heap.size + 1, 0, none⟩ = some (.bool ny) := by rw [hW]; simp [go_sem]
  have y1 : W.cell? ⟨w.heap.size + 1, 1, none⟩ = some (.slice a' m.length cap') := by rw [hW]; simp [go_sem]
  have r0 : W.cell? ⟨w.heap.size + 1 + 1, 0, none⟩ = some (.bool false) := by rw [hW]; simp [go_sem]
  have r1 : W.cell? ⟨w.heap.size + 1 + 1, 1, none⟩ = some (.slice none 0 0) := by rw [hW]; simp [go_sem]
  have e0 : W.frozen? ⟨w.heap.size + 1 + 1, 0, none⟩ = false := by rw [hW]; simp [go_sem]
  have e1 : W.frozen? ⟨w.heap.size + 1 + 1, 1, none⟩ = false := by rw [hW]; simp [go_sem]
  clear hW
  have x0 : W.drew.cell? ⟨w.heap.size, 0, none⟩ = some (.bool nx) := x0
  have x1 : W.drew.cell? ⟨w.heap.size, 1, none⟩ = some (.slice a l.length cap) := x1
  have y0 : W.drew.cell? ⟨w.heap.size + 1, 0, none⟩ = some (.bool ny) := y0
  have y1 : W.drew.cell? ⟨w.heap.size + 1, 1, none⟩ = some (.slice a' m.length cap') := y1
  have R0 := Lib.hid (show W.drew.cell? ⟨w.heap.size + 1 + 1, 0, none⟩ = some (.bool false) from r0)
  have R1 := Lib.hid (show W.drew.cell? ⟨w.heap.size + 1 + 1, 1, none⟩ = some (.slice none 0 0) from r1)
  have F0 := Lib.hid (show W.drew.frozen? ⟨w.heap.size + 1 + 1, 0, none⟩ = false from e0)
  have F1 := Lib.hid (show W.drew.frozen? ⟨w.heap.size + 1 + 1, 1, none⟩ = false from e1)
  have HG := Lib.hid (show Gr w W.drew from Below.drew g1)
  have n1 : ¬ (w.heap.size = w.heap.size + 1 + 1) := by omega
  have n2 : ¬ (w.heap.size + 1 + 1 = w.heap.size) := by omega
  clear g1 r0 r1 e0 e1
  go_region_held3 (fun w' => w'.cell? ⟨w.heap.size, 0, none⟩ = some (.bool nx) ∧ w'.cell? ⟨w.heap.size, 1, none⟩ = some (.slice a l.length cap) ∧ w'.cell? ⟨w.heap.size + 1, 0, none⟩ = some (.bool ny) ∧ w'.cell? ⟨w.heap.size + 1, 1, none⟩ = some (.slice a' m.length cap')) (first | exact ⟨x0, x1, y0, y1⟩ | go_keep)
    (first
      | (go_at_call 46; (with_reducible refine (signs_box _ _).mono ?_); rintro e w' ⟨p, rfl, hb, g⟩; have x0 := g.keeps x0; have x1 := g.keeps x1; have y0 := g.keeps y0; have y1 := g.keeps y1; have HB := Lib.hid hb; (try have HP := Lib.hid (HP.out.later g)); have F0 := Lib.hid (g.frozen R0.out F0.out); have F1 := Lib.hid (g.frozen R1.out F1.out); have R0 := Lib.hid (g.keeps R0.out); have R1 := Lib.hid (g.keeps R1.out); have HG := Lib.hid (HG.out.trans g); clear hb g)
      | (go_at_call 79; (with_reducible refine (times_any l m _ _ _ (HD.out.later HG.out) (HD'.out.later HG.out) hl hm).mono ?_); rintro e w' ⟨q, lq, rfl, hdq, hnq, hvq, g⟩; have x0 := g.keeps x0; have x1 := g.keeps x1; have y0 := g.keeps y0; have y1 := g.keeps y1; (try have HB := Lib.hid (g.keeps HB.out)); have HP := Lib.hid hdq; have HNQ := Lib.hid (show (Ow.tr lq).length ≤ N from Ow.nm_len (by rw [hnq.2]; exact hnq) (by rw [hnq.2, hvq, HV.out, HV'.out]; exact HN.out)); have HVQ := Lib.hid hvq; have F0 := Lib.hid (g.frozen R0.out F0.out); have F1 := Lib.hid (g.frozen R1.out F1.out); have R0 := Lib.hid (g.keeps R0.out); have R1 := Lib.hid (g.keeps R1.out); have HG := Lib.hid (HG.out.trans g); clear hdq hnq hvq g)
      | (go_at_call 67; (with_reducible refine (signs1_int _ lq q p N _ HP.out HB.out HNQ.out).mono ?_); rintro e w' ⟨t, rfl, ⟨s', l', rfl, hs, hnl, hvl, hln⟩, g⟩; have x0 := g.keeps x0; have x1 := g.keeps x1; have y0 := g.keeps y0; have y1 := g.keeps y1; have f0 := g.frozen R0.out F0.out; have f1 := g.frozen R1.out F1.out; have r0 := g.keeps R0.out; have r1 := g.keeps R1.out; have HGG := Lib.hid (HG.out.trans g); obtain ⟨nz, hnz⟩ : ∃ nz, nz = decide (sg (!(nx == ny)) (Ow.val lq) < 0) := ⟨_, rfl⟩; rw [← hnz]; have HNZ := Lib.hid hnz; obtain ⟨-, a'', cap'', rfl, -, -, -⟩ := id hs; have HS := Lib.hid hs; have HE := Lib.hid (And.intro hnl (And.intro hvl hln)); clear hs hnl hvl hln hnz g))
  all_goals
    go_wp2_with fail
    refine bodyPost_ret (v := .agg #[.bool nz, .slice a'' l'.length cap'']) (by simp [results, Try.results63, go_sem, r0, r1]) rfl ?_
    exact intz_stored (by rw [HVQ.out, HV.out, HV'.out]; exact HSG.out) HNZ.out HS.out HE.out.1 HE.out.2.1 HE.out.2.2 HGG.out (by omega) r0 r1 (by simp) (by simp)
end Go.Proofs.Ytlfiakpmnkhcdaa
namespace Go.Proofs.Ytlfiakpmnkhcdaa
open Go.RowKit
set_option linter.unusedVariables false
def One (a : Bool) (s : ByteArray) (w : World) (e : Ending) (w' : World) : Prop := e = .returned (.agg #[.bool a, .string s]) ∧ Gr w w'
theorem two_digits (w : World) (a b : Nat) (ha : a < 4294967296) (hb : b < 4294967296) : HasD (w.alloc (.cells #[.int .u32 (a : Nat), .int .u32 (b : Nat)] 22)) (.slice (some ⟨w.heap.size, 0, none⟩) 2 2) [a, b] := by
  refine ⟨fun x hx => ?_, _, 2, rfl, by simp, by omega, fun i hi => ⟨w.heap.size, 0, rfl, ?_⟩⟩
  · rcases List.mem_cons.1 hx with rfl | hx
    · exact ha
    · rcases List.mem_singleton.1 hx with rfl
      exact hb
  · have : i = 0 ∨ i = 1 := by simp at hi; omega
    rcases this with rfl | rfl <;> simp [go_sem]
def sgB (n : Int) : Bool := decide (n < 0)
theorem put2 {w3 : World} {B : Nat} {u0 u1 : Value} (r0 : w3.cell? ⟨B, 0, none⟩ = some u0) (r1 : w3.cell? ⟨B, 1, none⟩ = some u1) (a b : Value) :
    ((w3.setCell ⟨B, 0, none⟩ a).setCell ⟨B, 1, none⟩ b).cell? ⟨B, 0, none⟩ = some a ∧ ((w3.setCell ⟨B, 0, none⟩ a).setCell ⟨B, 1, none⟩ b).cell? ⟨B, 1, none⟩ = some b := by
  constructor <;> simp [go_sem, r0, r1]
theorem wrap_u64 (x : Int) : IntKind.u64.wrap x = x % 18446744073709551616 := rfl
theorem small_R {z : Int} (h1 : -9223372036854775808 ≤ z) (h2 : z ≤ 9223372036854775807) : z.natAbs < Ow.R := by
  rw [Ow.R_digits]
  exact Nat.lt_of_lt_of_le (show z.natAbs < 4294967296 ^ 2 by omega) (Nat.pow_le_pow_right (by omega) (by omega))
set_option maxRecDepth 100000 in
set_option maxHeartbeats 1000000 in
theorem of_any (n : Int) (w : World) (h1 : -9223372036854775808 ≤ n) (h2 : n ≤ 9223372036854775807) :
    Calls Try.prog 25 #[.int .i64 n] w (One (decide (n < 0)) (bstr n.natAbs) w) := by
  have HR := Lib.hid (small_R h1 h2)
  obtain ⟨M, hM⟩ : ∃ M : Nat, M = n.natAbs := ⟨_, rfl⟩
  have hM2 : M ≤ 9223372036854775808 := by omega
  have hv : Ow.val [M % 4294967296, M / 4294967296] = M := by simp [Ow.val]; omega
  have key : (decide (n < 0) = true ∧ IntKind.u64.wrap (-IntKind.u64.wrap n) = (M : Int) ∧ sg true (Ow.val [M % 4294967296, M / 4294967296]) = n) ∨ (decide (n < 0) = false ∧ IntKind.u64.wrap n = (M : Int) ∧ sg false (Ow.val [M % 4294967296, M / 4294967296]) = n) := by
    rw [hv]
    by_cases hn : n < 0
    · left
      refine ⟨by simp [hn], ?_, by unfold sg; simp; omega⟩
      rw [wrap_u64, wrap_u64]; omega
    · right
      refine ⟨by simp [hn], ?_, by unfold sg; simp; omega⟩
      rw [wrap_u64]; omega
  have HM := Lib.hid hM
  have q1 : (M : Int) % 4294967296 = ((M % 4294967296 : Nat) : Int) := by omega
  have q2 : (M : Int) / 4294967296 = ((M / 4294967296 : Nat) : Int) := by omega
  have q3 : M % 4294967296 < 4294967296 := by omega
  have q4 : M / 4294967296 < 4294967296 := by omega
  rw [hM.symm]
  generalize M % 4294967296 = lo at *
  generalize M / 4294967296 = hi at *
  have HV := Lib.hid hv
  clear hM hv
  rcases key with ⟨t1, hw, hsg⟩ | ⟨t1, hw, hsg⟩
  all_goals
    have HSG := Lib.hid hsg
    clear hsg
    go_enter Try.func25, Try.ntmps25
    go_wp2_with fail
    refine (signs_box _ _).mono ?_
    rintro e w1 ⟨p, rfl, hb, g1⟩
    have r0 := g1.keeps (p := ⟨w.heap.size, 0, none⟩) (v := .bool false) (by simp [go_sem])
    have r1 := g1.keeps (p := ⟨w.heap.size, 1, none⟩) (v := .string ⟨#[]⟩) (by simp [go_sem])
    have e0 := g1.frozen (p := ⟨w.heap.size, 0, none⟩) (v := .bool false) (by simp [go_sem]) (by simp [go_sem])
    have e1 := g1.frozen (p := ⟨w.heap.size, 1, none⟩) (v := .string ⟨#[]⟩) (by simp [go_sem]) (by simp [go_sem])
    have HG := Lib.hid ((Gr.new w _).trans g1)
    have R0 := Lib.hid r0
    have R1 := Lib.hid r1
    have F0 := Lib.hid e0
    have F1 := Lib.hid e1
    have HB := Lib.hid hb
    clear g1 hb r0 r1 e0 e1
    go_wp2_with fail
    have g2 : Gr w1 (w1.alloc (.cells #[.int .u32 (lo : Nat), .int .u32 (hi : Nat)] 22)) := Gr.new _ _
    refine (signs1_int _ [lo, hi] _ p 2 _ (two_digits w1 lo hi q3 q4) (g2.keeps HB.out) (by have := Ow.tr_len [lo, hi]; simpa using this)).mono ?_
    rintro e w2 ⟨v, rfl, hv, g3⟩
    rw [HSG.out] at hv
    have HI := Lib.hid hv
    have HG2 := Lib.hid (g2.trans g3)
    clear hv g2 g3
    go_wp2_with fail
    refine (form_any 2 n v _ HI.out (by omega)).mono ?_
    rintro e w3 ⟨rfl, g4⟩
    rw [fNeg_in HR.out, fStr_in HR.out, fErr_in HR.out, ← HM.out]
    have g5 := HG2.out.trans g4
    have r0 := g5.keeps R0.out
    have r1 := g5.keeps R1.out
    have e0 := g5.frozen R0.out F0.out
    have e1 := g5.frozen R1.out F1.out
    have HGG := Lib.hid (HG.out.trans g5)
    rw [t1]
    have hlt : w.heap.size < w3.heap.size := World.block_lt_of_cell? w3 _ r0
    have n1 : ¬ (w.heap.size = w3.heap.size) := by omega
    have n2 : ¬ (w3.heap.size = w.heap.size) := by omega
    clear g4 g5
    go_wp2_with fail
    have hp := put2 r0 r1 (.bool (sgB n)) (.string (bstr M))
    have hq := fun o => (Gr.new ((w3.setCell ⟨w.heap.size, 0, none⟩ (.bool (sgB n))).setCell ⟨w.heap.size, 1, none⟩ (.string (bstr M))) o)
    rw [show sgB n = _ from t1] at hp hq
    have c0 := fun o => (hq o).keeps hp.1
    have c1 := fun o => (hq o).keeps hp.2
    refine bodyPost_ret (v := .agg #[.bool _, .string (bstr M)]) (by simp [results, Try.results25, go_sem, c0, c1]; first | done | rfl) rfl ?_
    exact ⟨by rw [t1], ((HGG.out.setCell (p := ⟨w.heap.size, 0, none⟩) (by simp) _).setCell (p := ⟨w.heap.size, 1, none⟩) (by simp) _).alloc _⟩
end Go.Proofs.Ytlfiakpmnkhcdaa
namespace Ow
set_option linter.unusedVariables false
theorem R_add {a b : Nat} (ha : a < R) (hb : b < R) : a + b < 4294967296 ^ 65 := by
  rw [R_digits] at ha hb
  rw [Nat.pow_succ]; omega
theorem R_mul {a b : Nat} (ha : a < R) (hb : b < R) : a * b < 4294967296 ^ 128 := by
  rw [R_digits] at ha hb
  rw [show (128 : Nat) = 64 + 64 from rfl, Nat.pow_add]
  exact Nat.mul_lt_mul'' ha hb
end Ow
namespace Go.Proofs.Ytlfiakpmnkhcdaa
open Go.RowKit
set_option linter.unusedVariables false
set_option maxRecDepth 100000 in
set_option maxHeartbeats 1000000 in
theorem add_of (neg : Bool) (s : ByteArray) (neg' : Bool) (s' : ByteArray) (A : Bool) (S : ByteArray) (C : Int) (w : World)
    (h : ∀ W, Calls Try.prog 49 #[.agg #[.bool neg, .string s], .agg #[.bool neg', .string s'], .func (.func 64) #[] #[]] W (Res A S C W)) :
    Calls Try.prog 42 #[.agg #[.bool neg, .string s], .agg #[.bool neg', .string s']] w (Res A S C w) := by
  have H := Lib.hid h
  clear h
  go_enter Try.func42, Try.ntmps42
  go_wp2_with fail
  refine (H.out _).mono ?_
  rintro e w1 ⟨rfl, g1⟩
  have g0 : Gr w (((w.alloc (.cells #[.bool neg, .string s] 42)).alloc (.cells #[.bool neg', .string s'] 42)).alloc (.cells #[.bool false, .string ⟨#[]⟩] 42)) := ((Gr.new w _).alloc _).alloc _
  have r0 := g1.keeps (p := ⟨w.heap.size + 1 + 1, 0, none⟩) (v := .bool false) (by simp [go_sem])
  have r1 := g1.keeps (p := ⟨w.heap.size + 1 + 1, 1, none⟩) (v := .string ⟨#[]⟩) (by simp [go_sem])
  have f0 := g1.frozen (p := ⟨w.heap.size + 1 + 1, 0, none⟩) (v := .bool false) (by simp [go_sem]) (by simp [go_sem])
  have f1 := g1.frozen (p := ⟨w.heap.size + 1 + 1, 1, none⟩) (v := .string ⟨#[]⟩) (by simp [go_sem]) (by simp [go_sem])
  have HG := Lib.hid (g0.trans g1)
  clear g0 g1
  go_wp2_with fail
  refine bodyPost_ret (v := .tuple #[.agg #[.bool A, .string S], .int .i64 C]) (by simp [results, Try.results42, go_sem, r0, r1]) rfl ?_
  exact ⟨rfl, (HG.out.setCell (p := ⟨w.heap.size + 1 + 1, 0, none⟩) (by simp; omega) _).setCell (p := ⟨w.heap.size + 1 + 1, 1, none⟩) (by simp; omega) _⟩
theorem add_ok (neg : Bool) (s : ByteArray) (neg' : Bool) (s' : ByteArray) (w : World) (h : Form neg s) (h' : Form neg' s') :
    Calls Try.prog 42 #[.agg #[.bool neg, .string s], .agg #[.bool neg', .string s']] w (Res (fNeg (zOf neg s + zOf neg' s')) (fStr (zOf neg s + zOf neg' s')) (fErr (zOf neg s + zOf neg' s')) w) :=
  add_of neg s neg' s' _ _ _ w fun W => binary_ok 64 65 #[] (zOf neg s + zOf neg' s') neg s neg' s' W h h' (by omega) (enters_of Try.func64 (by kernel_rfl) (by kernel_rfl)) fun V u v _ hu hv => sum_any 64 65 _ _ u v V hu hv (by omega) (Ow.R_add (form_range h) (form_range h'))
set_option maxRecDepth 100000 in
set_option maxHeartbeats 1000000 in
theorem mul_of (neg : Bool) (s : ByteArray) (neg' : Bool) (s' : ByteArray) (A : Bool) (S : ByteArray) (C : Int) (w : World)
    (h : ∀ W, Calls Try.prog 49 #[.agg #[.bool neg, .string s], .agg #[.bool neg', .string s'], .func (.func 63) #[] #[]] W (Res A S C W)) :
    Calls Try.prog 41 #[.agg #[.bool neg, .string s], .agg #[.bool neg', .string s']] w (Res A S C w) := by
  have H := Lib.hid h
  clear h
  go_enter Try.func41, Try.ntmps41
  go_wp2_with fail
  refine (H.out _).mono ?_
  rintro e w1 ⟨rfl, g1⟩
  have g0 : Gr w (((w.alloc (.cells #[.bool neg, .string s] 42)).alloc (.cells #[.bool neg', .string s'] 42)).alloc (.cells #[.bool false, .string ⟨#[]⟩] 42)) := ((Gr.new w _).alloc _).alloc _
  have r0 := g1.keeps (p := ⟨w.heap.size + 1 + 1, 0, none⟩) (v := .bool false) (by simp [go_sem])
  have r1 := g1.keeps (p := ⟨w.heap.size + 1 + 1, 1, none⟩) (v := .string ⟨#[]⟩) (by simp [go_sem])
  have f0 := g1.frozen (p := ⟨w.heap.size + 1 + 1, 0, none⟩) (v := .bool false) (by simp [go_sem]) (by simp [go_sem])
  have f1 := g1.frozen (p := ⟨w.heap.size + 1 + 1, 1, none⟩) (v := .string ⟨#[]⟩) (by simp [go_sem]) (by simp [go_sem])
  have HG := Lib.hid (g0.trans g1)
  clear g0 g1
  go_wp2_with fail
  refine bodyPost_ret (v := .tuple #[.agg #[.bool A, .string S], .int .i64 C]) (by simp [results, Try.results41, go_sem, r0, r1]) rfl ?_
  exact ⟨rfl, (HG.out.setCell (p := ⟨w.heap.size + 1 + 1, 0, none⟩) (by simp; omega) _).setCell (p := ⟨w.heap.size + 1 + 1, 1, none⟩) (by simp; omega) _⟩
theorem mul_ok (neg : Bool) (s : ByteArray) (neg' : Bool) (s' : ByteArray) (w : World) (h : Form neg s) (h' : Form neg' s') :
    Calls Try.prog 41 #[.agg #[.bool neg, .string s], .agg #[.bool neg', .string s']] w (Res (fNeg (zOf neg s * zOf neg' s')) (fStr (zOf neg s * zOf neg' s')) (fErr (zOf neg s * zOf neg' s')) w) :=
  mul_of neg s neg' s' _ _ _ w fun W => binary_ok 63 128 #[] (zOf neg s * zOf neg' s') neg s neg' s' W h h' (by omega) (enters_of Try.func63 (by kernel_rfl) (by kernel_rfl)) fun V u v _ hu hv => product_any 128 _ _ u v V hu hv (Ow.R_mul (form_range h) (form_range h'))
end Go.Proofs.Ytlfiakpmnkhcdaa
