import Derived.Test.YtfmmkdmnondomaaLSx
import Derived.Test.YtfmmkdmnondomaaLSG
/- The law SlotsProducts. -/
namespace Go.Proofs.Ytfmmkdmnondomaa
open Go.RowKit
set_option linter.unusedVariables false

theorem rBal8_q (x : Int) (m d : Nat) (w : World) (hm : 3 ≤ m ∧ m ≤ 2147483647) (ho : m % 2 = 1) (hx : -9223372036854775808 ≤ x ∧ x ≤ 9223372036854775807) :
    Calls Try.prog 27 #[.int .i64 x, .int .i64 m] (w.drewN d) (fun e w'' => e = .returned (.int .i64 (rb x m)) ∧ ∃ q, w'' = w.drewN q) :=
  (rBal8_any x m (w.drewN d) hm ho hx).mono fun _ _ ⟨he, hw⟩ => ⟨he, d, hw.symm⟩
/-- Two rows of zeros. -/
def TwoR (W : World) (n : Nat) (p q : Value) (wx : World) : Prop :=
  ∃ G1 G2 : Nat, p = .slice (some ⟨G1, 0, none⟩) n n ∧ q = .slice (some ⟨G2, 0, none⟩) n n ∧ G1 ≠ G2 ∧ W.heap.size ≤ G1 ∧ W.heap.size ≤ G2 ∧ Lo.Row wx G1 (List.replicate n 0) ∧ Lo.Row wx G2 (List.replicate n 0) ∧ Gr W wx
theorem twoR_new (W : World) (n : Nat) : TwoR W n (.slice (some ⟨W.heap.size, 0, none⟩) n n) (.slice (some ⟨W.heap.size + 1, 0, none⟩) n n) ((W.alloc (.cells (Lo.zrow n) 2)).alloc (.cells (Lo.zrow n) 2)).drew := by
  have h1 := (Lo.Row.zeros W n).later (Gr.new _ (.cells (Lo.zrow n) 2))
  have h2 := Lo.Row.zeros (W.alloc (.cells (Lo.zrow n) 2)) n
  rw [show (W.alloc (.cells (Lo.zrow n) 2)).heap.size = W.heap.size + 1 by simp] at h2
  exact ⟨_, _, rfl, rfl, by omega, Nat.le_refl _, by omega, h1, h2, ((Gr.new W _).alloc _).drewN 1⟩
theorem twoR_new' (W : World) (n : Nat) : TwoR W n (.slice (some ⟨W.heap.size + 1, 0, none⟩) n n) (.slice (some ⟨W.heap.size, 0, none⟩) n n) ((W.alloc (.cells (Lo.zrow n) 2)).alloc (.cells (Lo.zrow n) 2)).drew := by
  obtain ⟨G1, G2, e1, e2, h1, h2, h3, h4, h5, h6⟩ := twoR_new W n
  exact ⟨G2, G1, e2, e1, fun e => h1 e.symm, h3, h2, h5, h4, h6⟩
theorem Lo.Row.other {W : World} {g h : Nat} {l : List Int} (k : Lo.Row W g l) (hne : g ≠ h) (j : Nat) (u : Value) : Lo.Row (W.setCell ⟨h, j, none⟩ u) g l := by
  obtain ⟨h0, cur, h1, h2, h3⟩ := k
  refine ⟨h0, cur, ?_, h2, h3⟩
  show (W.heap.modify h _)[g]? = _
  rw [Array.getElem?_modify, if_neg (fun e => hne e.symm)]
  exact h1
/-- What the sums are. -/
def SumR (n M : Nat) (A B S : List Int) (i : Nat) : Prop := S.length = n ∧ ∀ j, j < i → Op.cf S j = rb (Op.cf A j + Op.cf B j) M
/-- What the products are. -/
structure PrR (n M x : Nat) (A B L : List Int) (i k : Nat) : Prop where
  len : L.length = n
  bd : ∀ j, j < n → -(M : Int) < Op.cf L j ∧ Op.cf L j < M
  val : ∀ t, t < n → Os.C M (Os.vec n x L t) (Os.pp n x A B t i k)
theorem PrR.step {n p M x i k j : Nat} {A B L : List Int} {z' : Int} (hr : Os.Rt n p M x) (h : PrR n M x A B L i k) (hi : i < n) (hk : k < n) (hj : j = if i + k < n then i + k else i + k - n)
    (hz : Os.C M z' (Op.cf L j + if i + k < n then Op.cf A i * Op.cf B k else -(Op.cf A i * Op.cf B k))) (hb : -(M : Int) < z' ∧ z' < M) : PrR n M x A B (L.set j z') i (k + 1) := by
  have hjn : j < n := by split at hj <;> omega
  have hs : ∀ t, Op.cf (L.set j z') t = if t = j then z' else Op.cf L t := fun t => cf_set L _ j t (by rw [h.len]; exact hjn)
  refine ⟨by rw [List.length_set]; exact h.len, fun t ht => ?_, fun t ht => ?_⟩
  · rw [hs]
    by_cases e : t = j
    · rw [if_pos e]; exact hb
    · rw [if_neg e]; exact h.bd t ht
  · rw [Os.pp_step]
    exact hr.put (k := t) (i := i + k) (j := j) (P := L) (R := L.set j z') (z := Op.cf A i * Op.cf B k) ht (by omega) hj (fun s _ hne => by rw [hs, if_neg hne]) (by rw [hs, if_pos rfl]; exact hz) (h.val t ht)
/-- What the products are when they are balanced. -/
structure BaR (n M : Nat) (L L' : List Int) (i : Nat) : Prop where
  len : L'.length = n
  bd : ∀ j, j < n → -(M : Int) < Op.cf L' j ∧ Op.cf L' j < M
  bal : ∀ j, j < i → 2 * Op.cf L' j < M ∧ -(M : Int) < 2 * Op.cf L' j
  val : ∀ j, j < n → Os.C M (Op.cf L' j) (Op.cf L j)
theorem BaR.step {n M i : Nat} {L L' : List Int} (h : BaR n M L L' i) (hi : i < n) (h3 : 3 ≤ M) (ho : M % 2 = 1) : BaR n M L (L'.set i (rb (Op.cf L' i) M)) (i + 1) := by
  have hs : ∀ t, Op.cf (L'.set i (rb (Op.cf L' i) M)) t = if t = i then rb (Op.cf L' i) M else Op.cf L' t := fun t => cf_set L' _ i t (by rw [h.len]; exact hi)
  have hb := rb_bl (x := Op.cf L' i) h3 ho
  refine ⟨by rw [List.length_set]; exact h.len, fun t ht => ?_, fun t ht => ?_, fun t ht => ?_⟩
  · rw [hs]
    by_cases e : t = i
    · rw [if_pos e]; have := hb.2; omega
    · rw [if_neg e]; exact h.bd t ht
  · rw [hs]
    by_cases e : t = i
    · rw [if_pos e]; exact hb.2
    · rw [if_neg e]; exact h.bal t (by omega)
  · rw [hs]
    by_cases e : t = i
    · rw [if_pos e, e]; exact hb.1.trans (h.val i hi)
    · rw [if_neg e]; exact h.val t ht

set_option maxRecDepth 100000 in
set_option maxHeartbeats 8000000 in
theorem products8_all (N : Int) (P : Nat) (R E : Int) (uA uB : Value) (A B : List Int) (w : World) (hP : P ≤ 4294967295) (hR : -9223372036854775808 ≤ R ∧ R ≤ 9223372036854775807) (hE : -9223372036854775808 ≤ E ∧ E ≤ 9223372036854775807) (hA : Lo.HasQ w uA A) (hB : Lo.HasQ w uB B) :
    Calls Try.prog 7 #[.agg #[.int .i64 N, .int .u32 P, .int .i64 R, .int .i64 E, uA, uB]] w (Truth w) := by
  have HA := Lib.hid hA
  have HB := Lib.hid hB
  have HE := Lib.hid hE
  have HR := Lib.hid hR
  obtain ⟨-, xa, ca, rfl, a1, a2, -⟩ := hA
  obtain ⟨-, xb, cb, rfl, b1, b2, -⟩ := hB
  obtain ⟨la, hla⟩ : ∃ la, la = A.length := ⟨_, rfl⟩
  obtain ⟨lb, hlb⟩ : ∃ lb, lb = B.length := ⟨_, rfl⟩
  have HLA := Lib.hid hla
  have HLB := Lib.hid hlb
  rw [← hla] at HA a1 ⊢
  rw [← hlb] at HB b1 ⊢
  have HCB := Lib.hid (CB.new w N P R E (.slice xa la ca) (.slice xb lb cb))
  clear hla hlb hE hR
  go_enter Try.func7, Try.ntmps7
  go_wp2_with fail
  refine (snew_any N P R _ hP HR.out).mono ?_
  rintro e w1 ⟨hg, ⟨n, r, q, x, s, T, rfl, rfl, hN, rfl, hT, -⟩ | ⟨hno, rfl⟩⟩
  · have HG := Lib.hid ((Gr.new w _).trans hg)
    have HC := Lib.hid (HCB.out.later hg)
    have HN := Lib.hid hN
    have HT := Lib.hid hT
    have c3 := HC.out.c3
    have c4 := HC.out.c4
    obtain ⟨d1, d2, d3, d4, -, -, -, -⟩ := hN.dims
    clear hg hN hT
    go_wp2_with fail
    refine (sDecode_any n P r q x s T E A _ _ HN.out HT.out (HA.out.later HG.out) HE.out).mono ?_
    rintro e w2 ⟨g2, m2, cp2, a, rfl, hq2, hd2, hf2, hg2⟩
    have HC := Lib.hid (HC.out.later hg2)
    have HG := Lib.hid (HG.out.trans hg2)
    have HT := Lib.hid (HT.out.later hg2)
    have HQA := Lib.hid hq2
    have HDA := Lib.hid hd2
    have c3 := HC.out.c3
    have c5 := HC.out.c5
    clear hq2 hg2 hf2 hd2
    go_wp2_with fail
    refine (sDecode_any n P r q x s T E B _ _ HN.out HT.out (HB.out.later HG.out) HE.out).mono ?_
    rintro e w3 ⟨g3, m3, cp3, b, rfl, hq3, hd3, hf3, hg3⟩
    have HC := Lib.hid (HC.out.later hg3)
    have HG := Lib.hid (HG.out.trans hg3)
    have HT := Lib.hid (HT.out.later hg3)
    have HQA := Lib.hid (HQA.out.later hg3)
    have HQB := Lib.hid hq3
    have HDB := Lib.hid hd3
    have c0 := HC.out.c0
    have c1 := HC.out.c1
    have c2 := HC.out.c2
    have c3 := HC.out.c3
    have c4 := HC.out.c4
    have c5 := HC.out.c5
    clear hq3 hg3 hf3 hd3
    by_cases hck : Ckd n P r E A
    · by_cases hck2 : Ckd n P r E B
      · rw [chkE_yes hck, chkE_yes hck2]
        have HCK := Lib.hid hck
        obtain ⟨e1, e2, hvl⟩ := hck
        have hvl2 := hck2.2.2
        obtain ⟨en, rfl⟩ := Int.eq_ofNat_of_zero_le (show 0 ≤ E by omega)
        rw [Int.toNat_natCast] at hvl hvl2
        obtain ⟨M, hM⟩ : ∃ M, M = P ^ en := ⟨_, rfl⟩
        have HM := Lib.hid hM
        have HDA2 := Lib.hid (show Os.Dc n M x A a from by
          rcases HDA.out with ⟨_, h⟩ | ⟨h, _⟩
          · rwa [Int.toNat_natCast, ← hM] at h
          · exact absurd HCK.out h)
        have HDB2 := Lib.hid (show Os.Dc n M x B b from by
          rcases HDB.out with ⟨_, h⟩ | ⟨h, _⟩
          · rwa [Int.toNat_natCast, ← hM] at h
          · exact absurd hck2 h)
        rw [← hM] at hvl hvl2
        have HVA := Lib.hid hvl
        have HVB := Lib.hid hvl2
        obtain rfl : n = la := by rw [HLA.out, hvl.1]
        obtain rfl : n = lb := by rw [HLB.out, hvl2.1]
        obtain rfl : n = m2 := by rw [HQA.out.len.1, HDA2.out.1]
        obtain rfl : n = m3 := by rw [HQB.out.len.1, HDB2.out.1]
        have hr7 := HN.out.seven
        have hlow := HN.out.low (e := en) (by omega) (by omega)
        rw [← hM] at hlow
        obtain ⟨k1, k2, k3, k4, k5⟩ := hlow
        have k6 := k1.pos
        have HRT := Lib.hid k1
        have hM0 : ¬ M = 0 := by omega
        have t1 : ((n : Int) != (n : Int)) = false := by simp
        have t2 : decide ((P : Int) < 2) = false := by simp; omega
        have t3 : decide ((7 : Int) < (r : Int)) = false := by simp; omega
        have t4 : decide ((r : Int) < (en : Int)) = false := by simp; omega
        have l6 : en ≤ 7 := by omega
        clear hck2 hvl hvl2 k1 k2 hM
        go_wp2_with fail
        clear t1 t2 t3 t4
        go_loopw [9, 10] (fun v t wr => ∃ i K : Nat, t = .int .i64 i ∧ v = .int .i64 K ∧ i ≤ en ∧ K = P ^ i ∧ wr = w3) (fun _ t _ => en - (intOf t).toNat)
        case atStart => exact ⟨0, 1, rfl, rfl, by omega, by simp, rfl⟩
        case round =>
          obtain ⟨i, K, rfl, rfl, hi, hK, rfl⟩ := hrel
          have HK := Lib.hid hK
          clear hK
          by_cases hlt : i < en
          · have i5 : (i : Int) < (en : Int) := by omega
            have HQQ := Lib.hid (show K * P = P ^ (i + 1) from by rw [HK.out, Nat.pow_succ])
            have hQQ : K * P ≤ 2147483647 := by
              rw [HQQ.out]
              refine Nat.le_trans (Nat.pow_le_pow_right (by omega) (show i + 1 ≤ en by omega)) ?_
              rw [← HM.out]; exact k4
            obtain ⟨K', hKe⟩ : ∃ K' : Nat, K' = K * P := ⟨_, rfl⟩
            have q1 : (K : Int) * (P : Int) = (K' : Int) := by rw [hKe, Int.natCast_mul]
            rw [← hKe] at HQQ hQQ
            have q0 : 0 ≤ (K : Int) * (P : Int) := by rw [q1]; omega
            have q2 : (K : Int) * (P : Int) ≤ 2147483647 := by rw [q1]; omega
            have HQ1 := Lib.hid q1
            clear q1 hKe
            go_wp2_with fail
            go_roundw
            case rel => exact ⟨i + 1, K', by go_num, by rw [HQ1.out], by omega, HQQ.out, trivial⟩
            case measure => simp [intOf]; omega
          · obtain rfl : i = en := by omega
            have i5 : ¬ (i : Int) < (i : Int) := by omega
            obtain rfl : M = K := by rw [HM.out, HK.out]
            have hmk := Lo.mk_row n (n : Int) (by omega) (by omega)
            obtain ⟨W, rfl⟩ : ∃ W : World, W = wr := ⟨_, rfl⟩
            go_upto_region 15 with (fail)
            go_cut [11, 12] (fun p q wx => TwoR W n p q wx)
            case first =>
              have c0' := (Gr.new W (.cells (Lo.zrow n) 2)).keeps c0
              go_region
              all_goals go_wp2_with fail
              all_goals go_meet
              all_goals first | exact twoR_new W n | exact twoR_new' W n
            case rest =>
              obtain ⟨G1, G2, rfl, rfl, hne, hg1, hg2, hr1, hr2, hgw⟩ := hcut
              have HR1 := Lib.hid hr1
              have HR2 := Lib.hid hr2
              have HGW := Lib.hid hgw
              have c0 := hgw.keeps c0
              clear hr1 hr2 hgw hmk
              go_wp2_with fail
              go_loopw [13, 14] (fun t _ wr => ∃ (i : Nat) (S L : List Int), t = .int .i64 i ∧ i ≤ n ∧ SumR n M A B S i ∧ PrR n M x A B L i 0 ∧ Lo.Row wr G1 S ∧ Lo.Row wr G2 L ∧ Gr W wr) (fun t _ _ => n - (intOf t).toNat)
              case atStart => exact ⟨0, List.replicate n 0, List.replicate n 0, rfl, by omega, ⟨by simp, fun j hj => by omega⟩, ⟨by simp, fun j hj => by rw [Os.cf_repl]; omega, fun t ht => by rw [Os.vec_zero n x t (Os.cf_repl n), Os.pp_zero]; exact Os.C.refl M 0⟩, HR1.out, HR2.out, HGW.out⟩
              case round =>
                obtain ⟨j, S, L, rfl, hj, hS, hL, hr1, hr2, hg⟩ := hrel
                have HS := Lib.hid hS
                have HL := Lib.hid hL
                have HR1 := Lib.hid hr1
                have HR2 := Lib.hid hr2
                have HGJ := Lib.hid hg
                have HC2 := Lib.hid (HC.out.later hg)
                have c0 := HC2.out.c0
                have c4 := HC2.out.c4
                have c5 := HC2.out.c5
                clear hS hL hr1 hr2 hg
                by_cases hjl : j < n
                · have i1 : (j : Int) < (n : Int) := by omega
                  have i2 : (0 : Int) ≤ (j : Int) := by omega
                  obtain ⟨ga, oa, rfl, ka⟩ := HasQ_at' (HA.out.later (HG.out.trans HGJ.out)) (show j < A.length by rw [← HLA.out]; exact hjl)
                  obtain ⟨gb, ob, rfl, kb⟩ := HasQ_at' (HB.out.later (HG.out.trans HGJ.out)) (show j < B.length by rw [← HLB.out]; exact hjl)
                  have hya := HVA.out.at_ hjl
                  have hyb := HVB.out.at_ hjl
                  obtain ⟨y, hy⟩ : ∃ y, y = Op.cf A j := ⟨_, rfl⟩
                  obtain ⟨z, hz⟩ : ∃ z, z = Op.cf B j := ⟨_, rfl⟩
                  rw [← hy] at ka hya
                  rw [← hz] at kb hyb
                  have hc1 := HR1.out.cell (j := j) (by rw [HS.out.1]; exact hjl)
                  have hf1 := HR1.out.frozen j
                  obtain ⟨o, ho⟩ : ∃ o, o = Op.cf S j := ⟨_, rfl⟩
                  rw [← ho] at hc1
                  have u1 : IntKind.i64.wrap (y + z) = y + z := IntWalk.i64_in _ (by omega)
                  obtain ⟨v, hv⟩ : ∃ v, v = rb (y + z) M := ⟨_, rfl⟩
                  have HV := Lib.hid hv
                  have HV2 := Lib.hid (show v = rb (Op.cf A j + Op.cf B j) M from by rw [hv, hy, hz])
                  have hvb := rb_i64 (x := y + z) (m := M) (by omega) k5 k4
                  rw [← hv] at hvb
                  have HR1' := Lib.hid (HR1.out.setAt (k := j) (x := v) (by rw [HS.out.1]; exact hjl) (by omega))
                  have HR2' := Lib.hid (HR2.out.other (fun e => hne e.symm) (h := G1) j (.int .i64 v))
                  have HXB := Lib.hid (show -9223372036854775808 ≤ y + z ∧ y + z ≤ 9223372036854775807 by omega)
                  clear hy hz ho hv hvb hya hyb
                  have hbA : ga < w.heap.size := by
                    obtain ⟨g, o', e, hc⟩ := HasQ_at' HA.out (show j < A.length by rw [← HLA.out]; exact hjl)
                    cases e; exact World.block_lt_of_cell? w _ hc
                  have hbB : gb < w.heap.size := by
                    obtain ⟨g, o', e, hc⟩ := HasQ_at' HB.out (show j < B.length by rw [← HLB.out]; exact hjl)
                    cases e; exact World.block_lt_of_cell? w _ hc
                  have hWs : w.heap.size < W.heap.size := World.block_lt_of_cell? W _ HC.out.c0
                  have n1 : ¬ ga = G1 := by omega
                  have n2 : ¬ G1 = ga := by omega
                  have n3 : ¬ gb = G1 := by omega
                  have n4 : ¬ G1 = gb := by omega
                  have n5 : ¬ w.heap.size = G1 := by omega
                  have n6 : ¬ G1 = w.heap.size := by omega
                  have HNN := Lib.hid (show (¬ ga = G2 ∧ ¬ G2 = ga) ∧ (¬ gb = G2 ∧ ¬ G2 = gb) ∧ (¬ w.heap.size = G2 ∧ ¬ G2 = w.heap.size) by omega)
                  obtain ⟨wo, rfl⟩ : ∃ wo : World, wo = wr := ⟨_, rfl⟩
                  as_aux_lemma =>
                    go_wp2_with fail
                    go_region_held3 (fun wz => wz.cell? ⟨w.heap.size, 4, none⟩ = some (.slice (some ⟨ga, oa, none⟩) n ca) ∧ wz.cell? ⟨w.heap.size, 5, none⟩ = some (.slice (some ⟨gb, ob, none⟩) n cb) ∧ wz.cell? ⟨ga, oa + j, none⟩ = some (.int .i64 y) ∧ wz.cell? ⟨gb, ob + j, none⟩ = some (.int .i64 z)) (go_keep)
                      (first | (go_at_call 27; refine (rBal8_any (y + z) M _ ⟨by omega, k4⟩ k5 HXB.out).mono ?_; rintro e w7 ⟨rfl, rfl⟩; rw [← HV.out]))
                    obtain ⟨wp, hwp⟩ : ∃ wp : World, wp = (wo.setCell ⟨G1, j, none⟩ (.int .i64 v)).drew := ⟨_, rfl⟩
                    have HGP := Lib.hid (show Gr W wp from by rw [hwp]; exact (HGJ.out.setCell (p := ⟨G1, j, none⟩) hg1 _).drewN 1)
                    have HP1 := Lib.hid (show Lo.Row wp G1 (S.set j v) from by rw [hwp]; exact HR1'.out)
                    have HP2 := Lib.hid (show Lo.Row wp G2 L from by rw [hwp]; exact HR2'.out)
                    have HSN := Lib.hid (show SumR n M A B (S.set j v) (j + 1) from ⟨by rw [List.length_set]; exact HS.out.1, fun t ht => by
                      rw [cf_set S _ j t (by rw [HS.out.1]; exact hjl)]
                      by_cases e : t = j
                      · rw [if_pos e, e]; exact HV2.out
                      · rw [if_neg e]; exact HS.out.2 t (by omega)⟩)
                    rw [← hwp]
                    obtain ⟨S', hS'⟩ : ∃ S', S' = S.set j v := ⟨_, rfl⟩
                    rw [← hS'] at HP1 HSN
                    clear hwp hS' n1 n2 n3 n4 n5 n6 hc1 hf1 u1 ka kb c0 c4 c5
                    have c0 := (HC.out.later HGP.out).c0
                    as_aux_lemma =>
                      go_wp2_with fail
                      go_loopw [14] (fun t wt => ∃ (k : Nat) (L' : List Int), t = .int .i64 k ∧ k ≤ n ∧ PrR n M x A B L' j k ∧ Lo.Row wt G1 S' ∧ Lo.Row wt G2 L' ∧ Gr W wt) (fun t _ => n - (intOf t).toNat)
                      case atStart => exact ⟨0, L, rfl, by omega, HL.out, HP1.out, HP2.out, HGP.out⟩
                      case round =>
                        obtain ⟨k, L', rfl, hk, hL', hr1, hr2, hg⟩ := hrel
                        have HL' := Lib.hid hL'
                        have HK1 := Lib.hid hr1
                        have HK2 := Lib.hid hr2
                        have HGK := Lib.hid hg
                        have HC3 := Lib.hid (HC.out.later hg)
                        have c0 := HC3.out.c0
                        have c4 := HC3.out.c4
                        have c5 := HC3.out.c5
                        clear hL' hr1 hr2 hg
                        by_cases hkl : k < n
                        · have i3 : (k : Int) < (n : Int) := by omega
                          have i4 : (0 : Int) ≤ (k : Int) := by omega
                          obtain ⟨ga', oa', ea, ka⟩ := HasQ_at' (HA.out.later (HG.out.trans HGK.out)) (show j < A.length by rw [← HLA.out]; exact hjl)
                          obtain ⟨gb', ob', eb, kb⟩ := HasQ_at' (HB.out.later (HG.out.trans HGK.out)) (show k < B.length by rw [← HLB.out]; exact hkl)
                          cases ea
                          cases eb
                          have hya := HVA.out.at_ hjl
                          have hzb := HVB.out.at_ hkl
                          obtain ⟨y, hy⟩ : ∃ y, y = Op.cf A j := ⟨_, rfl⟩
                          obtain ⟨z, hz⟩ : ∃ z, z = Op.cf B k := ⟨_, rfl⟩
                          rw [← hy] at ka hya
                          rw [← hz] at kb hzb
                          have HY := Lib.hid hy
                          have HZ := Lib.hid hz
                          have hpb : -1152921504606846976 ≤ y * z ∧ y * z ≤ 1152921504606846976 := by
                            have h1 : -1073741824 ≤ y := by omega
                            have h2 : y ≤ 1073741824 := by omega
                            have h3 : -1073741824 ≤ z := by omega
                            have h4 : z ≤ 1073741824 := by omega
                            rcases Int.le_total 0 z with h5 | h5
                            · have := prod_bd (A := y) (y := z) (B := 1073741824) (Y := 1073741824) h1 h2 h5 h4 (by omega)
                              omega
                            · have := prod_bd (A := y) (y := -z) (B := 1073741824) (Y := 1073741824) h1 h2 (by omega) (by omega) (by omega)
                              rw [Int.mul_neg] at this
                              omega
                          obtain ⟨pb1, pb2⟩ := hpb
                          have u1 : IntKind.i64.wrap (y * z) = y * z := IntWalk.i64_in _ (by omega)
                          have u0 : IntKind.i64.wrap ((j : Int) + (k : Int)) = (j : Int) + (k : Int) := IntWalk.i64_in _ (by omega)
                          have i5 : (0 : Int) ≤ (j : Int) + (k : Int) := by omega
                          have hM3 : (M : Int) ≤ 2147483647 := by omega
                          clear hy hz hya hzb
                          by_cases hw : j + k < n
                          · as_aux_lemma =>
                              obtain ⟨id, hid⟩ : ∃ id, id = j + k := ⟨_, rfl⟩
                              have i6 : (j : Int) + (k : Int) < (n : Int) := by omega
                              have i7 : ((j : Int) + (k : Int)).toNat = id := by omega
                              have hidn : id < n := by omega
                              have HID := Lib.hid hid
                              have HW := Lib.hid hw
                              have hc2 := HK2.out.cell (j := id) (by rw [HL'.out.len]; exact hidn)
                              have hf2 := HK2.out.frozen id
                              obtain ⟨ob1, ob2⟩ := HL'.out.bd id hidn
                              obtain ⟨o, ho⟩ : ∃ o, o = Op.cf L' id := ⟨_, rfl⟩
                              rw [← ho] at hc2 ob1 ob2
                              obtain ⟨z', hz'⟩ : ∃ z', (o + y * z).tmod (M : Int) = z' := ⟨_, rfl⟩
                              have q1 : -(M : Int) < z' := by rw [← hz']; exact Int.lt_tmod_of_pos _ (by omega)
                              have q2 : z' < (M : Int) := by rw [← hz']; exact Int.tmod_lt_of_pos _ (by omega)
                              have u2 : IntKind.i64.wrap (o + y * z) = o + y * z := IntWalk.i64_in _ (by omega)
                              have u3 : IntKind.i64.wrap z' = z' := IntWalk.i64_in _ (by omega)
                              have HST := Lib.hid (HL'.out.step (z' := z') (j := id) HRT.out hjl hkl (by rw [if_pos hw]; exact hid) (by
                                rw [if_pos hw, ← HY.out, ← HZ.out, ← ho, ← hz']; exact Oh7.tmod_dvd M _) ⟨q1, q2⟩)
                              have HK2' := Lib.hid (HK2.out.setAt (k := id) (x := z') (by rw [HL'.out.len]; exact hidn) (by omega))
                              have HK1' := Lib.hid (HK1.out.other hne (h := G2) id (.int .i64 z'))
                              clear hid ho q1 q2 hw
                              go_wp2_with fail
                              go_region
                              clear u0 u1 u2 u3 pb1 pb2 hz' i7
                              go_wp2_with fail
                              go_roundw
                              case rel => exact ⟨k + 1, L'.set id z', by go_num, by omega, HST.out, HK1'.out, HK2'.out, (HGK.out.setCell (p := ⟨G2, id, none⟩) hg2 _).drewN 1⟩
                              case measure => simp [intOf]; omega
                          · as_aux_lemma =>
                              obtain ⟨id, hid⟩ : ∃ id, id = j + k - n := ⟨_, rfl⟩
                              have i6 : ¬ (j : Int) + (k : Int) < (n : Int) := by omega
                              have i7 : ((j : Int) + (k : Int) - (n : Int)).toNat = id := by omega
                              have i8 : (0 : Int) ≤ (j : Int) + (k : Int) - (n : Int) := by omega
                              have i9 : (j : Int) + (k : Int) - (n : Int) < (n : Int) := by omega
                              have u4 : IntKind.i64.wrap ((j : Int) + (k : Int) - (n : Int)) = (j : Int) + (k : Int) - (n : Int) := IntWalk.i64_in _ (by omega)
                              have hidn : id < n := by omega
                              have HID := Lib.hid hid
                              have HW := Lib.hid hw
                              have hc2 := HK2.out.cell (j := id) (by rw [HL'.out.len]; exact hidn)
                              have hf2 := HK2.out.frozen id
                              obtain ⟨ob1, ob2⟩ := HL'.out.bd id hidn
                              obtain ⟨o, ho⟩ : ∃ o, o = Op.cf L' id := ⟨_, rfl⟩
                              rw [← ho] at hc2 ob1 ob2
                              obtain ⟨z', hz'⟩ : ∃ z', (o - y * z).tmod (M : Int) = z' := ⟨_, rfl⟩
                              have q1 : -(M : Int) < z' := by rw [← hz']; exact Int.lt_tmod_of_pos _ (by omega)
                              have q2 : z' < (M : Int) := by rw [← hz']; exact Int.tmod_lt_of_pos _ (by omega)
                              have u2 : IntKind.i64.wrap (o - y * z) = o - y * z := IntWalk.i64_in _ (by omega)
                              have u3 : IntKind.i64.wrap z' = z' := IntWalk.i64_in _ (by omega)
                              have HST := Lib.hid (HL'.out.step (z' := z') (j := id) HRT.out hjl hkl (by rw [if_neg hw]; exact hid) (by
                                rw [if_neg hw, ← HY.out, ← HZ.out, ← ho, ← hz']
                                have e : o + -(y * z) = o - y * z := by omega
                                rw [e]; exact Oh7.tmod_dvd M _) ⟨q1, q2⟩)
                              have HK2' := Lib.hid (HK2.out.setAt (k := id) (x := z') (by rw [HL'.out.len]; exact hidn) (by omega))
                              have HK1' := Lib.hid (HK1.out.other hne (h := G2) id (.int .i64 z'))
                              clear hid ho q1 q2 hw
                              go_wp2_with fail
                              go_region
                              clear u0 u1 u2 u3 u4 pb1 pb2 hz' i7
                              go_wp2_with fail
                              go_roundw
                              case rel => exact ⟨k + 1, L'.set id z', by go_num, by omega, HST.out, HK1'.out, HK2'.out, (HGK.out.setCell (p := ⟨G2, id, none⟩) hg2 _).drewN 1⟩
                              case measure => simp [intOf]; omega
                        · obtain rfl : k = n := by omega
                          have i3 : ¬ (k : Int) < (k : Int) := by omega
                          have HNX := Lib.hid (show PrR k M x A B L' (j + 1) 0 from ⟨HL'.out.len, HL'.out.bd, fun t ht => by rw [← Os.pp_next]; exact HL'.out.val t ht⟩)
                          go_wp2_with fail
                          go_roundw
                          case rel => exact ⟨j + 1, S', L', by go_num, by omega, HSN.out, HNX.out, HK1.out, HK2.out, HGK.out⟩
                          case measure => simp [intOf]; omega
                · as_aux_lemma =>
                    obtain rfl : j = n := by omega
                    have i1 : ¬ (j : Int) < (j : Int) := by omega
                    clear c4 c5
                    obtain ⟨wo, rfl⟩ : ∃ wo : World, wo = wr := ⟨_, rfl⟩
                    go_wp2_with fail
                    go_loopw [15] (fun t wt => ∃ (k : Nat) (L' : List Int), t = .int .i64 k ∧ k ≤ j ∧ BaR j M L L' k ∧ Lo.Row wt G1 S ∧ Lo.Row wt G2 L' ∧ Gr W wt) (fun t _ => j - (intOf t).toNat)
                    case atStart => exact ⟨0, L, rfl, by omega, ⟨HL.out.len, HL.out.bd, fun t ht => by omega, fun t _ => Os.C.refl M _⟩, HR1.out, HR2.out, HGJ.out⟩
                    case round =>
                      obtain ⟨k, L', rfl, hk, hL', hr1, hr2, hg⟩ := hrel
                      have HL' := Lib.hid hL'
                      have HK1 := Lib.hid hr1
                      have HK2 := Lib.hid hr2
                      have HGK := Lib.hid hg
                      have HC3 := Lib.hid (HC.out.later hg)
                      have c0 := HC3.out.c0
                      clear hL' hr1 hr2 hg
                      by_cases hkl : k < j
                      · have i3 : (k : Int) < (j : Int) := by omega
                        have hc2 := HK2.out.cell (j := k) (by rw [HL'.out.len]; exact hkl)
                        have hf2 := HK2.out.frozen k
                        obtain ⟨ob1, ob2⟩ := HL'.out.bd k hkl
                        obtain ⟨o, ho⟩ : ∃ o, o = Op.cf L' k := ⟨_, rfl⟩
                        have HST := Lib.hid (HL'.out.step hkl (by omega) k5)
                        rw [← ho] at hc2 ob1 ob2 HST
                        have hrb := rb_i64 (x := o) (m := M) (by omega) k5 k4
                        obtain ⟨v, hv⟩ : ∃ v, v = rb o M := ⟨_, rfl⟩
                        have HV := Lib.hid hv
                        rw [← hv] at HST hrb
                        have HK2' := Lib.hid (HK2.out.setAt (k := k) (x := v) (by rw [HL'.out.len]; exact hkl) (by omega))
                        have HK1' := Lib.hid (HK1.out.other hne (h := G2) k (.int .i64 v))
                        clear ho hv hrb
                        go_wp2_with fail
                        refine (rBal8_any o M _ ⟨by omega, k4⟩ k5 (by omega)).mono ?_
                        rintro e w5 ⟨rfl, rfl⟩
                        rw [← HV.out]
                        go_wp2_with fail
                        go_roundw
                        case rel => exact ⟨k + 1, L'.set k v, by go_num, by omega, HST.out, HK1'.out, HK2'.out, HGK.out.setCell (p := ⟨G2, k, none⟩) hg2 _⟩
                        case measure => simp [intOf]; omega
                      · as_aux_lemma =>
                          obtain rfl : k = j := by omega
                          have i3 : ¬ (k : Int) < (k : Int) := by omega
                          have HSQ := Lib.hid (show Lo.HasQ wr (.slice (some ⟨G1, 0, none⟩) k k) S from by
                            have h := HK1.out.hasQ (cap := k) (by rw [HS.out.1]; exact Nat.le_refl _) (by omega)
                            rwa [HS.out.1] at h)
                          have HLQ := Lib.hid (show Lo.HasQ wr (.slice (some ⟨G2, 0, none⟩) k k) L' from by
                            have h := HK2.out.hasQ (cap := k) (by rw [HL'.out.len]; exact Nat.le_refl _) (by omega)
                            rwa [HL'.out.len] at h)
                          have HCS := Lib.hid (show Ckd k P r (i : Int) S from ⟨HCK.out.1, HCK.out.2.1, HS.out.1, fun t ht => by
                            rw [HS.out.1] at ht
                            rw [Int.toNat_natCast, ← HM.out, HS.out.2 t ht]
                            exact (rb_bl (by omega) k5).2⟩)
                          have HCL := Lib.hid (show Ckd k P r (i : Int) L' from ⟨HCK.out.1, HCK.out.2.1, HL'.out.len, fun t ht => by
                            rw [HL'.out.len] at ht
                            rw [Int.toNat_natCast, ← HM.out]
                            exact HL'.out.bal t ht⟩)
                          have HTK := Lib.hid (HT.out.later HGK.out)
                          have c3 := HC3.out.c3
                          go_wp2_with fail
                          refine (sDecode_any k P r q x s T (i : Int) S _ _ HN.out HTK.out HSQ.out HE.out).mono ?_
                          rintro e w6 ⟨g6, m6, cp6, c, rfl, hq6, hd6, hf6, hg6⟩
                          rw [chkE_yes HCS.out]
                          have HDC := Lib.hid (show Os.Dc k M x S c from by
                            rcases hd6 with ⟨_, h⟩ | ⟨h, _⟩
                            · rwa [Int.toNat_natCast, ← HM.out] at h
                            · exact absurd HCS.out h)
                          obtain rfl : k = m6 := by rw [hq6.len.1, HDC.out.1]
                          have HQC := Lib.hid hq6
                          have HG6 := Lib.hid (HGK.out.trans hg6)
                          have HTK := Lib.hid (HTK.out.later hg6)
                          have HLQ := Lib.hid (HLQ.out.later hg6)
                          have c3 := hg6.keeps c3
                          have c0 := hg6.keeps c0
                          clear hq6 hd6 hf6 hg6
                          go_wp2_with fail
                          refine (sDecode_any k P r q x s T (i : Int) L' _ _ HN.out HTK.out HLQ.out HE.out).mono ?_
                          rintro e w7 ⟨g7, m7, cp7, d, rfl, hq7, hd7, hf7, hg7⟩
                          rw [chkE_yes HCL.out]
                          have HDD := Lib.hid (show Os.Dc k M x L' d from by
                            rcases hd7 with ⟨_, h⟩ | ⟨h, _⟩
                            · rwa [Int.toNat_natCast, ← HM.out] at h
                            · exact absurd HCL.out h)
                          obtain rfl : k = m7 := by rw [hq7.len.1, HDD.out.1]
                          have HQC := Lib.hid (HQC.out.later hg7)
                          have HQD := Lib.hid hq7
                          have HG7 := Lib.hid (HG6.out.trans hg7)
                          have HQA := Lib.hid (HQA.out.later HG7.out)
                          have HQB := Lib.hid (HQB.out.later HG7.out)
                          have c0 := hg7.keeps c0
                          have HEC := Lib.hid (show ∀ t, t < k → Op.cf c t = rb (Op.cf a t + Op.cf b t) M from fun t ht => by
                            refine (HDC.out.2 t ht).unique (rb_bl (by omega) k5) ?_
                            have h1 := Os.vec_add (n := k) (q := M) (x := x) (a := A) (b := B) (c := S) (fun u hu => by rw [HS.out.2 u hu]; exact (rb_bl (by omega) k5).1) t
                            exact h1.trans ((HDA2.out.2 t ht).1.symm.add (HDB2.out.2 t ht).1.symm))
                          have HED := Lib.hid (show ∀ t, t < k → Op.cf d t = rb ((Op.cf a t * Op.cf b t).tmod M) M from fun t ht => by
                            refine (HDD.out.2 t ht).unique (rb_bl (by omega) k5) ?_
                            have h1 := Os.vec_cg (n := k) (q := M) (x := x) (a := L') (b := L) (fun u hu => HL'.out.val u hu) t
                            have h2 := HL.out.val t ht
                            rw [Os.pp_all] at h2
                            have h3 := (HDA2.out.2 t ht).1.symm.mul (HDB2.out.2 t ht).1.symm
                            exact ((h1.trans h2).trans h3).trans (Os.C.symm (Oh7.tmod_dvd M _)))
                          have t1 : ((k : Int) != (k : Int)) = false := by simp
                          clear hq7 hd7 hf7 hg7 c3
                          go_wp2_with fail
                          clear t1
                          go_loopw [20] (fun t wt => ∃ m : Nat, t = .int .i64 m ∧ m ≤ k ∧ Gr w7 wt) (fun t _ => k - (intOf t).toNat)
                          case atStart => exact ⟨0, rfl, by omega, Gr.refl _⟩
                          case round =>
                            obtain ⟨m, rfl, hm, hg⟩ := hrel
                            have HGM := Lib.hid hg
                            have c0 := hg.keeps c0
                            clear hg
                            by_cases hml : m < k
                            · as_aux_lemma =>
                                have i4 : (m : Int) < (k : Int) := by omega
                                have i5 : (0 : Int) ≤ (m : Int) := by omega
                                obtain ⟨xc, oc, rfl, kc⟩ := HasQ_at' (HQC.out.later HGM.out) (show m < c.length by rw [HDC.out.1]; exact hml)
                                obtain ⟨xd, od, rfl, kd⟩ := HasQ_at' (HQD.out.later HGM.out) (show m < d.length by rw [HDD.out.1]; exact hml)
                                obtain ⟨xa', oa', rfl, ka⟩ := HasQ_at' (HQA.out.later HGM.out) (show m < a.length by rw [HDA2.out.1]; exact hml)
                                obtain ⟨xb', ob', rfl, kb⟩ := HasQ_at' (HQB.out.later HGM.out) (show m < b.length by rw [HDB2.out.1]; exact hml)
                                rw [HEC.out m hml] at kc
                                rw [HED.out m hml] at kd
                                have hya := (HDA2.out.2 m hml).2
                                have hzb := (HDB2.out.2 m hml).2
                                obtain ⟨y, hy⟩ : ∃ y, y = Op.cf a m := ⟨_, rfl⟩
                                obtain ⟨z, hz⟩ : ∃ z, z = Op.cf b m := ⟨_, rfl⟩
                                rw [← hy] at ka hya kc kd
                                rw [← hz] at kb hzb kc kd
                                have hpb : -1152921504606846976 ≤ y * z ∧ y * z ≤ 1152921504606846976 := by
                                  have h1 : -1073741824 ≤ y := by omega
                                  have h2 : y ≤ 1073741824 := by omega
                                  have h3 : -1073741824 ≤ z := by omega
                                  have h4 : z ≤ 1073741824 := by omega
                                  rcases Int.le_total 0 z with h5 | h5
                                  · have := prod_bd (A := y) (y := z) (B := 1073741824) (Y := 1073741824) h1 h2 h5 h4 (by omega)
                                    omega
                                  · have := prod_bd (A := y) (y := -z) (B := 1073741824) (Y := 1073741824) h1 h2 (by omega) (by omega) (by omega)
                                    rw [Int.mul_neg] at this
                                    omega
                                obtain ⟨pb1, pb2⟩ := hpb
                                obtain ⟨z', hz'⟩ : ∃ z', (y * z).tmod (M : Int) = z' := ⟨_, rfl⟩
                                have q1 : -(M : Int) < z' := by rw [← hz']; exact Int.lt_tmod_of_pos _ (by omega)
                                have q2 : z' < (M : Int) := by rw [← hz']; exact Int.tmod_lt_of_pos _ (by omega)
                                rw [hz'] at kd
                                have u1 : IntKind.i64.wrap (y * z) = y * z := IntWalk.i64_in _ (by omega)
                                have u2 : IntKind.i64.wrap (y + z) = y + z := IntWalk.i64_in _ (by omega)
                                have u3 : IntKind.i64.wrap z' = z' := IntWalk.i64_in _ (by omega)
                                have v1 : (rb (y + z) M != rb (y + z) M) = false := by simp
                                have v2 : (rb z' M != rb z' M) = false := by simp
                                have v3 : -9223372036854775808 ≤ y + z ∧ y + z ≤ 9223372036854775807 := by omega
                                have v4 : -9223372036854775808 ≤ z' ∧ z' ≤ 9223372036854775807 := by omega
                                have HMB := Lib.hid (show 3 ≤ M ∧ M ≤ 2147483647 from ⟨by omega, k4⟩)
                                have HV3 := Lib.hid v3
                                have HV4 := Lib.hid v4
                                clear hy hz hya hzb v3 v4
                                go_wp2_with fail
                                go_quiet ((first
                                  | (go_at_call 27; exact rBal8_q _ M _ _ HMB.out k5 (by first | exact HV3.out | exact HV4.out))))
                                clear u1 u2 u3 v1 v2 pb1 pb2 hz' q1 q2
                                go_wp2_with fail
                                go_roundw
                                case rel => exact ⟨m + 1, by go_num, by omega, HGM.out.drewN _⟩
                                case measure => simp [intOf]; omega
                            · obtain rfl : m = k := by omega
                              have i4 : ¬ (m : Int) < (m : Int) := by omega
                              go_wp2_with fail
                              refine (awake8_any _).mono ?_
                              rintro e w8 ⟨rfl, hg8⟩
                              have HG8 := Lib.hid (((HG.out.trans HG7.out).trans HGM.out).trans hg8)
                              clear hg8
                              go_wp2_with fail
                              go_ret
                              exact ⟨rfl, HG8.out⟩
      · rw [chkE_yes hck, chkE_no hck2]
        clear hck hck2
        go_wp2_with fail
        refine (awake8_any _).mono ?_
        rintro e w8 ⟨rfl, hg8⟩
        have HG8 := Lib.hid (HG.out.trans hg8)
        clear hg8
        go_wp2_with fail
        go_ret
        exact ⟨rfl, HG8.out⟩
    · rw [chkE_no hck]
      clear hck
      go_wp2_with fail
      refine (awake8_any _).mono ?_
      rintro e w8 ⟨rfl, hg8⟩
      have HG8 := Lib.hid (HG.out.trans hg8)
      clear hg8
      go_wp2_with fail
      go_ret
      exact ⟨rfl, HG8.out⟩
  · have HG := Lib.hid ((Gr.new w _).trans hg)
    clear hg hno
    go_wp2_with fail
    refine (awake8_any _).mono ?_
    rintro e w8 ⟨rfl, hg8⟩
    have HG8 := Lib.hid (HG.out.trans hg8)
    clear hg8
    go_wp2_with fail
    go_ret
    exact ⟨rfl, HG8.out⟩
end Go.Proofs.Ytfmmkdmnondomaa
