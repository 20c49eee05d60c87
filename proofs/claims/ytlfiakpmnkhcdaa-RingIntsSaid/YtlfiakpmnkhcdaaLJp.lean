import Derived.Test.YtlfiakpmnkhcdaaLJo
import Derived.BigQuiet
namespace Go.Proofs.Ytlfiakpmnkhcdaa.Mo
open Go.RowKit Go.Shelf
set_option linter.unusedVariables false
set_option maxRecDepth 100000 in
set_option maxHeartbeats 1000000 in
theorem sliceEq_any (a b : List Int) (u v : Value) (w : World) (hu : HasP w u a) (hv : HasP w v b) (hla : a.length ≤ 1000000) (hlb : b.length ≤ 1000000) :
    Calls Try.prog 30 #[u, v] w (fun e w' => e = .returned (.bool (decide (a = b))) ∧ Gr w w') := by
  obtain ⟨da, xa, ca, rfl, a1, a2, hca⟩ := hu
  obtain ⟨db, xb, cb, rfl, b1, b2, hcb⟩ := hv
  obtain ⟨na, hna⟩ : ∃ na, na = a.length := ⟨_, rfl⟩
  obtain ⟨nb, hnb⟩ : ∃ nb, nb = b.length := ⟨_, rfl⟩
  rw [← hna] at hla a1 ⊢
  rw [← hnb] at hlb b1 ⊢
  have HNA := Lib.hid hna
  have HNB := Lib.hid hnb
  have HCA := Lib.hid hca
  have HCB := Lib.hid hcb
  have HDA := Lib.hid da
  have HDB := Lib.hid db
  clear hna hnb hca hcb da db
  by_cases hl : na = nb
  · subst hl
    go_enter Try.func30, Try.ntmps30
    go_wp2_with fail
    go_loopw [5, 13] (fun _ t wr => ∃ k : Nat, t = .int .i64 k ∧ k ≤ na ∧ (∀ i, i < k → Op.cf a i = Op.cf b i) ∧ Gr w wr) (fun _ t _ => na - (intOf t).toNat)
    case atStart => exact ⟨0, rfl, by omega, fun i hi => by omega, Gr.refl w⟩
    case round =>
      obtain ⟨k, rfl, hk, ht, hg⟩ := hrel
      have HT := Lib.hid ht
      have HG := Lib.hid hg
      clear ht hg
      by_cases hlt : k < na
      · obtain ⟨g, o, rfl, c1⟩ := HCA.out k (by rw [← HNA.out]; exact hlt)
        obtain ⟨g', o', rfl, c2⟩ := HCB.out k (by rw [← HNB.out]; exact hlt)
        have c1 := HG.out.keeps c1
        have c2 := HG.out.keeps c2
        have hx := HDA.out.at_ k
        have hy := HDB.out.at_ k
        obtain ⟨x, hxe⟩ : ∃ x, x = Op.cf a k := ⟨_, rfl⟩
        obtain ⟨y, hye⟩ : ∃ y, y = Op.cf b k := ⟨_, rfl⟩
        rw [← hxe] at c1 hx
        rw [← hye] at c2 hy
        have HX := Lib.hid hxe
        have HY := Lib.hid hye
        have i1 : (k : Int) < (na : Int) := by omega
        have i2 : (0 : Int) ≤ (k : Int) := by omega
        clear hxe hye hx hy
        by_cases he : x = y
        · have hb : (x != y) = false := by simp [he]
          have HE := Lib.hid he
          clear he
          go_wp2_with fail
          go_quiet (fail)
          go_wp2_with fail
          go_roundw
          case rel => exact ⟨k + 1, by go_num, by omega, (fun i hi => by
            by_cases h : i < k
            · exact HT.out i h
            · obtain rfl : i = k := by omega
              rw [← HX.out, ← HY.out, HE.out]), HG.out.drewN _⟩
          case measure => simp [intOf]; omega
        · have hb : (x != y) = true := by simp [he]
          have HE := Lib.hid he
          clear he
          have HF := Lib.hid (show decide (a = b) = false from by simp; intro h; apply HE.out; rw [HX.out, HY.out, h])
          go_wp2_with fail
          go_quiet (fail)
          go_wp2_with fail
          go_ret
          exact ⟨by rw [HF.out]; rfl, HG.out.drewN _⟩
      · have HF := Lib.hid (show decide (a = b) = true from by
          simp
          exact Op.ext_cf (by rw [← HNA.out, ← HNB.out]) (fun i => by
            by_cases h : i < k
            · exact HT.out i h
            · rw [Op.cf_out (by rw [← HNA.out]; omega), Op.cf_out (by rw [← HNB.out]; omega)]))
        go_wp2_with fail
        go_ret
        exact ⟨by rw [HF.out]; rfl, HG.out⟩
  · have HF := Lib.hid (show decide (a = b) = false from by simp; intro h; apply hl; rw [HNA.out, HNB.out, h])
    have hb : ((na : Int) != (nb : Int)) = true := by simp; omega
    have HL := Lib.hid hl
    clear hl
    go_enter Try.func30, Try.ntmps30
    go_wp2_with fail
    go_ret
    exact ⟨by rw [HF.out]; rfl, Gr.refl w⟩
theorem rows_eq {a b : List (List Int)} (hl : a.length = b.length) (h : ∀ i, i < a.length → rw_ a i = rw_ b i) : a = b := by
  apply List.ext_getElem hl
  intro i h1 h2
  have := h i h1
  simp [rw_, List.getD_eq_getElem?_getD, h1, h2] at this
  exact this
def Sm (n : Nat) (ls : List (List Int)) : Prop := ls.length ≤ n ∧ ∀ i, i < ls.length → (rw_ ls i).length ≤ n
set_option maxRecDepth 100000 in
set_option maxHeartbeats 1000000 in
theorem same1_any (a b : List Int) (u v : Value) (w : World) (hu : HasP w u a) (hv : HasP w v b) (hla : a.length ≤ 1000000) (hlb : b.length ≤ 1000000) :
    Calls Try.prog 29 #[u, v] w (fun e w' => e = .returned (.bool (decide (a = b))) ∧ Gr w w') := by
  obtain ⟨x, c, rfl⟩ := hu.form
  obtain ⟨x2, c2, rfl⟩ := hv.form
  have H := Lib.hid (sliceEq_any a b _ _ w hu hv hla hlb)
  clear hu hv hla hlb
  go_enter Try.func29, Try.ntmps29
  go_wp2_with fail
  refine H.out.mono ?_
  rintro e w1 ⟨rfl, hg⟩
  have HG := Lib.hid hg
  clear hg
  go_wp2_with fail
  go_ret
  exact ⟨rfl, HG.out⟩
set_option maxRecDepth 100000 in
set_option maxHeartbeats 1000000 in
theorem equalFunc_any (rA rB : List (List Int)) (uA uB : Value) (w : World) (hA : HasR w uA rA) (hB : HasR w uB rB) (sA : Sm 1000 rA) (sB : Sm 1000 rB) :
    Calls Try.prog 28 #[uA, uB, .func (.func 29) #[] #[]] w (fun e w' => e = .returned (.bool (decide (rA = rB))) ∧ Gr w w') := by
  obtain ⟨xA, cA, rfl⟩ := hA.form
  obtain ⟨xB, cB, rfl⟩ := hB.form
  obtain ⟨nA, hnA⟩ : ∃ n, n = rA.length := ⟨_, rfl⟩
  obtain ⟨nB, hnB⟩ : ∃ n, n = rB.length := ⟨_, rfl⟩
  rw [← hnA] at hA ⊢
  rw [← hnB] at hB ⊢
  have HA := Lib.hid hA
  have HB := Lib.hid hB
  have SA := Lib.hid sA
  have SB := Lib.hid sB
  have HNA := Lib.hid hnA
  have HNB := Lib.hid hnB
  have hla : nA ≤ 1000 := by rw [hnA]; exact sA.1
  have hlb : nB ≤ 1000 := by rw [hnB]; exact sB.1
  clear hA hB sA sB hnA hnB
  by_cases hl : nA = nB
  · subst hl
    go_enter Try.func28, Try.ntmps28
    go_wp2_with fail
    go_loopw [7, 8, 9, 17] (fun _ _ _ t wr => ∃ k : Nat, t = .int .i64 k ∧ k ≤ nA ∧ (∀ i, i < k → rw_ rA i = rw_ rB i) ∧ Gr w wr) (fun _ _ _ t _ => nA - (intOf t).toNat)
    case atStart => exact ⟨0, rfl, by omega, fun i hi => by omega, Gr.refl w⟩
    case round =>
      obtain ⟨k, rfl, hk, ht, hg⟩ := hrel
      have HT := Lib.hid ht
      have HG := Lib.hid hg
      clear ht hg
      by_cases hlt : k < nA
      · have ka : k < rA.length := by rw [← HNA.out]; exact hlt
        have kb : k < rB.length := by rw [← HNB.out]; exact hlt
        obtain ⟨g, o, x, n, c, rfl, c1, hn, hp⟩ := HasB.at_ (HA.out.later HG.out) (i := k) ka
        obtain ⟨g2, o2, x2, n2, c2, rfl, c3, hn2, hp2⟩ := HasB.at_ (HB.out.later HG.out) (i := k) kb
        have H := Lib.hid (same1_any (rw_ rA k) (rw_ rB k) _ _ wr hp hp2 (by have := SA.out.2 k ka; omega) (by have := SB.out.2 k kb; omega))
        have i1 : (k : Int) < (nA : Int) := by omega
        have i2 : (0 : Int) ≤ (k : Int) := by omega
        clear hn hp hn2 hp2 ka kb
        go_wp2_with fail
        refine H.out.mono ?_
        rintro e w2 ⟨rfl, hg2⟩
        have HG2 := Lib.hid (HG.out.trans hg2)
        clear hg2
        by_cases he : rw_ rA k = rw_ rB k
        · have HE := Lib.hid he
          rw [decide_eq_true he]
          clear he
          go_wp2_with fail
          go_roundw
          case rel => exact ⟨k + 1, by go_num, by omega, (fun i hi => by
            by_cases h : i < k
            · exact HT.out i h
            · obtain rfl : i = k := by omega
              exact HE.out), HG2.out⟩
          case measure => simp [intOf]; omega
        · have HF := Lib.hid (show decide (rA = rB) = false from decide_eq_false (fun h => he (by rw [h])))
          rw [decide_eq_false he]
          clear he
          go_wp2_with fail
          go_ret
          exact ⟨by rw [HF.out]; rfl, HG2.out⟩
      · have HF := Lib.hid (show decide (rA = rB) = true from decide_eq_true (rows_eq (by rw [← HNA.out, ← HNB.out]) (fun i hi => HT.out i (by rw [← HNA.out] at hi; omega))))
        go_wp2_with fail
        go_ret
        exact ⟨by rw [HF.out]; rfl, HG.out⟩
  · have HF := Lib.hid (show decide (rA = rB) = false from decide_eq_false (fun h => hl (by rw [HNA.out, HNB.out, h])))
    have hb : ((nA : Int) != (nB : Int)) = true := by simp; omega
    clear hl
    go_enter Try.func28, Try.ntmps28
    go_wp2_with fail
    go_ret
    exact ⟨by rw [HF.out]; rfl, Gr.refl w⟩
def SameE (lv : Int) (sp : Bool) (rA : List (List Int)) (lv2 : Int) (sp2 : Bool) (rB : List (List Int)) : Prop := lv = lv2 ∧ sp = sp2 ∧ rA = rB
instance (lv : Int) (sp : Bool) (rA : List (List Int)) (lv2 : Int) (sp2 : Bool) (rB : List (List Int)) : Decidable (SameE lv sp rA lv2 sp2 rB) := by unfold SameE; infer_instance
set_option maxRecDepth 100000 in
set_option maxHeartbeats 1000000 in
theorem rSame_any (lv : Int) (sp : Bool) (lv2 : Int) (sp2 : Bool) (rA rB : List (List Int)) (uA uB : Value) (w : World) (hA : HasR w uA rA) (hB : HasR w uB rB) (sA : Sm 1000 rA) (sB : Sm 1000 rB) :
    Calls Try.prog 12 #[.agg #[.int .i64 lv, .bool sp, uA], .agg #[.int .i64 lv2, .bool sp2, uB]] w (fun e w' => e = .returned (.bool (decide (SameE lv sp rA lv2 sp2 rB))) ∧ Gr w w') := by
  obtain ⟨xA, cA, rfl⟩ := hA.form
  obtain ⟨xB, cB, rfl⟩ := hB.form
  obtain ⟨nA, hnA⟩ : ∃ n, n = rA.length := ⟨_, rfl⟩
  obtain ⟨nB, hnB⟩ : ∃ n, n = rB.length := ⟨_, rfl⟩
  rw [← hnA] at hA ⊢
  rw [← hnB] at hB ⊢
  have HA := Lib.hid hA
  have HB := Lib.hid hB
  have SA := Lib.hid sA
  have SB := Lib.hid sB
  have HNA := Lib.hid hnA
  have HNB := Lib.hid hnB
  have hla : nA ≤ 1000 := by rw [hnA]; exact sA.1
  have hlb : nB ≤ 1000 := by rw [hnB]; exact sB.1
  clear hA hB sA sB hnA hnB
  obtain ⟨W0, hW0⟩ : ∃ W0, W0 = (w.alloc (.cells #[.int .i64 lv, .bool sp, .slice xA nA cA] 28)).alloc (.cells #[.int .i64 lv2, .bool sp2, .slice xB nB cB] 28) := ⟨_, rfl⟩
  have HG0 := Lib.hid (show Gr w W0 by rw [hW0]; exact (Gr.new w _).alloc _)
  have HBA := Lib.hid (show Blk W0 w.heap.size 28 #[.int .i64 lv, .bool sp, .slice xA nA cA] by rw [hW0]; exact (Blk.new w _ _).gr (Gr.new _ _))
  have HBB := Lib.hid (show Blk W0 (w.heap.size + 1) 28 #[.int .i64 lv2, .bool sp2, .slice xB nB cB] by rw [hW0]; exact Blk.newk _ _ (by simp))
  by_cases hl : lv = lv2
  · have t1 : (lv == lv2) = true := by simpa using hl
    have HL := Lib.hid hl
    clear hl
    by_cases hs : sp = sp2
    · have t2 : (sp == sp2) = true := by simpa using hs
      have HS := Lib.hid hs
      clear hs
      have HCALL := Lib.hid (equalFunc_any rA rB _ _ W0 (HA.out.later HG0.out) (HB.out.later HG0.out) SA.out SB.out)
      go_enter Try.func12, Try.ntmps12
      go_wp2_with fail
      rw [← hW0]
      refine HCALL.out.mono ?_
      rintro e w1 ⟨rfl, hg1⟩
      have HG1 := Lib.hid (HG0.out.trans hg1)
      clear hg1
      by_cases he : rA = rB
      · have HF := Lib.hid (show decide (SameE lv sp rA lv2 sp2 rB) = true from decide_eq_true ⟨HL.out, HS.out, he⟩)
        rw [decide_eq_true he]
        clear he
        go_wp2_with fail
        go_ret
        exact ⟨by rw [HF.out]; rfl, HG1.out⟩
      · have HF := Lib.hid (show decide (SameE lv sp rA lv2 sp2 rB) = false from decide_eq_false (fun h => he h.2.2))
        rw [decide_eq_false he]
        clear he
        go_wp2_with fail
        go_ret
        exact ⟨by rw [HF.out]; rfl, HG1.out⟩
    · have HF := Lib.hid (show decide (SameE lv sp rA lv2 sp2 rB) = false from decide_eq_false (fun h => hs h.2.1))
      have t2 : (sp == sp2) = false := by simpa using hs
      clear hs
      go_enter Try.func12, Try.ntmps12
      go_wp2_with fail
      go_ret
      exact ⟨by rw [HF.out]; rfl, by first | exact HG0.out | (rw [← hW0]; exact HG0.out)⟩
  · have HF := Lib.hid (show decide (SameE lv sp rA lv2 sp2 rB) = false from decide_eq_false (fun h => hl h.1))
    have t1 : (lv == lv2) = false := by simpa using hl
    clear hl
    go_enter Try.func12, Try.ntmps12
    go_wp2_with fail
    go_ret
    exact ⟨by rw [HF.out]; rfl, by first | exact HG0.out | (rw [← hW0]; exact HG0.out)⟩
def HugeP (rA : List (List Int)) (w : World) (e : Ending) (w' : World) : Prop := ∃ b, e = .returned (.bool b) ∧ (b = false → rA.length ≤ 60 ∧ Sm 100 rA) ∧ Gr w w'
set_option maxRecDepth 100000 in
set_option maxHeartbeats 1000000 in
theorem huge_any (lv : Int) (sp : Bool) (rA : List (List Int)) (uA : Value) (w : World) (hA : HasR w uA rA) :
    Calls Try.prog 10 #[.agg #[.int .i64 lv, .bool sp, uA]] w (HugeP rA w) := by
  obtain ⟨xA, cA, rfl⟩ := hA.form
  obtain ⟨nA, hnA⟩ : ∃ n, n = rA.length := ⟨_, rfl⟩
  rw [← hnA] at hA ⊢
  have HA := Lib.hid hA
  have HNA := Lib.hid hnA
  have hna : nA ≤ 9223372036854775807 := by have := hA.len; omega
  clear hA hnA
  obtain ⟨W0, hW0⟩ : ∃ W0, W0 = w.alloc (.cells #[.int .i64 lv, .bool sp, .slice xA nA cA] 28) := ⟨_, rfl⟩
  have HG0 := Lib.hid (show Gr w W0 by rw [hW0]; exact Gr.new w _)
  have HBA := Lib.hid (show Blk W0 w.heap.size 28 #[.int .i64 lv, .bool sp, .slice xA nA cA] by rw [hW0]; exact Blk.new w _ _)
  go_enter Try.func10, Try.ntmps10
  go_wp2_with fail
  rw [← hW0]
  clear hW0
  obtain ⟨a0, a1, a2⟩ := HBA.out.p3
  go_loop [3] (fun t => ∃ k : Nat, t = .int .i64 k ∧ k ≤ nA ∧ k ≤ 60 ∧ ∀ i, i < k → (rw_ rA i).length ≤ 100) (fun t => 60 - (intOf t).toNat)
  case atStart => exact ⟨0, rfl, by omega, by omega, fun i hi => by omega⟩
  case round =>
    obtain ⟨k, rfl, hk, hk2, ht⟩ := hrel
    have HT := Lib.hid ht
    clear ht
    by_cases hlt : k < nA
    · have i1 : (k : Int) < (nA : Int) := by omega
      have i2 : (0 : Int) ≤ (k : Int) := by omega
      by_cases h60 : k < 60
      · have ka : k < rA.length := by rw [← HNA.out]; exact hlt
        have i3 : (k : Int) < 60 := by omega
        obtain ⟨g, o, x, n, c, rfl, c1, hn, hp⟩ := HasB.at_ (HA.out.later HG0.out) (i := k) ka
        have HN := Lib.hid hn
        clear hn hp ka
        by_cases hbig : n > 100
        · have t1 : decide ((n : Int) > 100) = true := by simp; omega
          have t1' : decide (100 < (n : Int)) = true := by simp; omega
          go_wp2_with fail
          go_ret
          exact ⟨true, rfl, (fun h => by cases h), HG0.out⟩
        · have t1 : decide ((n : Int) > 100) = false := by simp; omega
          have t1' : decide (100 < (n : Int)) = false := by simp; omega
          go_wp2_with fail
          go_round
          case rel => exact ⟨k + 1, by go_num, by omega, by omega, (fun i hi => by
            by_cases h : i < k
            · exact HT.out i h
            · obtain rfl : i = k := by omega
              have := HN.out; omega)⟩
          case measure => simp [intOf]; omega
      · have i3 : ¬ (k : Int) < 60 := by omega
        have HX := Lib.hid (show decide ((nA : Int) > 60) = true from by simp; omega)
        go_wp2_with fail
        go_ret
        exact ⟨_, rfl, (fun h => by have := HX.out; simp at h this; omega), HG0.out⟩
    · have i1 : ¬ (k : Int) < (nA : Int) := by omega
      go_wp2_with fail
      go_ret
      exact ⟨_, rfl, fun h => by have h := of_decide_eq_false h; exact ⟨by rw [← HNA.out]; omega, by rw [← HNA.out]; omega, fun i hi => HT.out i (by rw [← HNA.out] at hi; omega)⟩, HG0.out⟩
end Go.Proofs.Ytlfiakpmnkhcdaa.Mo
