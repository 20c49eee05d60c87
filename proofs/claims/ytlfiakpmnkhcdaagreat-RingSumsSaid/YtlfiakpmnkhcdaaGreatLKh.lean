import Derived.Test.YtlfiakpmnkhcdaaGreatLKf
import Derived.Test.YtlfiakpmnkhcdaaGreatLKb
/- The reference of layer 9: MulInt, Neg. (made by mkkg.py) -/
namespace Go.Proofs.YtlfiakpmnkhcdaaGreat.Mo.Lo
open Go.RowKit
end Go.Proofs.YtlfiakpmnkhcdaaGreat.Mo.Lo
namespace Go.Proofs.YtlfiakpmnkhcdaaGreat.Mo
open Go.RowKit Go.Shelf
set_option linter.unusedVariables false

end Go.Proofs.YtlfiakpmnkhcdaaGreat.Mo
/- The law RingRestricts. -/
namespace Go.Proofs.YtlfiakpmnkhcdaaGreat.Mo
open Go.RowKit Go.Shelf
set_option linter.unusedVariables false

theorem ev_sm {N : Int} {ch : List Int} {S lv : Int} {sp : Bool} {rA : List (List Int)} (hv : VP N ch S) (h : EV N ch S lv sp rA) : Sm 1000 rA := by
  obtain ⟨n, hn, -, h32⟩ := vp_dim hv
  obtain ⟨he, hr⟩ := h
  have hl := Oj.mods_len (S := S) (sp := sp) (lv := lv.toNat) (ch := ch) (by have := he.2.1; have := he.1; omega)
  have hc := hv.2.2.1
  have h2 := he.2.1
  refine ⟨?_, fun i hi => ?_⟩
  · rw [hr.1, hl]; split <;> omega
  · have := (hr.2 i (by rw [← hr.1]; exact hi)).1; omega

end Go.Proofs.YtlfiakpmnkhcdaaGreat.Mo
/- Automorphisms of elements, pure. -/
namespace Go.Proofs.YtlfiakpmnkhcdaaGreat.Mo
open Go.RowKit Go.Shelf
set_option linter.unusedVariables false

/-- Rows of numbers that are not negative. -/
def Nn (ls : List (List Int)) : Prop := ∀ i, i < ls.length → ∀ j, 0 ≤ Op.cf (rw_ ls i) j
theorem hasR_nn {W : World} {u : Value} {ls : List (List Int)} (h : HasR W u ls) : Nn ls := by
  intro i hi j
  obtain ⟨a, c, rfl⟩ := h.form
  obtain ⟨g, o, x, m, c, rfl, -, hm, hp⟩ := HasB.at_ h hi
  exact (hp.1.at_ j).1
/-- A row of a valid element: n residues. -/
theorem ev_rws {N : Int} {ch : List Int} {S : Int} {lv : Int} {sp : Bool} {rA : List (List Int)} (hv : VP N ch S) (h : EV N ch S lv sp rA) (hn : Nn rA) {i : Nat} (hi : i < (Oj.mods ch S lv.toNat sp).length) :
    ∃ n : Nat, N = n ∧ Oj.Dim n ∧ 3 ≤ Op.cf (Oj.mods ch S lv.toNat sp) i ∧ Oj.Rws n (Op.cf (Oj.mods ch S lv.toNat sp) i) (rw_ rA i) := by
  obtain ⟨n, rfl, h4, h32⟩ := vp_dim hv
  obtain ⟨l, hl0⟩ := Int.eq_ofNat_of_zero_le (show 0 ≤ lv by have := h.1.1; omega)
  subst hl0
  have hm := mods_ok hv h.1 hi
  have hr := h.2.2 i hi
  have hir : i < rA.length := by rw [h.2.1]; exact hi
  refine ⟨n, rfl, ?_, hm.1, ⟨by have := hr.1; omega, fun j hj => ⟨hn i hir j, of_decide_eq_true hr.2 j (by have := hr.1; omega)⟩⟩⟩
  have hd := hv.1
  unfold DimI at hd
  unfold Oj.Dim
  omega
def prodE (M : List Int) (rA rB : List (List Int)) : List (List Int) := rwA M (fun i m => (fun m x y => Oj.prodR x.length m.toNat x y) m (rw_ rA i) (rw_ rB i))
theorem Nn.rwA {M : List Int} {F : Nat → Int → List Int} (h : ∀ i, i < M.length → ∀ j, 0 ≤ Op.cf (F i (Op.cf M i)) j) : Nn (rwA M F) := by
  intro i hi j
  rw [rwA_len] at hi
  rw [rwA_at _ _ hi]
  exact h i hi j
end Go.Proofs.YtlfiakpmnkhcdaaGreat.Mo
/- The reference of layer 9: Mul. (made by mkkh.py) -/
namespace Go.Proofs.YtlfiakpmnkhcdaaGreat.Mo
open Go.RowKit Go.Shelf
set_option linter.unusedVariables false
set_option linter.unusedSimpArgs false

theorem Fx.cell {b G : Nat} {W W' : World} (h : Fx b G W W') {g o : Nat} {v : Value} (hc : W.cell? ⟨g, o, none⟩ = some v) (hg : g < b ∧ g ≠ G) : W'.cell? ⟨g, o, none⟩ = some v := by
  rw [World.cell?_of_block (w := W) (h.2 g hg.1 hg.2)]; exact hc
theorem prod_eq {nn : Nat} {ch : List Int} {S : Int} {lv : Nat} {sp : Bool} {rA rB : List (List Int)} (hv : VP nn ch S) (hA : EV nn ch S lv sp rA) : rwA (Oj.mods ch S lv sp) (fun i m => Oj.prodR nn m (rw_ rA i) (rw_ rB i)) = rwA (Oj.mods ch S lv sp) (fun i m => (fun m x y => Oj.prodR x.length m.toNat x y) m (rw_ rA i) (rw_ rB i)) :=
  rwA_cong fun i hi => by
    have h := (hA.2.2 i hi).1
    have hm := (mods_ok hv hA.1 (show i < (Oj.mods ch S lv sp).length from hi)).1
    have e2 : (((Op.cf (Oj.mods ch S lv sp) i).toNat : Nat) : Int) = Op.cf (Oj.mods ch S lv sp) i := Int.toNat_of_nonneg (by omega)
    show Oj.prodR nn _ _ _ = Oj.prodR (rw_ rA i).length _ _ _
    rw [show (rw_ rA i).length = nn by omega, e2]

set_option maxRecDepth 100000 in
set_option maxHeartbeats 8000000 in
theorem fMul_any (N p1 p2 : Int) (xC : Option Addr) (nC cC : Nat) (S p5 p6 : Int) (lv : Int) (sp : Bool) (lv2 : Int) (sp2 : Bool) (ch : List Int) (uA uB : Value) (rA rB : List (List Int)) (w : World) (h3 : ch.length ≤ 1000) (hC : HasP w (.slice xC nC cC) ch) (hS : 0 ≤ S ∧ S < 4294967296) (hA : HasR w uA rA) (hB : HasR w uB rB) :
    Calls Tryz.prog 34 #[.agg #[.int .i64 N, .int .u32 p1, .int .i64 p2, .slice xC nC cC, .int .u32 S, .int .i64 p5, .int .u32 p6], .agg #[.int .i64 lv, .bool sp, uA], .agg #[.int .i64 lv2, .bool sp2, uB]] w (ResE (twoE N ch S lv sp rA lv2 sp2 rB) lv sp (rwA (Oj.mods ch S lv.toNat sp) (fun i m => (fun m x y => Oj.prodR x.length m.toNat x y) m (rw_ rA i) (rw_ rB i))) w) := by
  obtain ⟨LS, hLS⟩ : ∃ LS, LS = rwA (Oj.mods ch S lv.toNat sp) (fun i m => (fun m x y => Oj.prodR x.length m.toNat x y) m (rw_ rA i) (rw_ rB i)) := ⟨_, rfl⟩
  rw [← hLS]
  have HLS := Lib.hid hLS
  clear hLS
  obtain ⟨xA, cA, rfl⟩ := hA.form
  obtain ⟨xB, cB, rfl⟩ := hB.form
  generalize hnA : rA.length = nA at *
  generalize hnB : rB.length = nB at *
  obtain ⟨W0, hW0⟩ : ∃ W0, W0 = (((w.alloc (.cells #[.int .i64 N, .int .u32 p1, .int .i64 p2, .slice xC nC cC, .int .u32 S, .int .i64 p5, .int .u32 p6] 25)).alloc (.cells #[.int .i64 lv, .bool sp, .slice xA nA cA] 28)).alloc (.cells #[.int .i64 lv2, .bool sp2, .slice xB nB cB] 28)).alloc (.cells #[.int .i64 0, .bool false, .slice none 0 0] 28) := ⟨_, rfl⟩
  have HG := Lib.hid (show Gr w W0 by rw [hW0]; exact (((Gr.new w _).alloc _).alloc _).alloc _)
  have HBP := Lib.hid (show Blk W0 w.heap.size 25 #[.int .i64 N, .int .u32 p1, .int .i64 p2, .slice xC nC cC, .int .u32 S, .int .i64 p5, .int .u32 p6] by rw [hW0]; exact (Blk.new w _ _).gr (((Gr.new _ _).alloc _).alloc _))
  have HBA := Lib.hid (show Blk W0 (w.heap.size + 1) 28 #[.int .i64 lv, .bool sp, .slice xA nA cA] by rw [hW0]; exact (Blk.newk _ _ (by simp)).gr ((Gr.new _ _).alloc _))
  have HBB := Lib.hid (show Blk W0 (w.heap.size + 2) 28 #[.int .i64 lv2, .bool sp2, .slice xB nB cB] by rw [hW0]; exact (Blk.newk _ _ (by simp)).gr (Gr.new _ _))
  have HRB := Lib.hid (show Blk W0 (w.heap.size + 3) 28 #[.int .i64 0, .bool false, .slice none 0 0] by rw [hW0]; exact Blk.newk _ _ (by simp))
  have HSZ := Lib.hid (show W0.heap.size = w.heap.size + 4 by rw [hW0]; simp)
  have HA := Lib.hid hA
  have HB := Lib.hid hB
  have HC := Lib.hid hC
  have HS := Lib.hid hS
  have HNA := Lib.hid hnA
  have HNB := Lib.hid hnB
  have HNO := Lib.hid (show ¬ TwoOK N ch S lv sp rA lv2 sp2 rB → twoE N ch S lv sp rA lv2 sp2 rB = 2 from fun h => if_neg h)
  have HYES := Lib.hid (show TwoOK N ch S lv sp rA lv2 sp2 rB → twoE N ch S lv sp rA lv2 sp2 rB = 0 from fun h => if_pos h)
  clear hA hB hC hS hnA hnB
  obtain ⟨q0, q1, q2, q3, q4, q5, q6⟩ := HBP.out.p7
  obtain ⟨a0, a1, a2⟩ := HBA.out.p3
  obtain ⟨b0, b1, b2⟩ := HBB.out.p3
  go_enter Tryz.func34, Tryz.ntmps34
  go_upto_region 1 with (fail)
  rw [← hW0]
  clear hW0
  go_wp2_with fail
  refine (fTwo_any N p1 p2 xC nC cC S p5 p6 lv sp lv2 sp2 ch _ _ rA rB _ h3 (HC.out.later HG.out) HS.out (HA.out.later HG.out) (HB.out.later HG.out)).mono ?_
  rintro e w1 ⟨rfl, hg1⟩
  replace HG := Lib.hid (HG.out.trans hg1)
  replace HBP := Lib.hid (HBP.out.gr hg1)
  replace HBA := Lib.hid (HBA.out.gr hg1)
  replace HBB := Lib.hid (HBB.out.gr hg1)
  replace HRB := Lib.hid (HRB.out.gr hg1)
  have HSZ1 := Lib.hid (show w.heap.size + 4 ≤ w1.heap.size by have := HSZ.out; have := hg1.size; omega)
  clear hg1 q0 q1 q2 q3 q4 q5 q6 a0 a1 a2 b0 b1 b2
  obtain ⟨q0, q1, q2, q3, q4, q5, q6⟩ := HBP.out.p7
  obtain ⟨a0, a1, a2⟩ := HBA.out.p3
  by_cases h1 : TwoOK N ch S lv sp rA lv2 sp2 rB
  · have HE0 := Lib.hid (HYES.out h1)
    rw [decide_eq_true h1]
    obtain ⟨lv, rfl⟩ := Int.eq_ofNat_of_zero_le (show 0 ≤ lv by have := h1.2.1.1.1; omega)
    have HV := Lib.hid h1.1
    have HEA := Lib.hid h1.2.1
    have HEBB := Lib.hid (show EV N ch S lv sp rB by
      have h2 := h1.2.2.1
      rw [← h1.2.2.2.1, ← h1.2.2.2.2] at h2
      exact h2)
    have HL2 := Lib.hid (show lv ≤ ch.length by have := h1.2.1.1.2.1; omega)
    have HL1 := Lib.hid (show 1 ≤ lv by have := h1.2.1.1.1; omega)
    clear h1
    obtain ⟨nn, rfl, n4, n32⟩ := vp_dim HV.out
    go_upto_region 4 with (fail)
    obtain ⟨W3, hW3⟩ : ∃ W3, W3 = w1.alloc (.cells #[.int .i64 lv, .bool sp, .slice none 0 0] 28) := ⟨_, rfl⟩
    obtain ⟨G, hG⟩ : ∃ G, G = w1.heap.size := ⟨_, rfl⟩
    have hg3 : Gr w1 W3 := by rw [hW3]; exact Gr.new _ _
    have HSG := Lib.hid (show w.heap.size + 4 ≤ G by rw [hG]; exact HSZ1.out)
    have HSZ3 := Lib.hid (show W3.heap.size = G + 1 by rw [hW3, hG]; simp)
    have HBO := Lib.hid (show Blk W3 G 28 #[.int .i64 lv, .bool sp, .slice none 0 0] by rw [hW3, hG]; exact Blk.new _ _ _)
    rw [← hW3, ← hG]
    replace HG := Lib.hid (HG.out.trans hg3)
    replace HBP := Lib.hid (HBP.out.gr hg3)
    replace HBA := Lib.hid (HBA.out.gr hg3)
    replace HBB := Lib.hid (HBB.out.gr hg3)
    replace HRB := Lib.hid (HRB.out.gr hg3)
    clear hg3 hW3 hG q0 q1 q2 q3 q4 q5 q6 a0 a1 a2
    obtain ⟨q0, q1, q2, q3, q4, q5, q6⟩ := HBP.out.p7
    obtain ⟨a0, a1, a2⟩ := HBA.out.p3
    go_wp2_with fail
    refine (fModuli_any nn p1 p2 xC nC cC S p5 p6 lv sp ch _ HL2.out h3 (HC.out.later HG.out) HS.out).mono ?_
    rintro e w4 ⟨xm, nm, cm, rfl, hm, hmf, hg4⟩
    have HM := Lib.hid hm
    replace HG := Lib.hid (HG.out.trans hg4)
    replace HBP := Lib.hid (HBP.out.gr hg4)
    replace HBA := Lib.hid (HBA.out.gr hg4)
    replace HBB := Lib.hid (HBB.out.gr hg4)
    replace HRB := Lib.hid (HRB.out.gr hg4)
    replace HBO := Lib.hid (HBO.out.gr hg4)
    have HSZ4 := Lib.hid (show G + 1 ≤ w4.heap.size by have := HSZ3.out; have := hg4.size; omega)
    have HMP := Lib.hid (show ∀ p, (Value.slice xm nm cm).ownBlock = some p → p < w4.heap.size ∧ p ≠ G from fun p hp => by
      obtain ⟨q, rfl, rfl⟩ := own_some hp
      have h1 := hmf q rfl
      have h2 := HSZ3.out
      refine ⟨?_, by omega⟩
      by_cases h0 : 0 < (Oj.mods ch S lv sp).length
      · exact hm.lt h0 _ hp
      · exfalso
        have := Oj.mods_len (S := S) (sp := sp) HL2.out
        have := HL1.out
        omega)
    have HNM := Lib.hid hm.len.1
    have hnm : nm ≤ 1001 := by
      have h5 := Oj.mods_len (S := S) (sp := sp) HL2.out
      have := HNM.out
      have := HL2.out
      cases sp <;> simp at h5 <;> omega
    clear hm hmf hg4 q0 q1 q2 q3 q4 q5 q6 a0 a1 a2
    obtain ⟨b, hb⟩ : ∃ b, b = w4.heap.size := ⟨_, rfl⟩
    have HLP := Lib.hid (show LP b G w w4 lv sp (fun i m => Oj.prodR nn m (rw_ rA i) (rw_ rB i)) (Oj.mods ch S lv sp) 0 (.slice none 0 0) [] w4 from LP.start hb.symm HBO.out HG.out)
    have hGb : G + 1 ≤ b := by rw [hb]; exact HSZ4.out
    have hwG := HSG.out
    rw [← hb] at HMP
    clear hb
    go_wp2_with fail
    go_loopw [10] (fun i wr => ∃ (k : Nat) (x : Option Addr) (c : Nat) (ls : List (List Int)), i = .int .i64 k ∧ k ≤ nm ∧ LP b G w w4 lv sp (fun i m => Oj.prodR nn m (rw_ rA i) (rw_ rB i)) (Oj.mods ch S lv sp) k (.slice x k c) ls wr) (fun i _ => nm - (intOf i).toNat)
    case atStart => exact ⟨0, none, 0, [], rfl, by omega, HLP.out⟩
    case round =>
      obtain ⟨k, vx, vc, ls, rfl, hk, hlp⟩ := hrel
      have HLK := Lib.hid hlp
      clear hlp
      by_cases hlt : k < nm
      · have i1 : (k : Int) < (nm : Int) := by omega
        have i0 : (0 : Int) ≤ (k : Int) := by omega
        have HKM := Lib.hid (show k < (Oj.mods ch S lv sp).length by rw [← HNM.out]; exact hlt)
        have hnA : k < nA := by have := HEA.out.2.1; have := HNA.out; have := HNM.out; have : (Oj.mods ch S (lv : Int).toNat sp).length = (Oj.mods ch S lv sp).length := rfl; omega
        have hnB : k < nB := by have := HEBB.out.2.1; have := HNB.out; have := HNM.out; have : (Oj.mods ch S (lv : Int).toNat sp).length = (Oj.mods ch S lv sp).length := rfl; omega
        have j1 : (k : Int) < (nA : Int) := by omega
        have j2 : (k : Int) < (nB : Int) := by omega
        obtain ⟨n1, en1, -, -, hra⟩ := ev_rws HV.out HEA.out (hasR_nn HA.out) (show k < (Oj.mods ch S (lv : Int).toNat sp).length from HKM.out)
        obtain ⟨n2, en2, -, -, hrb⟩ := ev_rws HV.out HEBB.out (hasR_nn HB.out) (show k < (Oj.mods ch S (lv : Int).toNat sp).length from HKM.out)
        have hMk := mods_ok HV.out HEA.out.1 HKM.out
        rw [show Oj.mods ch S (lv : Int).toNat sp = Oj.mods ch S lv sp from rfl] at hra hrb
        obtain ⟨m, hme⟩ : ∃ m, m = Op.cf (Oj.mods ch S lv sp) k := ⟨_, rfl⟩
        rw [← hme] at hMk hra hrb
        rw [show n1 = nn by omega] at hra
        rw [show n2 = nn by omega] at hrb
        have HME := Lib.hid hme
        have HMK := Lib.hid hMk
        have HRA := Lib.hid hra
        have HRB' := Lib.hid hrb
        obtain ⟨gA, oA, sx, sn, sc, rfl, hcA, hs1, hpA⟩ := HasB.at_ HA.out (i := k) (by rw [HNA.out]; exact hnA)
        obtain ⟨gB, oB, tx, tn, tc, rfl, hcB, ht1, hpB⟩ := HasB.at_ HB.out (i := k) (by rw [HNB.out]; exact hnB)
        obtain ⟨gM, oM, rfl, hcM⟩ := HM.out.at_ (i := k) HKM.out
        rw [← hme] at hcM
        have HGM := Lib.hid (HMP.out gM rfl)
        have hsn : sn = nn := by rw [hs1]; exact hra.1
        have htn : tn = nn := by rw [ht1]; exact hrb.1
        have HPA := Lib.hid hpA
        have HPB := Lib.hid hpB
        have HCA := Lib.hid hcA
        have HCB := Lib.hid hcB
        have HCM := Lib.hid hcM
        clear hs1 ht1 hpA hpB hcA hcB hcM hme hMk hra hrb en1 en2
        subst hsn htn
        go_wp2_with fail
        have HKEEP := Lib.hid (show ∀ wz, Fx b G w4 wz → Gr w wz → (wz.cell? ⟨w.heap.size + 1, 2, none⟩ = some (.slice (some ⟨gA, oA, none⟩) nA cA) ∧ wz.cell? ⟨gA, oA + k, none⟩ = some (.slice sx tn sc) ∧ wz.cell? ⟨w.heap.size + 2, 2, none⟩ = some (.slice (some ⟨gB, oB, none⟩) nB cB) ∧ wz.cell? ⟨gB, oB + k, none⟩ = some (.slice tx tn tc) ∧ wz.cell? ⟨gM, oM + k, none⟩ = some (.int .u32 m)) from fun wz fx g => ⟨(fx.blk HBA.out (by omega) (by omega)).p3.2.2, g.keeps HCA.out, (fx.blk HBB.out (by omega) (by omega)).p3.2.2, g.keeps HCB.out, fx.cell HCM.out HGM.out⟩)
        have HLd := Lib.hid (HLK.out.later (show Gr wr wr.drew from Below.drew (Gr.refl wr)))
        have HPROD := Lib.hid (fProduct_any tn m (rw_ rA k) (rw_ rB k) (.slice sx tn sc) (.slice tx tn tc) wr.drew HMK.out (by omega) (by omega) HRA.out HRB'.out (HPA.out.later HLd.out.gr) (HPB.out.later HLd.out.gr))
        have HLEN := Lib.hid (show ls.length ≤ 1000000 by rw [HLK.out.len]; omega)
        have HLL := Lib.hid (show (ls ++ [(Oj.prodR tn m (rw_ rA k) (rw_ rB k))]).length = k + 1 by rw [List.length_append, HLK.out.len]; rfl)
        have HOWN := Lib.hid HLK.out.own
        obtain ⟨o0, o1, o2⟩ := HLd.out.out.p3
        refine wp_region_held_drew (S := fun wz => wz.cell? ⟨w.heap.size + 1, 2, none⟩ = some (.slice (some ⟨gA, oA, none⟩) nA cA) ∧ wz.cell? ⟨gA, oA + k, none⟩ = some (.slice sx tn sc) ∧ wz.cell? ⟨w.heap.size + 2, 2, none⟩ = some (.slice (some ⟨gB, oB, none⟩) nB cB) ∧ wz.cell? ⟨gB, oB + k, none⟩ = some (.slice tx tn tc) ∧ wz.cell? ⟨gM, oM + k, none⟩ = some (.int .u32 m)) (by kernel_rfl) (HKEEP.out _ HLd.out.fx HLd.out.gr) (fun hHeld => ?_)
        show wpAnyH _ _ _ _ _ 21 #[false, false, false, false, false, false, false, false, false, false, false, false, false, false, false, false, false, false, false, false, false] _ _
        refine wpAnyH_take (i := 0) (oi := { dst := some 34, op := Op.fieldAddr 28 (Operand.tmp 8) 2, type := 0, pos := "ref.go:156", after := #[], guard := none }) (v := ?_) rfl (by kernel_rfl) (by kernel_rfl) (by kernel_rfl) (fun _ _ _ h => h) (_root_.Or.inl ⟨by rfl, ?_⟩) (by assumption) ?_
        rotate_left
        · intro w0 hSw; (try dsimp only at hSw); go_simp; try with_reducible rfl
        (try simp only [Act.put, List.setIfInBounds_toArray, List.set_cons_zero, List.set_cons_succ])
        refine wpAnyH_take (i := 2) (oi := { dst := some 36, op := Op.move (Operand.tmp 9), type := 23, pos := "ref.go:156", after := #[], guard := none }) (v := ?_) rfl (by kernel_rfl) (by kernel_rfl) (by kernel_rfl) (fun _ _ _ h => h) (_root_.Or.inl ⟨by rfl, ?_⟩) (by assumption) ?_
        rotate_left
        · intro w0 hSw; (try dsimp only at hSw); go_simp; try with_reducible rfl
        (try simp only [Act.put, List.setIfInBounds_toArray, List.set_cons_zero, List.set_cons_succ])
        refine wpAnyH_take (i := 3) (oi := { dst := some 37, op := Op.move (Operand.tmp 10), type := 3, pos := "ref.go:156", after := #[], guard := none }) (v := ?_) rfl (by kernel_rfl) (by kernel_rfl) (by kernel_rfl) (fun _ _ _ h => h) (_root_.Or.inl ⟨by rfl, ?_⟩) (by assumption) ?_
        rotate_left
        · intro w0 hSw; (try dsimp only at hSw); go_simp; try with_reducible rfl
        (try simp only [Act.put, List.setIfInBounds_toArray, List.set_cons_zero, List.set_cons_succ])
        refine wpAnyH_take (i := 4) (oi := { dst := some 38, op := Op.indexAddr 23 (Operand.tmp 36) (Operand.tmp 37), type := 0, pos := "ref.go:156", after := #[{ on := 2, ground := Ground.data }, { on := 3, ground := Ground.data }], guard := none }) (v := ?_) rfl (by kernel_rfl) (by kernel_rfl) (by kernel_rfl) (fun _ _ _ h => h) (_root_.Or.inl ⟨by rfl, ?_⟩) (by assumption) ?_
        rotate_left
        · intro w0 hSw; (try dsimp only at hSw); go_simp; try with_reducible rfl
        (try simp only [Act.put, List.setIfInBounds_toArray, List.set_cons_zero, List.set_cons_succ])
        refine wpAnyH_take (i := 5) (oi := { dst := some 39, op := Op.load 22 (Operand.tmp 38), type := 22, pos := "ref.go:156", after := #[{ on := 4, ground := Ground.data }], guard := none }) (v := ?_) rfl (by kernel_rfl) (by kernel_rfl) (by kernel_rfl) (fun _ _ _ h => h) (_root_.Or.inl ⟨by rfl, ?_⟩) (by assumption) ?_
        rotate_left
        · intro w0 hSw; (try dsimp only at hSw); go_simp; try with_reducible rfl
        (try simp only [Act.put, List.setIfInBounds_toArray, List.set_cons_zero, List.set_cons_succ])
        refine wpAnyH_take (i := 6) (oi := { dst := some 40, op := Op.fieldAddr 28 (Operand.tmp 4) 2, type := 0, pos := "ref.go:156", after := #[], guard := none }) (v := ?_) rfl (by kernel_rfl) (by kernel_rfl) (by kernel_rfl) (fun _ _ _ h => h) (_root_.Or.inl ⟨by rfl, ?_⟩) (by assumption) ?_
        rotate_left
        · intro w0 hSw; (try dsimp only at hSw); go_simp; try with_reducible rfl
        (try simp only [Act.put, List.setIfInBounds_toArray, List.set_cons_zero, List.set_cons_succ])
        refine wpAnyH_take (i := 7) (oi := { dst := some 41, op := Op.load 26 (Operand.tmp 40), type := 26, pos := "ref.go:156", after := #[{ on := 6, ground := Ground.data }], guard := none }) (v := ?_) rfl (by kernel_rfl) (by kernel_rfl) (by kernel_rfl) (fun _ _ _ h => h) (_root_.Or.inl ⟨by rfl, ?_⟩) (by assumption) ?_
        rotate_left
        · intro w0 hSw; (try dsimp only at hSw); go_simp; try with_reducible rfl
        (try simp only [Act.put, List.setIfInBounds_toArray, List.set_cons_zero, List.set_cons_succ])
        refine wpAnyH_take (i := 8) (oi := { dst := some 42, op := Op.move (Operand.tmp 10), type := 3, pos := "ref.go:156", after := #[], guard := none }) (v := ?_) rfl (by kernel_rfl) (by kernel_rfl) (by kernel_rfl) (fun _ _ _ h => h) (_root_.Or.inl ⟨by rfl, ?_⟩) (by assumption) ?_
        rotate_left
        · intro w0 hSw; (try dsimp only at hSw); go_simp; try with_reducible rfl
        (try simp only [Act.put, List.setIfInBounds_toArray, List.set_cons_zero, List.set_cons_succ])
        refine wpAnyH_take (i := 9) (oi := { dst := some 43, op := Op.indexAddr 26 (Operand.tmp 41) (Operand.tmp 42), type := 0, pos := "ref.go:156", after := #[{ on := 7, ground := Ground.data }, { on := 8, ground := Ground.data }], guard := none }) (v := ?_) rfl (by kernel_rfl) (by kernel_rfl) (by kernel_rfl) (fun _ _ _ h => h) (_root_.Or.inl ⟨by rfl, ?_⟩) (by assumption) ?_
        rotate_left
        · intro w0 hSw; (try dsimp only at hSw); go_simp; try with_reducible rfl
        (try simp only [Act.put, List.setIfInBounds_toArray, List.set_cons_zero, List.set_cons_succ])
        refine wpAnyH_take (i := 10) (oi := { dst := some 44, op := Op.load 23 (Operand.tmp 43), type := 23, pos := "ref.go:156", after := #[{ on := 9, ground := Ground.data }], guard := none }) (v := ?_) rfl (by kernel_rfl) (by kernel_rfl) (by kernel_rfl) (fun _ _ _ h => h) (_root_.Or.inl ⟨by rfl, ?_⟩) (by assumption) ?_
        rotate_left
        · intro w0 hSw; (try dsimp only at hSw); go_simp; try with_reducible rfl
        (try simp only [Act.put, List.setIfInBounds_toArray, List.set_cons_zero, List.set_cons_succ])
        refine wpAnyH_take (i := 11) (oi := { dst := some 45, op := Op.fieldAddr 28 (Operand.tmp 5) 2, type := 0, pos := "ref.go:156", after := #[], guard := none }) (v := ?_) rfl (by kernel_rfl) (by kernel_rfl) (by kernel_rfl) (fun _ _ _ h => h) (_root_.Or.inl ⟨by rfl, ?_⟩) (by assumption) ?_
        rotate_left
        · intro w0 hSw; (try dsimp only at hSw); go_simp; try with_reducible rfl
        (try simp only [Act.put, List.setIfInBounds_toArray, List.set_cons_zero, List.set_cons_succ])
        refine wpAnyH_take (i := 12) (oi := { dst := some 46, op := Op.load 26 (Operand.tmp 45), type := 26, pos := "ref.go:156", after := #[{ on := 11, ground := Ground.data }], guard := none }) (v := ?_) rfl (by kernel_rfl) (by kernel_rfl) (by kernel_rfl) (fun _ _ _ h => h) (_root_.Or.inl ⟨by rfl, ?_⟩) (by assumption) ?_
        rotate_left
        · intro w0 hSw; (try dsimp only at hSw); go_simp; try with_reducible rfl
        (try simp only [Act.put, List.setIfInBounds_toArray, List.set_cons_zero, List.set_cons_succ])
        refine wpAnyH_take (i := 13) (oi := { dst := some 47, op := Op.move (Operand.tmp 10), type := 3, pos := "ref.go:156", after := #[], guard := none }) (v := ?_) rfl (by kernel_rfl) (by kernel_rfl) (by kernel_rfl) (fun _ _ _ h => h) (_root_.Or.inl ⟨by rfl, ?_⟩) (by assumption) ?_
        rotate_left
        · intro w0 hSw; (try dsimp only at hSw); go_simp; try with_reducible rfl
        (try simp only [Act.put, List.setIfInBounds_toArray, List.set_cons_zero, List.set_cons_succ])
        refine wpAnyH_take (i := 14) (oi := { dst := some 48, op := Op.indexAddr 26 (Operand.tmp 46) (Operand.tmp 47), type := 0, pos := "ref.go:156", after := #[{ on := 12, ground := Ground.data }, { on := 13, ground := Ground.data }], guard := none }) (v := ?_) rfl (by kernel_rfl) (by kernel_rfl) (by kernel_rfl) (fun _ _ _ h => h) (_root_.Or.inl ⟨by rfl, ?_⟩) (by assumption) ?_
        rotate_left
        · intro w0 hSw; (try dsimp only at hSw); go_simp; try with_reducible rfl
        (try simp only [Act.put, List.setIfInBounds_toArray, List.set_cons_zero, List.set_cons_succ])
        refine wpAnyH_take (i := 15) (oi := { dst := some 49, op := Op.load 23 (Operand.tmp 48), type := 23, pos := "ref.go:156", after := #[{ on := 14, ground := Ground.data }], guard := none }) (v := ?_) rfl (by kernel_rfl) (by kernel_rfl) (by kernel_rfl) (fun _ _ _ h => h) (_root_.Or.inl ⟨by rfl, ?_⟩) (by assumption) ?_
        rotate_left
        · intro w0 hSw; (try dsimp only at hSw); go_simp; try with_reducible rfl
        (try simp only [Act.put, List.setIfInBounds_toArray, List.set_cons_zero, List.set_cons_succ])
        refine wpAnyH_ready (rs := [1, 16]) (by kernel_rfl) (by simp) ?_
        refine AllReadyH.cons (o := { dst := some 35, op := Op.load 26 (Operand.tmp 34), type := 26, pos := "ref.go:156", after := #[{ on := 0, ground := Ground.data }], guard := none }) rfl (fun K hK => ?_) ?_
        · go_simp
          refine hK.out _ _ hHeld (fun hHeld => ?_)
          clear hK K
          (try simp only [Act.put, List.setIfInBounds_toArray, List.set_cons_zero, List.set_cons_succ])
          refine wpAnyH_ready (rs := [16]) (by kernel_rfl) (by simp) ?_
          refine AllReadyH.cons (o := { dst := some 50, op := Op.call { callee := Callee.value (Operand.func 73), args := #[Operand.tmp 39, Operand.tmp 44, Operand.tmp 49], argTypes := #[22, 23, 23] }, type := 23, pos := "ref.go:156", after := #[{ on := 5, ground := Ground.data }, { on := 10, ground := Ground.data }, { on := 15, ground := Ground.data }], guard := none }) rfl (fun K hK => ?_) ?_
          · go_simp
            go_at_call 73
            refine HPROD.out.mono ?_
            rintro e w8 ⟨px, pn, pc, rfl, hp8, hf8, hg8⟩
            go_wp2_with fail
            refine hK.out _ _ (HKEEP.out _ (HLd.out.later hg8).fx (HLd.out.later hg8).gr) (fun hHeld => ?_)
            clear hK K
            (try simp only [Act.put, List.setIfInBounds_toArray, List.set_cons_zero, List.set_cons_succ])
            have HP8 := Lib.hid hp8
            have HF8 := Lib.hid (show Ap b (.slice vx k vc) (.slice px pn pc) (Oj.prodR tn m (rw_ rA k) (rw_ rB k)) from ap_of_fresh (W0 := wr.drew) HLd.out.own HLd.out.fx.1 hf8)
            replace HLd := Lib.hid (HLd.out.later hg8)
            clear hp8 hf8 hg8 o0 o1 o2
            obtain ⟨o0, o1, o2⟩ := HLd.out.out.p3
            refine wpAnyH_ready (rs := [17]) (by kernel_rfl) (by simp) ?_
            refine AllReadyH.cons (o := { dst := some 51, op := Op.buildSlice 26 1 #[(0, Operand.tmp 50)], type := 26, pos := "ref.go:156", after := #[{ on := 16, ground := Ground.data }], guard := none }) rfl (fun K hK => ?_) ?_
            · go_simp
              refine hK.out _ _ (HKEEP.out _ (HLd.out.later (Gr.new w8 (.cells #[.slice px pn pc] 23))).fx (HLd.out.later (Gr.new w8 (.cells #[.slice px pn pc] 23))).gr) (fun hHeld => ?_)
              clear hK K
              (try simp only [Act.put, List.setIfInBounds_toArray, List.set_cons_zero, List.set_cons_succ])
              replace HLd := Lib.hid (HLd.out.later (Gr.new w8 (.cells #[.slice px pn pc] 23)))
              clear o0 o1 o2
              obtain ⟨o0, o1, o2⟩ := HLd.out.out.p3
              refine wpAnyH_ready (rs := [18]) (by kernel_rfl) (by simp) ?_
              refine AllReadyH.cons (o := { dst := some 52, op := Op.call { callee := Callee.builtin Builtin.append, args := #[Operand.tmp 35, Operand.tmp 51], argTypes := #[26, 26] }, type := 26, pos := "ref.go:156", after := #[{ on := 1, ground := Ground.data }, { on := 17, ground := Ground.data }, { on := 16, ground := Ground.chain }], guard := none }) rfl (fun K hK => ?_) ?_
              · refine wp_appR (.tmp 35) (.tmp 51) rfl rfl b (.slice vx k vc) ls rfl HLd.out.own (.slice px pn pc) (Oj.prodR tn m (rw_ rA k) (rw_ rB k)) w8.heap.size rfl (cell_new _ _ _) (HP8.out.later (Gr.new _ _)) HF8.out HLEN.out HLd.out.fx.1 ?_
                intro v' wn hown hgrow
                obtain ⟨va2, vc2, hv2, -, -⟩ := hown.form
                rw [HLL.out] at hv2
                subst hv2
                have HMID := Lib.hid (HLd.out.mid (by omega) hgrow)
                have HAPP := Lib.hid (HLd.out.app (by omega) (by omega) hown hgrow (by rw [← HME.out]))
                have HFX := Lib.hid (HLd.out.fx.row hgrow (fun r e => (HLd.out.own.lt r e).1))
                have HGN := Lib.hid (OwnR.grown HLd.out.own HLd.out.gr hgrow (by omega))
                clear hown hgrow
                refine hK.out _ _ (HKEEP.out _ HFX.out HGN.out) (fun hHeld => ?_)
                clear hK K
                (try simp only [Act.put, List.setIfInBounds_toArray, List.set_cons_zero, List.set_cons_succ])
                obtain ⟨e0, e1, e2⟩ := HMID.out.p3
                obtain ⟨f0, f1, f2⟩ := HMID.out.f3
                refine wpAnyH_take (i := 19) (oi := { dst := some 53, op := Op.fieldAddr 28 (Operand.tmp 8) 2, type := 0, pos := "ref.go:156", after := #[{ on := 0, ground := Ground.phase }, { on := 1, ground := Ground.phase }, { on := 2, ground := Ground.phase }, { on := 3, ground := Ground.phase }, { on := 4, ground := Ground.phase }, { on := 5, ground := Ground.phase }, { on := 6, ground := Ground.phase }, { on := 7, ground := Ground.phase }, { on := 8, ground := Ground.phase }, { on := 9, ground := Ground.phase }, { on := 10, ground := Ground.phase }, { on := 11, ground := Ground.phase }, { on := 12, ground := Ground.phase }, { on := 13, ground := Ground.phase }, { on := 14, ground := Ground.phase }, { on := 15, ground := Ground.phase }, { on := 16, ground := Ground.phase }, { on := 17, ground := Ground.phase }, { on := 18, ground := Ground.phase }], guard := none }) (v := ?_) rfl (by kernel_rfl) (by kernel_rfl) (by kernel_rfl) (fun _ _ _ h => h) (_root_.Or.inl ⟨by rfl, ?_⟩) (by assumption) ?_
                rotate_left
                · intro w0 hSw; (try dsimp only at hSw); go_simp; try with_reducible rfl
                (try simp only [Act.put, List.setIfInBounds_toArray, List.set_cons_zero, List.set_cons_succ])
                refine wpAnyH_ready (rs := [20]) (by kernel_rfl) (by simp) ?_
                refine AllReadyH.cons (o := { dst := none, op := Op.store 26 (Operand.tmp 53) (Operand.tmp 52), type := 0, pos := "ref.go:156", after := #[{ on := 19, ground := Ground.data }, { on := 18, ground := Ground.data }, { on := 18, ground := Ground.chain }, { on := 0, ground := Ground.phase }, { on := 1, ground := Ground.phase }, { on := 2, ground := Ground.phase }, { on := 3, ground := Ground.phase }, { on := 4, ground := Ground.phase }, { on := 5, ground := Ground.phase }, { on := 6, ground := Ground.phase }, { on := 7, ground := Ground.phase }, { on := 8, ground := Ground.phase }, { on := 9, ground := Ground.phase }, { on := 10, ground := Ground.phase }, { on := 11, ground := Ground.phase }, { on := 12, ground := Ground.phase }, { on := 13, ground := Ground.phase }, { on := 14, ground := Ground.phase }, { on := 15, ground := Ground.phase }, { on := 16, ground := Ground.phase }, { on := 17, ground := Ground.phase }, { on := 18, ground := Ground.phase }], guard := none }) rfl (fun K hK => ?_) ?_
                · go_simp
                  refine hK.out _ _ (HKEEP.out _ HAPP.out.fx HAPP.out.gr) (fun hHeld => ?_)
                  clear hK K
                  (try simp only [Act.put, List.setIfInBounds_toArray, List.set_cons_zero, List.set_cons_succ])
                  refine wpAnyH_done (by kernel_rfl) ?_ _
                  clear hHeld
                  go_wp2_with fail
                  go_roundw
                  case rel => exact ⟨k + 1, va2, vc2, _, by go_num, by omega, HAPP.out⟩
                  case measure => simp [intOf]; omega
                exact AllReadyH.nil
              exact AllReadyH.nil
            exact AllReadyH.nil
          exact AllReadyH.nil
        refine AllReadyH.cons (o := { dst := some 50, op := Op.call { callee := Callee.value (Operand.func 73), args := #[Operand.tmp 39, Operand.tmp 44, Operand.tmp 49], argTypes := #[22, 23, 23] }, type := 23, pos := "ref.go:156", after := #[{ on := 5, ground := Ground.data }, { on := 10, ground := Ground.data }, { on := 15, ground := Ground.data }], guard := none }) rfl (fun K hK => ?_) ?_
        · go_simp
          go_at_call 73
          refine HPROD.out.mono ?_
          rintro e w8 ⟨px, pn, pc, rfl, hp8, hf8, hg8⟩
          go_wp2_with fail
          refine hK.out _ _ (HKEEP.out _ (HLd.out.later hg8).fx (HLd.out.later hg8).gr) (fun hHeld => ?_)
          clear hK K
          (try simp only [Act.put, List.setIfInBounds_toArray, List.set_cons_zero, List.set_cons_succ])
          have HP8 := Lib.hid hp8
          have HF8 := Lib.hid (show Ap b (.slice vx k vc) (.slice px pn pc) (Oj.prodR tn m (rw_ rA k) (rw_ rB k)) from ap_of_fresh (W0 := wr.drew) HLd.out.own HLd.out.fx.1 hf8)
          replace HLd := Lib.hid (HLd.out.later hg8)
          clear hp8 hf8 hg8 o0 o1 o2
          obtain ⟨o0, o1, o2⟩ := HLd.out.out.p3
          refine wpAnyH_ready (rs := [1, 17]) (by kernel_rfl) (by simp) ?_
          refine AllReadyH.cons (o := { dst := some 35, op := Op.load 26 (Operand.tmp 34), type := 26, pos := "ref.go:156", after := #[{ on := 0, ground := Ground.data }], guard := none }) rfl (fun K hK => ?_) ?_
          · go_simp
            refine hK.out _ _ hHeld (fun hHeld => ?_)
            clear hK K
            (try simp only [Act.put, List.setIfInBounds_toArray, List.set_cons_zero, List.set_cons_succ])
            refine wpAnyH_ready (rs := [17]) (by kernel_rfl) (by simp) ?_
            refine AllReadyH.cons (o := { dst := some 51, op := Op.buildSlice 26 1 #[(0, Operand.tmp 50)], type := 26, pos := "ref.go:156", after := #[{ on := 16, ground := Ground.data }], guard := none }) rfl (fun K hK => ?_) ?_
            · go_simp
              refine hK.out _ _ (HKEEP.out _ (HLd.out.later (Gr.new w8 (.cells #[.slice px pn pc] 23))).fx (HLd.out.later (Gr.new w8 (.cells #[.slice px pn pc] 23))).gr) (fun hHeld => ?_)
              clear hK K
              (try simp only [Act.put, List.setIfInBounds_toArray, List.set_cons_zero, List.set_cons_succ])
              replace HLd := Lib.hid (HLd.out.later (Gr.new w8 (.cells #[.slice px pn pc] 23)))
              clear o0 o1 o2
              obtain ⟨o0, o1, o2⟩ := HLd.out.out.p3
              refine wpAnyH_ready (rs := [18]) (by kernel_rfl) (by simp) ?_
              refine AllReadyH.cons (o := { dst := some 52, op := Op.call { callee := Callee.builtin Builtin.append, args := #[Operand.tmp 35, Operand.tmp 51], argTypes := #[26, 26] }, type := 26, pos := "ref.go:156", after := #[{ on := 1, ground := Ground.data }, { on := 17, ground := Ground.data }, { on := 16, ground := Ground.chain }], guard := none }) rfl (fun K hK => ?_) ?_
              · refine wp_appR (.tmp 35) (.tmp 51) rfl rfl b (.slice vx k vc) ls rfl HLd.out.own (.slice px pn pc) (Oj.prodR tn m (rw_ rA k) (rw_ rB k)) w8.heap.size rfl (cell_new _ _ _) (HP8.out.later (Gr.new _ _)) HF8.out HLEN.out HLd.out.fx.1 ?_
                intro v' wn hown hgrow
                obtain ⟨va2, vc2, hv2, -, -⟩ := hown.form
                rw [HLL.out] at hv2
                subst hv2
                have HMID := Lib.hid (HLd.out.mid (by omega) hgrow)
                have HAPP := Lib.hid (HLd.out.app (by omega) (by omega) hown hgrow (by rw [← HME.out]))
                have HFX := Lib.hid (HLd.out.fx.row hgrow (fun r e => (HLd.out.own.lt r e).1))
                have HGN := Lib.hid (OwnR.grown HLd.out.own HLd.out.gr hgrow (by omega))
                clear hown hgrow
                refine hK.out _ _ (HKEEP.out _ HFX.out HGN.out) (fun hHeld => ?_)
                clear hK K
                (try simp only [Act.put, List.setIfInBounds_toArray, List.set_cons_zero, List.set_cons_succ])
                obtain ⟨e0, e1, e2⟩ := HMID.out.p3
                obtain ⟨f0, f1, f2⟩ := HMID.out.f3
                refine wpAnyH_take (i := 19) (oi := { dst := some 53, op := Op.fieldAddr 28 (Operand.tmp 8) 2, type := 0, pos := "ref.go:156", after := #[{ on := 0, ground := Ground.phase }, { on := 1, ground := Ground.phase }, { on := 2, ground := Ground.phase }, { on := 3, ground := Ground.phase }, { on := 4, ground := Ground.phase }, { on := 5, ground := Ground.phase }, { on := 6, ground := Ground.phase }, { on := 7, ground := Ground.phase }, { on := 8, ground := Ground.phase }, { on := 9, ground := Ground.phase }, { on := 10, ground := Ground.phase }, { on := 11, ground := Ground.phase }, { on := 12, ground := Ground.phase }, { on := 13, ground := Ground.phase }, { on := 14, ground := Ground.phase }, { on := 15, ground := Ground.phase }, { on := 16, ground := Ground.phase }, { on := 17, ground := Ground.phase }, { on := 18, ground := Ground.phase }], guard := none }) (v := ?_) rfl (by kernel_rfl) (by kernel_rfl) (by kernel_rfl) (fun _ _ _ h => h) (_root_.Or.inl ⟨by rfl, ?_⟩) (by assumption) ?_
                rotate_left
                · intro w0 hSw; (try dsimp only at hSw); go_simp; try with_reducible rfl
                (try simp only [Act.put, List.setIfInBounds_toArray, List.set_cons_zero, List.set_cons_succ])
                refine wpAnyH_ready (rs := [20]) (by kernel_rfl) (by simp) ?_
                refine AllReadyH.cons (o := { dst := none, op := Op.store 26 (Operand.tmp 53) (Operand.tmp 52), type := 0, pos := "ref.go:156", after := #[{ on := 19, ground := Ground.data }, { on := 18, ground := Ground.data }, { on := 18, ground := Ground.chain }, { on := 0, ground := Ground.phase }, { on := 1, ground := Ground.phase }, { on := 2, ground := Ground.phase }, { on := 3, ground := Ground.phase }, { on := 4, ground := Ground.phase }, { on := 5, ground := Ground.phase }, { on := 6, ground := Ground.phase }, { on := 7, ground := Ground.phase }, { on := 8, ground := Ground.phase }, { on := 9, ground := Ground.phase }, { on := 10, ground := Ground.phase }, { on := 11, ground := Ground.phase }, { on := 12, ground := Ground.phase }, { on := 13, ground := Ground.phase }, { on := 14, ground := Ground.phase }, { on := 15, ground := Ground.phase }, { on := 16, ground := Ground.phase }, { on := 17, ground := Ground.phase }, { on := 18, ground := Ground.phase }], guard := none }) rfl (fun K hK => ?_) ?_
                · go_simp
                  refine hK.out _ _ (HKEEP.out _ HAPP.out.fx HAPP.out.gr) (fun hHeld => ?_)
                  clear hK K
                  (try simp only [Act.put, List.setIfInBounds_toArray, List.set_cons_zero, List.set_cons_succ])
                  refine wpAnyH_done (by kernel_rfl) ?_ _
                  clear hHeld
                  go_wp2_with fail
                  go_roundw
                  case rel => exact ⟨k + 1, va2, vc2, _, by go_num, by omega, HAPP.out⟩
                  case measure => simp [intOf]; omega
                exact AllReadyH.nil
              exact AllReadyH.nil
            exact AllReadyH.nil
          refine AllReadyH.cons (o := { dst := some 51, op := Op.buildSlice 26 1 #[(0, Operand.tmp 50)], type := 26, pos := "ref.go:156", after := #[{ on := 16, ground := Ground.data }], guard := none }) rfl (fun K hK => ?_) ?_
          · go_simp
            refine hK.out _ _ (HKEEP.out _ (HLd.out.later (Gr.new w8 (.cells #[.slice px pn pc] 23))).fx (HLd.out.later (Gr.new w8 (.cells #[.slice px pn pc] 23))).gr) (fun hHeld => ?_)
            clear hK K
            (try simp only [Act.put, List.setIfInBounds_toArray, List.set_cons_zero, List.set_cons_succ])
            replace HLd := Lib.hid (HLd.out.later (Gr.new w8 (.cells #[.slice px pn pc] 23)))
            clear o0 o1 o2
            obtain ⟨o0, o1, o2⟩ := HLd.out.out.p3
            refine wpAnyH_ready (rs := [1]) (by kernel_rfl) (by simp) ?_
            refine AllReadyH.cons (o := { dst := some 35, op := Op.load 26 (Operand.tmp 34), type := 26, pos := "ref.go:156", after := #[{ on := 0, ground := Ground.data }], guard := none }) rfl (fun K hK => ?_) ?_
            · go_simp
              refine hK.out _ _ hHeld (fun hHeld => ?_)
              clear hK K
              (try simp only [Act.put, List.setIfInBounds_toArray, List.set_cons_zero, List.set_cons_succ])
              refine wpAnyH_ready (rs := [18]) (by kernel_rfl) (by simp) ?_
              refine AllReadyH.cons (o := { dst := some 52, op := Op.call { callee := Callee.builtin Builtin.append, args := #[Operand.tmp 35, Operand.tmp 51], argTypes := #[26, 26] }, type := 26, pos := "ref.go:156", after := #[{ on := 1, ground := Ground.data }, { on := 17, ground := Ground.data }, { on := 16, ground := Ground.chain }], guard := none }) rfl (fun K hK => ?_) ?_
              · refine wp_appR (.tmp 35) (.tmp 51) rfl rfl b (.slice vx k vc) ls rfl HLd.out.own (.slice px pn pc) (Oj.prodR tn m (rw_ rA k) (rw_ rB k)) w8.heap.size rfl (cell_new _ _ _) (HP8.out.later (Gr.new _ _)) HF8.out HLEN.out HLd.out.fx.1 ?_
                intro v' wn hown hgrow
                obtain ⟨va2, vc2, hv2, -, -⟩ := hown.form
                rw [HLL.out] at hv2
                subst hv2
                have HMID := Lib.hid (HLd.out.mid (by omega) hgrow)
                have HAPP := Lib.hid (HLd.out.app (by omega) (by omega) hown hgrow (by rw [← HME.out]))
                have HFX := Lib.hid (HLd.out.fx.row hgrow (fun r e => (HLd.out.own.lt r e).1))
                have HGN := Lib.hid (OwnR.grown HLd.out.own HLd.out.gr hgrow (by omega))
                clear hown hgrow
                refine hK.out _ _ (HKEEP.out _ HFX.out HGN.out) (fun hHeld => ?_)
                clear hK K
                (try simp only [Act.put, List.setIfInBounds_toArray, List.set_cons_zero, List.set_cons_succ])
                obtain ⟨e0, e1, e2⟩ := HMID.out.p3
                obtain ⟨f0, f1, f2⟩ := HMID.out.f3
                refine wpAnyH_take (i := 19) (oi := { dst := some 53, op := Op.fieldAddr 28 (Operand.tmp 8) 2, type := 0, pos := "ref.go:156", after := #[{ on := 0, ground := Ground.phase }, { on := 1, ground := Ground.phase }, { on := 2, ground := Ground.phase }, { on := 3, ground := Ground.phase }, { on := 4, ground := Ground.phase }, { on := 5, ground := Ground.phase }, { on := 6, ground := Ground.phase }, { on := 7, ground := Ground.phase }, { on := 8, ground := Ground.phase }, { on := 9, ground := Ground.phase }, { on := 10, ground := Ground.phase }, { on := 11, ground := Ground.phase }, { on := 12, ground := Ground.phase }, { on := 13, ground := Ground.phase }, { on := 14, ground := Ground.phase }, { on := 15, ground := Ground.phase }, { on := 16, ground := Ground.phase }, { on := 17, ground := Ground.phase }, { on := 18, ground := Ground.phase }], guard := none }) (v := ?_) rfl (by kernel_rfl) (by kernel_rfl) (by kernel_rfl) (fun _ _ _ h => h) (_root_.Or.inl ⟨by rfl, ?_⟩) (by assumption) ?_
                rotate_left
                · intro w0 hSw; (try dsimp only at hSw); go_simp; try with_reducible rfl
                (try simp only [Act.put, List.setIfInBounds_toArray, List.set_cons_zero, List.set_cons_succ])
                refine wpAnyH_ready (rs := [20]) (by kernel_rfl) (by simp) ?_
                refine AllReadyH.cons (o := { dst := none, op := Op.store 26 (Operand.tmp 53) (Operand.tmp 52), type := 0, pos := "ref.go:156", after := #[{ on := 19, ground := Ground.data }, { on := 18, ground := Ground.data }, { on := 18, ground := Ground.chain }, { on := 0, ground := Ground.phase }, { on := 1, ground := Ground.phase }, { on := 2, ground := Ground.phase }, { on := 3, ground := Ground.phase }, { on := 4, ground := Ground.phase }, { on := 5, ground := Ground.phase }, { on := 6, ground := Ground.phase }, { on := 7, ground := Ground.phase }, { on := 8, ground := Ground.phase }, { on := 9, ground := Ground.phase }, { on := 10, ground := Ground.phase }, { on := 11, ground := Ground.phase }, { on := 12, ground := Ground.phase }, { on := 13, ground := Ground.phase }, { on := 14, ground := Ground.phase }, { on := 15, ground := Ground.phase }, { on := 16, ground := Ground.phase }, { on := 17, ground := Ground.phase }, { on := 18, ground := Ground.phase }], guard := none }) rfl (fun K hK => ?_) ?_
                · go_simp
                  refine hK.out _ _ (HKEEP.out _ HAPP.out.fx HAPP.out.gr) (fun hHeld => ?_)
                  clear hK K
                  (try simp only [Act.put, List.setIfInBounds_toArray, List.set_cons_zero, List.set_cons_succ])
                  refine wpAnyH_done (by kernel_rfl) ?_ _
                  clear hHeld
                  go_wp2_with fail
                  go_roundw
                  case rel => exact ⟨k + 1, va2, vc2, _, by go_num, by omega, HAPP.out⟩
                  case measure => simp [intOf]; omega
                exact AllReadyH.nil
              exact AllReadyH.nil
            exact AllReadyH.nil
          exact AllReadyH.nil
        exact AllReadyH.nil

      · obtain rfl : k = nm := by omega
        have i1 : ¬ (k : Int) < (k : Int) := by omega
        have HD := Lib.hid (HLK.out.done HNM.out)
        obtain ⟨o0, o1, o2⟩ := HLK.out.out.p3
        have HRR := Lib.hid (HLK.out.fx.blk HRB.out (by omega) (by omega))
        obtain ⟨r0, r1, r2⟩ := HRR.out.p3
        obtain ⟨f0, f1, f2⟩ := HRR.out.f3
        go_wp2_with fail
        have hr := ((HRR.out.set 0 (.int .i64 lv)).set 1 (.bool sp)).set 2 (.slice vx k vc)
        obtain ⟨e0, e1, e2⟩ := (show Blk _ _ _ #[.int .i64 lv, .bool sp, .slice vx k vc] from hr).p3
        refine bodyPost_ret (v := .tuple #[.agg #[.int .i64 lv, .bool sp, .slice vx k vc], .int .i64 0]) (by simp only [Nat.add_assoc, Nat.reduceAdd]; simp [results, Tryz.results34, go_sem, e0, e1, e2]) rfl ?_
        have h := put3b HLK.out.own.hasB HLK.out.gr (k := w.heap.size + 3) (by omega) (by omega) (.int .i64 lv) (.bool sp) (.slice vx k vc)
        rw [HD.out, prod_eq HV.out HEA.out, show rwA (Oj.mods ch S lv sp) (fun i m => (fun m x y => Oj.prodR x.length m.toNat x y) m (rw_ rA i) (rw_ rB i)) = LS from HLS.out.symm] at h
        exact ⟨lv, sp, _, _, by rw [HE0.out], .inl ⟨HE0.out, rfl, rfl, rfl⟩, h.1, h.2⟩
  · have HE0 := Lib.hid (HNO.out h1)
    rw [decide_eq_false h1]
    clear h1
    obtain ⟨r0, r1, r2⟩ := HRB.out.p3
    obtain ⟨f0, f1, f2⟩ := HRB.out.f3
    go_wp2_with fail
    have hr := ((HRB.out.set 0 (.int .i64 0)).set 1 (.bool false)).set 2 (.slice none 0 0)
    obtain ⟨e0, e1, e2⟩ := (show Blk _ _ _ #[.int .i64 0, .bool false, .slice none 0 0] from hr).p3
    refine bodyPost_ret (v := .tuple #[.agg #[.int .i64 0, .bool false, .slice none 0 0], .int .i64 2]) (by simp only [Nat.add_assoc, Nat.reduceAdd]; simp [results, Tryz.results34, go_sem, e0, e1, e2]) rfl ?_
    have h := put3b (HasB.nil _ _ _) HG.out (k := w.heap.size + 3) (b := w.heap.size + 3 + 1) (by omega) (by omega) (.int .i64 0) (.bool false) (.slice none 0 0)
    exact ⟨0, false, [], _, by rw [HE0.out], .inr ⟨HE0.out, rfl, rfl, rfl⟩, h.1, h.2⟩
end Go.Proofs.YtlfiakpmnkhcdaaGreat.Mo
