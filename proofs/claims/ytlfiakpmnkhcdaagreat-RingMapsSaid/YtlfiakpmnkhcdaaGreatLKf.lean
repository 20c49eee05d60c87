import Derived.Test.YtlfiakpmnkhcdaaGreatLKb
/- The reference of layer 9: elements row by row; sum. -/
namespace Go.Proofs.YtlfiakpmnkhcdaaGreat.Mo
open Go.RowKit Go.Shelf
set_option linter.unusedVariables false

/-- Blocks below b, but G, are as they were. -/
def Fx (b G : Nat) (W W' : World) : Prop := b ≤ W'.heap.size ∧ ∀ k, k < b → k ≠ G → W'.heap[k]? = W.heap[k]?
theorem Fx.refl {b : Nat} (G : Nat) {W : World} (h : b ≤ W.heap.size) : Fx b G W W := ⟨h, fun _ _ _ => rfl⟩
theorem Fx.gr {b G : Nat} {W W1 W2 : World} (h : Fx b G W W1) (hg : Gr W1 W2) : Fx b G W W2 := ⟨Nat.le_trans h.1 hg.size, fun k hk hG => (hg.block k (Nat.lt_of_lt_of_le hk h.1)).trans (h.2 k hk hG)⟩
theorem Fx.row {b G : Nat} {W W1 W2 : World} {row : Option Nat} (h : Fx b G W W1) (hg : W1.grownBy W2 row) (hr : ∀ r, row = some r → b ≤ r) : Fx b G W W2 :=
  ⟨Nat.le_trans h.1 hg.size, fun k hk hG => (hg.block k (Nat.lt_of_lt_of_le hk h.1) (fun e => by have := hr k e.symm; omega)).trans (h.2 k hk hG)⟩
theorem Fx.set {b G : Nat} {W W1 : World} (h : Fx b G W W1) (o : Nat) (x : Value) : Fx b G W (W1.setCell ⟨G, o, none⟩ x) :=
  ⟨Nat.le_trans h.1 (grown_cell W1 G o x).size, fun k hk hG => ((grown_cell W1 G o x).block k (Nat.lt_of_lt_of_le hk h.1) (fun e => by cases e; exact hG rfl)).trans (h.2 k hk hG)⟩
theorem Fx.blk {b G : Nat} {W W' : World} (h : Fx b G W W') {k : Nat} {t : TypeId} {cs : Array Value} (hb : Blk W k t cs) (hk : k < b) (hG : k ≠ G) : Blk W' k t cs := (h.2 k hk hG).trans hb
theorem Fx.hasP {b G : Nat} {W W' : World} (h : Fx b G W W') {u : Value} {l : List Int} (hu : HasP W u l) (hp : ∀ p, u.ownBlock = some p → p < b ∧ p ≠ G) : HasP W' u l := by
  obtain ⟨hd, a, cap, rfl, h1, h2, h3⟩ := hu
  refine ⟨hd, a, cap, rfl, h1, h2, fun i hi => ?_⟩
  obtain ⟨g, o, e, hc⟩ := h3 i hi
  subst e
  obtain ⟨k1, k2⟩ := hp g rfl
  exact ⟨g, o, rfl, by rw [World.cell?_of_block (w := W) (h.2 g k1 k2)]; exact hc⟩
/-- The element as far as it has come. -/
structure LP (b G : Nat) (w W4 : World) (lv : Int) (sp : Bool) (F : Nat → Int → List Int) (M : List Int) (i : Nat) (va : Value) (ls : List (List Int)) (W : World) : Prop where
  fx : Fx b G W4 W
  out : Blk W G 28 #[.int .i64 lv, .bool sp, va]
  own : OwnR W b va ls
  gr : Gr w W
  len : ls.length = i
  at_ : ∀ j, j < i → rw_ ls j = F j (Op.cf M j)
section
variable {b G : Nat} {w W4 : World} {lv : Int} {sp : Bool} {F : Nat → Int → List Int} {M : List Int} {i : Nat} {va : Value} {ls : List (List Int)} {W : World}
theorem LP.start (hb : W4.heap.size = b) (ho : Blk W4 G 28 #[.int .i64 lv, .bool sp, .slice none 0 0]) (hg : Gr w W4) : LP b G w W4 lv sp F M 0 (.slice none 0 0) [] W4 :=
  ⟨Fx.refl G (by omega), ho, OwnR.nil _ _, hg, rfl, fun j hj => by omega⟩
theorem LP.later (h : LP b G w W4 lv sp F M i va ls W) {W' : World} (hg : Gr W W') : LP b G w W4 lv sp F M i va ls W' :=
  ⟨h.fx.gr hg, h.out.gr hg, h.own.gr hg, h.gr.trans hg, h.len, h.at_⟩
theorem LP.mid (h : LP b G w W4 lv sp F M i va ls W) (hGb : G < b) {wn : World} (hgrow : W.grownBy wn va.ownBlock) : Blk wn G 28 #[.int .i64 lv, .bool sp, va] :=
  h.out.row hgrow (fun e => by have := (h.own.lt G e.symm).1; omega)
theorem LP.app (h : LP b G w W4 lv sp F M i va ls W) (hG : w.heap.size ≤ G) (hGb : G < b) {wn : World} {v' : Value} {l : List Int} (hown : OwnR wn b v' (ls ++ [l])) (hgrow : W.grownBy wn va.ownBlock) (hl : l = F i (Op.cf M i)) : LP b G w W4 lv sp F M (i + 1) v' (ls ++ [l]) (wn.setCell ⟨G, 2, none⟩ v') := by
  refine ⟨(h.fx.row hgrow (fun r e => (h.own.lt r e).1)).set 2 v', (h.mid hGb hgrow).set 2 v', hown.set hGb v', (OwnR.grown h.own h.gr hgrow (by omega)).setCell hG _, by rw [List.length_append, h.len]; rfl, fun j hj => ?_⟩
  rw [getD_snoc, h.len]
  by_cases e : j < i
  · rw [if_pos e]; exact h.at_ j e
  · obtain rfl : j = i := by omega
    rw [if_neg e, if_pos rfl, hl]
theorem LP.done (h : LP b G w W4 lv sp F M i va ls W) (hi : i = M.length) : ls = rwA M F := rows_eq (by rw [rwA_len, h.len, hi]) fun j hj => by
  rw [h.len] at hj
  rw [rwA_at _ _ (by omega)]
  exact h.at_ j hj
end
/-- A new element. -/
def ElP (lv : Int) (sp : Bool) (ls : List (List Int)) (w : World) (e : Ending) (w' : World) : Prop := ∃ u, e = .returned (.agg #[.int .i64 lv, .bool sp, u]) ∧ HasB w' w.heap.size w'.heap.size u ls ∧ Gr w w'
theorem put3b {w w1 : World} {k b : Nat} {u : Value} {ls : List (List Int)} (hb : HasB w1 b w1.heap.size u ls) (hg1 : Gr w w1) (h1 : w.heap.size ≤ k) (h2 : k < b) (x y z : Value) :
    HasB (((w1.setCell ⟨k, 0, none⟩ x).setCell ⟨k, 1, none⟩ y).setCell ⟨k, 2, none⟩ z) w.heap.size (((w1.setCell ⟨k, 0, none⟩ x).setCell ⟨k, 1, none⟩ y).setCell ⟨k, 2, none⟩ z).heap.size u ls ∧ Gr w (((w1.setCell ⟨k, 0, none⟩ x).setCell ⟨k, 1, none⟩ y).setCell ⟨k, 2, none⟩ z) := by
  have h := ((hb.grown (grown_cell w1 k 0 x) (fun r e => by cases e; exact .inl (by omega))).grown (grown_cell _ k 1 y) (fun r e => by cases e; exact .inl (by omega))).grown (grown_cell _ k 2 z) (fun r e => by cases e; exact .inl (by omega))
  exact ⟨(h.mono (by omega) (Nat.le_refl _)).cut, ((hg1.setCell (p := ⟨k, 0, none⟩) h1 _).setCell (p := ⟨k, 1, none⟩) h1 _).setCell (p := ⟨k, 2, none⟩) h1 _⟩
theorem ap_of_fresh {W0 : World} {b : Nat} {va : Value} {ls : List (List Int)} (h : OwnR W0 b va ls) (hb : b ≤ W0.heap.size) {x : Option Addr} {n c : Nat} {l : List Int} (hf : ∀ p, x = some p → W0.heap.size ≤ p.block) : Ap b va (.slice x n c) l :=
  Ap.of (W0 := W0) (fun k hk => (h.lt k hk).2) hb (fun _ p hp => by obtain ⟨q, rfl, rfl⟩ := own_some hp; exact hf q rfl)
/-- A row as far as it has come. -/
structure RP (wo : World) (f : Nat → Int) (t : Nat) (r : Value) (l : List Int) (W : World) : Prop where
  own : Own1 W wo.heap.size r l
  len : l.length = t
  at_ : ∀ q, q < t → Op.cf l q = f q
  gr : Gr wo W
theorem RP.start (wo : World) (f : Nat → Int) : RP wo f 0 (.slice none 0 0) [] wo := ⟨Own1.nil _ _, rfl, fun q hq => by omega, Gr.refl _⟩
theorem RP.snoc {wo : World} {f : Nat → Int} {t : Nat} {l : List Int} {W : World} {v' : Value} {z : Int} (hown : Own1 W wo.heap.size v' (l ++ [z])) (hl : l.length = t) (ha : ∀ q, q < t → Op.cf l q = f q) (hz : z = f t) (hg : Gr wo W) : RP wo f (t + 1) v' (l ++ [z]) W := by
  refine ⟨hown, by rw [List.length_append, hl]; rfl, fun q hq => ?_, hg⟩
  rw [Op.cf_append, hl]
  by_cases e : q < t
  · rw [if_pos e]; exact ha q e
  · obtain rfl : q = t := by omega
    rw [if_neg e, Nat.sub_self, hz]; rfl
theorem RP.done {wo : World} {f : Nat → Int} {t : Nat} {r : Value} {l : List Int} {W : World} (h : RP wo f t r l W) : l = Oj.rowL t f := row_done h.len h.at_
end Go.Proofs.YtlfiakpmnkhcdaaGreat.Mo
/- The reference of layer 9: sum. -/
namespace Go.Proofs.YtlfiakpmnkhcdaaGreat.Mo
open Go.RowKit Go.Shelf
set_option linter.unusedVariables false

theorem row_u32 {n : Nat} {m z : Int} (hm : okM' m) (h0 : 0 ≤ z) (h1 : z < m) : 0 ≤ z ∧ z < 4294967296 := by have := hm.2; omega
set_option maxRecDepth 100000 in
set_option maxHeartbeats 8000000 in
theorem fSum_any (N p1 p2 : Int) (xC : Option Addr) (nC cC : Nat) (S p5 p6 : Int) (lv : Nat) (sp : Bool) (ch : List Int) (uA uB : Value) (rA rB : List (List Int)) (lv2 : Int) (sp2 : Bool) (n : Int) (w : World) (hn : isW n) (h3 : ch.length ≤ 1000) (hC : HasP w (.slice xC nC cC) ch) (hS : 0 ≤ S ∧ S < 4294967296) (hA : HasR w uA rA) (hB : HasR w uB rB) (hv : VP N ch S) (hEA : EV N ch S lv sp rA) (hEB : EVr N (Oj.mods ch S lv sp) rB) :
    Calls Tryz.prog 63 #[.agg #[.int .i64 N, .int .u32 p1, .int .i64 p2, .slice xC nC cC, .int .u32 S, .int .i64 p5, .int .u32 p6], .agg #[.int .i64 lv, .bool sp, uA], .agg #[.int .i64 lv2, .bool sp2, uB], .int .i64 n] w (ElP lv sp (rwA (Oj.mods ch S lv sp) (fun i m => Oj.sumR N.toNat m (rw_ rA i) n (rw_ rB i))) w) := by
  obtain ⟨xA, cA, rfl⟩ := hA.form
  obtain ⟨xB, cB, rfl⟩ := hB.form
  generalize hnA : rA.length = nA at *
  generalize hnB : rB.length = nB at *
  obtain ⟨W1, hW1⟩ : ∃ W1, W1 = ((((w.alloc (.cells #[.int .i64 N, .int .u32 p1, .int .i64 p2, .slice xC nC cC, .int .u32 S, .int .i64 p5, .int .u32 p6] 25)).alloc (.cells #[.int .i64 lv, .bool sp, .slice xA nA cA] 28)).alloc (.cells #[.int .i64 lv2, .bool sp2, .slice xB nB cB] 28)).alloc (.cells #[.int .i64 0, .bool false, .slice none 0 0] 28)).alloc (.cells #[.int .i64 lv, .bool sp, .slice none 0 0] 28) := ⟨_, rfl⟩
  have HG1 := Lib.hid (show Gr w W1 by rw [hW1]; exact ((((Gr.new w _).alloc _).alloc _).alloc _).alloc _)
  have HSZ1 := Lib.hid (show W1.heap.size = w.heap.size + 5 by rw [hW1]; simp)
  have HBP := Lib.hid (show Blk W1 w.heap.size 25 #[.int .i64 N, .int .u32 p1, .int .i64 p2, .slice xC nC cC, .int .u32 S, .int .i64 p5, .int .u32 p6] by rw [hW1]; exact (Blk.new w _ _).gr ((((Gr.new _ _).alloc _).alloc _).alloc _))
  have HBA := Lib.hid (show Blk W1 (w.heap.size + 1) 28 #[.int .i64 lv, .bool sp, .slice xA nA cA] by rw [hW1]; exact (Blk.newk _ _ (by simp)).gr (((Gr.new _ _).alloc _).alloc _))
  have HBB := Lib.hid (show Blk W1 (w.heap.size + 2) 28 #[.int .i64 lv2, .bool sp2, .slice xB nB cB] by rw [hW1]; exact (Blk.newk _ _ (by simp)).gr ((Gr.new _ _).alloc _))
  have HBR := Lib.hid (show Blk W1 (w.heap.size + 3) 28 #[.int .i64 0, .bool false, .slice none 0 0] by rw [hW1]; exact (Blk.newk _ _ (by simp)).gr (Gr.new _ _))
  have HBO := Lib.hid (show Blk W1 (w.heap.size + 4) 28 #[.int .i64 lv, .bool sp, .slice none 0 0] by rw [hW1]; exact Blk.newk _ _ (by simp))
  have HA := Lib.hid hA
  have HB := Lib.hid hB
  have HC := Lib.hid hC
  have HS := Lib.hid hS
  have HV := Lib.hid hv
  have HEA := Lib.hid hEA
  have HEB := Lib.hid hEB
  have HN := Lib.hid hn
  have HNA := Lib.hid hnA
  have HNB := Lib.hid hnB
  have HL2 := Lib.hid (show lv ≤ ch.length by have := hEA.1.2.1; omega)
  clear hA hB hC hS hv hEA hEB hn hnA hnB
  obtain ⟨nn, rfl, n4, n32⟩ := vp_dim HV.out
  obtain ⟨q0, q1, q2, q3, q4, q5, q6⟩ := HBP.out.p7
  obtain ⟨a0, a1, a2⟩ := HBA.out.p3
  go_enter Tryz.func63, Tryz.ntmps63
  go_upto_region 2 with (fail)
  rw [← hW1]
  clear hW1
  go_wp2_with fail
  refine (fModuli_any nn p1 p2 xC nC cC S p5 p6 lv sp ch _ HL2.out h3 (HC.out.later HG1.out) HS.out).mono ?_
  rintro e w4 ⟨xm, nm, cm, rfl, hm, hmf, hg4⟩
  have HM := Lib.hid hm
  have HG4 := Lib.hid (HG1.out.trans hg4)
  have HSZ4 := Lib.hid (show w.heap.size + 5 ≤ w4.heap.size by have := HSZ1.out; have := hg4.size; omega)
  have HMP := Lib.hid (show ∀ p, (Value.slice xm nm cm).ownBlock = some p → p < w4.heap.size ∧ p ≠ w.heap.size + 4 from fun p hp => by
    obtain ⟨q, rfl, rfl⟩ := own_some hp
    have h1 := hmf q rfl
    have h2 := HSZ1.out
    refine ⟨?_, by omega⟩
    by_cases h0 : 0 < (Oj.mods ch S lv sp).length
    · exact hm.lt h0 _ hp
    · exfalso
      have := Oj.mods_len (S := S) (sp := sp) HL2.out
      have := HEA.out.1.1
      omega)
  have HNM := Lib.hid hm.len.1
  replace HBP := Lib.hid (HBP.out.gr hg4)
  replace HBA := Lib.hid (HBA.out.gr hg4)
  replace HBB := Lib.hid (HBB.out.gr hg4)
  replace HBR := Lib.hid (HBR.out.gr hg4)
  replace HBO := Lib.hid (HBO.out.gr hg4)
  have hnm : nm ≤ 1001 := by
    have h5 := Oj.mods_len (S := S) (sp := sp) HL2.out
    have := HNM.out
    have := HL2.out
    cases sp <;> simp at h5 <;> omega
  clear hm hmf hg4 q0 q1 q2 q3 q4 q5 q6 a0 a1 a2
  obtain ⟨b, hb⟩ : ∃ b, b = w4.heap.size := ⟨_, rfl⟩
  have HBE := Lib.hid hb
  have HLP := Lib.hid (show LP b (w.heap.size + 4) w w4 lv sp (fun i m => Oj.sumR nn m (rw_ rA i) n (rw_ rB i)) (Oj.mods ch S lv sp) 0 (.slice none 0 0) [] w4 from LP.start hb.symm HBO.out HG4.out)
  have hb5 : w.heap.size + 5 ≤ b := by rw [hb]; exact HSZ4.out
  rw [← hb] at HMP
  clear hb
  go_wp2_with fail
  go_loopw [11, 12, 13] (fun i _ _ wr => ∃ (k : Nat) (x : Option Addr) (c : Nat) (ls : List (List Int)), i = .int .i64 k ∧ k ≤ nm ∧ LP b (w.heap.size + 4) w w4 lv sp (fun i m => Oj.sumR nn m (rw_ rA i) n (rw_ rB i)) (Oj.mods ch S lv sp) k (.slice x k c) ls wr) (fun i _ _ _ => nm - (intOf i).toNat)
  case atStart => exact ⟨0, none, 0, [], rfl, by omega, HLP.out⟩
  case round =>
    obtain ⟨k, vx, vc, ls, rfl, hk, hlp⟩ := hrel
    have HL := Lib.hid hlp
    clear hlp
    by_cases hlt : k < nm
    · have i1 : (k : Int) < (nm : Int) := by omega
      have i0 : (0 : Int) ≤ (k : Int) := by omega
      have HKM := Lib.hid (show k < (Oj.mods ch S lv sp).length by rw [← HNM.out]; exact hlt)
      have hMk := mods_ok HV.out HEA.out.1 HKM.out
      obtain ⟨m, hme⟩ : ∃ m, m = Op.cf (Oj.mods ch S lv sp) k := ⟨_, rfl⟩
      rw [← hme] at hMk
      have HME := Lib.hid hme
      have HMK := Lib.hid hMk
      have m1 := hMk.1
      have m2 := hMk.2
      have HRA := Lib.hid (show (rw_ rA k).length = nn by have := (HEA.out.2.2 k HKM.out).1; omega)
      have HRB := Lib.hid (show (rw_ rB k).length = nn by have := (HEB.out.2 k HKM.out).1; omega)
      have HLA := Lib.hid (show ∀ q, q < nn → Op.cf (rw_ rA k) q < m from fun q hq => by
        have := of_decide_eq_true (HEA.out.2.2 k HKM.out).2 q (by rw [HRA.out]; exact hq)
        rw [hme]; exact this)
      have HLB := Lib.hid (show ∀ q, q < nn → Op.cf (rw_ rB k) q < m from fun q hq => by
        have := of_decide_eq_true (HEB.out.2 k HKM.out).2 q (by rw [HRB.out]; exact hq)
        rw [hme]; exact this)
      clear hme hMk
      obtain ⟨wo, rfl⟩ : ∃ wo : World, wo = wr := ⟨_, rfl⟩
      have hnA : k < nA := by have := HEA.out.2.1; have := HNA.out; have := HNM.out; have : (Oj.mods ch S (lv : Int).toNat sp).length = (Oj.mods ch S lv sp).length := rfl; omega
      have hnB : k < nB := by have := HEB.out.1; have := HNB.out; have := HNM.out; omega
      have j1 : (k : Int) < (nA : Int) := by omega
      have j2 : (k : Int) < (nB : Int) := by omega
      obtain ⟨gA, oA, sx, sn, sc, rfl, hcA, hs1, hpA⟩ := HasB.at_ (HA.out.later HL.out.gr) (i := k) (by rw [HNA.out]; exact hnA)
      obtain ⟨gB, oB, tx, tn, tc, rfl, hcB, ht1, hpB⟩ := HasB.at_ (HB.out.later HL.out.gr) (i := k) (by rw [HNB.out]; exact hnB)
      obtain ⟨gM, oM, rfl, hcM⟩ := (HL.out.fx.hasP HM.out HMP.out).at_ (i := k) HKM.out
      rw [← HME.out] at hcM
      have hsn : sn = nn := by rw [hs1, HRA.out]
      have htn : tn = nn := by rw [ht1, HRB.out]
      clear hs1 ht1
      subst hsn htn
      have HPA := Lib.hid hpA
      have HPB := Lib.hid hpB
      have HCA := Lib.hid hcA
      have HCB := Lib.hid hcB
      have HCM := Lib.hid hcM
      have HQP := Lib.hid (HL.out.fx.blk HBP.out (by omega) (by omega))
      have HQA := Lib.hid (HL.out.fx.blk HBA.out (by omega) (by omega))
      have HQB := Lib.hid (HL.out.fx.blk HBB.out (by omega) (by omega))
      clear hpA hpB hcA hcB hcM
      go_wp2_with fail
      go_loopw [12, 13] (fun r j wi => ∃ (t : Nat) (x' : Option Addr) (c' : Nat) (l : List Int), j = .int .i64 t ∧ t ≤ tn ∧ r = .slice x' t c' ∧ RP wo (fun q => (Op.cf (rw_ rA k) q + n * Op.cf (rw_ rB k) q) % m) t (.slice x' t c') l wi) (fun _ j _ => tn - (intOf j).toNat)
      case atStart => exact ⟨0, none, 0, [], rfl, by omega, rfl, RP.start _ _⟩
      case round =>
        obtain ⟨t, rx, rc, l, rfl, ht, rfl, hrp⟩ := hrel
        have HR := Lib.hid hrp
        obtain ⟨q0, q1, q2, q3, q4, q5, q6⟩ := (HQP.out.gr hrp.gr).p7
        obtain ⟨a0, a1, a2⟩ := (HQA.out.gr hrp.gr).p3
        obtain ⟨b0, b1, b2⟩ := (HQB.out.gr hrp.gr).p3
        have hcA := hrp.gr.keeps HCA.out
        have hcB := hrp.gr.keeps HCB.out
        have hcM := hrp.gr.keeps HCM.out
        clear hrp
        by_cases hjt : t < tn
        · have i2 : (t : Int) < (tn : Int) := by omega
          have i3 : (0 : Int) ≤ (t : Int) := by omega
          obtain ⟨gx, ox, rfl, hcx⟩ := HPA.out.at_ (i := t) (by rw [HRA.out]; exact hjt)
          obtain ⟨gy, oy, rfl, hcy⟩ := HPB.out.at_ (i := t) (by rw [HRB.out]; exact hjt)
          obtain ⟨x0, x1⟩ := HPA.out.1.at_ t
          obtain ⟨y0, y1⟩ := HPB.out.1.at_ t
          have x2 := HLA.out t hjt
          have y2 := HLB.out t hjt
          obtain ⟨x, hxe⟩ : ∃ x, x = Op.cf (rw_ rA k) t := ⟨_, rfl⟩
          obtain ⟨y, hye⟩ : ∃ y, y = Op.cf (rw_ rB k) t := ⟨_, rfl⟩
          rw [← hxe] at hcx x0 x1 x2
          rw [← hye] at hcy y0 y1 y2
          obtain ⟨f, hf⟩ : ∃ f, f = n % m := ⟨_, rfl⟩
          have f0 : 0 ≤ f := by rw [hf]; exact emod_lo n m (by omega)
          have f1 : f < m := by rw [hf]; exact emod_hi n m (by omega)
          have HCALL := Lib.hid (show ∀ W, Calls Tryz.prog 62 #[.int .i64 n, .int .u32 m] W (fun e w' => e = .returned (.int .u64 f) ∧ W = w') from fun W => by rw [hf]; exact fResidue_any n m W HMK.out HN.out)
          have p0 := mul_lo y0 f0
          have p1 : y * f ≤ 4611686014132420609 := by
            have h1 : y * f ≤ 2147483647 * f := Int.mul_le_mul_of_nonneg_right (by omega) f0
            omega
          obtain ⟨P, hP⟩ : ∃ P, P = y * f := ⟨_, rfl⟩
          have HZ := Lib.hid (show (x + P) % m = (Op.cf (rw_ rA k) t + n * Op.cf (rw_ rB k) t) % m from by
            rw [hP, hf, ← hxe, ← hye, Int.mul_comm y, Int.add_emod, mod_mul, ← Int.add_emod])
          have w1 : IntKind.u64.wrap x = x := IntWalk.u64_in _ (by omega)
          have w2 : IntKind.u64.wrap y = y := IntWalk.u64_in _ (by omega)
          have w3 : IntKind.u64.wrap m = m := IntWalk.u64_in _ (by omega)
          have w4' : IntKind.u64.wrap (y * f) = P := by rw [IntWalk.u64_in _ (by omega)]; exact hP.symm
          rw [← hP] at p0 p1
          have w5 : IntKind.u64.wrap (x + P) = x + P := IntWalk.u64_in _ (by omega)
          obtain ⟨z, hz⟩ : ∃ z, z = (x + P) % m := ⟨_, rfl⟩
          have z0 : 0 ≤ z := by rw [hz]; exact emod_lo _ m (by omega)
          have z1 : z < m := by rw [hz]; exact emod_hi _ m (by omega)
          have w6 : (x + P).tmod m = z := by rw [hz]; exact Int.tmod_eq_emod_of_nonneg (by omega)
          have w7 : (x + P) % m = z := hz.symm
          have w8 : IntKind.u64.wrap z = z := IntWalk.u64_in _ (by omega)
          have w9 : IntKind.u32.wrap z = z := IntWalk.u32_in _ (by omega)
          rw [w7] at HZ
          have HZU := Lib.hid (show 0 ≤ z ∧ z < 4294967296 by omega)
          have HPL := Lib.hid (show l.length + [z].length ≤ 1000000 from by rw [HR.out.len]; simp; omega)
          have HSB := Lib.hid HR.out.gr.size
          have HLZ := Lib.hid (show (l ++ [z]).length = t + 1 by rw [List.length_append, HR.out.len]; rfl)
          have HKEEP := Lib.hid (show ∀ wz, Gr wo wz → (wz.cell? ⟨w.heap.size + 1, 2, none⟩ = some (.slice (some ⟨gA, oA, none⟩) nA cA) ∧ wz.cell? ⟨gA, oA + k, none⟩ = some (.slice (some ⟨gx, ox, none⟩) tn sc) ∧ wz.cell? ⟨gx, ox + t, none⟩ = some (.int .u32 x) ∧ wz.cell? ⟨w.heap.size + 2, 2, none⟩ = some (.slice (some ⟨gB, oB, none⟩) nB cB) ∧ wz.cell? ⟨gB, oB + k, none⟩ = some (.slice (some ⟨gy, oy, none⟩) tn tc) ∧ wz.cell? ⟨gy, oy + t, none⟩ = some (.int .u32 y) ∧ wz.cell? ⟨gM, oM + k, none⟩ = some (.int .u32 m)) from fun wz g => ⟨g.keeps HQA.out.p3.2.2, g.keeps HCA.out, g.keeps hcx, g.keeps HQB.out.p3.2.2, g.keeps HCB.out, g.keeps hcy, g.keeps HCM.out⟩)
          have hcx := HR.out.gr.keeps hcx
          have hcy := HR.out.gr.keeps hcy
          have m0 : ¬ m = 0 := by omega
          clear hxe hye hf hP hz
          go_wp2_with fail
          go_region_held3 (fun wz => wz.cell? ⟨w.heap.size + 1, 2, none⟩ = some (.slice (some ⟨gA, oA, none⟩) nA cA) ∧ wz.cell? ⟨gA, oA + k, none⟩ = some (.slice (some ⟨gx, ox, none⟩) tn sc) ∧ wz.cell? ⟨gx, ox + t, none⟩ = some (.int .u32 x) ∧ wz.cell? ⟨w.heap.size + 2, 2, none⟩ = some (.slice (some ⟨gB, oB, none⟩) nB cB) ∧ wz.cell? ⟨gB, oB + k, none⟩ = some (.slice (some ⟨gy, oy, none⟩) tn tc) ∧ wz.cell? ⟨gy, oy + t, none⟩ = some (.int .u32 y) ∧ wz.cell? ⟨gM, oM + k, none⟩ = some (.int .u32 m)) ((refine HKEEP.out _ ?_; first | exact HG5.out | (repeat (first | exact HR.out.gr | refine Below.drew ?_ | refine Gr.alloc ?_ _))))
            (first
              | (go_at_call 62; refine (HCALL.out _).mono ?_; rintro e w' ⟨rfl, rfl⟩)
              | (refine wp_app (.tmp 37) (.tmp 71) rfl rfl wo.heap.size (.slice rx t rc) l rfl (HR.out.own.drew.alloc _) (.slice (some ⟨wr.heap.size, 0, none⟩) 1 1) [z] rfl (one_hasP' _ _ _ (by simp) HZU.out) HPL.out (Nat.le_trans HSB.out (by simp)) ?_; intro v' wA hown hgrow; obtain ⟨va5, vc5, hv5, -, -⟩ := hown.form; rw [HLZ.out] at hv5; subst hv5; have HO5 := Lib.hid hown; have HG5 := Lib.hid (show Gr wo wA from grown_own (Gr.alloc (Below.drew HR.out.gr) _) (HR.out.own.drew.alloc _) hgrow (Nat.le_refl _)); clear hown hgrow))
          clear w1 w2 w3 w4' w5 w6 w7 w8 w9
          go_wp2_with fail
          go_roundw
          case rel =>
            exact ⟨t + 1, va5, vc5, l ++ [z], by go_num, by omega, rfl, RP.snoc HO5.out HR.out.len HR.out.at_ HZ.out HG5.out⟩
          case measure => simp [intOf]; omega
        · obtain rfl : t = tn := by omega
          have i2 : ¬ (t : Int) < (t : Int) := by omega
          have HROW := Lib.hid HR.out.done
          have HPR := Lib.hid HR.out.own.hasP
          have HL6 := Lib.hid ((HL.out.later HR.out.gr).later (Gr.new wr (.cells #[.slice rx t rc] 23)))
          have HAP := Lib.hid (show Ap b (.slice vx k vc) (.slice rx t rc) l from ap_of_fresh HL.out.own HL.out.fx.1 (HR.out.own.fresh rfl))
          have HLEN := Lib.hid (show ls.length ≤ 1000000 by rw [HL.out.len]; omega)
          have HBS := Lib.hid HL6.out.fx.1
          have HLL := Lib.hid (show (ls ++ [l]).length = k + 1 by rw [List.length_append, HL.out.len]; rfl)
          obtain ⟨o0, o1, o2⟩ := (HL.out.later HR.out.gr).out.p3
          go_wp2_with (at_builtin; refine wpList_appR rfl (.tmp 74) (.tmp 76) rfl rfl b (.slice vx k vc) ls rfl HL6.out.own (.slice rx t rc) l wr.heap.size rfl (cell_new _ _ _) (HPR.out.later (Gr.new _ _)) HAP.out HLEN.out HBS.out ?_; intro v' wn hown hgrow; obtain ⟨va2, vc2, hv2, -, -⟩ := hown.form; rw [HLL.out] at hv2; subst hv2; have HMID := Lib.hid (HL6.out.mid (by omega) hgrow); have HAPP := Lib.hid (HL6.out.app (by omega) (by omega) hown hgrow (by rw [HROW.out, ← HME.out]; rfl)); obtain ⟨e0, e1, e2⟩ := HMID.out.p3; obtain ⟨f0, f1, f2⟩ := HMID.out.f3; clear hown hgrow)
          go_roundw
          case rel => exact ⟨k + 1, va2, vc2, ls ++ [l], by go_num, by omega, HAPP.out⟩
          case measure => simp [intOf]; omega
    · obtain rfl : k = nm := by omega
      have i1 : ¬ (k : Int) < (k : Int) := by omega
      have HD := Lib.hid (HL.out.done HNM.out)
      obtain ⟨o0, o1, o2⟩ := HL.out.out.p3
      have HRR := Lib.hid (HL.out.fx.blk HBR.out (by omega) (by omega))
      obtain ⟨r0, r1, r2⟩ := HRR.out.p3
      obtain ⟨f0, f1, f2⟩ := HRR.out.f3
      go_wp2_with fail
      have hr := ((HRR.out.set 0 (.int .i64 lv)).set 1 (.bool sp)).set 2 (.slice vx k vc)
      obtain ⟨e0, e1, e2⟩ := (show Blk _ _ _ #[.int .i64 lv, .bool sp, .slice vx k vc] from hr).p3
      refine bodyPost_ret (v := .agg #[.int .i64 lv, .bool sp, .slice vx k vc]) (by simp only [Nat.add_assoc, Nat.reduceAdd]; simp [results, Tryz.results63, go_sem, e0, e1, e2]) rfl ?_
      have h := put3b HL.out.own.hasB HL.out.gr (k := w.heap.size + 3) (by omega) (by omega) (.int .i64 lv) (.bool sp) (.slice vx k vc)
      rw [HD.out] at h
      exact ⟨_, rfl, h.1, h.2⟩
end Go.Proofs.YtlfiakpmnkhcdaaGreat.Mo
/- The reference of layer 9: FromInts. (made by mkke.py) -/
namespace Go.Proofs.YtlfiakpmnkhcdaaGreat.Mo
open Go.RowKit Go.Shelf
set_option linter.unusedVariables false

set_option maxRecDepth 100000 in
set_option maxHeartbeats 8000000 in
theorem fFromInts_any (N p1 p2 : Int) (xC : Option Addr) (nC cC : Nat) (S p5 p6 : Int) (lv : Int) (sp : Bool) (ch : List Int) (uL : Value) (l : List Int) (w : World) (h3 : ch.length ≤ 1000) (hC : HasP w (.slice xC nC cC) ch) (hS : 0 ≤ S ∧ S < 4294967296) (hL : Lo.HasQ w uL l) :
    Calls Tryz.prog 22 #[.agg #[.int .i64 N, .int .u32 p1, .int .i64 p2, .slice xC nC cC, .int .u32 S, .int .i64 p5, .int .u32 p6], .int .i64 lv, .bool sp, uL] w (ResE (fiE N ch S lv sp l.length) lv sp (rwA (Oj.mods ch S lv.toNat sp) (fun _ m => resR l.length m l)) w) := by
  obtain ⟨-, xl, cl, rfl, a1, a2, -⟩ := id hL
  generalize hnl : l.length = nl at *
  obtain ⟨W0, hW0⟩ : ∃ W0, W0 = (w.alloc (.cells #[.int .i64 N, .int .u32 p1, .int .i64 p2, .slice xC nC cC, .int .u32 S, .int .i64 p5, .int .u32 p6] 25)).alloc (.cells #[.int .i64 0, .bool false, .slice none 0 0] 28) := ⟨_, rfl⟩
  have HG := Lib.hid (show Gr w W0 by rw [hW0]; exact (Gr.new w _).alloc _)
  have HRB := Lib.hid (show Blk W0 (w.heap.size + 1) 28 #[.int .i64 0, .bool false, .slice none 0 0] by rw [hW0]; exact Blk.newk _ _ (by simp))
  have HBP := Lib.hid (show Blk W0 w.heap.size 25 #[.int .i64 N, .int .u32 p1, .int .i64 p2, .slice xC nC cC, .int .u32 S, .int .i64 p5, .int .u32 p6] by rw [hW0]; exact (Blk.new w _ _).gr (Gr.new _ _))
  have HC := Lib.hid hC
  have HL := Lib.hid hL
  have HS := Lib.hid hS
  have HNL := Lib.hid hnl
  have HNC := Lib.hid hC.len.1
  have HNO := Lib.hid (show ¬ (VP N ch S ∧ EX ch S lv sp ∧ (nl : Int) = N) → fiE N ch S lv sp nl = 2 from fun h => if_neg h)
  have HYES := Lib.hid (show (VP N ch S ∧ EX ch S lv sp ∧ (nl : Int) = N) → fiE N ch S lv sp nl = 0 from fun h => if_pos h)
  clear hC hL hS hnl a1 a2
  obtain ⟨q0, q1, q2, q3, q4, q5, q6⟩ := HBP.out.p7
  go_enter Tryz.func22, Tryz.ntmps22
  go_upto_region 1 with (fail)
  rw [← hW0]
  clear hW0
  go_wp2_with fail
  refine (fValid_any N p1 p2 xC nC cC S p5 p6 ch _ (HC.out.later HG.out) HS.out).mono ?_
  rintro e w1 ⟨rfl, hg1⟩
  replace HG := Lib.hid (HG.out.trans hg1)
  replace HBP := Lib.hid (HBP.out.gr hg1)
  replace HRB := Lib.hid (HRB.out.gr hg1)
  clear hg1 q0 q1 q2 q3 q4 q5 q6
  obtain ⟨q0, q1, q2, q3, q4, q5, q6⟩ := HBP.out.p7
  by_cases hv : VP N ch S
  · have HV := Lib.hid hv
    rw [decide_eq_true hv]
    clear hv
    go_wp2_with fail
    refine (fPlace_any N p1 p2 xC nC cC S p5 p6 lv sp ch HNC.out _).mono ?_
    rintro e w2 ⟨rfl, hg1⟩
    replace HG := Lib.hid (HG.out.trans hg1)
    replace HBP := Lib.hid (HBP.out.gr hg1)
    replace HRB := Lib.hid (HRB.out.gr hg1)
    clear hg1 q0 q1 q2 q3 q4 q5 q6
    obtain ⟨q0, q1, q2, q3, q4, q5, q6⟩ := HBP.out.p7
    by_cases he : EX ch S lv sp
    · have HE := Lib.hid he
      rw [decide_eq_true he]
      by_cases hN : (nl : Int) = N
      · subst hN
        obtain ⟨lv, rfl⟩ := Int.eq_ofNat_of_zero_le (show 0 ≤ lv by have := he.1; omega)
        have HE0 := Lib.hid (HYES.out ⟨HV.out, he, rfl⟩)
        have HL2 := Lib.hid (show lv ≤ ch.length by have := he.2.1; omega)
        have HL1 := Lib.hid (show 1 ≤ lv by have := he.1; omega)
        have hn32 : nl ≤ 32 := by obtain ⟨n0, h0, -, h32⟩ := vp_dim HV.out; omega
        have t1 : ((nl : Int) != (nl : Int)) = false := by simp
        clear he
        go_upto_region 4 with (fail)
        clear t1
        obtain ⟨W3, hW3⟩ : ∃ W3, W3 = w2.alloc (.cells #[.int .i64 lv, .bool sp, .slice none 0 0] 28) := ⟨_, rfl⟩
        obtain ⟨G, hG⟩ : ∃ G, G = w2.heap.size := ⟨_, rfl⟩
        have hg3 : Gr w2 W3 := by rw [hW3]; exact Gr.new _ _
        have HSG := Lib.hid (show w.heap.size + 2 ≤ G by rw [hG]; have := HRB.out.lt; omega)
        have HSZ3 := Lib.hid (show W3.heap.size = G + 1 by rw [hW3, hG]; simp)
        have HBO := Lib.hid (show Blk W3 G 28 #[.int .i64 lv, .bool sp, .slice none 0 0] by rw [hW3, hG]; exact Blk.new _ _ _)
        rw [← hW3, ← hG]
        replace HG := Lib.hid (HG.out.trans hg3)
        replace HBP := Lib.hid (HBP.out.gr hg3)
        replace HRB := Lib.hid (HRB.out.gr hg3)
        clear hg3 hW3 hG q0 q1 q2 q3 q4 q5 q6
        obtain ⟨q0, q1, q2, q3, q4, q5, q6⟩ := HBP.out.p7
        go_wp2_with fail
        refine (fModuli_any nl p1 p2 xC nC cC S p5 p6 lv sp ch _ HL2.out h3 (HC.out.later HG.out) HS.out).mono ?_
        rintro e w4 ⟨xm, nm, cm, rfl, hm, hmf, hg4⟩
        have HM := Lib.hid hm
        replace HG := Lib.hid (HG.out.trans hg4)
        replace HBP := Lib.hid (HBP.out.gr hg4)
        replace HRB := Lib.hid (HRB.out.gr hg4)
        replace HBO := Lib.hid (HBO.out.gr hg4)
        have HSZ4 := Lib.hid (show G + 1 ≤ w4.heap.size by have := HSZ3.out; have := hg4.size; omega)
        have HMP := Lib.hid (show ∀ p, (Value.slice xm nm cm).ownBlock = some p → p < w4.heap.size ∧ p ≠ G from fun p hp => by
          obtain ⟨q, rfl, rfl⟩ := own_some hp
          have h1 := hmf q rfl
          have h2 := HSZ3.out
          refine ⟨?_, by omega⟩
          by_cases h0 : 0 < (Oj.mods ch S lv sp).length
          · exact hm.lt h0 _ hp
          · exfalso
            have := Oj.mods_len (S := S) (sp := sp) HL2.out
            have := HL1.out
            omega)
        have HNM := Lib.hid hm.len.1
        have hnm : nm ≤ 1001 := by
          have h5 := Oj.mods_len (S := S) (sp := sp) HL2.out
          have := HNM.out
          have := HL2.out
          cases sp <;> simp at h5 <;> omega
        clear hm hmf hg4 q0 q1 q2 q3 q4 q5 q6
        obtain ⟨b, hb⟩ : ∃ b, b = w4.heap.size := ⟨_, rfl⟩
        have HLP := Lib.hid (show LP b G w w4 lv sp (fun _ m => resR nl m l) (Oj.mods ch S lv sp) 0 (.slice none 0 0) [] w4 from LP.start hb.symm HBO.out HG.out)
        have hGb : G + 1 ≤ b := by rw [hb]; exact HSZ4.out
        have hwG := HSG.out
        rw [← hb] at HMP
        clear hb
        go_wp2_with fail
        go_loopw [12, 13, 14] (fun i _ _ wr => ∃ (k : Nat) (x : Option Addr) (c : Nat) (ls : List (List Int)), i = .int .i64 k ∧ k ≤ nm ∧ LP b G w w4 lv sp (fun _ m => resR nl m l) (Oj.mods ch S lv sp) k (.slice x k c) ls wr) (fun i _ _ _ => nm - (intOf i).toNat)
        case atStart => exact ⟨0, none, 0, [], rfl, by omega, HLP.out⟩
        case round =>
          obtain ⟨k, vx, vc, ls, rfl, hk, hlp⟩ := hrel
          have HLK := Lib.hid hlp
          clear hlp
          by_cases hlt : k < nm
          · have i1 : (k : Int) < (nm : Int) := by omega
            have i0 : (0 : Int) ≤ (k : Int) := by omega
            have HKM := Lib.hid (show k < (Oj.mods ch S lv sp).length by rw [← HNM.out]; exact hlt)
            have hMk := mods_ok HV.out HE.out HKM.out
            obtain ⟨m, hme⟩ : ∃ m, m = Op.cf (Oj.mods ch S lv sp) k := ⟨_, rfl⟩
            rw [← hme] at hMk
            have HME := Lib.hid hme
            have HMK := Lib.hid hMk
            have m1 := hMk.1
            have m2 := hMk.2
            clear hme hMk
            obtain ⟨wo, rfl⟩ : ∃ wo : World, wo = wr := ⟨_, rfl⟩
            obtain ⟨gM, oM, rfl, hcM⟩ := (HLK.out.fx.hasP HM.out HMP.out).at_ (i := k) HKM.out
            rw [← HME.out] at hcM
            have HCM := Lib.hid hcM
            have HQP := Lib.hid (HLK.out.fx.blk HBP.out (by omega) (by omega))
            have HLO := Lib.hid (HL.out.later HLK.out.gr)
            clear hcM
            obtain ⟨q0, q1, q2, q3, q4, q5, q6⟩ := HQP.out.p7
            go_wp2_with fail
            clear q0 q1 q2 q3 q4 q5 q6
            go_loopw [13, 14] (fun r j wi => ∃ (t : Nat) (x' : Option Addr) (c' : Nat) (l' : List Int), j = .int .i64 t ∧ t ≤ nl ∧ r = .slice x' t c' ∧ RP wo (fun q => Op.cf l q % m) t (.slice x' t c') l' wi) (fun _ j _ => nl - (intOf j).toNat)
            case atStart => exact ⟨0, none, 0, [], rfl, by omega, rfl, RP.start _ _⟩
            case round =>
              obtain ⟨t, rx, rc, l', rfl, ht, rfl, hrp⟩ := hrel
              have HR := Lib.hid hrp
              obtain ⟨q0, q1, q2, q3, q4, q5, q6⟩ := (HQP.out.gr hrp.gr).p7
              have hcM := hrp.gr.keeps HCM.out
              clear hrp
              by_cases hjt : t < nl
              · have i2 : (t : Int) < (nl : Int) := by omega
                have i3 : (0 : Int) ≤ (t : Int) := by omega
                obtain ⟨gL, oL, rfl, hcx⟩ := HasQ_at HLO.out (i := t) (by rw [HNL.out]; exact hjt)
                have x01 := HL.out.1.at_ t
                obtain ⟨x, hxe⟩ : ∃ x, x = Op.cf l t := ⟨_, rfl⟩
                rw [← hxe] at hcx x01
                obtain ⟨z, hz⟩ : ∃ z, z = x % m := ⟨_, rfl⟩
                have z0 : 0 ≤ z := by rw [hz]; exact emod_lo _ m (by omega)
                have z1 : z < m := by rw [hz]; exact emod_hi _ m (by omega)
                have HZ := Lib.hid (show z = Op.cf l t % m by rw [hz, hxe])
                have HCALL := Lib.hid (show ∀ W, Calls Tryz.prog 62 #[.int .i64 x, .int .u32 m] W (fun e w' => e = .returned (.int .u64 z) ∧ W = w') from fun W => by rw [hz]; exact fResidue_any x m W HMK.out ⟨by omega, by omega⟩)
                have w9 : IntKind.u32.wrap z = z := IntWalk.u32_in _ (by omega)
                have HZU := Lib.hid (show 0 ≤ z ∧ z < 4294967296 by omega)
                have HPL := Lib.hid (show l'.length + [z].length ≤ 1000000 from by rw [HR.out.len]; simp; omega)
                have HSB := Lib.hid HR.out.gr.size
                have HLZ := Lib.hid (show (l' ++ [z]).length = t + 1 by rw [List.length_append, HR.out.len]; rfl)
                have HKEEP := Lib.hid (show ∀ wz, Gr wo wz → (wz.cell? ⟨gL, oL + t, none⟩ = some (.int .i64 x) ∧ wz.cell? ⟨gM, oM + k, none⟩ = some (.int .u32 m)) from fun wz g => ⟨g.keeps hcx, g.keeps HCM.out⟩)
                have hcx := HR.out.gr.keeps hcx
                clear hxe hz x01
                go_wp2_with fail
                go_region_held3 (fun wz => wz.cell? ⟨gL, oL + t, none⟩ = some (.int .i64 x) ∧ wz.cell? ⟨gM, oM + k, none⟩ = some (.int .u32 m)) ((refine HKEEP.out _ ?_; first | exact HG5.out | (repeat (first | exact HR.out.gr | refine Below.drew ?_ | refine Gr.alloc ?_ _))))
                  (first
                    | (go_at_call 62; refine (HCALL.out _).mono ?_; rintro e w' ⟨rfl, rfl⟩)
                    | (refine wp_app (.tmp 52) (.tmp 63) rfl rfl wo.heap.size (.slice rx t rc) l' rfl (HR.out.own.drew.alloc _) (.slice (some ⟨wr.heap.size, 0, none⟩) 1 1) [z] rfl (one_hasP' _ _ _ (by simp) HZU.out) HPL.out (Nat.le_trans HSB.out (by simp)) ?_; intro v' wA hown hgrow; obtain ⟨va5, vc5, hv5, -, -⟩ := hown.form; rw [HLZ.out] at hv5; subst hv5; have HO5 := Lib.hid hown; have HG5 := Lib.hid (show Gr wo wA from grown_own (Gr.alloc (Below.drew HR.out.gr) _) (HR.out.own.drew.alloc _) hgrow (Nat.le_refl _)); clear hown hgrow))
                clear w9
                go_wp2_with fail
                go_roundw
                case rel => exact ⟨t + 1, va5, vc5, l' ++ [z], by go_num, by omega, rfl, RP.snoc HO5.out HR.out.len HR.out.at_ HZ.out HG5.out⟩
                case measure => simp [intOf]; omega
              · obtain rfl : t = nl := by omega
                have i2 : ¬ (t : Int) < (t : Int) := by omega
                have HROW := Lib.hid HR.out.done
                have HPR := Lib.hid HR.out.own.hasP
                have HL6 := Lib.hid ((HLK.out.later HR.out.gr).later (Gr.new wr (.cells #[.slice rx t rc] 23)))
                have HAP := Lib.hid (show Ap b (.slice vx k vc) (.slice rx t rc) l' from ap_of_fresh HLK.out.own HLK.out.fx.1 (HR.out.own.fresh rfl))
                have HLEN := Lib.hid (show ls.length ≤ 1000000 by rw [HLK.out.len]; omega)
                have HBS := Lib.hid HL6.out.fx.1
                have HLL := Lib.hid (show (ls ++ [l']).length = k + 1 by rw [List.length_append, HLK.out.len]; rfl)
                obtain ⟨o0, o1, o2⟩ := (HLK.out.later HR.out.gr).out.p3
                go_wp2_with (at_builtin; refine wpList_appR rfl (.tmp 66) (.tmp 68) rfl rfl b (.slice vx k vc) ls rfl HL6.out.own (.slice rx t rc) l' wr.heap.size rfl (cell_new _ _ _) (HPR.out.later (Gr.new _ _)) HAP.out HLEN.out HBS.out ?_; intro v' wn hown hgrow; obtain ⟨va2, vc2, hv2, -, -⟩ := hown.form; rw [HLL.out] at hv2; subst hv2; have HMID := Lib.hid (HL6.out.mid (by omega) hgrow); have HAPP := Lib.hid (HL6.out.app (by omega) (by omega) hown hgrow (by rw [HROW.out, ← HME.out]; rfl)); obtain ⟨e0, e1, e2⟩ := HMID.out.p3; obtain ⟨f0, f1, f2⟩ := HMID.out.f3; clear hown hgrow)
                go_roundw
                case rel => exact ⟨k + 1, va2, vc2, ls ++ [l'], by go_num, by omega, HAPP.out⟩
                case measure => simp [intOf]; omega
          · obtain rfl : k = nm := by omega
            have i1 : ¬ (k : Int) < (k : Int) := by omega
            have HD := Lib.hid (HLK.out.done HNM.out)
            obtain ⟨o0, o1, o2⟩ := HLK.out.out.p3
            have HRR := Lib.hid (HLK.out.fx.blk HRB.out (by omega) (by omega))
            obtain ⟨r0, r1, r2⟩ := HRR.out.p3
            obtain ⟨f0, f1, f2⟩ := HRR.out.f3
            go_wp2_with fail
            have hr := ((HRR.out.set 0 (.int .i64 lv)).set 1 (.bool sp)).set 2 (.slice vx k vc)
            obtain ⟨e0, e1, e2⟩ := (show Blk _ _ _ #[.int .i64 lv, .bool sp, .slice vx k vc] from hr).p3
            refine bodyPost_ret (v := .tuple #[.agg #[.int .i64 lv, .bool sp, .slice vx k vc], .int .i64 0]) (by simp [results, Tryz.results22, go_sem, e0, e1, e2]) rfl ?_
            have h := put3b HLK.out.own.hasB HLK.out.gr (k := w.heap.size + 1) (by omega) (by omega) (.int .i64 lv) (.bool sp) (.slice vx k vc)
            rw [HD.out] at h
            exact ⟨lv, sp, _, _, by rw [HE0.out], .inl ⟨HE0.out, rfl, rfl, rfl⟩, h.1, h.2⟩
      · have HE0 := Lib.hid (HNO.out (fun h => hN h.2.2))
        have t1 : ((nl : Int) != N) = true := by simpa using hN
        clear hN he
        obtain ⟨r0, r1, r2⟩ := HRB.out.p3
        obtain ⟨f0, f1, f2⟩ := HRB.out.f3
        go_wp2_with fail
        have hr := ((HRB.out.set 0 (.int .i64 0)).set 1 (.bool false)).set 2 (.slice none 0 0)
        obtain ⟨e0, e1, e2⟩ := (show Blk _ _ _ #[.int .i64 0, .bool false, .slice none 0 0] from hr).p3
        refine bodyPost_ret (v := .tuple #[.agg #[.int .i64 0, .bool false, .slice none 0 0], .int .i64 2]) (by simp [results, Tryz.results22, go_sem, e0, e1, e2]) rfl ?_
        have h := put3b (HasB.nil _ _ _) HG.out (k := w.heap.size + 1) (b := w.heap.size + 1 + 1) (by omega) (by omega) (.int .i64 0) (.bool false) (.slice none 0 0)
        exact ⟨0, false, [], _, by rw [HE0.out], .inr ⟨HE0.out, rfl, rfl, rfl⟩, h.1, h.2⟩
    · have HE0 := Lib.hid (HNO.out (fun h => he h.2.1))
      rw [decide_eq_false he]
      clear he
      obtain ⟨r0, r1, r2⟩ := HRB.out.p3
      obtain ⟨f0, f1, f2⟩ := HRB.out.f3
      go_wp2_with fail
      have hr := ((HRB.out.set 0 (.int .i64 0)).set 1 (.bool false)).set 2 (.slice none 0 0)
      obtain ⟨e0, e1, e2⟩ := (show Blk _ _ _ #[.int .i64 0, .bool false, .slice none 0 0] from hr).p3
      refine bodyPost_ret (v := .tuple #[.agg #[.int .i64 0, .bool false, .slice none 0 0], .int .i64 2]) (by simp [results, Tryz.results22, go_sem, e0, e1, e2]) rfl ?_
      have h := put3b (HasB.nil _ _ _) HG.out (k := w.heap.size + 1) (b := w.heap.size + 1 + 1) (by omega) (by omega) (.int .i64 0) (.bool false) (.slice none 0 0)
      exact ⟨0, false, [], _, by rw [HE0.out], .inr ⟨HE0.out, rfl, rfl, rfl⟩, h.1, h.2⟩
  · have HE0 := Lib.hid (HNO.out (fun h => hv h.1))
    rw [decide_eq_false hv]
    clear hv
    obtain ⟨r0, r1, r2⟩ := HRB.out.p3
    obtain ⟨f0, f1, f2⟩ := HRB.out.f3
    go_wp2_with fail
    have hr := ((HRB.out.set 0 (.int .i64 0)).set 1 (.bool false)).set 2 (.slice none 0 0)
    obtain ⟨e0, e1, e2⟩ := (show Blk _ _ _ #[.int .i64 0, .bool false, .slice none 0 0] from hr).p3
    refine bodyPost_ret (v := .tuple #[.agg #[.int .i64 0, .bool false, .slice none 0 0], .int .i64 2]) (by simp [results, Tryz.results22, go_sem, e0, e1, e2]) rfl ?_
    have h := put3b (HasB.nil _ _ _) HG.out (k := w.heap.size + 1) (b := w.heap.size + 1 + 1) (by omega) (by omega) (.int .i64 0) (.bool false) (.slice none 0 0)
    exact ⟨0, false, [], _, by rw [HE0.out], .inr ⟨HE0.out, rfl, rfl, rfl⟩, h.1, h.2⟩
end Go.Proofs.YtlfiakpmnkhcdaaGreat.Mo
/- The reference of layer 9: two, Add, Sub. (made by mkkf.py) -/
namespace Go.Proofs.YtlfiakpmnkhcdaaGreat.Mo
open Go.RowKit Go.Shelf
set_option linter.unusedVariables false

theorem rwA_cong {M : List Int} {F F' : Nat → Int → List Int} (h : ∀ i, i < M.length → F i (Op.cf M i) = F' i (Op.cf M i)) : rwA M F = rwA M F' := by
  unfold rwA
  exact List.map_congr_left fun i hi => h i (List.mem_range.1 hi)
end Go.Proofs.YtlfiakpmnkhcdaaGreat.Mo
