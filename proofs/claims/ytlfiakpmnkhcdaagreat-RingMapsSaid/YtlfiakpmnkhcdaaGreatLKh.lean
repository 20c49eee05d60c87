import Derived.Test.YtlfiakpmnkhcdaaGreatLKf
import Derived.Test.YtlfiakpmnkhcdaaGreatLKb
/- The reference of layer 9: MulInt, Neg. (made by mkkg.py) -/
namespace Go.Proofs.YtlfiakpmnkhcdaaGreat.Mo.Lo
open Go.RowKit
theorem zeros_hasQ (W : World) (n : Nat) (g : Nat) (hg : g = W.heap.size) (hn : n ≤ 1000) : HasQ (W.alloc (.cells (zrow n) 2)) (.slice (some ⟨g, 0, none⟩) n n) (List.replicate n 0) := by
  subst hg
  have := (Row.zeros W n).hasQ (cap := n) (by simp) (by omega)
  simpa using this
end Go.Proofs.YtlfiakpmnkhcdaaGreat.Mo.Lo
namespace Go.Proofs.YtlfiakpmnkhcdaaGreat.Mo
open Go.RowKit Go.Shelf
set_option linter.unusedVariables false

theorem resE_zB {c lv : Int} {sp : Bool} {ls : List (List Int)} {w w' : World} {e : Ending} (h : ResE c lv sp ls w e w') (h0 : c = 0) : ∃ x n cx, e = .returned (.tuple #[.agg #[.int .i64 lv, .bool sp, .slice x n cx], .int .i64 0]) ∧ HasB w' w.heap.size w'.heap.size (.slice x n cx) ls ∧ Gr w w' := by
  subst h0
  obtain ⟨x, cx, rfl, h1, h2⟩ := resE_ok h
  exact ⟨x, _, cx, rfl, h1, h2⟩
/-- A box with an element, and a code. -/
def EBx (lv : Int) (sp : Bool) (ls : List (List Int)) (W : World) (p c : Value) (wx : World) : Prop := ∃ G x n cx, p = .pointer (some ⟨G, 0, none⟩) ∧ c = .int .i64 0 ∧ Blk wx G 28 #[.int .i64 lv, .bool sp, .slice x n cx] ∧ HasR wx (.slice x n cx) ls ∧ Gr W wx
/-- Zero, and a multiple of an element. -/
theorem zero_at (M : List Int) (nn : Nat) {i : Nat} (hi : i < M.length) (q : Nat) : Op.cf (rw_ (rwA M (fun _ m => resR nn m (List.replicate nn 0))) i) q = 0 := by
  rw [rwA_at _ _ hi]
  unfold resR
  by_cases hq : q < nn
  · rw [Oj.rowL_at _ _ hq, Oj.cf_rep', Int.zero_emod]
  · rw [Oj.rowL_out _ _ (by omega)]
theorem zero_ev {nn : Nat} {ch : List Int} {S : Int} {lv : Nat} {sp : Bool} {rA : List (List Int)} (hv : VP nn ch S) (hA : EV nn ch S lv sp rA) : EV nn ch S lv sp (rwA (Oj.mods ch S lv sp) (fun _ m => resR nn m (List.replicate nn 0))) :=
  ev_rwA hA fun i hi => by
    have hm := (mods_ok hv hA.1 (show i < (Oj.mods ch S lv sp).length from hi)).1
    refine rws_ok rfl ⟨Oj.rowL_len _ _, fun q hq => ?_⟩
    unfold resR
    rw [Oj.rowL_at _ _ hq, Oj.cf_rep', Int.zero_emod]
    exact ⟨Int.le_refl _, by have e : Oj.mods ch S (lv : Int).toNat sp = Oj.mods ch S lv sp := rfl; rw [e]; omega⟩
theorem mul_eq {nn : Nat} {ch : List Int} {S : Int} {lv : Nat} {sp : Bool} {rA : List (List Int)} (s : Int) (hA : EV nn ch S lv sp rA) : rwA (Oj.mods ch S lv sp) (fun i m => Oj.sumR (nn : Int).toNat m (rw_ (rwA (Oj.mods ch S lv sp) (fun _ m => resR nn m (List.replicate nn 0))) i) s (rw_ rA i)) = rwA (Oj.mods ch S lv sp) (fun i m => (fun m x => mulR x.length m s x) m (rw_ rA i)) :=
  rwA_cong fun i hi => by
    have h := (hA.2.2 i hi).1
    show Oj.rowL nn _ = Oj.rowL (rw_ rA i).length _
    rw [show (rw_ rA i).length = nn by omega]
    exact Oj.rowL_cong fun q _ => by rw [zero_at _ _ hi, Int.zero_add]

set_option maxRecDepth 100000 in
set_option maxHeartbeats 8000000 in
theorem fMulInt_any (N p1 p2 : Int) (xC : Option Addr) (nC cC : Nat) (S p5 p6 : Int) (lv : Int) (sp : Bool) (ch : List Int) (uA : Value) (rA : List (List Int)) (n : Int) (w : World) (hn : isW n) (h3 : ch.length ≤ 1000) (hC : HasP w (.slice xC nC cC) ch) (hS : 0 ≤ S ∧ S < 4294967296) (hA : HasR w uA rA) :
    Calls Tryz.prog 24 #[.agg #[.int .i64 N, .int .u32 p1, .int .i64 p2, .slice xC nC cC, .int .u32 S, .int .i64 p5, .int .u32 p6], .agg #[.int .i64 lv, .bool sp, uA], .int .i64 n] w (ResE (chkE N ch S lv sp rA) lv sp (rwA (Oj.mods ch S lv.toNat sp) (fun i m => (fun m x => mulR x.length m n x) m (rw_ rA i))) w) := by
  obtain ⟨xA, cA, rfl⟩ := hA.form
  generalize hnA : rA.length = nA at *
  obtain ⟨W0, hW0⟩ : ∃ W0, W0 = ((w.alloc (.cells #[.int .i64 N, .int .u32 p1, .int .i64 p2, .slice xC nC cC, .int .u32 S, .int .i64 p5, .int .u32 p6] 25)).alloc (.cells #[.int .i64 lv, .bool sp, .slice xA nA cA] 28)).alloc (.cells #[.int .i64 0, .bool false, .slice none 0 0] 28) := ⟨_, rfl⟩
  have HG := Lib.hid (show Gr w W0 by rw [hW0]; exact ((Gr.new w _).alloc _).alloc _)
  have HBP := Lib.hid (show Blk W0 w.heap.size 25 #[.int .i64 N, .int .u32 p1, .int .i64 p2, .slice xC nC cC, .int .u32 S, .int .i64 p5, .int .u32 p6] by rw [hW0]; exact (Blk.new w _ _).gr ((Gr.new _ _).alloc _))
  have HBA := Lib.hid (show Blk W0 (w.heap.size + 1) 28 #[.int .i64 lv, .bool sp, .slice xA nA cA] by rw [hW0]; exact (Blk.newk _ _ (by simp)).gr (Gr.new _ _))
  have HRB := Lib.hid (show Blk W0 (w.heap.size + 2) 28 #[.int .i64 0, .bool false, .slice none 0 0] by rw [hW0]; exact Blk.newk _ _ (by simp))
  have HSZ := Lib.hid (show W0.heap.size = w.heap.size + 3 by rw [hW0]; simp)
  have HA := Lib.hid hA
  have HC := Lib.hid hC
  have HS := Lib.hid hS
  have HN := Lib.hid hn
  have HNO := Lib.hid (show ¬ (VP N ch S ∧ EV N ch S lv sp rA) → chkE N ch S lv sp rA = 2 from fun h => if_neg h)
  have HYES := Lib.hid (show (VP N ch S ∧ EV N ch S lv sp rA) → chkE N ch S lv sp rA = 0 from fun h => if_pos h)
  clear hA hC hS hnA hn
  obtain ⟨q0, q1, q2, q3, q4, q5, q6⟩ := HBP.out.p7
  obtain ⟨a0, a1, a2⟩ := HBA.out.p3
  go_enter Tryz.func24, Tryz.ntmps24
  go_upto_region 1 with (fail)
  rw [← hW0]
  clear hW0
  go_wp2_with fail
  refine (fCheck_any N p1 p2 xC nC cC S p5 p6 lv sp ch _ rA _ h3 (HC.out.later HG.out) HS.out (HA.out.later HG.out)).mono ?_
  rintro e w1 ⟨rfl, hg1⟩
  replace HG := Lib.hid (HG.out.trans hg1)
  replace HBP := Lib.hid (HBP.out.gr hg1)
  replace HBA := Lib.hid (HBA.out.gr hg1)
  replace HRB := Lib.hid (HRB.out.gr hg1)
  have HSZ1 := Lib.hid (show w.heap.size + 3 ≤ w1.heap.size by have := HSZ.out; have := hg1.size; omega)
  clear hg1 q0 q1 q2 q3 q4 q5 q6 a0 a1 a2
  by_cases h1 : VP N ch S ∧ EV N ch S lv sp rA
  · have HE0 := Lib.hid (HYES.out h1)
    rw [show chkE N ch S lv sp rA = 0 from if_pos h1]
    obtain ⟨l, rfl⟩ := Int.eq_ofNat_of_zero_le (show 0 ≤ lv by have := h1.2.1.1; omega)
    have HV := Lib.hid h1.1
    have HEA := Lib.hid h1.2
    clear h1
    obtain ⟨nn, rfl, n4, n32⟩ := vp_dim HV.out
    have HNN := Lib.hid (show nn ≤ 1000 by omega)
    have HFI := Lib.hid (show fiE nn ch S l sp nn = 0 from if_pos ⟨HV.out, HEA.out.1, rfl⟩)
    have hmk := Lo.mk_row nn (nn : Int) rfl (by omega)
    obtain ⟨q0, q1, q2, q3, q4, q5, q6⟩ := HBP.out.p7
    obtain ⟨a0, a1, a2⟩ := HBA.out.p3
    have HC1 := Lib.hid (HC.out.later HG.out)
    have HCALL := Lib.hid (fun (V : World) (u : Value) (hC' : HasP V (.slice xC nC cC) ch) (hQ : Lo.HasQ V u (List.replicate nn 0)) => (show Calls Tryz.prog 22 #[.agg #[.int .i64 nn, .int .u32 p1, .int .i64 p2, .slice xC nC cC, .int .u32 S, .int .i64 p5, .int .u32 p6], .int .i64 l, .bool sp, u] V (ResE (fiE nn ch S l sp nn) l sp (rwA (Oj.mods ch S l sp) (fun _ m => resR nn m (List.replicate nn 0))) V) from by
      have h := fFromInts_any nn p1 p2 xC nC cC S p5 p6 l sp ch u (List.replicate nn 0) V h3 hC' HS.out hQ
      simp only [List.length_replicate] at h
      exact h))
    have HKEEP := Lib.hid (show ∀ wz, Gr w1 wz → (wz.cell? ⟨w.heap.size, 0, none⟩ = some (.int .i64 nn) ∧ wz.cell? ⟨w.heap.size, 1, none⟩ = some (.int .u32 p1) ∧ wz.cell? ⟨w.heap.size, 2, none⟩ = some (.int .i64 p2) ∧ wz.cell? ⟨w.heap.size, 3, none⟩ = some (.slice xC nC cC) ∧ wz.cell? ⟨w.heap.size, 4, none⟩ = some (.int .u32 S) ∧ wz.cell? ⟨w.heap.size, 5, none⟩ = some (.int .i64 p5) ∧ wz.cell? ⟨w.heap.size, 6, none⟩ = some (.int .u32 p6) ∧ wz.cell? ⟨w.heap.size + 1, 0, none⟩ = some (.int .i64 l) ∧ wz.cell? ⟨w.heap.size + 1, 1, none⟩ = some (.bool sp)) from fun wz g => ⟨g.keeps q0, g.keeps q1, g.keeps q2, g.keeps q3, g.keeps q4, g.keeps q5, g.keeps q6, g.keeps a0, g.keeps a1⟩)
    go_upto_region 3 with (fail)
    go_cut [8, 9] (fun p c wx => EBx l sp (rwA (Oj.mods ch S l sp) (fun _ m => resR nn m (List.replicate nn 0))) w1 p c wx)
    case first =>
      go_region_held3 (fun wz => wz.cell? ⟨w.heap.size, 0, none⟩ = some (.int .i64 nn) ∧ wz.cell? ⟨w.heap.size, 1, none⟩ = some (.int .u32 p1) ∧ wz.cell? ⟨w.heap.size, 2, none⟩ = some (.int .i64 p2) ∧ wz.cell? ⟨w.heap.size, 3, none⟩ = some (.slice xC nC cC) ∧ wz.cell? ⟨w.heap.size, 4, none⟩ = some (.int .u32 S) ∧ wz.cell? ⟨w.heap.size, 5, none⟩ = some (.int .i64 p5) ∧ wz.cell? ⟨w.heap.size, 6, none⟩ = some (.int .u32 p6) ∧ wz.cell? ⟨w.heap.size + 1, 0, none⟩ = some (.int .i64 l) ∧ wz.cell? ⟨w.heap.size + 1, 1, none⟩ = some (.bool sp)) ((refine HKEEP.out _ ?_; repeat (first | exact HG9.out | exact Gr.refl _ | refine Below.drew ?_ | refine Gr.setCell ?_ (by first | exact HG9.out.size | (simp; done) | (have := HG9.out.size; simp; omega)) _ | refine Gr.alloc ?_ _)))
        (first
          | (go_at_call 22; refine (HCALL.out ((w1.drew.alloc (.cells #[.int .i64 0, .bool false, .slice none 0 0] 28)).alloc (.cells (Lo.zrow nn) 2)) _ (HC1.out.later (Gr.alloc (Gr.alloc (Below.drew (Gr.refl w1)) (.cells #[.int .i64 0, .bool false, .slice none 0 0] 28)) (.cells (Lo.zrow nn) 2))) (Lo.zeros_hasQ (w1.drew.alloc (.cells #[.int .i64 0, .bool false, .slice none 0 0] 28)) nn _ (by simp) HNN.out)).mono ?_; intro e w10 hres; obtain ⟨x8, n8, c8, rfl, hb8, hg8⟩ := resE_zB hres HFI.out; have HZ8 := Lib.hid (Blk.gr (show Blk ((w1.drew.alloc (.cells #[.int .i64 0, .bool false, .slice none 0 0] 28)).alloc (.cells (Lo.zrow nn) 2)) w1.heap.size 28 #[.int .i64 0, .bool false, .slice none 0 0] from (Blk.new w1.drew 28 #[.int .i64 0, .bool false, .slice none 0 0]).gr (Gr.new _ _)) hg8); obtain ⟨e0, e1, e2⟩ := HZ8.out.p3; obtain ⟨f0, f1, f2⟩ := HZ8.out.f3; have HB8 := Lib.hid hb8; have HG9 := Lib.hid (show Gr w1 w10 from Gr.trans (Gr.alloc (Gr.alloc (Below.drew (Gr.refl w1)) (.cells #[.int .i64 0, .bool false, .slice none 0 0] 28)) (.cells (Lo.zrow nn) 2)) hg8); clear hres hb8 hg8)
          | (go_at_call 22; refine (HCALL.out ((w1.drew.alloc (.cells (Lo.zrow nn) 2)).alloc (.cells #[.int .i64 0, .bool false, .slice none 0 0] 28)) _ (HC1.out.later (Gr.alloc (Gr.alloc (Below.drew (Gr.refl w1)) (.cells (Lo.zrow nn) 2)) (.cells #[.int .i64 0, .bool false, .slice none 0 0] 28))) ((Lo.zeros_hasQ w1.drew nn _ rfl HNN.out).later (Gr.new _ _))).mono ?_; intro e w10 hres; obtain ⟨x8, n8, c8, rfl, hb8, hg8⟩ := resE_zB hres HFI.out; have HZ8 := Lib.hid (Blk.gr (show Blk ((w1.drew.alloc (.cells (Lo.zrow nn) 2)).alloc (.cells #[.int .i64 0, .bool false, .slice none 0 0] 28)) (w1.heap.size + 1) 28 #[.int .i64 0, .bool false, .slice none 0 0] from Blk.newk _ _ (by simp)) hg8); obtain ⟨e0, e1, e2⟩ := HZ8.out.p3; obtain ⟨f0, f1, f2⟩ := HZ8.out.f3; have HB8 := Lib.hid hb8; have HG9 := Lib.hid (show Gr w1 w10 from Gr.trans (Gr.alloc (Gr.alloc (Below.drew (Gr.refl w1)) (.cells (Lo.zrow nn) 2)) (.cells #[.int .i64 0, .bool false, .slice none 0 0] 28)) hg8); clear hres hb8 hg8)
          | (go_at_call 22; refine (HCALL.out (w1.drew.alloc (.cells (Lo.zrow nn) 2)) _ (HC1.out.later (Gr.alloc (Below.drew (Gr.refl w1)) (.cells (Lo.zrow nn) 2))) (Lo.zeros_hasQ w1.drew nn _ rfl HNN.out)).mono ?_; intro e w10 hres; obtain ⟨x8, n8, c8, rfl, hb8, hg8⟩ := resE_zB hres HFI.out; have HB8 := Lib.hid hb8; have HG9 := Lib.hid (show Gr w1 w10 from Gr.trans (Gr.alloc (Below.drew (Gr.refl w1)) (.cells (Lo.zrow nn) 2)) hg8); clear hres hb8 hg8))
      all_goals go_wp2_with fail
      all_goals go_meet
      · exact ⟨w10.heap.size, x8, n8, c8, rfl, rfl, Blk.new _ _ _, HB8.out.hasR.later (Gr.new _ _), HG9.out.trans (Gr.new _ _)⟩
      · have h := put3b (HB8.out.mono (lo' := w1.heap.size + 2) (by simp) (Nat.le_refl _)) HG9.out (k := w1.heap.size + 1) (by omega) (by omega) (.int .i64 l) (.bool sp) (.slice x8 n8 c8)
        exact ⟨w1.heap.size + 1, x8, n8, c8, rfl, rfl, ((HZ8.out.set 0 _).set 1 _).set 2 _, h.1.hasR, h.2⟩
      · have h := put3b (HB8.out.mono (lo' := w1.heap.size + 2) (by simp) (Nat.le_refl _)) HG9.out (k := w1.heap.size) (by omega) (by omega) (.int .i64 l) (.bool sp) (.slice x8 n8 c8)
        exact ⟨w1.heap.size, x8, n8, c8, rfl, rfl, ((HZ8.out.set 0 _).set 1 _).set 2 _, h.1.hasR, h.2⟩
    case rest =>
      obtain ⟨G8, x8, n8, c8, rfl, rfl, hb8, hr8, hg8⟩ := hcut
      replace HG := Lib.hid (HG.out.trans hg8)
      replace HBP := Lib.hid (HBP.out.gr hg8)
      replace HBA := Lib.hid (HBA.out.gr hg8)
      replace HRB := Lib.hid (HRB.out.gr hg8)
      have HSZ8 := Lib.hid (show w.heap.size + 3 ≤ wc.heap.size by have := HSZ1.out; have := hg8.size; omega)
      have HR8 := Lib.hid hr8
      have HE8 := Lib.hid hb8
      clear hmk HCALL HKEEP HC1 hb8 hr8 hg8 q0 q1 q2 q3 q4 q5 q6 a0 a1 a2
      obtain ⟨q0, q1, q2, q3, q4, q5, q6⟩ := HBP.out.p7
      obtain ⟨a0, a1, a2⟩ := HBA.out.p3
      obtain ⟨c0, c1, c2⟩ := HE8.out.p3
      go_wp2_with fail
      refine (fSum_any nn p1 p2 xC nC cC S p5 p6 l sp ch _ _ _ rA l sp n _ HN.out h3 (HC.out.later HG.out) HS.out HR8.out (HA.out.later HG.out) HV.out (zero_ev HV.out HEA.out) HEA.out.2).mono ?_
      rintro e w2 ⟨u, rfl, hb, hg2⟩
      rw [mul_eq n HEA.out] at hb
      obtain ⟨xu, cu, rfl⟩ := hb.form
      generalize hnu : (rwA (Oj.mods ch S l sp) (fun i m => (fun m x => mulR x.length m n x) m (rw_ rA i))).length = nu at *
      have HB2 := Lib.hid (hb.mono HSZ8.out (Nat.le_refl _))
      replace HG := Lib.hid (HG.out.trans hg2)
      replace HRB := Lib.hid (HRB.out.gr hg2)
      clear hb hg2 hnu q0 q1 q2 q3 q4 q5 q6 a0 a1 a2 c0 c1 c2
      obtain ⟨r0, r1, r2⟩ := HRB.out.p3
      obtain ⟨f0, f1, f2⟩ := HRB.out.f3
      go_wp2_with fail
      have hr := ((HRB.out.set 0 (.int .i64 l)).set 1 (.bool sp)).set 2 (.slice xu nu cu)
      obtain ⟨e0, e1, e2⟩ := (show Blk _ _ _ #[.int .i64 l, .bool sp, .slice xu nu cu] from hr).p3
      refine bodyPost_ret (v := .tuple #[.agg #[.int .i64 l, .bool sp, .slice xu nu cu], .int .i64 0]) (by simp only [Nat.add_assoc, Nat.reduceAdd]; simp [results, Tryz.results24, go_sem, e0, e1, e2]) rfl ?_
      have h := put3b HB2.out HG.out (k := w.heap.size + 2) (by omega) (by omega) (.int .i64 l) (.bool sp) (.slice xu nu cu)
      exact ⟨l, sp, _, _, by rw [HE0.out], .inl ⟨HE0.out, rfl, rfl, rfl⟩, h.1, h.2⟩
  · have HE0 := Lib.hid (HNO.out h1)
    rw [show chkE N ch S lv sp rA = 2 from if_neg h1]
    clear h1
    obtain ⟨r0, r1, r2⟩ := HRB.out.p3
    obtain ⟨f0, f1, f2⟩ := HRB.out.f3
    go_wp2_with fail
    have hr := ((HRB.out.set 0 (.int .i64 0)).set 1 (.bool false)).set 2 (.slice none 0 0)
    obtain ⟨e0, e1, e2⟩ := (show Blk _ _ _ #[.int .i64 0, .bool false, .slice none 0 0] from hr).p3
    refine bodyPost_ret (v := .tuple #[.agg #[.int .i64 0, .bool false, .slice none 0 0], .int .i64 2]) (by simp only [Nat.add_assoc, Nat.reduceAdd]; simp [results, Tryz.results24, go_sem, e0, e1, e2]) rfl ?_
    have h := put3b (HasB.nil _ _ _) HG.out (k := w.heap.size + 2) (b := w.heap.size + 2 + 1) (by omega) (by omega) (.int .i64 0) (.bool false) (.slice none 0 0)
    exact ⟨0, false, [], _, by rw [HE0.out], .inr ⟨HE0.out, rfl, rfl, rfl⟩, h.1, h.2⟩

set_option maxRecDepth 100000 in
set_option maxHeartbeats 4000000 in
theorem fNeg_any (N p1 p2 : Int) (xC : Option Addr) (nC cC : Nat) (S p5 p6 : Int) (lv : Int) (sp : Bool) (ch : List Int) (uA : Value) (rA : List (List Int)) (w : World) (h3 : ch.length ≤ 1000) (hC : HasP w (.slice xC nC cC) ch) (hS : 0 ≤ S ∧ S < 4294967296) (hA : HasR w uA rA) :
    Calls Tryz.prog 23 #[.agg #[.int .i64 N, .int .u32 p1, .int .i64 p2, .slice xC nC cC, .int .u32 S, .int .i64 p5, .int .u32 p6], .agg #[.int .i64 lv, .bool sp, uA]] w (ResE (chkE N ch S lv sp rA) lv sp (rwA (Oj.mods ch S lv.toNat sp) (fun i m => (fun m x => mulR x.length m (-1) x) m (rw_ rA i))) w) := by
  obtain ⟨xA, cA, rfl⟩ := hA.form
  generalize hnA : rA.length = nA at *
  obtain ⟨W0, hW0⟩ : ∃ W0, W0 = ((w.alloc (.cells #[.int .i64 N, .int .u32 p1, .int .i64 p2, .slice xC nC cC, .int .u32 S, .int .i64 p5, .int .u32 p6] 25)).alloc (.cells #[.int .i64 lv, .bool sp, .slice xA nA cA] 28)).alloc (.cells #[.int .i64 0, .bool false, .slice none 0 0] 28) := ⟨_, rfl⟩
  have HG0 := Lib.hid (show Gr w W0 by rw [hW0]; exact ((Gr.new w _).alloc _).alloc _)
  have HRB := Lib.hid (show Blk W0 (w.heap.size + 2) 28 #[.int .i64 0, .bool false, .slice none 0 0] by rw [hW0]; exact Blk.newk _ _ (by simp))
  have HCALL := Lib.hid (fMulInt_any N p1 p2 xC nC cC S p5 p6 lv sp ch _ rA (-1) W0 (by constructor <;> decide) h3 (hC.later HG0.out) hS (hA.later HG0.out))
  clear hA hC hnA hS h3
  go_enter Tryz.func23, Tryz.ntmps23
  go_wp2_with fail
  rw [← hW0]
  refine HCALL.out.mono ?_
  rintro e w1 ⟨lv', sp', ls', u, rfl, hc, hb, hg1⟩
  obtain ⟨xu, cu, rfl⟩ := hb.form
  have HP3 := Lib.hid (put3 hb HG0.out hg1 (k := w.heap.size + 2) (by omega) HRB.out.lt)
  have HC1 := Lib.hid hc
  have HBR1 := Lib.hid (HRB.out.gr hg1)
  obtain ⟨r0, r1, r2⟩ := HBR1.out.p3
  obtain ⟨f0, f1, f2⟩ := HBR1.out.f3
  generalize hlu : ls'.length = nu at *
  clear hb hg1 hc hW0
  go_wp2_with fail
  have hr := ((HBR1.out.set 0 (.int .i64 lv')).set 1 (.bool sp')).set 2 (.slice xu nu cu)
  obtain ⟨e0, e1, e2⟩ := (show Blk _ _ _ #[.int .i64 lv', .bool sp', .slice xu nu cu] from hr).p3
  refine bodyPost_ret (v := .tuple #[.agg #[.int .i64 lv', .bool sp', .slice xu nu cu], .int .i64 (chkE N ch S lv sp rA)]) (by simp only [Nat.add_assoc, Nat.reduceAdd]; simp [results, Tryz.results23, go_sem, e0, e1, e2]) rfl ?_
  subst hlu
  exact ⟨lv', sp', ls', _, rfl, HC1.out, (HP3.out _ _ _).1, (HP3.out _ _ _).2⟩
end Go.Proofs.YtlfiakpmnkhcdaaGreat.Mo
/- The law RingRestricts. -/
namespace Go.Proofs.YtlfiakpmnkhcdaaGreat.Mo
open Go.RowKit Go.Shelf
set_option linter.unusedVariables false

end Go.Proofs.YtlfiakpmnkhcdaaGreat.Mo
/- Automorphisms of elements, pure. -/
namespace Go.Proofs.YtlfiakpmnkhcdaaGreat.Mo
open Go.RowKit Go.Shelf
set_option linter.unusedVariables false

/-- Rows of numbers that are not negative. -/
def Nn (ls : List (List Int)) : Prop := ∀ i, i < ls.length → ∀ j, 0 ≤ Op.cf (rw_ ls i) j
theorem hasR_nn {W : World} {u : Value} {ls : List (List Int)} (h : HasR W u ls) : Nn ls := by
  intro i hi j
  obtain ⟨a, c, rfl⟩ := h.form
  obtain ⟨g, o, x, m, c, rfl, -, hm, hp⟩ := HasB.at_ h hi
  exact (hp.1.at_ j).1
/-- A row of a valid element: n residues. -/
theorem ev_rws {N : Int} {ch : List Int} {S : Int} {lv : Int} {sp : Bool} {rA : List (List Int)} (hv : VP N ch S) (h : EV N ch S lv sp rA) (hn : Nn rA) {i : Nat} (hi : i < (Oj.mods ch S lv.toNat sp).length) :
    ∃ n : Nat, N = n ∧ Oj.Dim n ∧ 3 ≤ Op.cf (Oj.mods ch S lv.toNat sp) i ∧ Oj.Rws n (Op.cf (Oj.mods ch S lv.toNat sp) i) (rw_ rA i) := by
  obtain ⟨n, rfl, h4, h32⟩ := vp_dim hv
  obtain ⟨l, hl0⟩ := Int.eq_ofNat_of_zero_le (show 0 ≤ lv by have := h.1.1; omega)
  subst hl0
  have hm := mods_ok hv h.1 hi
  have hr := h.2.2 i hi
  have hir : i < rA.length := by rw [h.2.1]; exact hi
  refine ⟨n, rfl, ?_, hm.1, ⟨by have := hr.1; omega, fun j hj => ⟨hn i hir j, of_decide_eq_true hr.2 j (by have := hr.1; omega)⟩⟩⟩
  have hd := hv.1
  unfold DimI at hd
  unfold Oj.Dim
  omega
theorem Nn.rwA {M : List Int} {F : Nat → Int → List Int} (h : ∀ i, i < M.length → ∀ j, 0 ≤ Op.cf (F i (Op.cf M i)) j) : Nn (rwA M F) := by
  intro i hi j
  rw [rwA_len] at hi
  rw [rwA_at _ _ hi]
  exact h i hi j
end Go.Proofs.YtlfiakpmnkhcdaaGreat.Mo
/- The reference of layer 9: Mul. (made by mkkh.py) -/
namespace Go.Proofs.YtlfiakpmnkhcdaaGreat.Mo
open Go.RowKit Go.Shelf
set_option linter.unusedVariables false
set_option linter.unusedSimpArgs false

theorem Fx.cell {b G : Nat} {W W' : World} (h : Fx b G W W') {g o : Nat} {v : Value} (hc : W.cell? ⟨g, o, none⟩ = some v) (hg : g < b ∧ g ≠ G) : W'.cell? ⟨g, o, none⟩ = some v := by
  rw [World.cell?_of_block (w := W) (h.2 g hg.1 hg.2)]; exact hc
end Go.Proofs.YtlfiakpmnkhcdaaGreat.Mo
