import Derived.Test.YtlfiakpmnkhcdaaGreatLKq
import Derived.Test.YtlfiakpmnkhcdaaGreatLKo
/- The law RingMaps. (made by mkmaps.py) -/
namespace Go.Proofs.YtlfiakpmnkhcdaaGreat.Mo
open Go.RowKit Go.Shelf
set_option linter.unusedVariables false
set_option linter.unusedSimpArgs false

theorem own_empty64 (w : World) (base : Nat) (hb : base ≤ w.heap.size) : Lo.Own1 (w.alloc (.cells #[] 2)) base (.slice (some ⟨w.heap.size, 0, none⟩) 0 0) [] :=
  ⟨Lo.I64.nil, rfl, .inr ⟨w.heap.size, 0, #[], rfl, hb, heap_alloc_new w _, Nat.le_refl _, by unfold maxLen; omega, rfl, rfl⟩⟩
theorem Ov.hasQ {lo hi : Nat} {W W' : World} (h : Ov lo hi W W') {v : Value} {l : List Int} (hb : Lo.HasQ W v l) (hk : 0 < l.length → ∀ p, v.ownBlock = some p → p < lo) : Lo.HasQ W' v l := by
  induction h with
  | refl => exact hb
  | gr _ hg ih => exact ih.later hg
  | @set W1 _ b o h1 h2 x ih =>
    obtain ⟨hd, a, cap, rfl, k1, k2, k3⟩ := ih
    refine ⟨hd, a, cap, rfl, k1, k2, fun i hi => ?_⟩
    obtain ⟨g, o', e, hc⟩ := k3 i hi
    subst e
    have hg := hk (by omega) g rfl
    exact ⟨g, o', rfl, by rw [World.cell?_setCell_far _ _ _ _ (show b ≠ g by omega)]; exact hc⟩
theorem hasQ_lt {W : World} {v : Value} {l : List Int} (h : Lo.HasQ W v l) : 0 < l.length → ∀ p, v.ownBlock = some p → p < W.heap.size := by
  obtain ⟨hd, a, cap, rfl, k1, k2, k3⟩ := h
  intro h0 p hp
  obtain ⟨g, o, rfl, hc⟩ := k3 0 h0
  cases hp
  exact World.block_lt_of_cell? W _ hc
theorem sm_rwA {M : List Int} {F : Nat → Int → List Int} (hM : M.length ≤ 1000) (h : ∀ i m, (F i m).length ≤ 1000) : Sm 1000 (rwA M F) := ⟨by rw [rwA_len]; exact hM, fun i hi => by rw [rwA_len] at hi; rw [rwA_at _ _ hi]; exact h _ _⟩
theorem mods_le {ch : List Int} {S : Int} {lv : Nat} {sp : Bool} (h : ch.length ≤ 100) : (Oj.mods ch S lv sp).length ≤ 1000 := by
  unfold Oj.mods
  rw [List.length_append, List.length_take]
  cases sp <;> simp <;> omega
theorem row_le {rA : List (List Int)} (h : Sm 100 rA) (i : Nat) : (rw_ rA i).length ≤ 1000 := by
  by_cases hi : i < rA.length
  · exact Nat.le_trans (h.2 i hi) (by omega)
  · rw [show rw_ rA i = [] by unfold rw_; rw [List.getD_eq_getElem?_getD, List.getElem?_eq_none (by omega)]; rfl]; simp
theorem sm_lsF {c : Int} {ls : List (List Int)} (h : Sm 1000 ls) : Sm 1000 (lsF c ls) := by
  unfold lsF
  split
  · exact h
  · exact ⟨by simp, fun i hi => absurd hi (by simp)⟩
/-- A box with an element whose rows lie from B on, and a code. -/
def FBox (c LV : Int) (SP : Bool) (ls : List (List Int)) (B : Nat) (W : World) (p q : Value) (wx : World) : Prop := ∃ G x n cx hi, p = .pointer (some ⟨G, 0, none⟩) ∧ q = .int .i64 c ∧ Blk wx G 28 #[.int .i64 LV, .bool SP, .slice x n cx] ∧ HasB wx B hi (.slice x n cx) ls ∧ B ≤ G ∧ Gr W wx

set_option maxRecDepth 100000 in
set_option maxHeartbeats 8000000 in
theorem maps9_all (N p1 p2 : Int) (uC : Value) (ch : List Int) (S p5 p6 lvA : Int) (spA : Bool) (uA : Value) (rA : List (List Int)) (lvB : Int) (spB : Bool) (uB : Value) (rB : List (List Int)) (n k lv : Int) (sp : Bool) (xL : Option Addr) (nL cL : Nat) (w : World) (hn : isW n) (hk : isW k) (hC : HasP w uC ch) (hS : 0 ≤ S ∧ S < 4294967296) (hA : HasR w uA rA) (hB : HasR w uB rB) (l : List Int) (hL : Lo.HasQ w (.slice xL nL cL) l) :
    Calls Tryz.prog 3 #[.agg (csC N p1 p2 uC S p5 p6 lvA spA uA lvB spB uB n k lv sp (.slice xL nL cL))] w (Truth w) := by
  obtain ⟨xC, cC, rfl⟩ := hC.form
  obtain ⟨xA, cA, rfl⟩ := hA.form
  obtain ⟨xB, cB, rfl⟩ := hB.form
  generalize hnA : rA.length = nA at *
  generalize hnB : rB.length = nB at *
  generalize hnC : ch.length = nC at *
  obtain ⟨W0, hW0⟩ : ∃ W0, W0 = w.alloc (.cells (csC N p1 p2 (.slice xC nC cC) S p5 p6 lvA spA (.slice xA nA cA) lvB spB (.slice xB nB cB) n k lv sp (.slice xL nL cL)) 31) := ⟨_, rfl⟩
  have HG := Lib.hid (show Gr w W0 by rw [hW0]; exact Gr.new w _)
  have HX := Lib.hid (show Blk W0 w.heap.size 31 (csC N p1 p2 (.slice xC nC cC) S p5 p6 lvA spA (.slice xA nA cA) lvB spB (.slice xB nB cB) n k lv sp (.slice xL nL cL)) by rw [hW0]; exact Blk.new w _ _)
  have HA := Lib.hid (hA.later HG.out)
  have HB := Lib.hid (hB.later HG.out)
  have HC := Lib.hid (hC.later HG.out)
  have HS := Lib.hid hS
  have HK := Lib.hid hk
  have HN := Lib.hid hn
  have HNC := Lib.hid hnC
  have HNA := Lib.hid hnA
  have HNB := Lib.hid hnB
  have HLG := Lib.hid (large_any N p1 p2 xC nC cC S p5 p6 lvA spA (.slice xA nA cA) rA lvB spB (.slice xB nB cB) rB n k lv sp xL nL cL W0 HA.out HB.out)
  clear hn hk hA hB hC hS hnA hnB hnC
  unfold csC at *
  have HL0 := Lib.hid hL
  clear hL
  go_enter Tryz.func3, Tryz.ntmps3
  go_upto_region 1 with (fail)
  rw [← hW0]
  clear hW0
  refine wp_region_lit ?_
  refine wpList_loadCase rfl (.tmp 1) rfl w.heap.size rfl _ HX.out rfl ?_
  go_wp2_with fail
  refine HLG.out.mono ?_
  rintro e w1 ⟨b, rfl, hb, hg⟩
  have HL := Lib.hid hb
  replace HG := Lib.hid (HG.out.trans hg)
  replace HX := Lib.hid (HX.out.gr hg)
  replace HA := Lib.hid (HA.out.later hg)
  replace HB := Lib.hid (HB.out.later hg)
  replace HC := Lib.hid (HC.out.later hg)
  clear hb hg HLG
  cases b with
  | true =>
    go_wp2_with fail
    refine (awake9_any _).mono ?_
    rintro e wz ⟨rfl, hg2⟩
    replace HG := Lib.hid (HG.out.trans hg2)
    clear hg2
    go_wp2_with fail
    go_ret
    exact ⟨rfl, HG.out⟩
  | false =>
    have h3 : ch.length ≤ 1000 := by have := (HL.out (by first | rfl | trivial)).2.2.1; have := HNC.out; omega
    have SA := Lib.hid (HL.out (by first | rfl | trivial)).1
    have SB := Lib.hid (HL.out (by first | rfl | trivial)).2.1
    have SL := Lib.hid (HL.out (by first | rfl | trivial)).2.2.2
    have CL := Lib.hid (show ch.length ≤ 100 by have := (HL.out (by first | rfl | trivial)).2.2.1; have := HNC.out; omega)
    have H3 := Lib.hid h3
    clear h3 HL
    obtain ⟨⟨q0, q1, q2, q3, q4, q5, q6⟩, ⟨k0, k1, k2, k3, k4, k5⟩, j0, j1, j2, j3, j4⟩ := HX.out.p18
    clear HB
    have HA := Lib.hid (show HasB w1 0 w1.heap.size (.slice xA nA cA) rA from HA.out)
    have HCL := Lib.hid (show 0 < ch.length → ∀ q, (Value.slice xC nC cC).ownBlock = some q → q < w1.heap.size from fun h0 => HC.out.lt h0)
    have HLQ := Lib.hid (HL0.out.later HG.out)
    have HLL := Lib.hid (hasQ_lt HLQ.out)
    have HLEN := Lib.hid (show ([] : List Int).length + l.length ≤ 1000000 by have h1 := HL0.out.len.1; have h2 := SL.out; simp; omega)
    have HNL := Lib.hid (show nL = l.length ∧ l.length ≤ 100 by have h1 := HL0.out.len.1; have h2 := SL.out; omega)
    have HC100 := Lib.hid (show ch.length ≤ 100 by have h := CL.out; exact h)
    have HI1 := Lib.hid (show w.heap.size ≤ w1.heap.size ∧ w.heap.size < w1.heap.size from ⟨HG.out.size, HX.out.lt⟩)
    clear HL0
    go_wp2_with fail
    refine (lentN (lv := lvA) (sp := spA) HA.out.hasR SA.out.2 HNA.out).mono ?_
    rintro e v3 ⟨x3, c3, rfl, hr3, hs3, hg0⟩
    have hgn := Gr.new v3 (.cells #[.int .i64 lvA, .bool spA, .slice x3 nA c3] 28)
    have hgg := Gr.trans hg0 hgn
    clear q0 q1 q2 q3 q4 q5 q6 k0 k1 k2 k3 k4 k5 j0 j1 j2 j3 j4
    replace HG := Lib.hid (HG.out.trans hgg)
    replace HX := Lib.hid (HX.out.gr hgg)
    replace HA := Lib.hid (HA.out.later hgg)
    replace HC := Lib.hid (HC.out.later hgg)
    replace HLQ := Lib.hid (HLQ.out.later hgg)
    have HE3 := Lib.hid (Blk.new v3 28 #[.int .i64 lvA, .bool spA, .slice x3 nA c3])
    have HR3 := Lib.hid (hr3.later hgn)
    have HSu := Lib.hid (hs3.gr hgn)
    have HBD := Lib.hid (Gr.size hgn)
    have HI3 := Lib.hid hg0.size
    clear hr3 hs3 hg0 hgn hgg
    obtain ⟨zcF, hcF⟩ : ∃ z, z = (fiE N ch S lv sp l.length) := ⟨_, rfl⟩
    obtain ⟨LF, hLF⟩ : ∃ z, z = lvF (fiE N ch S lv sp l.length) lv := ⟨_, rfl⟩
    obtain ⟨SF, hSF⟩ : ∃ z, z = spF (fiE N ch S lv sp l.length) sp := ⟨_, rfl⟩
    obtain ⟨zcC, hcC⟩ : ∃ z, z = (chkE N ch S lvA spA rA) := ⟨_, rfl⟩
    obtain ⟨LC, hLC⟩ : ∃ z, z = lvF (chkE N ch S lvA spA rA) lvA := ⟨_, rfl⟩
    obtain ⟨SC, hSC⟩ : ∃ z, z = spF (chkE N ch S lvA spA rA) spA := ⟨_, rfl⟩
    obtain ⟨zcU, hcU⟩ : ∃ z, z = (auE N ch S lvA spA rA k) := ⟨_, rfl⟩
    obtain ⟨LU, hLU⟩ : ∃ z, z = lvF (auE N ch S lvA spA rA k) lvA := ⟨_, rfl⟩
    obtain ⟨SU, hSU⟩ : ∃ z, z = spF (auE N ch S lvA spA rA k) spA := ⟨_, rfl⟩
    obtain ⟨zcR, hcR⟩ : ∃ z, z = (rsE N ch S lvA spA rA lv sp) := ⟨_, rfl⟩
    obtain ⟨LR, hLR⟩ : ∃ z, z = lvF (rsE N ch S lvA spA rA lv sp) lv := ⟨_, rfl⟩
    obtain ⟨SR, hSR⟩ : ∃ z, z = spF (rsE N ch S lvA spA rA lv sp) sp := ⟨_, rfl⟩
    obtain ⟨QF, hQF⟩ : ∃ z, z = lsF (fiE N ch S lv sp l.length) (rwA (Oj.mods ch S lv.toNat sp) (fun _ m => resR l.length m l)) := ⟨_, rfl⟩
    have SMQF := Lib.hid (show Sm 1000 QF by rw [hQF]; exact sm_lsF (sm_rwA (mods_le HC100.out) (fun i m => by show (Oj.rowL _ _).length ≤ 1000; rw [Oj.rowL_len]; have := HNL.out.2; omega)))
    obtain ⟨QN, hQN⟩ : ∃ z, z = lsF (chkE N ch S lvA spA rA) (rwA (Oj.mods ch S lvA.toNat spA) (fun i m => (fun m x => mulR x.length m (-1) x) m (rw_ rA i))) := ⟨_, rfl⟩
    have SMQN := Lib.hid (show Sm 1000 QN by rw [hQN]; exact sm_lsF (sm_rwA (mods_le HC100.out) (fun i m => by show (mulR _ _ _ _).length ≤ 1000; rw [mulR_len]; exact row_le SA.out.2 i)))
    obtain ⟨QM, hQM⟩ : ∃ z, z = lsF (chkE N ch S lvA spA rA) (rwA (Oj.mods ch S lvA.toNat spA) (fun i m => (fun m x => mulR x.length m n x) m (rw_ rA i))) := ⟨_, rfl⟩
    have SMQM := Lib.hid (show Sm 1000 QM by rw [hQM]; exact sm_lsF (sm_rwA (mods_le HC100.out) (fun i m => by show (mulR _ _ _ _).length ≤ 1000; rw [mulR_len]; exact row_le SA.out.2 i)))
    obtain ⟨QU, hQU⟩ : ∃ z, z = lsF (auE N ch S lvA spA rA k) (rwA (Oj.mods ch S lvA.toNat spA) (fun i m => (fun m x => Oj.autoR x.length m k.toNat x) m (rw_ rA i))) := ⟨_, rfl⟩
    have SMQU := Lib.hid (show Sm 1000 QU by rw [hQU]; exact sm_lsF (sm_rwA (mods_le HC100.out) (fun i m => by show (Oj.autoR _ _ _ _).length ≤ 1000; rw [Oj.autoR_len]; exact row_le SA.out.2 i)))
    obtain ⟨QR, hQR⟩ : ∃ z, z = lsF (rsE N ch S lvA spA rA lv sp) (rwA (Oj.mods ch S lv.toNat sp) (fun i _ => rw_ rA (if i = lv.toNat then lvA.toNat else i))) := ⟨_, rfl⟩
    have SMQR := Lib.hid (show Sm 1000 QR by rw [hQR]; exact sm_lsF (sm_rwA (mods_le HC100.out) (fun i m => row_le SA.out.2 _)))
    have HOP5 := Lib.hid (show ∀ (V : World) (u : Value), HasP V (.slice xC nC cC) ch → Lo.HasQ V u l → V.heap.size ≤ V.heap.size → Calls Tryz.prog 15 #[.agg #[.int .i64 N, .int .u32 p1, .int .i64 p2, .slice xC nC cC, .int .u32 S, .int .i64 p5, .int .u32 p6], .int .i64 lv, .bool sp, u] V (PairP zcF LF SF QF V.heap.size V) from fun V u h1 h2 h4 => opP (rFromInts_any N p1 p2 xC nC cC S p5 p6 lv sp ch u l V H3.out h1 HS.out h2) hcF hLF hSF hQF h4)
    have HOP7 := Lib.hid (show ∀ (V : World) (u : Value), HasP V (.slice xC nC cC) ch → HasR V u rA → v3.heap.size ≤ V.heap.size → Calls Tryz.prog 16 #[.agg #[.int .i64 N, .int .u32 p1, .int .i64 p2, .slice xC nC cC, .int .u32 S, .int .i64 p5, .int .u32 p6], .agg #[.int .i64 lvA, .bool spA, u]] V (PairP zcC LC SC QN v3.heap.size V) from fun V u h1 h2 h4 => opP (rNeg_any N p1 p2 xC nC cC S p5 p6 lvA spA ch u rA V H3.out h1 HS.out h2) hcC hLC hSC hQN h4)
    have HOP9 := Lib.hid (show ∀ (V : World) (u : Value), HasP V (.slice xC nC cC) ch → HasR V u rA → v3.heap.size ≤ V.heap.size → Calls Tryz.prog 17 #[.agg #[.int .i64 N, .int .u32 p1, .int .i64 p2, .slice xC nC cC, .int .u32 S, .int .i64 p5, .int .u32 p6], .agg #[.int .i64 lvA, .bool spA, u], .int .i64 n] V (PairP zcC LC SC QM v3.heap.size V) from fun V u h1 h2 h4 => opP (rMulInt_any N p1 p2 xC nC cC S p5 p6 lvA spA ch u rA n V HN.out H3.out h1 HS.out h2) hcC hLC hSC hQM h4)
    have HOP11 := Lib.hid (show ∀ (V : World) (u : Value), HasP V (.slice xC nC cC) ch → HasR V u rA → v3.heap.size ≤ V.heap.size → Calls Tryz.prog 18 #[.agg #[.int .i64 N, .int .u32 p1, .int .i64 p2, .slice xC nC cC, .int .u32 S, .int .i64 p5, .int .u32 p6], .agg #[.int .i64 lvA, .bool spA, u], .int .i64 k] V (PairP zcU LU SU QU v3.heap.size V) from fun V u h1 h2 h4 => opP (rAuto_any N p1 p2 xC nC cC S p5 p6 lvA spA ch u rA k V HK.out H3.out h1 HS.out h2) hcU hLU hSU hQU h4)
    have HOP13 := Lib.hid (show ∀ (V : World) (u : Value), HasP V (.slice xC nC cC) ch → HasR V u rA → v3.heap.size ≤ V.heap.size → Calls Tryz.prog 19 #[.agg #[.int .i64 N, .int .u32 p1, .int .i64 p2, .slice xC nC cC, .int .u32 S, .int .i64 p5, .int .u32 p6], .agg #[.int .i64 lvA, .bool spA, u], .int .i64 lv, .bool sp] V (PairP zcR LR SR QR v3.heap.size V) from fun V u h1 h2 h4 => opP (rRestrict_any N p1 p2 xC nC cC S p5 p6 lvA spA ch u rA lv sp V H3.out h1 HS.out h2) hcR hLR hSR hQR h4)
    have HOP15 := Lib.hid (show ∀ (V : World) (u : Value), HasP V (.slice xC nC cC) ch → Lo.HasQ V u l → v3.heap.size ≤ V.heap.size → Calls Tryz.prog 22 #[.agg #[.int .i64 N, .int .u32 p1, .int .i64 p2, .slice xC nC cC, .int .u32 S, .int .i64 p5, .int .u32 p6], .int .i64 lv, .bool sp, u] V (PairP zcF LF SF QF v3.heap.size V) from fun V u h1 h2 h4 => opP (fFromInts_any N p1 p2 xC nC cC S p5 p6 lv sp ch u l V H3.out h1 HS.out h2) hcF hLF hSF hQF h4)
    have HOP17 := Lib.hid (show ∀ (V : World) (u : Value), HasP V (.slice xC nC cC) ch → HasR V u rA → v3.heap.size ≤ V.heap.size → Calls Tryz.prog 23 #[.agg #[.int .i64 N, .int .u32 p1, .int .i64 p2, .slice xC nC cC, .int .u32 S, .int .i64 p5, .int .u32 p6], .agg #[.int .i64 lvA, .bool spA, u]] V (PairP zcC LC SC QN v3.heap.size V) from fun V u h1 h2 h4 => opP (fNeg_any N p1 p2 xC nC cC S p5 p6 lvA spA ch u rA V H3.out h1 HS.out h2) hcC hLC hSC hQN h4)
    have HOP19 := Lib.hid (show ∀ (V : World) (u : Value), HasP V (.slice xC nC cC) ch → HasR V u rA → v3.heap.size ≤ V.heap.size → Calls Tryz.prog 24 #[.agg #[.int .i64 N, .int .u32 p1, .int .i64 p2, .slice xC nC cC, .int .u32 S, .int .i64 p5, .int .u32 p6], .agg #[.int .i64 lvA, .bool spA, u], .int .i64 n] V (PairP zcC LC SC QM v3.heap.size V) from fun V u h1 h2 h4 => opP (fMulInt_any N p1 p2 xC nC cC S p5 p6 lvA spA ch u rA n V HN.out H3.out h1 HS.out h2) hcC hLC hSC hQM h4)
    have HOP21 := Lib.hid (show ∀ (V : World) (u : Value), HasP V (.slice xC nC cC) ch → HasR V u rA → v3.heap.size ≤ V.heap.size → Calls Tryz.prog 25 #[.agg #[.int .i64 N, .int .u32 p1, .int .i64 p2, .slice xC nC cC, .int .u32 S, .int .i64 p5, .int .u32 p6], .agg #[.int .i64 lvA, .bool spA, u], .int .i64 k] V (PairP zcU LU SU QU v3.heap.size V) from fun V u h1 h2 h4 => opP (fAuto_any N p1 p2 xC nC cC S p5 p6 lvA spA ch u rA k V HK.out H3.out h1 HS.out h2) hcU hLU hSU hQU h4)
    have HOP23 := Lib.hid (show ∀ (V : World) (u : Value), HasP V (.slice xC nC cC) ch → HasR V u rA → v3.heap.size ≤ V.heap.size → Calls Tryz.prog 26 #[.agg #[.int .i64 N, .int .u32 p1, .int .i64 p2, .slice xC nC cC, .int .u32 S, .int .i64 p5, .int .u32 p6], .agg #[.int .i64 lvA, .bool spA, u], .int .i64 lv, .bool sp] V (PairP zcR LR SR QR v3.heap.size V) from fun V u h1 h2 h4 => opP (fRestrict_any N p1 p2 xC nC cC S p5 p6 lvA spA ch u rA lv sp V H3.out h1 HS.out h2) hcR hLR hSR hQR h4)
    have HOP4 := Lib.hid (show ∀ (V : World) (u : Value), HasP V (.slice xC nC cC) ch → HasR V u rA → Calls Tryz.prog 14 #[.agg #[.int .i64 N, .int .u32 p1, .int .i64 p2, .slice xC nC cC, .int .u32 S, .int .i64 p5, .int .u32 p6], .agg #[.int .i64 lvA, .bool spA, u]] V (fun e w' => e = .returned (.int .i64 zcC) ∧ Gr V w') from fun V u h1 h2 => by rw [hcC]; exact pCheck_any N p1 p2 xC nC cC S p5 p6 lvA spA ch u rA V H3.out h1 HS.out h2)
    have HOP25 := Lib.hid (show ∀ (V : World) (u : Value), HasP V (.slice xC nC cC) ch → HasR V u rA → Calls Tryz.prog 27 #[.agg #[.int .i64 N, .int .u32 p1, .int .i64 p2, .slice xC nC cC, .int .u32 S, .int .i64 p5, .int .u32 p6], .agg #[.int .i64 lvA, .bool spA, u]] V (fun e w' => e = .returned (.int .i64 zcC) ∧ Gr V w') from fun V u h1 h2 => by rw [hcC]; exact fCheck_any N p1 p2 xC nC cC S p5 p6 lvA spA ch u rA V H3.out h1 HS.out h2)
    clear hcF hLF hSF hcC hLC hSC hcU hLU hSU hcR hLR hSR hQF hQN hQM hQU hQR
    obtain ⟨⟨q0, q1, q2, q3, q4, q5, q6⟩, ⟨k0, k1, k2, k3, k4, k5⟩, j0, j1, j2, j3, j4⟩ := HX.out.p18
    obtain ⟨a3, b3, d3⟩ := HE3.out.p3
    as_aux_lemma =>
      go_wp2_with fail
      refine (HOP4.out _ (.slice x3 nA c3) HC.out HR3.out.hasR).mono ?_
      rintro e v4 ⟨rfl, hg0⟩
      clear q0 q1 q2 q3 q4 q5 q6 k0 k1 k2 k3 k4 k5 j0 j1 j2 j3 j4 a3 b3 d3
      replace HG := Lib.hid (HG.out.trans hg0)
      replace HX := Lib.hid (HX.out.gr hg0)
      replace HE3 := Lib.hid (HE3.out.gr hg0)
      replace HA := Lib.hid (HA.out.later hg0)
      replace HC := Lib.hid (HC.out.later hg0)
      replace HLQ := Lib.hid (HLQ.out.later hg0)
      replace HR3 := Lib.hid (HR3.out.later hg0)
      replace HSu := Lib.hid (HSu.out.later hg0)
      replace HBD := Lib.hid (Nat.le_trans HBD.out (Gr.size hg0))
      clear hg0
      obtain ⟨⟨q0, q1, q2, q3, q4, q5, q6⟩, ⟨k0, k1, k2, k3, k4, k5⟩, j0, j1, j2, j3, j4⟩ := HX.out.p18
      obtain ⟨a3, b3, d3⟩ := HE3.out.p3
      have HB4 := Lib.hid HBD.out
      clear HOP4
      go_upto_region 5 with (fail)
      go_cut [5, 6] (fun p c wx => FBox zcF LF SF QF v3.heap.size v4 p c wx)
      case first =>
        as_aux_lemma =>
          have HKEEP := Lib.hid (show ∀ wz, Gr v4 wz → (wz.cell? ⟨w.heap.size, 0, none⟩ = some (.int .i64 N) ∧ wz.cell? ⟨w.heap.size, 1, none⟩ = some (.int .u32 p1) ∧ wz.cell? ⟨w.heap.size, 2, none⟩ = some (.int .i64 p2) ∧ wz.cell? ⟨w.heap.size, 3, none⟩ = some (.slice xC nC cC) ∧ wz.cell? ⟨w.heap.size, 4, none⟩ = some (.int .u32 S) ∧ wz.cell? ⟨w.heap.size, 5, none⟩ = some (.int .i64 p5) ∧ wz.cell? ⟨w.heap.size, 6, none⟩ = some (.int .u32 p6) ∧ wz.cell? ⟨w.heap.size, 15, none⟩ = some (.int .i64 lv) ∧ wz.cell? ⟨w.heap.size, 16, none⟩ = some (.bool sp) ∧ wz.cell? ⟨w.heap.size, 17, none⟩ = some (.slice xL nL cL)) from fun wz g => ⟨g.keeps q0, g.keeps q1, g.keeps q2, g.keeps q3, g.keeps q4, g.keeps q5, g.keeps q6, g.keeps j2, g.keeps j3, g.keeps j4⟩)
          clear q0 q1 q2 q3 q4 q5 q6 k0 k1 k2 k3 k4 k5 j0 j1 j2 j3 j4 a3 b3 d3
          refine wp_region_held_drew (S := fun wz => wz.cell? ⟨w.heap.size, 0, none⟩ = some (.int .i64 N) ∧ wz.cell? ⟨w.heap.size, 1, none⟩ = some (.int .u32 p1) ∧ wz.cell? ⟨w.heap.size, 2, none⟩ = some (.int .i64 p2) ∧ wz.cell? ⟨w.heap.size, 3, none⟩ = some (.slice xC nC cC) ∧ wz.cell? ⟨w.heap.size, 4, none⟩ = some (.int .u32 S) ∧ wz.cell? ⟨w.heap.size, 5, none⟩ = some (.int .i64 p5) ∧ wz.cell? ⟨w.heap.size, 6, none⟩ = some (.int .u32 p6) ∧ wz.cell? ⟨w.heap.size, 15, none⟩ = some (.int .i64 lv) ∧ wz.cell? ⟨w.heap.size, 16, none⟩ = some (.bool sp) ∧ wz.cell? ⟨w.heap.size, 17, none⟩ = some (.slice xL nL cL)) (by kernel_rfl) (HKEEP.out _ (Below.drew (Gr.refl v4))) (fun hHeld => ?_)
          show wpAnyH _ _ _ _ _ 17 #[false, false, false, false, false, false, false, false, false, false, false, false, false, false, false, false, false] _ _
          obtain ⟨V0, hV0⟩ : ∃ V : World, V = v4.drew := ⟨_, rfl⟩
          rw [← hV0] at hHeld ⊢
          have HG9 := Lib.hid (show Gr v4 V0 by rw [hV0]; exact Below.drew (Gr.refl v4))
          have HN0 := Lib.hid HG9.out.size
          clear hV0
          refine wpAnyH_take (i := 0) (oi := { dst := some 36, op := Op.fieldAddr 31 (Operand.tmp 1) 0, type := 0, pos := "law.go:74", after := #[], guard := none }) (v := ?_) rfl (by kernel_rfl) (by kernel_rfl) (by kernel_rfl) (fun _ _ _ h => h) (_root_.Or.inl ⟨by rfl, ?_⟩) (by assumption) ?_
          rotate_left
          · intro w0 hSw; (try dsimp only at hSw); go_simp; try with_reducible rfl
          (try simp only [Act.put, List.setIfInBounds_toArray, List.set_cons_zero, List.set_cons_succ])
          refine wpAnyH_take (i := 1) (oi := { dst := some 37, op := Op.load 25 (Operand.tmp 36), type := 25, pos := "law.go:74", after := #[{ on := 0, ground := Ground.data }], guard := none }) (v := ?_) rfl (by kernel_rfl) (by kernel_rfl) (by kernel_rfl) (fun _ _ _ h => h) (_root_.Or.inl ⟨by rfl, ?_⟩) (by assumption) ?_
          rotate_left
          · intro w0 hSw; (try dsimp only at hSw); go_simp; try with_reducible rfl
          (try simp only [Act.put, List.setIfInBounds_toArray, List.set_cons_zero, List.set_cons_succ])
          refine wpAnyH_take (i := 2) (oi := { dst := some 38, op := Op.fieldAddr 31 (Operand.tmp 1) 5, type := 0, pos := "law.go:74", after := #[], guard := none }) (v := ?_) rfl (by kernel_rfl) (by kernel_rfl) (by kernel_rfl) (fun _ _ _ h => h) (_root_.Or.inl ⟨by rfl, ?_⟩) (by assumption) ?_
          rotate_left
          · intro w0 hSw; (try dsimp only at hSw); go_simp; try with_reducible rfl
          (try simp only [Act.put, List.setIfInBounds_toArray, List.set_cons_zero, List.set_cons_succ])
          refine wpAnyH_take (i := 3) (oi := { dst := some 39, op := Op.load 3 (Operand.tmp 38), type := 3, pos := "law.go:74", after := #[{ on := 2, ground := Ground.data }], guard := none }) (v := ?_) rfl (by kernel_rfl) (by kernel_rfl) (by kernel_rfl) (fun _ _ _ h => h) (_root_.Or.inl ⟨by rfl, ?_⟩) (by assumption) ?_
          rotate_left
          · intro w0 hSw; (try dsimp only at hSw); go_simp; try with_reducible rfl
          (try simp only [Act.put, List.setIfInBounds_toArray, List.set_cons_zero, List.set_cons_succ])
          refine wpAnyH_take (i := 4) (oi := { dst := some 40, op := Op.fieldAddr 31 (Operand.tmp 1) 6, type := 0, pos := "law.go:74", after := #[], guard := none }) (v := ?_) rfl (by kernel_rfl) (by kernel_rfl) (by kernel_rfl) (fun _ _ _ h => h) (_root_.Or.inl ⟨by rfl, ?_⟩) (by assumption) ?_
          rotate_left
          · intro w0 hSw; (try dsimp only at hSw); go_simp; try with_reducible rfl
          (try simp only [Act.put, List.setIfInBounds_toArray, List.set_cons_zero, List.set_cons_succ])
          refine wpAnyH_take (i := 5) (oi := { dst := some 41, op := Op.load 4 (Operand.tmp 40), type := 4, pos := "law.go:74", after := #[{ on := 4, ground := Ground.data }], guard := none }) (v := ?_) rfl (by kernel_rfl) (by kernel_rfl) (by kernel_rfl) (fun _ _ _ h => h) (_root_.Or.inl ⟨by rfl, ?_⟩) (by assumption) ?_
          rotate_left
          · intro w0 hSw; (try dsimp only at hSw); go_simp; try with_reducible rfl
          (try simp only [Act.put, List.setIfInBounds_toArray, List.set_cons_zero, List.set_cons_succ])
          refine wpAnyH_take (i := 7) (oi := { dst := some 43, op := Op.fieldAddr 31 (Operand.tmp 1) 7, type := 0, pos := "law.go:74", after := #[], guard := none }) (v := ?_) rfl (by kernel_rfl) (by kernel_rfl) (by kernel_rfl) (fun _ _ _ h => h) (_root_.Or.inl ⟨by rfl, ?_⟩) (by assumption) ?_
          rotate_left
          · intro w0 hSw; (try dsimp only at hSw); go_simp; try with_reducible rfl
          (try simp only [Act.put, List.setIfInBounds_toArray, List.set_cons_zero, List.set_cons_succ])
          refine wpAnyH_take (i := 8) (oi := { dst := some 44, op := Op.load 29 (Operand.tmp 43), type := 29, pos := "law.go:74", after := #[{ on := 7, ground := Ground.data }], guard := none }) (v := ?_) rfl (by kernel_rfl) (by kernel_rfl) (by kernel_rfl) (fun _ _ _ h => h) (_root_.Or.inl ⟨by rfl, ?_⟩) (by assumption) ?_
          rotate_left
          · intro w0 hSw; (try dsimp only at hSw); go_simp; try with_reducible rfl
          (try simp only [Act.put, List.setIfInBounds_toArray, List.set_cons_zero, List.set_cons_succ])
          refine wpAnyH_ready (rs := [6, 14]) (by kernel_rfl) (by simp) ?_
          refine AllReadyH.cons (o := { dst := some 42, op := Op.buildSlice 29 0 #[], type := 29, pos := "law.go:74", after := #[], guard := none }) rfl (fun K hK => ?_) ?_
          · go_simp
            refine hK.out _ _ (HKEEP.out _ (HG9.out.trans (Gr.new V0 (.cells #[] 2)))) (fun hHeld => ?_)
            clear hK K
            (try simp only [Act.put, List.setIfInBounds_toArray, List.set_cons_zero, List.set_cons_succ])
            obtain ⟨V1, hV⟩ : ∃ V : World, V = V0.alloc (.cells #[] 2) := ⟨_, rfl⟩
            rw [← hV]
            have hgn : Gr V0 V1 := by rw [hV]; exact Gr.new V0 (.cells #[] 2)
            have HOE := Lib.hid (show Lo.Own1 V1 V0.heap.size (.slice (some ⟨V0.heap.size, 0, none⟩) 0 0) [] by rw [hV]; exact own_empty64 V0 _ (Nat.le_refl _))
            have HN1 := Lib.hid (show V1.heap.size = V0.heap.size + 1 by rw [hV]; simp)
            replace HG9 := Lib.hid (HG9.out.trans hgn)
            clear hV hgn hHeld
            refine wpAnyH_ready (rs := [9, 14]) (by kernel_rfl) (by simp) ?_
            refine AllReadyH.cons (o := { dst := some 45, op := Op.call { callee := Callee.builtin Builtin.append, args := #[Operand.tmp 42, Operand.tmp 44], argTypes := #[29, 29] }, type := 29, pos := "law.go:74", after := #[{ on := 6, ground := Ground.data }, { on := 8, ground := Ground.data }], guard := none }) rfl (fun K hK => ?_) ?_
            · refine Lo.wp_app (.tmp 42) (.tmp 44) rfl rfl (V0.heap.size) (.slice (some ⟨V0.heap.size, 0, none⟩) 0 0) [] rfl HOE.out (.slice xL nL cL) l rfl (HLQ.out.later HG9.out) HLEN.out (by have s0 := HN0.out; have s1 := HN1.out; omega) ?_
              intro v1 V2 hown hgrow
              rw [List.nil_append] at hown
              obtain ⟨ax, ac, hav, -, -⟩ := hown.form
              subst hav
              have HLC := Lib.hid hown.hasQ
              have hg8 : Gr v4 V2 := Lo.grown_own HG9.out HOE.out hgrow (by have s0 := HN0.out; have s1 := HN1.out; omega)
              have HN2 := Lib.hid hgrow.size
              clear hown hgrow
              refine hK.out _ _ (HKEEP.out _ hg8) (fun hHeld => ?_)
              clear hK K
              (try simp only [Act.put, List.setIfInBounds_toArray, List.set_cons_zero, List.set_cons_succ])
              replace HG9 := Lib.hid hg8
              clear hg8 hHeld HOE
              refine wpAnyH_ready (rs := [10, 14]) (by kernel_rfl) (by simp) ?_
              refine AllReadyH.cons (o := { dst := some 46, op := Op.call { callee := Callee.value (Operand.func 15), args := #[Operand.tmp 37, Operand.tmp 39, Operand.tmp 41, Operand.tmp 45], argTypes := #[25, 3, 4, 29] }, type := 37, pos := "law.go:74", after := #[{ on := 1, ground := Ground.data }, { on := 3, ground := Ground.data }, { on := 5, ground := Ground.data }, { on := 9, ground := Ground.data }, { on := 9, ground := Ground.chain }], guard := none }) rfl (fun K hK => ?_) ?_
              · go_simp
                go_at_call 15
                refine (HOP5.out V2 _ (HC.out.later HG9.out) HLC.out (Nat.le_refl _)).mono ?_
                rintro e V3 ⟨x5, n5, c5, rfl, hr8, hg8⟩
                go_wp2_with fail
                refine hK.out _ _ (HKEEP.out _ (HG9.out.trans hg8)) (fun hHeld => ?_)
                clear hK K
                (try simp only [Act.put, List.setIfInBounds_toArray, List.set_cons_zero, List.set_cons_succ])
                have HR5 := Lib.hid hr8
                have HN3 := Lib.hid hg8.size
                replace HG9 := Lib.hid (HG9.out.trans hg8)
                skip
                clear hr8 hg8
                refine wpAnyH_take (i := 11) (oi := { dst := some 35, op := Op.move (Operand.tmp 46), type := 37, pos := "law.go:74", after := #[{ on := 10, ground := Ground.data }], guard := none }) (v := ?_) rfl (by kernel_rfl) (by kernel_rfl) (by kernel_rfl) (fun _ _ _ h => h) (_root_.Or.inl ⟨by rfl, ?_⟩) (by assumption) ?_
                rotate_left
                · intro w0 hSw; (try dsimp only at hSw); go_simp; try with_reducible rfl
                (try simp only [Act.put, List.setIfInBounds_toArray, List.set_cons_zero, List.set_cons_succ])
                refine wpAnyH_take (i := 12) (oi := { dst := some 47, op := Op.extract (Operand.tmp 35) 0, type := 28, pos := "law.go:74", after := #[{ on := 11, ground := Ground.data }], guard := none }) (v := ?_) rfl (by kernel_rfl) (by kernel_rfl) (by kernel_rfl) (fun _ _ _ h => h) (_root_.Or.inl ⟨by rfl, ?_⟩) (by assumption) ?_
                rotate_left
                · intro w0 hSw; (try dsimp only at hSw); go_simp; try with_reducible rfl
                (try simp only [Act.put, List.setIfInBounds_toArray, List.set_cons_zero, List.set_cons_succ])
                refine wpAnyH_take (i := 13) (oi := { dst := some 48, op := Op.extract (Operand.tmp 35) 1, type := 35, pos := "law.go:74", after := #[{ on := 11, ground := Ground.data }, { on := 15, ground := Ground.gcOnly Departure.lateStores }], guard := none }) (v := ?_) rfl (by kernel_rfl) (by kernel_rfl) (by kernel_rfl) (fun _ _ _ h => h) (_root_.Or.inl ⟨by rfl, ?_⟩) (by assumption) ?_
                rotate_left
                · intro w0 hSw; (try dsimp only at hSw); go_simp; try with_reducible rfl
                (try simp only [Act.put, List.setIfInBounds_toArray, List.set_cons_zero, List.set_cons_succ])
                refine wpAnyH_ready (rs := [14]) (by kernel_rfl) (by simp) ?_
                refine AllReadyH.cons (o := { dst := some 5, op := Op.alloc 28, type := 0, pos := "law.go:74", after := #[], guard := none }) rfl (fun K hK => ?_) ?_
                · go_simp
                  refine hK.out _ _ (HKEEP.out _ (HG9.out.trans (Gr.new V3 (.cells #[.int .i64 0, .bool false, .slice none 0 0] 28)))) (fun hHeld => ?_)
                  clear hK K
                  (try simp only [Act.put, List.setIfInBounds_toArray, List.set_cons_zero, List.set_cons_succ])
                  obtain ⟨V4, hV⟩ : ∃ V : World, V = V3.alloc (.cells #[.int .i64 0, .bool false, .slice none 0 0] 28) := ⟨_, rfl⟩
                  rw [← hV]
                  have hgn : Gr V3 V4 := by rw [hV]; exact Gr.new V3 (.cells #[.int .i64 0, .bool false, .slice none 0 0] 28)
                  have HZ5 := Lib.hid (show Blk V4 V3.heap.size 28 #[.int .i64 0, .bool false, .slice none 0 0] by rw [hV]; exact Blk.new V3 28 #[.int .i64 0, .bool false, .slice none 0 0])
                  have HN4 := Lib.hid (show V4.heap.size = V3.heap.size + 1 by rw [hV]; simp)
                  have HLE := Lib.hid HG9.out.size
                  replace HG9 := Lib.hid (HG9.out.trans hgn)
                  replace HR5 := Lib.hid (HR5.out.later hgn)
                  clear hV hgn hHeld
                  refine wpAnyH_ready (rs := [15]) (by kernel_rfl) (by simp) ?_
                  refine AllReadyH.cons (o := { dst := none, op := Op.store 28 (Operand.tmp 5) (Operand.tmp 47), type := 0, pos := "law.go:74", after := #[{ on := 14, ground := Ground.data }, { on := 12, ground := Ground.data }, { on := 10, ground := Ground.chain }, { on := 0, ground := Ground.phase }, { on := 1, ground := Ground.phase }, { on := 2, ground := Ground.phase }, { on := 3, ground := Ground.phase }, { on := 4, ground := Ground.phase }, { on := 5, ground := Ground.phase }, { on := 6, ground := Ground.phase }, { on := 7, ground := Ground.phase }, { on := 8, ground := Ground.phase }, { on := 9, ground := Ground.phase }, { on := 10, ground := Ground.phase }, { on := 11, ground := Ground.phase }, { on := 12, ground := Ground.phase }, { on := 13, ground := Ground.textOnly Departure.lateStores }, { on := 14, ground := Ground.phase }], guard := none }) rfl (fun K hK => ?_) ?_
                  · obtain ⟨e0, e1, e2⟩ := HZ5.out.p3
                    obtain ⟨f0, f1, f2⟩ := HZ5.out.f3
                    go_simp
                    clear e0 e1 e2 f0 f1 f2
                    refine hK.out _ _ (HKEEP.out _ (((HG9.out.setCell (p := ⟨V3.heap.size, 0, none⟩) HLE.out _).setCell (p := ⟨V3.heap.size, 1, none⟩) HLE.out _).setCell (p := ⟨V3.heap.size, 2, none⟩) HLE.out _)) (fun hHeld => ?_)
                    clear hK K
                    (try simp only [Act.put, List.setIfInBounds_toArray, List.set_cons_zero, List.set_cons_succ])
                    have hz : Blk (((V4.setCell ⟨V3.heap.size, 0, none⟩ (.int .i64 LF)).setCell ⟨V3.heap.size, 1, none⟩ (.bool SF)).setCell ⟨V3.heap.size, 2, none⟩ (.slice x5 n5 c5)) (V3.heap.size) 28 #[.int .i64 LF, .bool SF, .slice x5 n5 c5] := ((HZ5.out.set 0 (.int .i64 LF)).set 1 (.bool SF)).set 2 (.slice x5 n5 c5)
                    have hov : Ov V3.heap.size (V3.heap.size + 1) V4 (((V4.setCell ⟨V3.heap.size, 0, none⟩ (.int .i64 LF)).setCell ⟨V3.heap.size, 1, none⟩ (.bool SF)).setCell ⟨V3.heap.size, 2, none⟩ (.slice x5 n5 c5)) := (((Ov.refl _).set (Nat.le_refl _) (Nat.lt_succ_self _) _).set (Nat.le_refl _) (Nat.lt_succ_self _) _).set (Nat.le_refl _) (Nat.lt_succ_self _) _
                    replace HZ5 := Lib.hid hz
                    have hgn := hov.of_gr HG9.out HLE.out
                    replace HG9 := Lib.hid hgn
                    replace HR5 := Lib.hid (hov.hasB HR5.out (by have s0 := HN0.out; have s1 := HN1.out; have s2 := HN2.out; have s3 := HN3.out; have s4 := HN4.out; omega))
                    clear hov hz hgn
                    refine wpAnyH_take (i := 16) (oi := { dst := some 6, op := Op.assign (Operand.tmp 48), type := 35, pos := "law.go:74", after := #[{ on := 13, ground := Ground.data }, { on := 15, ground := Ground.chain }, { on := 0, ground := Ground.phase }, { on := 1, ground := Ground.phase }, { on := 2, ground := Ground.phase }, { on := 3, ground := Ground.phase }, { on := 4, ground := Ground.phase }, { on := 5, ground := Ground.phase }, { on := 6, ground := Ground.phase }, { on := 7, ground := Ground.phase }, { on := 8, ground := Ground.phase }, { on := 9, ground := Ground.phase }, { on := 10, ground := Ground.phase }, { on := 11, ground := Ground.phase }, { on := 12, ground := Ground.phase }, { on := 13, ground := Ground.phase }, { on := 14, ground := Ground.phase }, { on := 15, ground := Ground.phase }], guard := none }) (v := ?_) rfl (by kernel_rfl) (by kernel_rfl) (by kernel_rfl) (fun _ _ _ h => h) (_root_.Or.inl ⟨by rfl, ?_⟩) (by assumption) ?_
                    rotate_left
                    · intro w0 hSw; (try dsimp only at hSw); go_simp; try with_reducible rfl
                    (try simp only [Act.put, List.setIfInBounds_toArray, List.set_cons_zero, List.set_cons_succ])
                    refine wpAnyH_done (by kernel_rfl) ?_ _
                    have s0 := HN0.out
                    have s1 := HN1.out
                    have s2 := HN2.out
                    have s3 := HN3.out
                    have s4 := HN4.out
                    have s90 := HLE.out
                    have s91 := HB4.out
                    clear HKEEP hHeld
                    go_wp2_with fail
                    go_meet
                    exact ⟨V3.heap.size, x5, n5, c5, V3.heap.size, rfl, rfl, HZ5.out, HR5.out.mono (by omega) (Nat.le_refl _), by omega, HG9.out⟩
                  exact AllReadyH.nil
                exact AllReadyH.nil
              refine AllReadyH.cons (o := { dst := some 5, op := Op.alloc 28, type := 0, pos := "law.go:74", after := #[], guard := none }) rfl (fun K hK => ?_) ?_
              · go_simp
                refine hK.out _ _ (HKEEP.out _ (HG9.out.trans (Gr.new V2 (.cells #[.int .i64 0, .bool false, .slice none 0 0] 28)))) (fun hHeld => ?_)
                clear hK K
                (try simp only [Act.put, List.setIfInBounds_toArray, List.set_cons_zero, List.set_cons_succ])
                obtain ⟨V3, hV⟩ : ∃ V : World, V = V2.alloc (.cells #[.int .i64 0, .bool false, .slice none 0 0] 28) := ⟨_, rfl⟩
                rw [← hV]
                have hgn : Gr V2 V3 := by rw [hV]; exact Gr.new V2 (.cells #[.int .i64 0, .bool false, .slice none 0 0] 28)
                have HZ5 := Lib.hid (show Blk V3 V2.heap.size 28 #[.int .i64 0, .bool false, .slice none 0 0] by rw [hV]; exact Blk.new V2 28 #[.int .i64 0, .bool false, .slice none 0 0])
                have HN3 := Lib.hid (show V3.heap.size = V2.heap.size + 1 by rw [hV]; simp)
                have HLE := Lib.hid HG9.out.size
                replace HG9 := Lib.hid (HG9.out.trans hgn)
                replace HLC := Lib.hid (HLC.out.later hgn)
                clear hV hgn hHeld
                refine wpAnyH_ready (rs := [10]) (by kernel_rfl) (by simp) ?_
                refine AllReadyH.cons (o := { dst := some 46, op := Op.call { callee := Callee.value (Operand.func 15), args := #[Operand.tmp 37, Operand.tmp 39, Operand.tmp 41, Operand.tmp 45], argTypes := #[25, 3, 4, 29] }, type := 37, pos := "law.go:74", after := #[{ on := 1, ground := Ground.data }, { on := 3, ground := Ground.data }, { on := 5, ground := Ground.data }, { on := 9, ground := Ground.data }, { on := 9, ground := Ground.chain }], guard := none }) rfl (fun K hK => ?_) ?_
                · go_simp
                  go_at_call 15
                  refine (HOP5.out V3 _ (HC.out.later HG9.out) HLC.out (Nat.le_refl _)).mono ?_
                  rintro e V4 ⟨x5, n5, c5, rfl, hr8, hg8⟩
                  go_wp2_with fail
                  refine hK.out _ _ (HKEEP.out _ (HG9.out.trans hg8)) (fun hHeld => ?_)
                  clear hK K
                  (try simp only [Act.put, List.setIfInBounds_toArray, List.set_cons_zero, List.set_cons_succ])
                  have HR5 := Lib.hid hr8
                  have HN4 := Lib.hid hg8.size
                  replace HG9 := Lib.hid (HG9.out.trans hg8)
                  replace HZ5 := Lib.hid (HZ5.out.gr hg8)
                  clear hr8 hg8
                  refine wpAnyH_take (i := 11) (oi := { dst := some 35, op := Op.move (Operand.tmp 46), type := 37, pos := "law.go:74", after := #[{ on := 10, ground := Ground.data }], guard := none }) (v := ?_) rfl (by kernel_rfl) (by kernel_rfl) (by kernel_rfl) (fun _ _ _ h => h) (_root_.Or.inl ⟨by rfl, ?_⟩) (by assumption) ?_
                  rotate_left
                  · intro w0 hSw; (try dsimp only at hSw); go_simp; try with_reducible rfl
                  (try simp only [Act.put, List.setIfInBounds_toArray, List.set_cons_zero, List.set_cons_succ])
                  refine wpAnyH_take (i := 12) (oi := { dst := some 47, op := Op.extract (Operand.tmp 35) 0, type := 28, pos := "law.go:74", after := #[{ on := 11, ground := Ground.data }], guard := none }) (v := ?_) rfl (by kernel_rfl) (by kernel_rfl) (by kernel_rfl) (fun _ _ _ h => h) (_root_.Or.inl ⟨by rfl, ?_⟩) (by assumption) ?_
                  rotate_left
                  · intro w0 hSw; (try dsimp only at hSw); go_simp; try with_reducible rfl
                  (try simp only [Act.put, List.setIfInBounds_toArray, List.set_cons_zero, List.set_cons_succ])
                  refine wpAnyH_take (i := 13) (oi := { dst := some 48, op := Op.extract (Operand.tmp 35) 1, type := 35, pos := "law.go:74", after := #[{ on := 11, ground := Ground.data }, { on := 15, ground := Ground.gcOnly Departure.lateStores }], guard := none }) (v := ?_) rfl (by kernel_rfl) (by kernel_rfl) (by kernel_rfl) (fun _ _ _ h => h) (_root_.Or.inl ⟨by rfl, ?_⟩) (by assumption) ?_
                  rotate_left
                  · intro w0 hSw; (try dsimp only at hSw); go_simp; try with_reducible rfl
                  (try simp only [Act.put, List.setIfInBounds_toArray, List.set_cons_zero, List.set_cons_succ])
                  refine wpAnyH_ready (rs := [15]) (by kernel_rfl) (by simp) ?_
                  refine AllReadyH.cons (o := { dst := none, op := Op.store 28 (Operand.tmp 5) (Operand.tmp 47), type := 0, pos := "law.go:74", after := #[{ on := 14, ground := Ground.data }, { on := 12, ground := Ground.data }, { on := 10, ground := Ground.chain }, { on := 0, ground := Ground.phase }, { on := 1, ground := Ground.phase }, { on := 2, ground := Ground.phase }, { on := 3, ground := Ground.phase }, { on := 4, ground := Ground.phase }, { on := 5, ground := Ground.phase }, { on := 6, ground := Ground.phase }, { on := 7, ground := Ground.phase }, { on := 8, ground := Ground.phase }, { on := 9, ground := Ground.phase }, { on := 10, ground := Ground.phase }, { on := 11, ground := Ground.phase }, { on := 12, ground := Ground.phase }, { on := 13, ground := Ground.textOnly Departure.lateStores }, { on := 14, ground := Ground.phase }], guard := none }) rfl (fun K hK => ?_) ?_
                  · obtain ⟨e0, e1, e2⟩ := HZ5.out.p3
                    obtain ⟨f0, f1, f2⟩ := HZ5.out.f3
                    go_simp
                    clear e0 e1 e2 f0 f1 f2
                    refine hK.out _ _ (HKEEP.out _ (((HG9.out.setCell (p := ⟨V2.heap.size, 0, none⟩) HLE.out _).setCell (p := ⟨V2.heap.size, 1, none⟩) HLE.out _).setCell (p := ⟨V2.heap.size, 2, none⟩) HLE.out _)) (fun hHeld => ?_)
                    clear hK K
                    (try simp only [Act.put, List.setIfInBounds_toArray, List.set_cons_zero, List.set_cons_succ])
                    have hz : Blk (((V4.setCell ⟨V2.heap.size, 0, none⟩ (.int .i64 LF)).setCell ⟨V2.heap.size, 1, none⟩ (.bool SF)).setCell ⟨V2.heap.size, 2, none⟩ (.slice x5 n5 c5)) (V2.heap.size) 28 #[.int .i64 LF, .bool SF, .slice x5 n5 c5] := ((HZ5.out.set 0 (.int .i64 LF)).set 1 (.bool SF)).set 2 (.slice x5 n5 c5)
                    have hov : Ov V2.heap.size (V2.heap.size + 1) V4 (((V4.setCell ⟨V2.heap.size, 0, none⟩ (.int .i64 LF)).setCell ⟨V2.heap.size, 1, none⟩ (.bool SF)).setCell ⟨V2.heap.size, 2, none⟩ (.slice x5 n5 c5)) := (((Ov.refl _).set (Nat.le_refl _) (Nat.lt_succ_self _) _).set (Nat.le_refl _) (Nat.lt_succ_self _) _).set (Nat.le_refl _) (Nat.lt_succ_self _) _
                    replace HZ5 := Lib.hid hz
                    have hgn := hov.of_gr HG9.out HLE.out
                    replace HG9 := Lib.hid hgn
                    replace HR5 := Lib.hid (hov.hasB HR5.out (by have s0 := HN0.out; have s1 := HN1.out; have s2 := HN2.out; have s3 := HN3.out; have s4 := HN4.out; omega))
                    clear hov hz hgn
                    refine wpAnyH_take (i := 16) (oi := { dst := some 6, op := Op.assign (Operand.tmp 48), type := 35, pos := "law.go:74", after := #[{ on := 13, ground := Ground.data }, { on := 15, ground := Ground.chain }, { on := 0, ground := Ground.phase }, { on := 1, ground := Ground.phase }, { on := 2, ground := Ground.phase }, { on := 3, ground := Ground.phase }, { on := 4, ground := Ground.phase }, { on := 5, ground := Ground.phase }, { on := 6, ground := Ground.phase }, { on := 7, ground := Ground.phase }, { on := 8, ground := Ground.phase }, { on := 9, ground := Ground.phase }, { on := 10, ground := Ground.phase }, { on := 11, ground := Ground.phase }, { on := 12, ground := Ground.phase }, { on := 13, ground := Ground.phase }, { on := 14, ground := Ground.phase }, { on := 15, ground := Ground.phase }], guard := none }) (v := ?_) rfl (by kernel_rfl) (by kernel_rfl) (by kernel_rfl) (fun _ _ _ h => h) (_root_.Or.inl ⟨by rfl, ?_⟩) (by assumption) ?_
                    rotate_left
                    · intro w0 hSw; (try dsimp only at hSw); go_simp; try with_reducible rfl
                    (try simp only [Act.put, List.setIfInBounds_toArray, List.set_cons_zero, List.set_cons_succ])
                    refine wpAnyH_done (by kernel_rfl) ?_ _
                    have s0 := HN0.out
                    have s1 := HN1.out
                    have s2 := HN2.out
                    have s3 := HN3.out
                    have s4 := HN4.out
                    have s90 := HLE.out
                    have s91 := HB4.out
                    clear HKEEP hHeld
                    go_wp2_with fail
                    go_meet
                    exact ⟨V2.heap.size, x5, n5, c5, V4.heap.size, rfl, rfl, HZ5.out, HR5.out.mono (by omega) (Nat.le_refl _), by omega, HG9.out⟩
                  exact AllReadyH.nil
                exact AllReadyH.nil
              exact AllReadyH.nil
            refine AllReadyH.cons (o := { dst := some 5, op := Op.alloc 28, type := 0, pos := "law.go:74", after := #[], guard := none }) rfl (fun K hK => ?_) ?_
            · go_simp
              refine hK.out _ _ (HKEEP.out _ (HG9.out.trans (Gr.new V1 (.cells #[.int .i64 0, .bool false, .slice none 0 0] 28)))) (fun hHeld => ?_)
              clear hK K
              (try simp only [Act.put, List.setIfInBounds_toArray, List.set_cons_zero, List.set_cons_succ])
              obtain ⟨V2, hV⟩ : ∃ V : World, V = V1.alloc (.cells #[.int .i64 0, .bool false, .slice none 0 0] 28) := ⟨_, rfl⟩
              rw [← hV]
              have hgn : Gr V1 V2 := by rw [hV]; exact Gr.new V1 (.cells #[.int .i64 0, .bool false, .slice none 0 0] 28)
              have HZ5 := Lib.hid (show Blk V2 V1.heap.size 28 #[.int .i64 0, .bool false, .slice none 0 0] by rw [hV]; exact Blk.new V1 28 #[.int .i64 0, .bool false, .slice none 0 0])
              have HN2 := Lib.hid (show V2.heap.size = V1.heap.size + 1 by rw [hV]; simp)
              have HLE := Lib.hid HG9.out.size
              replace HG9 := Lib.hid (HG9.out.trans hgn)
              replace HOE := Lib.hid (show Lo.Own1 V2 _ _ _ by rw [hV]; exact Lo.Own1.alloc HOE.out _)
              clear hV hgn hHeld
              refine wpAnyH_ready (rs := [9]) (by kernel_rfl) (by simp) ?_
              refine AllReadyH.cons (o := { dst := some 45, op := Op.call { callee := Callee.builtin Builtin.append, args := #[Operand.tmp 42, Operand.tmp 44], argTypes := #[29, 29] }, type := 29, pos := "law.go:74", after := #[{ on := 6, ground := Ground.data }, { on := 8, ground := Ground.data }], guard := none }) rfl (fun K hK => ?_) ?_
              · refine Lo.wp_app (.tmp 42) (.tmp 44) rfl rfl (V0.heap.size) (.slice (some ⟨V0.heap.size, 0, none⟩) 0 0) [] rfl HOE.out (.slice xL nL cL) l rfl (HLQ.out.later HG9.out) HLEN.out (by have s0 := HN0.out; have s1 := HN1.out; have s2 := HN2.out; omega) ?_
                intro v1 V3 hown hgrow
                rw [List.nil_append] at hown
                obtain ⟨ax, ac, hav, -, -⟩ := hown.form
                subst hav
                have HLC := Lib.hid hown.hasQ
                have hg8 : Gr v4 V3 := Lo.grown_own HG9.out HOE.out hgrow (by have s0 := HN0.out; have s1 := HN1.out; have s2 := HN2.out; omega)
                replace HZ5 := Lib.hid (HZ5.out.row hgrow (fun e => by have e2 : V1.heap.size = V0.heap.size := Option.some.inj (show some V1.heap.size = some (V0.heap.size) from e); have s0 := HN0.out; have s1 := HN1.out; have s2 := HN2.out; omega))
                have HN3 := Lib.hid hgrow.size
                clear hown hgrow
                refine hK.out _ _ (HKEEP.out _ hg8) (fun hHeld => ?_)
                clear hK K
                (try simp only [Act.put, List.setIfInBounds_toArray, List.set_cons_zero, List.set_cons_succ])
                replace HG9 := Lib.hid hg8
                clear hg8 hHeld HOE
                refine wpAnyH_ready (rs := [10]) (by kernel_rfl) (by simp) ?_
                refine AllReadyH.cons (o := { dst := some 46, op := Op.call { callee := Callee.value (Operand.func 15), args := #[Operand.tmp 37, Operand.tmp 39, Operand.tmp 41, Operand.tmp 45], argTypes := #[25, 3, 4, 29] }, type := 37, pos := "law.go:74", after := #[{ on := 1, ground := Ground.data }, { on := 3, ground := Ground.data }, { on := 5, ground := Ground.data }, { on := 9, ground := Ground.data }, { on := 9, ground := Ground.chain }], guard := none }) rfl (fun K hK => ?_) ?_
                · go_simp
                  go_at_call 15
                  refine (HOP5.out V3 _ (HC.out.later HG9.out) HLC.out (Nat.le_refl _)).mono ?_
                  rintro e V4 ⟨x5, n5, c5, rfl, hr8, hg8⟩
                  go_wp2_with fail
                  refine hK.out _ _ (HKEEP.out _ (HG9.out.trans hg8)) (fun hHeld => ?_)
                  clear hK K
                  (try simp only [Act.put, List.setIfInBounds_toArray, List.set_cons_zero, List.set_cons_succ])
                  have HR5 := Lib.hid hr8
                  have HN4 := Lib.hid hg8.size
                  replace HG9 := Lib.hid (HG9.out.trans hg8)
                  replace HZ5 := Lib.hid (HZ5.out.gr hg8)
                  clear hr8 hg8
                  refine wpAnyH_take (i := 11) (oi := { dst := some 35, op := Op.move (Operand.tmp 46), type := 37, pos := "law.go:74", after := #[{ on := 10, ground := Ground.data }], guard := none }) (v := ?_) rfl (by kernel_rfl) (by kernel_rfl) (by kernel_rfl) (fun _ _ _ h => h) (_root_.Or.inl ⟨by rfl, ?_⟩) (by assumption) ?_
                  rotate_left
                  · intro w0 hSw; (try dsimp only at hSw); go_simp; try with_reducible rfl
                  (try simp only [Act.put, List.setIfInBounds_toArray, List.set_cons_zero, List.set_cons_succ])
                  refine wpAnyH_take (i := 12) (oi := { dst := some 47, op := Op.extract (Operand.tmp 35) 0, type := 28, pos := "law.go:74", after := #[{ on := 11, ground := Ground.data }], guard := none }) (v := ?_) rfl (by kernel_rfl) (by kernel_rfl) (by kernel_rfl) (fun _ _ _ h => h) (_root_.Or.inl ⟨by rfl, ?_⟩) (by assumption) ?_
                  rotate_left
                  · intro w0 hSw; (try dsimp only at hSw); go_simp; try with_reducible rfl
                  (try simp only [Act.put, List.setIfInBounds_toArray, List.set_cons_zero, List.set_cons_succ])
                  refine wpAnyH_take (i := 13) (oi := { dst := some 48, op := Op.extract (Operand.tmp 35) 1, type := 35, pos := "law.go:74", after := #[{ on := 11, ground := Ground.data }, { on := 15, ground := Ground.gcOnly Departure.lateStores }], guard := none }) (v := ?_) rfl (by kernel_rfl) (by kernel_rfl) (by kernel_rfl) (fun _ _ _ h => h) (_root_.Or.inl ⟨by rfl, ?_⟩) (by assumption) ?_
                  rotate_left
                  · intro w0 hSw; (try dsimp only at hSw); go_simp; try with_reducible rfl
                  (try simp only [Act.put, List.setIfInBounds_toArray, List.set_cons_zero, List.set_cons_succ])
                  refine wpAnyH_ready (rs := [15]) (by kernel_rfl) (by simp) ?_
                  refine AllReadyH.cons (o := { dst := none, op := Op.store 28 (Operand.tmp 5) (Operand.tmp 47), type := 0, pos := "law.go:74", after := #[{ on := 14, ground := Ground.data }, { on := 12, ground := Ground.data }, { on := 10, ground := Ground.chain }, { on := 0, ground := Ground.phase }, { on := 1, ground := Ground.phase }, { on := 2, ground := Ground.phase }, { on := 3, ground := Ground.phase }, { on := 4, ground := Ground.phase }, { on := 5, ground := Ground.phase }, { on := 6, ground := Ground.phase }, { on := 7, ground := Ground.phase }, { on := 8, ground := Ground.phase }, { on := 9, ground := Ground.phase }, { on := 10, ground := Ground.phase }, { on := 11, ground := Ground.phase }, { on := 12, ground := Ground.phase }, { on := 13, ground := Ground.textOnly Departure.lateStores }, { on := 14, ground := Ground.phase }], guard := none }) rfl (fun K hK => ?_) ?_
                  · obtain ⟨e0, e1, e2⟩ := HZ5.out.p3
                    obtain ⟨f0, f1, f2⟩ := HZ5.out.f3
                    go_simp
                    clear e0 e1 e2 f0 f1 f2
                    refine hK.out _ _ (HKEEP.out _ (((HG9.out.setCell (p := ⟨V1.heap.size, 0, none⟩) HLE.out _).setCell (p := ⟨V1.heap.size, 1, none⟩) HLE.out _).setCell (p := ⟨V1.heap.size, 2, none⟩) HLE.out _)) (fun hHeld => ?_)
                    clear hK K
                    (try simp only [Act.put, List.setIfInBounds_toArray, List.set_cons_zero, List.set_cons_succ])
                    have hz : Blk (((V4.setCell ⟨V1.heap.size, 0, none⟩ (.int .i64 LF)).setCell ⟨V1.heap.size, 1, none⟩ (.bool SF)).setCell ⟨V1.heap.size, 2, none⟩ (.slice x5 n5 c5)) (V1.heap.size) 28 #[.int .i64 LF, .bool SF, .slice x5 n5 c5] := ((HZ5.out.set 0 (.int .i64 LF)).set 1 (.bool SF)).set 2 (.slice x5 n5 c5)
                    have hov : Ov V1.heap.size (V1.heap.size + 1) V4 (((V4.setCell ⟨V1.heap.size, 0, none⟩ (.int .i64 LF)).setCell ⟨V1.heap.size, 1, none⟩ (.bool SF)).setCell ⟨V1.heap.size, 2, none⟩ (.slice x5 n5 c5)) := (((Ov.refl _).set (Nat.le_refl _) (Nat.lt_succ_self _) _).set (Nat.le_refl _) (Nat.lt_succ_self _) _).set (Nat.le_refl _) (Nat.lt_succ_self _) _
                    replace HZ5 := Lib.hid hz
                    have hgn := hov.of_gr HG9.out HLE.out
                    replace HG9 := Lib.hid hgn
                    replace HR5 := Lib.hid (hov.hasB HR5.out (by have s0 := HN0.out; have s1 := HN1.out; have s2 := HN2.out; have s3 := HN3.out; have s4 := HN4.out; omega))
                    clear hov hz hgn
                    refine wpAnyH_take (i := 16) (oi := { dst := some 6, op := Op.assign (Operand.tmp 48), type := 35, pos := "law.go:74", after := #[{ on := 13, ground := Ground.data }, { on := 15, ground := Ground.chain }, { on := 0, ground := Ground.phase }, { on := 1, ground := Ground.phase }, { on := 2, ground := Ground.phase }, { on := 3, ground := Ground.phase }, { on := 4, ground := Ground.phase }, { on := 5, ground := Ground.phase }, { on := 6, ground := Ground.phase }, { on := 7, ground := Ground.phase }, { on := 8, ground := Ground.phase }, { on := 9, ground := Ground.phase }, { on := 10, ground := Ground.phase }, { on := 11, ground := Ground.phase }, { on := 12, ground := Ground.phase }, { on := 13, ground := Ground.phase }, { on := 14, ground := Ground.phase }, { on := 15, ground := Ground.phase }], guard := none }) (v := ?_) rfl (by kernel_rfl) (by kernel_rfl) (by kernel_rfl) (fun _ _ _ h => h) (_root_.Or.inl ⟨by rfl, ?_⟩) (by assumption) ?_
                    rotate_left
                    · intro w0 hSw; (try dsimp only at hSw); go_simp; try with_reducible rfl
                    (try simp only [Act.put, List.setIfInBounds_toArray, List.set_cons_zero, List.set_cons_succ])
                    refine wpAnyH_done (by kernel_rfl) ?_ _
                    have s0 := HN0.out
                    have s1 := HN1.out
                    have s2 := HN2.out
                    have s3 := HN3.out
                    have s4 := HN4.out
                    have s90 := HLE.out
                    have s91 := HB4.out
                    clear HKEEP hHeld
                    go_wp2_with fail
                    go_meet
                    exact ⟨V1.heap.size, x5, n5, c5, V4.heap.size, rfl, rfl, HZ5.out, HR5.out.mono (by omega) (Nat.le_refl _), by omega, HG9.out⟩
                  exact AllReadyH.nil
                exact AllReadyH.nil
              exact AllReadyH.nil
            exact AllReadyH.nil
          refine AllReadyH.cons (o := { dst := some 5, op := Op.alloc 28, type := 0, pos := "law.go:74", after := #[], guard := none }) rfl (fun K hK => ?_) ?_
          · go_simp
            refine hK.out _ _ (HKEEP.out _ (HG9.out.trans (Gr.new V0 (.cells #[.int .i64 0, .bool false, .slice none 0 0] 28)))) (fun hHeld => ?_)
            clear hK K
            (try simp only [Act.put, List.setIfInBounds_toArray, List.set_cons_zero, List.set_cons_succ])
            obtain ⟨V1, hV⟩ : ∃ V : World, V = V0.alloc (.cells #[.int .i64 0, .bool false, .slice none 0 0] 28) := ⟨_, rfl⟩
            rw [← hV]
            have hgn : Gr V0 V1 := by rw [hV]; exact Gr.new V0 (.cells #[.int .i64 0, .bool false, .slice none 0 0] 28)
            have HZ5 := Lib.hid (show Blk V1 V0.heap.size 28 #[.int .i64 0, .bool false, .slice none 0 0] by rw [hV]; exact Blk.new V0 28 #[.int .i64 0, .bool false, .slice none 0 0])
            have HN1 := Lib.hid (show V1.heap.size = V0.heap.size + 1 by rw [hV]; simp)
            have HLE := Lib.hid HG9.out.size
            replace HG9 := Lib.hid (HG9.out.trans hgn)
            clear hV hgn hHeld
            refine wpAnyH_ready (rs := [6]) (by kernel_rfl) (by simp) ?_
            refine AllReadyH.cons (o := { dst := some 42, op := Op.buildSlice 29 0 #[], type := 29, pos := "law.go:74", after := #[], guard := none }) rfl (fun K hK => ?_) ?_
            · go_simp
              refine hK.out _ _ (HKEEP.out _ (HG9.out.trans (Gr.new V1 (.cells #[] 2)))) (fun hHeld => ?_)
              clear hK K
              (try simp only [Act.put, List.setIfInBounds_toArray, List.set_cons_zero, List.set_cons_succ])
              obtain ⟨V2, hV⟩ : ∃ V : World, V = V1.alloc (.cells #[] 2) := ⟨_, rfl⟩
              rw [← hV]
              have hgn : Gr V1 V2 := by rw [hV]; exact Gr.new V1 (.cells #[] 2)
              have HOE := Lib.hid (show Lo.Own1 V2 V1.heap.size (.slice (some ⟨V1.heap.size, 0, none⟩) 0 0) [] by rw [hV]; exact own_empty64 V1 _ (Nat.le_refl _))
              have HN2 := Lib.hid (show V2.heap.size = V1.heap.size + 1 by rw [hV]; simp)
              replace HG9 := Lib.hid (HG9.out.trans hgn)
              replace HZ5 := Lib.hid (HZ5.out.gr hgn)
              clear hV hgn hHeld
              refine wpAnyH_ready (rs := [9]) (by kernel_rfl) (by simp) ?_
              refine AllReadyH.cons (o := { dst := some 45, op := Op.call { callee := Callee.builtin Builtin.append, args := #[Operand.tmp 42, Operand.tmp 44], argTypes := #[29, 29] }, type := 29, pos := "law.go:74", after := #[{ on := 6, ground := Ground.data }, { on := 8, ground := Ground.data }], guard := none }) rfl (fun K hK => ?_) ?_
              · refine Lo.wp_app (.tmp 42) (.tmp 44) rfl rfl (V1.heap.size) (.slice (some ⟨V1.heap.size, 0, none⟩) 0 0) [] rfl HOE.out (.slice xL nL cL) l rfl (HLQ.out.later HG9.out) HLEN.out (by have s0 := HN0.out; have s1 := HN1.out; have s2 := HN2.out; omega) ?_
                intro v1 V3 hown hgrow
                rw [List.nil_append] at hown
                obtain ⟨ax, ac, hav, -, -⟩ := hown.form
                subst hav
                have HLC := Lib.hid hown.hasQ
                have hg8 : Gr v4 V3 := Lo.grown_own HG9.out HOE.out hgrow (by have s0 := HN0.out; have s1 := HN1.out; have s2 := HN2.out; omega)
                replace HZ5 := Lib.hid (HZ5.out.row hgrow (fun e => by have e2 : V0.heap.size = V1.heap.size := Option.some.inj (show some V0.heap.size = some (V1.heap.size) from e); have s0 := HN0.out; have s1 := HN1.out; have s2 := HN2.out; omega))
                have HN3 := Lib.hid hgrow.size
                clear hown hgrow
                refine hK.out _ _ (HKEEP.out _ hg8) (fun hHeld => ?_)
                clear hK K
                (try simp only [Act.put, List.setIfInBounds_toArray, List.set_cons_zero, List.set_cons_succ])
                replace HG9 := Lib.hid hg8
                clear hg8 hHeld HOE
                refine wpAnyH_ready (rs := [10]) (by kernel_rfl) (by simp) ?_
                refine AllReadyH.cons (o := { dst := some 46, op := Op.call { callee := Callee.value (Operand.func 15), args := #[Operand.tmp 37, Operand.tmp 39, Operand.tmp 41, Operand.tmp 45], argTypes := #[25, 3, 4, 29] }, type := 37, pos := "law.go:74", after := #[{ on := 1, ground := Ground.data }, { on := 3, ground := Ground.data }, { on := 5, ground := Ground.data }, { on := 9, ground := Ground.data }, { on := 9, ground := Ground.chain }], guard := none }) rfl (fun K hK => ?_) ?_
                · go_simp
                  go_at_call 15
                  refine (HOP5.out V3 _ (HC.out.later HG9.out) HLC.out (Nat.le_refl _)).mono ?_
                  rintro e V4 ⟨x5, n5, c5, rfl, hr8, hg8⟩
                  go_wp2_with fail
                  refine hK.out _ _ (HKEEP.out _ (HG9.out.trans hg8)) (fun hHeld => ?_)
                  clear hK K
                  (try simp only [Act.put, List.setIfInBounds_toArray, List.set_cons_zero, List.set_cons_succ])
                  have HR5 := Lib.hid hr8
                  have HN4 := Lib.hid hg8.size
                  replace HG9 := Lib.hid (HG9.out.trans hg8)
                  replace HZ5 := Lib.hid (HZ5.out.gr hg8)
                  clear hr8 hg8
                  refine wpAnyH_take (i := 11) (oi := { dst := some 35, op := Op.move (Operand.tmp 46), type := 37, pos := "law.go:74", after := #[{ on := 10, ground := Ground.data }], guard := none }) (v := ?_) rfl (by kernel_rfl) (by kernel_rfl) (by kernel_rfl) (fun _ _ _ h => h) (_root_.Or.inl ⟨by rfl, ?_⟩) (by assumption) ?_
                  rotate_left
                  · intro w0 hSw; (try dsimp only at hSw); go_simp; try with_reducible rfl
                  (try simp only [Act.put, List.setIfInBounds_toArray, List.set_cons_zero, List.set_cons_succ])
                  refine wpAnyH_take (i := 12) (oi := { dst := some 47, op := Op.extract (Operand.tmp 35) 0, type := 28, pos := "law.go:74", after := #[{ on := 11, ground := Ground.data }], guard := none }) (v := ?_) rfl (by kernel_rfl) (by kernel_rfl) (by kernel_rfl) (fun _ _ _ h => h) (_root_.Or.inl ⟨by rfl, ?_⟩) (by assumption) ?_
                  rotate_left
                  · intro w0 hSw; (try dsimp only at hSw); go_simp; try with_reducible rfl
                  (try simp only [Act.put, List.setIfInBounds_toArray, List.set_cons_zero, List.set_cons_succ])
                  refine wpAnyH_take (i := 13) (oi := { dst := some 48, op := Op.extract (Operand.tmp 35) 1, type := 35, pos := "law.go:74", after := #[{ on := 11, ground := Ground.data }, { on := 15, ground := Ground.gcOnly Departure.lateStores }], guard := none }) (v := ?_) rfl (by kernel_rfl) (by kernel_rfl) (by kernel_rfl) (fun _ _ _ h => h) (_root_.Or.inl ⟨by rfl, ?_⟩) (by assumption) ?_
                  rotate_left
                  · intro w0 hSw; (try dsimp only at hSw); go_simp; try with_reducible rfl
                  (try simp only [Act.put, List.setIfInBounds_toArray, List.set_cons_zero, List.set_cons_succ])
                  refine wpAnyH_ready (rs := [15]) (by kernel_rfl) (by simp) ?_
                  refine AllReadyH.cons (o := { dst := none, op := Op.store 28 (Operand.tmp 5) (Operand.tmp 47), type := 0, pos := "law.go:74", after := #[{ on := 14, ground := Ground.data }, { on := 12, ground := Ground.data }, { on := 10, ground := Ground.chain }, { on := 0, ground := Ground.phase }, { on := 1, ground := Ground.phase }, { on := 2, ground := Ground.phase }, { on := 3, ground := Ground.phase }, { on := 4, ground := Ground.phase }, { on := 5, ground := Ground.phase }, { on := 6, ground := Ground.phase }, { on := 7, ground := Ground.phase }, { on := 8, ground := Ground.phase }, { on := 9, ground := Ground.phase }, { on := 10, ground := Ground.phase }, { on := 11, ground := Ground.phase }, { on := 12, ground := Ground.phase }, { on := 13, ground := Ground.textOnly Departure.lateStores }, { on := 14, ground := Ground.phase }], guard := none }) rfl (fun K hK => ?_) ?_
                  · obtain ⟨e0, e1, e2⟩ := HZ5.out.p3
                    obtain ⟨f0, f1, f2⟩ := HZ5.out.f3
                    go_simp
                    clear e0 e1 e2 f0 f1 f2
                    refine hK.out _ _ (HKEEP.out _ (((HG9.out.setCell (p := ⟨V0.heap.size, 0, none⟩) HLE.out _).setCell (p := ⟨V0.heap.size, 1, none⟩) HLE.out _).setCell (p := ⟨V0.heap.size, 2, none⟩) HLE.out _)) (fun hHeld => ?_)
                    clear hK K
                    (try simp only [Act.put, List.setIfInBounds_toArray, List.set_cons_zero, List.set_cons_succ])
                    have hz : Blk (((V4.setCell ⟨V0.heap.size, 0, none⟩ (.int .i64 LF)).setCell ⟨V0.heap.size, 1, none⟩ (.bool SF)).setCell ⟨V0.heap.size, 2, none⟩ (.slice x5 n5 c5)) (V0.heap.size) 28 #[.int .i64 LF, .bool SF, .slice x5 n5 c5] := ((HZ5.out.set 0 (.int .i64 LF)).set 1 (.bool SF)).set 2 (.slice x5 n5 c5)
                    have hov : Ov V0.heap.size (V0.heap.size + 1) V4 (((V4.setCell ⟨V0.heap.size, 0, none⟩ (.int .i64 LF)).setCell ⟨V0.heap.size, 1, none⟩ (.bool SF)).setCell ⟨V0.heap.size, 2, none⟩ (.slice x5 n5 c5)) := (((Ov.refl _).set (Nat.le_refl _) (Nat.lt_succ_self _) _).set (Nat.le_refl _) (Nat.lt_succ_self _) _).set (Nat.le_refl _) (Nat.lt_succ_self _) _
                    replace HZ5 := Lib.hid hz
                    have hgn := hov.of_gr HG9.out HLE.out
                    replace HG9 := Lib.hid hgn
                    replace HR5 := Lib.hid (hov.hasB HR5.out (by have s0 := HN0.out; have s1 := HN1.out; have s2 := HN2.out; have s3 := HN3.out; have s4 := HN4.out; omega))
                    clear hov hz hgn
                    refine wpAnyH_take (i := 16) (oi := { dst := some 6, op := Op.assign (Operand.tmp 48), type := 35, pos := "law.go:74", after := #[{ on := 13, ground := Ground.data }, { on := 15, ground := Ground.chain }, { on := 0, ground := Ground.phase }, { on := 1, ground := Ground.phase }, { on := 2, ground := Ground.phase }, { on := 3, ground := Ground.phase }, { on := 4, ground := Ground.phase }, { on := 5, ground := Ground.phase }, { on := 6, ground := Ground.phase }, { on := 7, ground := Ground.phase }, { on := 8, ground := Ground.phase }, { on := 9, ground := Ground.phase }, { on := 10, ground := Ground.phase }, { on := 11, ground := Ground.phase }, { on := 12, ground := Ground.phase }, { on := 13, ground := Ground.phase }, { on := 14, ground := Ground.phase }, { on := 15, ground := Ground.phase }], guard := none }) (v := ?_) rfl (by kernel_rfl) (by kernel_rfl) (by kernel_rfl) (fun _ _ _ h => h) (_root_.Or.inl ⟨by rfl, ?_⟩) (by assumption) ?_
                    rotate_left
                    · intro w0 hSw; (try dsimp only at hSw); go_simp; try with_reducible rfl
                    (try simp only [Act.put, List.setIfInBounds_toArray, List.set_cons_zero, List.set_cons_succ])
                    refine wpAnyH_done (by kernel_rfl) ?_ _
                    have s0 := HN0.out
                    have s1 := HN1.out
                    have s2 := HN2.out
                    have s3 := HN3.out
                    have s4 := HN4.out
                    have s90 := HLE.out
                    have s91 := HB4.out
                    clear HKEEP hHeld
                    go_wp2_with fail
                    go_meet
                    exact ⟨V0.heap.size, x5, n5, c5, V4.heap.size, rfl, rfl, HZ5.out, HR5.out.mono (by omega) (Nat.le_refl _), by omega, HG9.out⟩
                  exact AllReadyH.nil
                exact AllReadyH.nil
              exact AllReadyH.nil
            exact AllReadyH.nil
          exact AllReadyH.nil
      case rest =>
        as_aux_lemma =>
          obtain ⟨G5, x5, n5, c5, hi5, rfl, rfl, hb5, hr5, hG5, hg0⟩ := hcut
          clear q0 q1 q2 q3 q4 q5 q6 k0 k1 k2 k3 k4 k5 j0 j1 j2 j3 j4 a3 b3 d3
          replace HG := Lib.hid (HG.out.trans hg0)
          replace HX := Lib.hid (HX.out.gr hg0)
          replace HE3 := Lib.hid (HE3.out.gr hg0)
          replace HA := Lib.hid (HA.out.later hg0)
          replace HC := Lib.hid (HC.out.later hg0)
          replace HLQ := Lib.hid (HLQ.out.later hg0)
          replace HR3 := Lib.hid (HR3.out.later hg0)
          replace HSu := Lib.hid (HSu.out.later hg0)
          replace HBD := Lib.hid (Nat.le_trans HBD.out (Gr.size hg0))
          have HE5 := Lib.hid hb5
          have HR5 := Lib.hid hr5
          have HI5 := Lib.hid hG5
          clear hb5 hr5 hG5 hg0 HOP5 HB4
          obtain ⟨⟨q0, q1, q2, q3, q4, q5, q6⟩, ⟨k0, k1, k2, k3, k4, k5⟩, j0, j1, j2, j3, j4⟩ := HX.out.p18
          obtain ⟨a3, b3, d3⟩ := HE3.out.p3
          obtain ⟨a5, b5, d5⟩ := HE5.out.p3
          go_wp2_with fail
          refine (HOP7.out _ (.slice x3 nA c3) HC.out HR3.out.hasR HBD.out).mono ?_
          rintro e v7 ⟨x7, n7, c7, rfl, hr7, hg0⟩
          have HI7 := Lib.hid (Nat.le_trans HBD.out (Gr.size hg0))
          have hgn := Gr.new v7 (.cells #[.int .i64 LC, .bool SC, .slice x7 n7 c7] 28)
          have hgg := Gr.trans hg0 hgn
          clear q0 q1 q2 q3 q4 q5 q6 k0 k1 k2 k3 k4 k5 j0 j1 j2 j3 j4 a3 b3 d3 a5 b5 d5
          replace HG := Lib.hid (HG.out.trans hgg)
          replace HX := Lib.hid (HX.out.gr hgg)
          replace HE3 := Lib.hid (HE3.out.gr hgg)
          replace HE5 := Lib.hid (HE5.out.gr hgg)
          replace HA := Lib.hid (HA.out.later hgg)
          replace HC := Lib.hid (HC.out.later hgg)
          replace HLQ := Lib.hid (HLQ.out.later hgg)
          replace HR3 := Lib.hid (HR3.out.later hgg)
          replace HSu := Lib.hid (HSu.out.later hgg)
          replace HR5 := Lib.hid (HR5.out.later hgg)
          replace HBD := Lib.hid (Nat.le_trans HBD.out (Gr.size hgg))
          have HE7 := Lib.hid (Blk.new v7 28 #[.int .i64 LC, .bool SC, .slice x7 n7 c7])
          have HR7 := Lib.hid (hr7.later hgn)
          clear hr7 hg0 hgn hgg
          obtain ⟨⟨q0, q1, q2, q3, q4, q5, q6⟩, ⟨k0, k1, k2, k3, k4, k5⟩, j0, j1, j2, j3, j4⟩ := HX.out.p18
          obtain ⟨a3, b3, d3⟩ := HE3.out.p3
          obtain ⟨a5, b5, d5⟩ := HE5.out.p3
          obtain ⟨a7, b7, d7⟩ := HE7.out.p3
          clear HOP7
          as_aux_lemma =>
            go_wp2_with fail
            refine (HOP9.out _ (.slice x3 nA c3) HC.out HR3.out.hasR HBD.out).mono ?_
            rintro e v9 ⟨x9, n9, c9, rfl, hr9, hg0⟩
            have HI9 := Lib.hid (Nat.le_trans HBD.out (Gr.size hg0))
            have hgn := Gr.new v9 (.cells #[.int .i64 LC, .bool SC, .slice x9 n9 c9] 28)
            have hgg := Gr.trans hg0 hgn
            clear q0 q1 q2 q3 q4 q5 q6 k0 k1 k2 k3 k4 k5 j0 j1 j2 j3 j4 a3 b3 d3 a5 b5 d5 a7 b7 d7
            replace HG := Lib.hid (HG.out.trans hgg)
            replace HX := Lib.hid (HX.out.gr hgg)
            replace HE3 := Lib.hid (HE3.out.gr hgg)
            replace HE5 := Lib.hid (HE5.out.gr hgg)
            replace HE7 := Lib.hid (HE7.out.gr hgg)
            replace HA := Lib.hid (HA.out.later hgg)
            replace HC := Lib.hid (HC.out.later hgg)
            replace HLQ := Lib.hid (HLQ.out.later hgg)
            replace HR3 := Lib.hid (HR3.out.later hgg)
            replace HSu := Lib.hid (HSu.out.later hgg)
            replace HR5 := Lib.hid (HR5.out.later hgg)
            replace HR7 := Lib.hid (HR7.out.later hgg)
            replace HBD := Lib.hid (Nat.le_trans HBD.out (Gr.size hgg))
            have HE9 := Lib.hid (Blk.new v9 28 #[.int .i64 LC, .bool SC, .slice x9 n9 c9])
            have HR9 := Lib.hid (hr9.later hgn)
            clear hr9 hg0 hgn hgg
            obtain ⟨⟨q0, q1, q2, q3, q4, q5, q6⟩, ⟨k0, k1, k2, k3, k4, k5⟩, j0, j1, j2, j3, j4⟩ := HX.out.p18
            obtain ⟨a3, b3, d3⟩ := HE3.out.p3
            obtain ⟨a5, b5, d5⟩ := HE5.out.p3
            obtain ⟨a7, b7, d7⟩ := HE7.out.p3
            obtain ⟨a9, b9, d9⟩ := HE9.out.p3
            clear HOP9
            as_aux_lemma =>
              go_wp2_with fail
              refine (HOP11.out _ (.slice x3 nA c3) HC.out HR3.out.hasR HBD.out).mono ?_
              rintro e v11 ⟨x11, n11, c11, rfl, hr11, hg0⟩
              have HI11 := Lib.hid (Nat.le_trans HBD.out (Gr.size hg0))
              have hgn := Gr.new v11 (.cells #[.int .i64 LU, .bool SU, .slice x11 n11 c11] 28)
              have hgg := Gr.trans hg0 hgn
              clear q0 q1 q2 q3 q4 q5 q6 k0 k1 k2 k3 k4 k5 j0 j1 j2 j3 j4 a3 b3 d3 a5 b5 d5 a7 b7 d7 a9 b9 d9
              replace HG := Lib.hid (HG.out.trans hgg)
              replace HX := Lib.hid (HX.out.gr hgg)
              replace HE3 := Lib.hid (HE3.out.gr hgg)
              replace HE5 := Lib.hid (HE5.out.gr hgg)
              replace HE7 := Lib.hid (HE7.out.gr hgg)
              replace HE9 := Lib.hid (HE9.out.gr hgg)
              replace HA := Lib.hid (HA.out.later hgg)
              replace HC := Lib.hid (HC.out.later hgg)
              replace HLQ := Lib.hid (HLQ.out.later hgg)
              replace HR3 := Lib.hid (HR3.out.later hgg)
              replace HSu := Lib.hid (HSu.out.later hgg)
              replace HR5 := Lib.hid (HR5.out.later hgg)
              replace HR7 := Lib.hid (HR7.out.later hgg)
              replace HR9 := Lib.hid (HR9.out.later hgg)
              replace HBD := Lib.hid (Nat.le_trans HBD.out (Gr.size hgg))
              have HE11 := Lib.hid (Blk.new v11 28 #[.int .i64 LU, .bool SU, .slice x11 n11 c11])
              have HR11 := Lib.hid (hr11.later hgn)
              clear hr11 hg0 hgn hgg
              obtain ⟨⟨q0, q1, q2, q3, q4, q5, q6⟩, ⟨k0, k1, k2, k3, k4, k5⟩, j0, j1, j2, j3, j4⟩ := HX.out.p18
              obtain ⟨a3, b3, d3⟩ := HE3.out.p3
              obtain ⟨a5, b5, d5⟩ := HE5.out.p3
              obtain ⟨a7, b7, d7⟩ := HE7.out.p3
              obtain ⟨a9, b9, d9⟩ := HE9.out.p3
              obtain ⟨a11, b11, d11⟩ := HE11.out.p3
              clear HOP11
              as_aux_lemma =>
                go_wp2_with fail
                refine (HOP13.out _ (.slice x3 nA c3) HC.out HR3.out.hasR HBD.out).mono ?_
                rintro e v13 ⟨x13, n13, c13, rfl, hr13, hg0⟩
                have HI13 := Lib.hid (Nat.le_trans HBD.out (Gr.size hg0))
                have hgn := Gr.new v13 (.cells #[.int .i64 LR, .bool SR, .slice x13 n13 c13] 28)
                have hgg := Gr.trans hg0 hgn
                clear q0 q1 q2 q3 q4 q5 q6 k0 k1 k2 k3 k4 k5 j0 j1 j2 j3 j4 a3 b3 d3 a5 b5 d5 a7 b7 d7 a9 b9 d9 a11 b11 d11
                replace HG := Lib.hid (HG.out.trans hgg)
                replace HX := Lib.hid (HX.out.gr hgg)
                replace HE3 := Lib.hid (HE3.out.gr hgg)
                replace HE5 := Lib.hid (HE5.out.gr hgg)
                replace HE7 := Lib.hid (HE7.out.gr hgg)
                replace HE9 := Lib.hid (HE9.out.gr hgg)
                replace HE11 := Lib.hid (HE11.out.gr hgg)
                replace HA := Lib.hid (HA.out.later hgg)
                replace HC := Lib.hid (HC.out.later hgg)
                replace HLQ := Lib.hid (HLQ.out.later hgg)
                replace HR3 := Lib.hid (HR3.out.later hgg)
                replace HSu := Lib.hid (HSu.out.later hgg)
                replace HR5 := Lib.hid (HR5.out.later hgg)
                replace HR7 := Lib.hid (HR7.out.later hgg)
                replace HR9 := Lib.hid (HR9.out.later hgg)
                replace HR11 := Lib.hid (HR11.out.later hgg)
                replace HBD := Lib.hid (Nat.le_trans HBD.out (Gr.size hgg))
                have HE13 := Lib.hid (Blk.new v13 28 #[.int .i64 LR, .bool SR, .slice x13 n13 c13])
                have HR13 := Lib.hid (hr13.later hgn)
                clear hr13 hg0 hgn hgg
                obtain ⟨⟨q0, q1, q2, q3, q4, q5, q6⟩, ⟨k0, k1, k2, k3, k4, k5⟩, j0, j1, j2, j3, j4⟩ := HX.out.p18
                obtain ⟨a3, b3, d3⟩ := HE3.out.p3
                obtain ⟨a5, b5, d5⟩ := HE5.out.p3
                obtain ⟨a7, b7, d7⟩ := HE7.out.p3
                obtain ⟨a9, b9, d9⟩ := HE9.out.p3
                obtain ⟨a11, b11, d11⟩ := HE11.out.p3
                obtain ⟨a13, b13, d13⟩ := HE13.out.p3
                clear HOP13
                as_aux_lemma =>
                  go_wp2_with fail
                  refine (lsame_any lvA spA lvA spA rA rA (.slice x3 nA c3) (.slice xA nA cA) _ HR3.out.hasR HA.out.hasR (sm_up SA.out.2) (sm_up SA.out.2)).mono ?_
                  rintro e y1 ⟨rfl, hg0⟩
                  rw [decide_eq_true (show SameE lvA spA rA lvA spA rA from ⟨rfl, rfl, rfl⟩)]
                  clear q0 q1 q2 q3 q4 q5 q6 k0 k1 k2 k3 k4 k5 j0 j1 j2 j3 j4 a3 b3 d3 a5 b5 d5 a7 b7 d7 a9 b9 d9 a11 b11 d11 a13 b13 d13
                  replace HG := Lib.hid (HG.out.trans hg0)
                  replace HX := Lib.hid (HX.out.gr hg0)
                  replace HE3 := Lib.hid (HE3.out.gr hg0)
                  replace HE5 := Lib.hid (HE5.out.gr hg0)
                  replace HE7 := Lib.hid (HE7.out.gr hg0)
                  replace HE9 := Lib.hid (HE9.out.gr hg0)
                  replace HE11 := Lib.hid (HE11.out.gr hg0)
                  replace HE13 := Lib.hid (HE13.out.gr hg0)
                  replace HA := Lib.hid (HA.out.later hg0)
                  replace HC := Lib.hid (HC.out.later hg0)
                  replace HLQ := Lib.hid (HLQ.out.later hg0)
                  replace HR3 := Lib.hid (HR3.out.later hg0)
                  replace HSu := Lib.hid (HSu.out.later hg0)
                  replace HR5 := Lib.hid (HR5.out.later hg0)
                  replace HR7 := Lib.hid (HR7.out.later hg0)
                  replace HR9 := Lib.hid (HR9.out.later hg0)
                  replace HR11 := Lib.hid (HR11.out.later hg0)
                  replace HR13 := Lib.hid (HR13.out.later hg0)
                  replace HBD := Lib.hid (Nat.le_trans HBD.out (Gr.size hg0))
                  clear hg0
                  obtain ⟨⟨q0, q1, q2, q3, q4, q5, q6⟩, ⟨k0, k1, k2, k3, k4, k5⟩, j0, j1, j2, j3, j4⟩ := HX.out.p18
                  obtain ⟨a3, b3, d3⟩ := HE3.out.p3
                  obtain ⟨a5, b5, d5⟩ := HE5.out.p3
                  obtain ⟨a7, b7, d7⟩ := HE7.out.p3
                  obtain ⟨a9, b9, d9⟩ := HE9.out.p3
                  obtain ⟨a11, b11, d11⟩ := HE11.out.p3
                  obtain ⟨a13, b13, d13⟩ := HE13.out.p3
                  as_aux_lemma =>
                    go_wp2_with fail
                    refine (spoil_any lvA spA _ rA w1.heap.size v3.heap.size _ HSu.out HBD.out (sm_up SA.out.2).2).mono ?_
                    rintro e z1 ⟨rfl, hov⟩
                    clear q0 q1 q2 q3 q4 q5 q6 k0 k1 k2 k3 k4 k5 j0 j1 j2 j3 j4 a3 b3 d3 a5 b5 d5 a7 b7 d7 a9 b9 d9 a11 b11 d11 a13 b13 d13
                    clear HE3 HR3 HSu
                    replace HG := Lib.hid (hov.of_gr HG.out HI1.out.1)
                    replace HX := Lib.hid (hov.blk HX.out (.inl HI1.out.2))
                    replace HE5 := Lib.hid (hov.blk HE5.out (.inr HI5.out))
                    replace HE7 := Lib.hid (hov.blk HE7.out (.inr HI7.out))
                    replace HE9 := Lib.hid (hov.blk HE9.out (.inr HI9.out))
                    replace HE11 := Lib.hid (hov.blk HE11.out (.inr HI11.out))
                    replace HE13 := Lib.hid (hov.blk HE13.out (.inr HI13.out))
                    replace HA := Lib.hid (hov.hasB HA.out (.inl (Nat.le_refl _)))
                    replace HC := Lib.hid (hov.hasP HC.out HCL.out)
                    replace HLQ := Lib.hid (hov.hasQ HLQ.out HLL.out)
                    replace HR5 := Lib.hid (hov.hasB HR5.out (.inr (Nat.le_refl _)))
                    replace HR7 := Lib.hid (hov.hasB HR7.out (.inr (Nat.le_refl _)))
                    replace HR9 := Lib.hid (hov.hasB HR9.out (.inr (Nat.le_refl _)))
                    replace HR11 := Lib.hid (hov.hasB HR11.out (.inr (Nat.le_refl _)))
                    replace HR13 := Lib.hid (hov.hasB HR13.out (.inr (Nat.le_refl _)))
                    replace HBD := Lib.hid (Nat.le_trans HBD.out hov.size)
                    clear hov
                    obtain ⟨⟨q0, q1, q2, q3, q4, q5, q6⟩, ⟨k0, k1, k2, k3, k4, k5⟩, j0, j1, j2, j3, j4⟩ := HX.out.p18
                    obtain ⟨a5, b5, d5⟩ := HE5.out.p3
                    obtain ⟨a7, b7, d7⟩ := HE7.out.p3
                    obtain ⟨a9, b9, d9⟩ := HE9.out.p3
                    obtain ⟨a11, b11, d11⟩ := HE11.out.p3
                    obtain ⟨a13, b13, d13⟩ := HE13.out.p3
                    as_aux_lemma =>
                      go_wp2_with fail
                      refine (HOP15.out _ (.slice xL nL cL) HC.out HLQ.out HBD.out).mono ?_
                      rintro e v15 ⟨x15, n15, c15, rfl, hr15, hg0⟩
                      have HI15 := Lib.hid (Nat.le_trans HBD.out (Gr.size hg0))
                      have hgn := Gr.new v15 (.cells #[.int .i64 LF, .bool SF, .slice x15 n15 c15] 28)
                      have hgg := Gr.trans hg0 hgn
                      clear q0 q1 q2 q3 q4 q5 q6 k0 k1 k2 k3 k4 k5 j0 j1 j2 j3 j4 a5 b5 d5 a7 b7 d7 a9 b9 d9 a11 b11 d11 a13 b13 d13
                      replace HG := Lib.hid (HG.out.trans hgg)
                      replace HX := Lib.hid (HX.out.gr hgg)
                      replace HE5 := Lib.hid (HE5.out.gr hgg)
                      replace HE7 := Lib.hid (HE7.out.gr hgg)
                      replace HE9 := Lib.hid (HE9.out.gr hgg)
                      replace HE11 := Lib.hid (HE11.out.gr hgg)
                      replace HE13 := Lib.hid (HE13.out.gr hgg)
                      replace HA := Lib.hid (HA.out.later hgg)
                      replace HC := Lib.hid (HC.out.later hgg)
                      replace HLQ := Lib.hid (HLQ.out.later hgg)
                      replace HR5 := Lib.hid (HR5.out.later hgg)
                      replace HR7 := Lib.hid (HR7.out.later hgg)
                      replace HR9 := Lib.hid (HR9.out.later hgg)
                      replace HR11 := Lib.hid (HR11.out.later hgg)
                      replace HR13 := Lib.hid (HR13.out.later hgg)
                      replace HBD := Lib.hid (Nat.le_trans HBD.out (Gr.size hgg))
                      have HE15 := Lib.hid (Blk.new v15 28 #[.int .i64 LF, .bool SF, .slice x15 n15 c15])
                      have HR15 := Lib.hid (hr15.later hgn)
                      clear hr15 hg0 hgn hgg
                      obtain ⟨⟨q0, q1, q2, q3, q4, q5, q6⟩, ⟨k0, k1, k2, k3, k4, k5⟩, j0, j1, j2, j3, j4⟩ := HX.out.p18
                      obtain ⟨a5, b5, d5⟩ := HE5.out.p3
                      obtain ⟨a7, b7, d7⟩ := HE7.out.p3
                      obtain ⟨a9, b9, d9⟩ := HE9.out.p3
                      obtain ⟨a11, b11, d11⟩ := HE11.out.p3
                      obtain ⟨a13, b13, d13⟩ := HE13.out.p3
                      obtain ⟨a15, b15, d15⟩ := HE15.out.p3
                      clear HOP15
                      as_aux_lemma =>
                        go_wp2_with fail
                        refine (HOP17.out _ (.slice xA nA cA) HC.out HA.out.hasR HBD.out).mono ?_
                        rintro e v17 ⟨x17, n17, c17, rfl, hr17, hg0⟩
                        have HI17 := Lib.hid (Nat.le_trans HBD.out (Gr.size hg0))
                        have hgn := Gr.new v17 (.cells #[.int .i64 LC, .bool SC, .slice x17 n17 c17] 28)
                        have hgg := Gr.trans hg0 hgn
                        clear q0 q1 q2 q3 q4 q5 q6 k0 k1 k2 k3 k4 k5 j0 j1 j2 j3 j4 a5 b5 d5 a7 b7 d7 a9 b9 d9 a11 b11 d11 a13 b13 d13 a15 b15 d15
                        replace HG := Lib.hid (HG.out.trans hgg)
                        replace HX := Lib.hid (HX.out.gr hgg)
                        replace HE5 := Lib.hid (HE5.out.gr hgg)
                        replace HE7 := Lib.hid (HE7.out.gr hgg)
                        replace HE9 := Lib.hid (HE9.out.gr hgg)
                        replace HE11 := Lib.hid (HE11.out.gr hgg)
                        replace HE13 := Lib.hid (HE13.out.gr hgg)
                        replace HE15 := Lib.hid (HE15.out.gr hgg)
                        replace HA := Lib.hid (HA.out.later hgg)
                        replace HC := Lib.hid (HC.out.later hgg)
                        replace HLQ := Lib.hid (HLQ.out.later hgg)
                        replace HR5 := Lib.hid (HR5.out.later hgg)
                        replace HR7 := Lib.hid (HR7.out.later hgg)
                        replace HR9 := Lib.hid (HR9.out.later hgg)
                        replace HR11 := Lib.hid (HR11.out.later hgg)
                        replace HR13 := Lib.hid (HR13.out.later hgg)
                        replace HR15 := Lib.hid (HR15.out.later hgg)
                        replace HBD := Lib.hid (Nat.le_trans HBD.out (Gr.size hgg))
                        have HE17 := Lib.hid (Blk.new v17 28 #[.int .i64 LC, .bool SC, .slice x17 n17 c17])
                        have HR17 := Lib.hid (hr17.later hgn)
                        clear hr17 hg0 hgn hgg
                        obtain ⟨⟨q0, q1, q2, q3, q4, q5, q6⟩, ⟨k0, k1, k2, k3, k4, k5⟩, j0, j1, j2, j3, j4⟩ := HX.out.p18
                        obtain ⟨a5, b5, d5⟩ := HE5.out.p3
                        obtain ⟨a7, b7, d7⟩ := HE7.out.p3
                        obtain ⟨a9, b9, d9⟩ := HE9.out.p3
                        obtain ⟨a11, b11, d11⟩ := HE11.out.p3
                        obtain ⟨a13, b13, d13⟩ := HE13.out.p3
                        obtain ⟨a15, b15, d15⟩ := HE15.out.p3
                        obtain ⟨a17, b17, d17⟩ := HE17.out.p3
                        clear HOP17
                        as_aux_lemma =>
                          go_wp2_with fail
                          refine (HOP19.out _ (.slice xA nA cA) HC.out HA.out.hasR HBD.out).mono ?_
                          rintro e v19 ⟨x19, n19, c19, rfl, hr19, hg0⟩
                          have HI19 := Lib.hid (Nat.le_trans HBD.out (Gr.size hg0))
                          have hgn := Gr.new v19 (.cells #[.int .i64 LC, .bool SC, .slice x19 n19 c19] 28)
                          have hgg := Gr.trans hg0 hgn
                          clear q0 q1 q2 q3 q4 q5 q6 k0 k1 k2 k3 k4 k5 j0 j1 j2 j3 j4 a5 b5 d5 a7 b7 d7 a9 b9 d9 a11 b11 d11 a13 b13 d13 a15 b15 d15 a17 b17 d17
                          replace HG := Lib.hid (HG.out.trans hgg)
                          replace HX := Lib.hid (HX.out.gr hgg)
                          replace HE5 := Lib.hid (HE5.out.gr hgg)
                          replace HE7 := Lib.hid (HE7.out.gr hgg)
                          replace HE9 := Lib.hid (HE9.out.gr hgg)
                          replace HE11 := Lib.hid (HE11.out.gr hgg)
                          replace HE13 := Lib.hid (HE13.out.gr hgg)
                          replace HE15 := Lib.hid (HE15.out.gr hgg)
                          replace HE17 := Lib.hid (HE17.out.gr hgg)
                          replace HA := Lib.hid (HA.out.later hgg)
                          replace HC := Lib.hid (HC.out.later hgg)
                          replace HLQ := Lib.hid (HLQ.out.later hgg)
                          replace HR5 := Lib.hid (HR5.out.later hgg)
                          replace HR7 := Lib.hid (HR7.out.later hgg)
                          replace HR9 := Lib.hid (HR9.out.later hgg)
                          replace HR11 := Lib.hid (HR11.out.later hgg)
                          replace HR13 := Lib.hid (HR13.out.later hgg)
                          replace HR15 := Lib.hid (HR15.out.later hgg)
                          replace HR17 := Lib.hid (HR17.out.later hgg)
                          replace HBD := Lib.hid (Nat.le_trans HBD.out (Gr.size hgg))
                          have HE19 := Lib.hid (Blk.new v19 28 #[.int .i64 LC, .bool SC, .slice x19 n19 c19])
                          have HR19 := Lib.hid (hr19.later hgn)
                          clear hr19 hg0 hgn hgg
                          obtain ⟨⟨q0, q1, q2, q3, q4, q5, q6⟩, ⟨k0, k1, k2, k3, k4, k5⟩, j0, j1, j2, j3, j4⟩ := HX.out.p18
                          obtain ⟨a5, b5, d5⟩ := HE5.out.p3
                          obtain ⟨a7, b7, d7⟩ := HE7.out.p3
                          obtain ⟨a9, b9, d9⟩ := HE9.out.p3
                          obtain ⟨a11, b11, d11⟩ := HE11.out.p3
                          obtain ⟨a13, b13, d13⟩ := HE13.out.p3
                          obtain ⟨a15, b15, d15⟩ := HE15.out.p3
                          obtain ⟨a17, b17, d17⟩ := HE17.out.p3
                          obtain ⟨a19, b19, d19⟩ := HE19.out.p3
                          clear HOP19
                          as_aux_lemma =>
                            go_wp2_with fail
                            refine (HOP21.out _ (.slice xA nA cA) HC.out HA.out.hasR HBD.out).mono ?_
                            rintro e v21 ⟨x21, n21, c21, rfl, hr21, hg0⟩
                            have HI21 := Lib.hid (Nat.le_trans HBD.out (Gr.size hg0))
                            have hgn := Gr.new v21 (.cells #[.int .i64 LU, .bool SU, .slice x21 n21 c21] 28)
                            have hgg := Gr.trans hg0 hgn
                            clear q0 q1 q2 q3 q4 q5 q6 k0 k1 k2 k3 k4 k5 j0 j1 j2 j3 j4 a5 b5 d5 a7 b7 d7 a9 b9 d9 a11 b11 d11 a13 b13 d13 a15 b15 d15 a17 b17 d17 a19 b19 d19
                            replace HG := Lib.hid (HG.out.trans hgg)
                            replace HX := Lib.hid (HX.out.gr hgg)
                            replace HE5 := Lib.hid (HE5.out.gr hgg)
                            replace HE7 := Lib.hid (HE7.out.gr hgg)
                            replace HE9 := Lib.hid (HE9.out.gr hgg)
                            replace HE11 := Lib.hid (HE11.out.gr hgg)
                            replace HE13 := Lib.hid (HE13.out.gr hgg)
                            replace HE15 := Lib.hid (HE15.out.gr hgg)
                            replace HE17 := Lib.hid (HE17.out.gr hgg)
                            replace HE19 := Lib.hid (HE19.out.gr hgg)
                            replace HA := Lib.hid (HA.out.later hgg)
                            replace HC := Lib.hid (HC.out.later hgg)
                            replace HLQ := Lib.hid (HLQ.out.later hgg)
                            replace HR5 := Lib.hid (HR5.out.later hgg)
                            replace HR7 := Lib.hid (HR7.out.later hgg)
                            replace HR9 := Lib.hid (HR9.out.later hgg)
                            replace HR11 := Lib.hid (HR11.out.later hgg)
                            replace HR13 := Lib.hid (HR13.out.later hgg)
                            replace HR15 := Lib.hid (HR15.out.later hgg)
                            replace HR17 := Lib.hid (HR17.out.later hgg)
                            replace HR19 := Lib.hid (HR19.out.later hgg)
                            replace HBD := Lib.hid (Nat.le_trans HBD.out (Gr.size hgg))
                            have HE21 := Lib.hid (Blk.new v21 28 #[.int .i64 LU, .bool SU, .slice x21 n21 c21])
                            have HR21 := Lib.hid (hr21.later hgn)
                            clear hr21 hg0 hgn hgg
                            obtain ⟨⟨q0, q1, q2, q3, q4, q5, q6⟩, ⟨k0, k1, k2, k3, k4, k5⟩, j0, j1, j2, j3, j4⟩ := HX.out.p18
                            obtain ⟨a5, b5, d5⟩ := HE5.out.p3
                            obtain ⟨a7, b7, d7⟩ := HE7.out.p3
                            obtain ⟨a9, b9, d9⟩ := HE9.out.p3
                            obtain ⟨a11, b11, d11⟩ := HE11.out.p3
                            obtain ⟨a13, b13, d13⟩ := HE13.out.p3
                            obtain ⟨a15, b15, d15⟩ := HE15.out.p3
                            obtain ⟨a17, b17, d17⟩ := HE17.out.p3
                            obtain ⟨a19, b19, d19⟩ := HE19.out.p3
                            obtain ⟨a21, b21, d21⟩ := HE21.out.p3
                            clear HOP21
                            as_aux_lemma =>
                              go_wp2_with fail
                              refine (HOP23.out _ (.slice xA nA cA) HC.out HA.out.hasR HBD.out).mono ?_
                              rintro e v23 ⟨x23, n23, c23, rfl, hr23, hg0⟩
                              have HI23 := Lib.hid (Nat.le_trans HBD.out (Gr.size hg0))
                              have hgn := Gr.new v23 (.cells #[.int .i64 LR, .bool SR, .slice x23 n23 c23] 28)
                              have hgg := Gr.trans hg0 hgn
                              clear q0 q1 q2 q3 q4 q5 q6 k0 k1 k2 k3 k4 k5 j0 j1 j2 j3 j4 a5 b5 d5 a7 b7 d7 a9 b9 d9 a11 b11 d11 a13 b13 d13 a15 b15 d15 a17 b17 d17 a19 b19 d19 a21 b21 d21
                              replace HG := Lib.hid (HG.out.trans hgg)
                              replace HX := Lib.hid (HX.out.gr hgg)
                              replace HE5 := Lib.hid (HE5.out.gr hgg)
                              replace HE7 := Lib.hid (HE7.out.gr hgg)
                              replace HE9 := Lib.hid (HE9.out.gr hgg)
                              replace HE11 := Lib.hid (HE11.out.gr hgg)
                              replace HE13 := Lib.hid (HE13.out.gr hgg)
                              replace HE15 := Lib.hid (HE15.out.gr hgg)
                              replace HE17 := Lib.hid (HE17.out.gr hgg)
                              replace HE19 := Lib.hid (HE19.out.gr hgg)
                              replace HE21 := Lib.hid (HE21.out.gr hgg)
                              replace HA := Lib.hid (HA.out.later hgg)
                              replace HC := Lib.hid (HC.out.later hgg)
                              replace HLQ := Lib.hid (HLQ.out.later hgg)
                              replace HR5 := Lib.hid (HR5.out.later hgg)
                              replace HR7 := Lib.hid (HR7.out.later hgg)
                              replace HR9 := Lib.hid (HR9.out.later hgg)
                              replace HR11 := Lib.hid (HR11.out.later hgg)
                              replace HR13 := Lib.hid (HR13.out.later hgg)
                              replace HR15 := Lib.hid (HR15.out.later hgg)
                              replace HR17 := Lib.hid (HR17.out.later hgg)
                              replace HR19 := Lib.hid (HR19.out.later hgg)
                              replace HR21 := Lib.hid (HR21.out.later hgg)
                              replace HBD := Lib.hid (Nat.le_trans HBD.out (Gr.size hgg))
                              have HE23 := Lib.hid (Blk.new v23 28 #[.int .i64 LR, .bool SR, .slice x23 n23 c23])
                              have HR23 := Lib.hid (hr23.later hgn)
                              clear hr23 hg0 hgn hgg
                              obtain ⟨⟨q0, q1, q2, q3, q4, q5, q6⟩, ⟨k0, k1, k2, k3, k4, k5⟩, j0, j1, j2, j3, j4⟩ := HX.out.p18
                              obtain ⟨a5, b5, d5⟩ := HE5.out.p3
                              obtain ⟨a7, b7, d7⟩ := HE7.out.p3
                              obtain ⟨a9, b9, d9⟩ := HE9.out.p3
                              obtain ⟨a11, b11, d11⟩ := HE11.out.p3
                              obtain ⟨a13, b13, d13⟩ := HE13.out.p3
                              obtain ⟨a15, b15, d15⟩ := HE15.out.p3
                              obtain ⟨a17, b17, d17⟩ := HE17.out.p3
                              obtain ⟨a19, b19, d19⟩ := HE19.out.p3
                              obtain ⟨a21, b21, d21⟩ := HE21.out.p3
                              obtain ⟨a23, b23, d23⟩ := HE23.out.p3
                              clear HOP23
                              as_aux_lemma =>
                                go_wp2_with fail
                                refine (HOP25.out _ (.slice xA nA cA) HC.out HA.out.hasR).mono ?_
                                rintro e v25 ⟨rfl, hg0⟩
                                clear q0 q1 q2 q3 q4 q5 q6 k0 k1 k2 k3 k4 k5 j0 j1 j2 j3 j4 a5 b5 d5 a7 b7 d7 a9 b9 d9 a11 b11 d11 a13 b13 d13 a15 b15 d15 a17 b17 d17 a19 b19 d19 a21 b21 d21 a23 b23 d23
                                replace HG := Lib.hid (HG.out.trans hg0)
                                replace HX := Lib.hid (HX.out.gr hg0)
                                replace HE5 := Lib.hid (HE5.out.gr hg0)
                                replace HE7 := Lib.hid (HE7.out.gr hg0)
                                replace HE9 := Lib.hid (HE9.out.gr hg0)
                                replace HE11 := Lib.hid (HE11.out.gr hg0)
                                replace HE13 := Lib.hid (HE13.out.gr hg0)
                                replace HE15 := Lib.hid (HE15.out.gr hg0)
                                replace HE17 := Lib.hid (HE17.out.gr hg0)
                                replace HE19 := Lib.hid (HE19.out.gr hg0)
                                replace HE21 := Lib.hid (HE21.out.gr hg0)
                                replace HE23 := Lib.hid (HE23.out.gr hg0)
                                replace HA := Lib.hid (HA.out.later hg0)
                                replace HC := Lib.hid (HC.out.later hg0)
                                replace HLQ := Lib.hid (HLQ.out.later hg0)
                                replace HR5 := Lib.hid (HR5.out.later hg0)
                                replace HR7 := Lib.hid (HR7.out.later hg0)
                                replace HR9 := Lib.hid (HR9.out.later hg0)
                                replace HR11 := Lib.hid (HR11.out.later hg0)
                                replace HR13 := Lib.hid (HR13.out.later hg0)
                                replace HR15 := Lib.hid (HR15.out.later hg0)
                                replace HR17 := Lib.hid (HR17.out.later hg0)
                                replace HR19 := Lib.hid (HR19.out.later hg0)
                                replace HR21 := Lib.hid (HR21.out.later hg0)
                                replace HR23 := Lib.hid (HR23.out.later hg0)
                                replace HBD := Lib.hid (Nat.le_trans HBD.out (Gr.size hg0))
                                clear hg0
                                obtain ⟨⟨q0, q1, q2, q3, q4, q5, q6⟩, ⟨k0, k1, k2, k3, k4, k5⟩, j0, j1, j2, j3, j4⟩ := HX.out.p18
                                obtain ⟨a5, b5, d5⟩ := HE5.out.p3
                                obtain ⟨a7, b7, d7⟩ := HE7.out.p3
                                obtain ⟨a9, b9, d9⟩ := HE9.out.p3
                                obtain ⟨a11, b11, d11⟩ := HE11.out.p3
                                obtain ⟨a13, b13, d13⟩ := HE13.out.p3
                                obtain ⟨a15, b15, d15⟩ := HE15.out.p3
                                obtain ⟨a17, b17, d17⟩ := HE17.out.p3
                                obtain ⟨a19, b19, d19⟩ := HE19.out.p3
                                obtain ⟨a21, b21, d21⟩ := HE21.out.p3
                                obtain ⟨a23, b23, d23⟩ := HE23.out.p3
                                as_aux_lemma =>
                                  clear HA HC HLQ
                                  go_wp2_with fail
                                  refine (lsame_any LF SF LF SF QF QF (.slice x5 n5 c5) (.slice x15 n15 c15) _ HR5.out.hasR HR15.out.hasR SMQF.out SMQF.out).mono ?_
                                  rintro e y2 ⟨rfl, hg0⟩
                                  rw [decide_eq_true (show SameE LF SF QF LF SF QF from ⟨rfl, rfl, rfl⟩)]
                                  clear q0 q1 q2 q3 q4 q5 q6 k0 k1 k2 k3 k4 k5 j0 j1 j2 j3 j4 a5 b5 d5 a7 b7 d7 a9 b9 d9 a11 b11 d11 a13 b13 d13 a15 b15 d15 a17 b17 d17 a19 b19 d19 a21 b21 d21 a23 b23 d23
                                  replace HG := Lib.hid (HG.out.trans hg0)
                                  replace HX := Lib.hid (HX.out.gr hg0)
                                  replace HE5 := Lib.hid (HE5.out.gr hg0)
                                  replace HE7 := Lib.hid (HE7.out.gr hg0)
                                  replace HE9 := Lib.hid (HE9.out.gr hg0)
                                  replace HE11 := Lib.hid (HE11.out.gr hg0)
                                  replace HE13 := Lib.hid (HE13.out.gr hg0)
                                  replace HE15 := Lib.hid (HE15.out.gr hg0)
                                  replace HE17 := Lib.hid (HE17.out.gr hg0)
                                  replace HE19 := Lib.hid (HE19.out.gr hg0)
                                  replace HE21 := Lib.hid (HE21.out.gr hg0)
                                  replace HE23 := Lib.hid (HE23.out.gr hg0)
                                  replace HR5 := Lib.hid (HR5.out.later hg0)
                                  replace HR7 := Lib.hid (HR7.out.later hg0)
                                  replace HR9 := Lib.hid (HR9.out.later hg0)
                                  replace HR11 := Lib.hid (HR11.out.later hg0)
                                  replace HR13 := Lib.hid (HR13.out.later hg0)
                                  replace HR15 := Lib.hid (HR15.out.later hg0)
                                  replace HR17 := Lib.hid (HR17.out.later hg0)
                                  replace HR19 := Lib.hid (HR19.out.later hg0)
                                  replace HR21 := Lib.hid (HR21.out.later hg0)
                                  replace HR23 := Lib.hid (HR23.out.later hg0)
                                  replace HBD := Lib.hid (Nat.le_trans HBD.out (Gr.size hg0))
                                  clear hg0
                                  obtain ⟨⟨q0, q1, q2, q3, q4, q5, q6⟩, ⟨k0, k1, k2, k3, k4, k5⟩, j0, j1, j2, j3, j4⟩ := HX.out.p18
                                  obtain ⟨a5, b5, d5⟩ := HE5.out.p3
                                  obtain ⟨a7, b7, d7⟩ := HE7.out.p3
                                  obtain ⟨a9, b9, d9⟩ := HE9.out.p3
                                  obtain ⟨a11, b11, d11⟩ := HE11.out.p3
                                  obtain ⟨a13, b13, d13⟩ := HE13.out.p3
                                  obtain ⟨a15, b15, d15⟩ := HE15.out.p3
                                  obtain ⟨a17, b17, d17⟩ := HE17.out.p3
                                  obtain ⟨a19, b19, d19⟩ := HE19.out.p3
                                  obtain ⟨a21, b21, d21⟩ := HE21.out.p3
                                  obtain ⟨a23, b23, d23⟩ := HE23.out.p3
                                  as_aux_lemma =>
                                    go_wp2_with fail
                                    refine (lsame_any LC SC LC SC QN QN (.slice x7 n7 c7) (.slice x17 n17 c17) _ HR7.out.hasR HR17.out.hasR SMQN.out SMQN.out).mono ?_
                                    rintro e y3 ⟨rfl, hg0⟩
                                    rw [decide_eq_true (show SameE LC SC QN LC SC QN from ⟨rfl, rfl, rfl⟩)]
                                    clear q0 q1 q2 q3 q4 q5 q6 k0 k1 k2 k3 k4 k5 j0 j1 j2 j3 j4 a5 b5 d5 a7 b7 d7 a9 b9 d9 a11 b11 d11 a13 b13 d13 a15 b15 d15 a17 b17 d17 a19 b19 d19 a21 b21 d21 a23 b23 d23
                                    replace HG := Lib.hid (HG.out.trans hg0)
                                    replace HX := Lib.hid (HX.out.gr hg0)
                                    replace HE5 := Lib.hid (HE5.out.gr hg0)
                                    replace HE7 := Lib.hid (HE7.out.gr hg0)
                                    replace HE9 := Lib.hid (HE9.out.gr hg0)
                                    replace HE11 := Lib.hid (HE11.out.gr hg0)
                                    replace HE13 := Lib.hid (HE13.out.gr hg0)
                                    replace HE15 := Lib.hid (HE15.out.gr hg0)
                                    replace HE17 := Lib.hid (HE17.out.gr hg0)
                                    replace HE19 := Lib.hid (HE19.out.gr hg0)
                                    replace HE21 := Lib.hid (HE21.out.gr hg0)
                                    replace HE23 := Lib.hid (HE23.out.gr hg0)
                                    replace HR5 := Lib.hid (HR5.out.later hg0)
                                    replace HR7 := Lib.hid (HR7.out.later hg0)
                                    replace HR9 := Lib.hid (HR9.out.later hg0)
                                    replace HR11 := Lib.hid (HR11.out.later hg0)
                                    replace HR13 := Lib.hid (HR13.out.later hg0)
                                    replace HR15 := Lib.hid (HR15.out.later hg0)
                                    replace HR17 := Lib.hid (HR17.out.later hg0)
                                    replace HR19 := Lib.hid (HR19.out.later hg0)
                                    replace HR21 := Lib.hid (HR21.out.later hg0)
                                    replace HR23 := Lib.hid (HR23.out.later hg0)
                                    replace HBD := Lib.hid (Nat.le_trans HBD.out (Gr.size hg0))
                                    clear hg0
                                    obtain ⟨⟨q0, q1, q2, q3, q4, q5, q6⟩, ⟨k0, k1, k2, k3, k4, k5⟩, j0, j1, j2, j3, j4⟩ := HX.out.p18
                                    obtain ⟨a5, b5, d5⟩ := HE5.out.p3
                                    obtain ⟨a7, b7, d7⟩ := HE7.out.p3
                                    obtain ⟨a9, b9, d9⟩ := HE9.out.p3
                                    obtain ⟨a11, b11, d11⟩ := HE11.out.p3
                                    obtain ⟨a13, b13, d13⟩ := HE13.out.p3
                                    obtain ⟨a15, b15, d15⟩ := HE15.out.p3
                                    obtain ⟨a17, b17, d17⟩ := HE17.out.p3
                                    obtain ⟨a19, b19, d19⟩ := HE19.out.p3
                                    obtain ⟨a21, b21, d21⟩ := HE21.out.p3
                                    obtain ⟨a23, b23, d23⟩ := HE23.out.p3
                                    as_aux_lemma =>
                                      go_wp2_with fail
                                      refine (lsame_any LC SC LC SC QM QM (.slice x9 n9 c9) (.slice x19 n19 c19) _ HR9.out.hasR HR19.out.hasR SMQM.out SMQM.out).mono ?_
                                      rintro e y4 ⟨rfl, hg0⟩
                                      rw [decide_eq_true (show SameE LC SC QM LC SC QM from ⟨rfl, rfl, rfl⟩)]
                                      clear q0 q1 q2 q3 q4 q5 q6 k0 k1 k2 k3 k4 k5 j0 j1 j2 j3 j4 a5 b5 d5 a7 b7 d7 a9 b9 d9 a11 b11 d11 a13 b13 d13 a15 b15 d15 a17 b17 d17 a19 b19 d19 a21 b21 d21 a23 b23 d23
                                      replace HG := Lib.hid (HG.out.trans hg0)
                                      replace HX := Lib.hid (HX.out.gr hg0)
                                      replace HE5 := Lib.hid (HE5.out.gr hg0)
                                      replace HE7 := Lib.hid (HE7.out.gr hg0)
                                      replace HE9 := Lib.hid (HE9.out.gr hg0)
                                      replace HE11 := Lib.hid (HE11.out.gr hg0)
                                      replace HE13 := Lib.hid (HE13.out.gr hg0)
                                      replace HE15 := Lib.hid (HE15.out.gr hg0)
                                      replace HE17 := Lib.hid (HE17.out.gr hg0)
                                      replace HE19 := Lib.hid (HE19.out.gr hg0)
                                      replace HE21 := Lib.hid (HE21.out.gr hg0)
                                      replace HE23 := Lib.hid (HE23.out.gr hg0)
                                      replace HR5 := Lib.hid (HR5.out.later hg0)
                                      replace HR7 := Lib.hid (HR7.out.later hg0)
                                      replace HR9 := Lib.hid (HR9.out.later hg0)
                                      replace HR11 := Lib.hid (HR11.out.later hg0)
                                      replace HR13 := Lib.hid (HR13.out.later hg0)
                                      replace HR15 := Lib.hid (HR15.out.later hg0)
                                      replace HR17 := Lib.hid (HR17.out.later hg0)
                                      replace HR19 := Lib.hid (HR19.out.later hg0)
                                      replace HR21 := Lib.hid (HR21.out.later hg0)
                                      replace HR23 := Lib.hid (HR23.out.later hg0)
                                      replace HBD := Lib.hid (Nat.le_trans HBD.out (Gr.size hg0))
                                      clear hg0
                                      obtain ⟨⟨q0, q1, q2, q3, q4, q5, q6⟩, ⟨k0, k1, k2, k3, k4, k5⟩, j0, j1, j2, j3, j4⟩ := HX.out.p18
                                      obtain ⟨a5, b5, d5⟩ := HE5.out.p3
                                      obtain ⟨a7, b7, d7⟩ := HE7.out.p3
                                      obtain ⟨a9, b9, d9⟩ := HE9.out.p3
                                      obtain ⟨a11, b11, d11⟩ := HE11.out.p3
                                      obtain ⟨a13, b13, d13⟩ := HE13.out.p3
                                      obtain ⟨a15, b15, d15⟩ := HE15.out.p3
                                      obtain ⟨a17, b17, d17⟩ := HE17.out.p3
                                      obtain ⟨a19, b19, d19⟩ := HE19.out.p3
                                      obtain ⟨a21, b21, d21⟩ := HE21.out.p3
                                      obtain ⟨a23, b23, d23⟩ := HE23.out.p3
                                      as_aux_lemma =>
                                        go_wp2_with fail
                                        refine (lsame_any LU SU LU SU QU QU (.slice x11 n11 c11) (.slice x21 n21 c21) _ HR11.out.hasR HR21.out.hasR SMQU.out SMQU.out).mono ?_
                                        rintro e y5 ⟨rfl, hg0⟩
                                        rw [decide_eq_true (show SameE LU SU QU LU SU QU from ⟨rfl, rfl, rfl⟩)]
                                        clear q0 q1 q2 q3 q4 q5 q6 k0 k1 k2 k3 k4 k5 j0 j1 j2 j3 j4 a5 b5 d5 a7 b7 d7 a9 b9 d9 a11 b11 d11 a13 b13 d13 a15 b15 d15 a17 b17 d17 a19 b19 d19 a21 b21 d21 a23 b23 d23
                                        replace HG := Lib.hid (HG.out.trans hg0)
                                        replace HX := Lib.hid (HX.out.gr hg0)
                                        replace HE5 := Lib.hid (HE5.out.gr hg0)
                                        replace HE7 := Lib.hid (HE7.out.gr hg0)
                                        replace HE9 := Lib.hid (HE9.out.gr hg0)
                                        replace HE11 := Lib.hid (HE11.out.gr hg0)
                                        replace HE13 := Lib.hid (HE13.out.gr hg0)
                                        replace HE15 := Lib.hid (HE15.out.gr hg0)
                                        replace HE17 := Lib.hid (HE17.out.gr hg0)
                                        replace HE19 := Lib.hid (HE19.out.gr hg0)
                                        replace HE21 := Lib.hid (HE21.out.gr hg0)
                                        replace HE23 := Lib.hid (HE23.out.gr hg0)
                                        replace HR5 := Lib.hid (HR5.out.later hg0)
                                        replace HR7 := Lib.hid (HR7.out.later hg0)
                                        replace HR9 := Lib.hid (HR9.out.later hg0)
                                        replace HR11 := Lib.hid (HR11.out.later hg0)
                                        replace HR13 := Lib.hid (HR13.out.later hg0)
                                        replace HR15 := Lib.hid (HR15.out.later hg0)
                                        replace HR17 := Lib.hid (HR17.out.later hg0)
                                        replace HR19 := Lib.hid (HR19.out.later hg0)
                                        replace HR21 := Lib.hid (HR21.out.later hg0)
                                        replace HR23 := Lib.hid (HR23.out.later hg0)
                                        replace HBD := Lib.hid (Nat.le_trans HBD.out (Gr.size hg0))
                                        clear hg0
                                        obtain ⟨⟨q0, q1, q2, q3, q4, q5, q6⟩, ⟨k0, k1, k2, k3, k4, k5⟩, j0, j1, j2, j3, j4⟩ := HX.out.p18
                                        obtain ⟨a5, b5, d5⟩ := HE5.out.p3
                                        obtain ⟨a7, b7, d7⟩ := HE7.out.p3
                                        obtain ⟨a9, b9, d9⟩ := HE9.out.p3
                                        obtain ⟨a11, b11, d11⟩ := HE11.out.p3
                                        obtain ⟨a13, b13, d13⟩ := HE13.out.p3
                                        obtain ⟨a15, b15, d15⟩ := HE15.out.p3
                                        obtain ⟨a17, b17, d17⟩ := HE17.out.p3
                                        obtain ⟨a19, b19, d19⟩ := HE19.out.p3
                                        obtain ⟨a21, b21, d21⟩ := HE21.out.p3
                                        obtain ⟨a23, b23, d23⟩ := HE23.out.p3
                                        as_aux_lemma =>
                                          go_wp2_with fail
                                          refine (lsame_any LR SR LR SR QR QR (.slice x13 n13 c13) (.slice x23 n23 c23) _ HR13.out.hasR HR23.out.hasR SMQR.out SMQR.out).mono ?_
                                          rintro e y6 ⟨rfl, hg0⟩
                                          rw [decide_eq_true (show SameE LR SR QR LR SR QR from ⟨rfl, rfl, rfl⟩)]
                                          clear q0 q1 q2 q3 q4 q5 q6 k0 k1 k2 k3 k4 k5 j0 j1 j2 j3 j4 a5 b5 d5 a7 b7 d7 a9 b9 d9 a11 b11 d11 a13 b13 d13 a15 b15 d15 a17 b17 d17 a19 b19 d19 a21 b21 d21 a23 b23 d23
                                          replace HG := Lib.hid (HG.out.trans hg0)
                                          replace HX := Lib.hid (HX.out.gr hg0)
                                          replace HE5 := Lib.hid (HE5.out.gr hg0)
                                          replace HE7 := Lib.hid (HE7.out.gr hg0)
                                          replace HE9 := Lib.hid (HE9.out.gr hg0)
                                          replace HE11 := Lib.hid (HE11.out.gr hg0)
                                          replace HE13 := Lib.hid (HE13.out.gr hg0)
                                          replace HE15 := Lib.hid (HE15.out.gr hg0)
                                          replace HE17 := Lib.hid (HE17.out.gr hg0)
                                          replace HE19 := Lib.hid (HE19.out.gr hg0)
                                          replace HE21 := Lib.hid (HE21.out.gr hg0)
                                          replace HE23 := Lib.hid (HE23.out.gr hg0)
                                          replace HR5 := Lib.hid (HR5.out.later hg0)
                                          replace HR7 := Lib.hid (HR7.out.later hg0)
                                          replace HR9 := Lib.hid (HR9.out.later hg0)
                                          replace HR11 := Lib.hid (HR11.out.later hg0)
                                          replace HR13 := Lib.hid (HR13.out.later hg0)
                                          replace HR15 := Lib.hid (HR15.out.later hg0)
                                          replace HR17 := Lib.hid (HR17.out.later hg0)
                                          replace HR19 := Lib.hid (HR19.out.later hg0)
                                          replace HR21 := Lib.hid (HR21.out.later hg0)
                                          replace HR23 := Lib.hid (HR23.out.later hg0)
                                          replace HBD := Lib.hid (Nat.le_trans HBD.out (Gr.size hg0))
                                          clear hg0
                                          obtain ⟨⟨q0, q1, q2, q3, q4, q5, q6⟩, ⟨k0, k1, k2, k3, k4, k5⟩, j0, j1, j2, j3, j4⟩ := HX.out.p18
                                          obtain ⟨a5, b5, d5⟩ := HE5.out.p3
                                          obtain ⟨a7, b7, d7⟩ := HE7.out.p3
                                          obtain ⟨a9, b9, d9⟩ := HE9.out.p3
                                          obtain ⟨a11, b11, d11⟩ := HE11.out.p3
                                          obtain ⟨a13, b13, d13⟩ := HE13.out.p3
                                          obtain ⟨a15, b15, d15⟩ := HE15.out.p3
                                          obtain ⟨a17, b17, d17⟩ := HE17.out.p3
                                          obtain ⟨a19, b19, d19⟩ := HE19.out.p3
                                          obtain ⟨a21, b21, d21⟩ := HE21.out.p3
                                          obtain ⟨a23, b23, d23⟩ := HE23.out.p3
                                          as_aux_lemma =>
                                            go_wp2_with fail
                                            refine (awake9_any _).mono ?_
                                            rintro e wz ⟨rfl, hg2⟩
                                            replace HG := Lib.hid (HG.out.trans hg2)
                                            clear hg2
                                            go_wp2_with fail
                                            go_ret
                                            exact ⟨rfl, HG.out⟩
end Go.Proofs.YtlfiakpmnkhcdaaGreat.Mo
