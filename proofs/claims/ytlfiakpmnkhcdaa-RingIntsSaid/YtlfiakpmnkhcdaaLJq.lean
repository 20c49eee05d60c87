import Derived.Test.YtlfiakpmnkhcdaaLJp
import Derived.Test.YtlfiakpmnkhcdaaLDp
namespace Go.Proofs.Ytlfiakpmnkhcdaa.Mo
open Go.RowKit Go.Shelf
set_option linter.unusedVariables false
theorem infoWd : (Try.prog.info? 42).map (fun i => (i.zero, i.size, i.bytes)) = some (some (.agg #[.bool false, .string ⟨#[]⟩]), 2, 24) := by kernel_rfl
def zwide (n : Nat) : Array Value := madeCells #[.bool false, .string ⟨#[]⟩] (n * 2)
theorem zwide_size (n : Nat) : (zwide n).size = n * 2 := size_madeCells _ _
theorem mk_wides (n : Nat) (hn : n ≤ 1000000) (w : World) : (Instr.makeSlice 37 (.int .i64 (n : Int)) (.int .i64 (n : Int))).run Try.prog w = .ok (.slice (some ⟨w.heap.size, 0, none⟩) n n) (w.alloc (.cells (zwide n) 42)) := by
  obtain ⟨i0, hi, hz0, hz1, hz2⟩ := info_parts infoWd
  have := run_make (P := Try.prog) w 37 42 i0 (.agg #[.bool false, .string ⟨#[]⟩]) Try.underlying37 hi hz0 .i64 .i64 (n : Int) (n : Int) (by omega) (Int.le_refl _) (by rw [hz2]; omega) (by omega)
  rw [this, hz1, Int.toNat_natCast]
  rfl
def Col (W : World) (G : Nat) (l : List Int) : Prop := U32 l ∧ l.length ≤ 1000 ∧ Blk W G 22 (l.map (fun x => Value.int .u32 x)).toArray
theorem Col.gr {W W' : World} {G : Nat} {l : List Int} (h : Col W G l) (hg : Gr W W') : Col W' G l := ⟨h.1, h.2.1, h.2.2.gr hg⟩
theorem Col.cell {W : World} {G : Nat} {l : List Int} (h : Col W G l) {i : Nat} (hi : i < l.length) : W.cell? ⟨G, i, none⟩ = some (.int .u32 (Op.cf l i)) := by
  rw [h.2.2.cell i, ← Op.cf_at]
  simp [hi]
theorem Col.hasP {W : World} {G : Nat} {l : List Int} (h : Col W G l) : HasP W (.slice (some ⟨G, 0, none⟩) l.length l.length) l :=
  ⟨h.1, _, _, rfl, Nat.le_refl _, by have := h.2.1; omega, fun i hi => ⟨G, 0, rfl, by rw [Nat.zero_add]; exact h.cell hi⟩⟩
theorem Col.set {W : World} {G : Nat} {l : List Int} (h : Col W G l) (i : Nat) {x : Int} (hx : 0 ≤ x ∧ x < 4294967296) : Col (W.setCell ⟨G, i, none⟩ (.int .u32 x)) G (l.set i x) := by
  refine ⟨h.1.set hx i, by rw [List.length_set]; exact h.2.1, ?_⟩
  have b := h.2.2.set i (.int .u32 x)
  have e : (l.map (fun x => Value.int .u32 x)).toArray.setIfInBounds i (.int .u32 x) = ((l.set i x).map (fun x => Value.int .u32 x)).toArray := by
    simp [List.map_set]
  rw [← e]; exact b
theorem Col.row {W : World} {G B o : Nat} {l : List Int} (h : Col W G l) (hB : B ≠ G) (x : Value) : Col (W.setCell ⟨B, o, none⟩ x) G l :=
  ⟨h.1, h.2.1, h.2.2.row (grown_cell W B o x) (fun e => by cases e; exact hB rfl)⟩
theorem Blk.other {W : World} {G B o : Nat} {t : TypeId} {cs : Array Value} (h : Blk W G t cs) (hB : B ≠ G) (x : Value) : Blk (W.setCell ⟨B, o, none⟩ x) G t cs :=
  h.row (grown_cell W B o x) (fun e => by cases e; exact hB rfl)
theorem Col.zero {W : World} {G m : Nat} (hm : m ≤ 1000) (h : Blk W G 22 (zrow m)) : Col W G (List.replicate m 0) := by
  refine ⟨fun x hx => by rw [List.eq_of_mem_replicate hx]; omega, by simp; omega, ?_⟩
  have e : zrow m = ((List.replicate m (0 : Int)).map (fun x => Value.int .u32 x)).toArray := by
    apply Array.ext
    · rw [zrow_size]; simp
    · intro i h1 h2
      have h1' : i < m := by rwa [zrow_size] at h1
      have h3 := zrow_at m i h1'
      rw [Array.getElem?_eq_getElem h1] at h3
      rw [Option.some.inj h3]
      simp
  rw [← e]; exact h
def TwoW (W : World) (n m : Nat) (p q : Value) (wx : World) : Prop := ∃ G1 G2, p = .slice (some ⟨G1, 0, none⟩) n n ∧ q = .slice (some ⟨G2, 0, none⟩) m m ∧ G1 ≠ G2 ∧ W.heap.size ≤ G1 ∧ W.heap.size ≤ G2 ∧ Blk wx G1 42 (zwide n) ∧ Blk wx G2 22 (zrow m) ∧ Gr W wx
theorem twoW_new (W W1 : World) (n m : Nat) (h : Gr W W1) : TwoW W n m (.slice (some ⟨W1.heap.size, 0, none⟩) n n) (.slice (some ⟨W1.heap.size + 1, 0, none⟩) m m) ((W1.alloc (.cells (zwide n) 42)).alloc (.cells (zrow m) 22)) :=
  ⟨_, _, rfl, rfl, by omega, h.size, by have := h.size; omega, (Blk.new _ _ _).gr (Gr.new _ _), Blk.newk _ _ (by simp), (h.alloc _).alloc _⟩
theorem twoW_new' (W W1 : World) (n m : Nat) (h : Gr W W1) : TwoW W n m (.slice (some ⟨W1.heap.size + 1, 0, none⟩) n n) (.slice (some ⟨W1.heap.size, 0, none⟩) m m) ((W1.alloc (.cells (zrow m) 22)).alloc (.cells (zwide n) 42)) :=
  ⟨_, _, rfl, rfl, by omega, by have := h.size; omega, h.size, Blk.newk _ _ (by simp), (Blk.new _ _ _).gr (Gr.new _ _), (h.alloc _).alloc _⟩
def colR (rows : List (List Int)) (j : Nat) : List Int := Oj.rowL rows.length (fun i => Op.cf (rw_ rows i) j)
def HasW (W : World) (v : Value) (zs : List Int) : Prop := ∃ a c, v = .slice a zs.length c ∧ zs.length ≤ c ∧ c ≤ 9223372036854775807 ∧ ∀ i, i < zs.length → ∃ g, a = some ⟨g, 0, none⟩ ∧ W.cell? ⟨g, i * 2, none⟩ = some (.bool (decide (Op.cf zs i < 0))) ∧ W.cell? ⟨g, i * 2 + 1, none⟩ = some (.string (bstr (Op.cf zs i).natAbs))
theorem HasW.later {W W' : World} {v : Value} {zs : List Int} (h : HasW W v zs) (hg : Gr W W') : HasW W' v zs := by
  obtain ⟨a, c, rfl, h1, h2, h3⟩ := h
  exact ⟨a, c, rfl, h1, h2, fun i hi => by obtain ⟨g, e, k1, k2⟩ := h3 i hi; exact ⟨g, e, hg.keeps k1, hg.keeps k2⟩⟩
def WCs (n j : Nat) (zs : List Int) (cs : Array Value) : Prop := cs.size = n * 2 ∧ zs.length = j ∧ ∀ i, i < j → cs[i * 2]? = some (.bool (decide (Op.cf zs i < 0))) ∧ cs[i * 2 + 1]? = some (.string (bstr (Op.cf zs i).natAbs))
theorem WCs.zero (n : Nat) : WCs n 0 [] (zwide n) := ⟨zwide_size n, rfl, fun i hi => by omega⟩
theorem WCs.snoc {n j : Nat} {zs : List Int} {cs : Array Value} (h : WCs n j zs cs) (hj : j < n) (X : Int) : WCs n (j + 1) (zs ++ [X]) ((cs.setIfInBounds (j * 2) (.bool (decide (X < 0)))).setIfInBounds (j * 2 + 1) (.string (bstr X.natAbs))) := by
  obtain ⟨h1, h2, h3⟩ := h
  refine ⟨by simp [h1], by simp [h2], fun i hi => ?_⟩
  have e : Op.cf (zs ++ [X]) i = if i < j then Op.cf zs i else X := by
    rw [← Op.cf_at, ← Op.cf_at, List.getElem?_append]
    by_cases hij : i < j
    · rw [if_pos (by omega), if_pos hij]
    · rw [if_neg (by omega), if_neg hij]
      have : i - zs.length = 0 := by omega
      rw [this]; rfl
  simp only [Array.getElem?_setIfInBounds, Array.size_setIfInBounds, h1]
  by_cases hij : i < j
  · obtain ⟨k1, k2⟩ := h3 i hij
    rw [e, if_pos hij]
    simp only [show ¬ (j * 2 + 1 = i * 2) by omega, show ¬ (j * 2 = i * 2) by omega, show ¬ (j * 2 + 1 = i * 2 + 1) by omega, show ¬ (j * 2 = i * 2 + 1) by omega, if_false]
    exact ⟨k1, k2⟩
  · have hij' : i = j := by omega
    subst hij'
    rw [e, if_neg hij]
    simp only [show ¬ (i * 2 + 1 = i * 2) by omega, show i * 2 < n * 2 by omega, show i * 2 + 1 < n * 2 by omega, if_false, if_true]
    exact ⟨trivial, trivial⟩
theorem colR_rowOf {N : Int} {M : List Int} {rows : List (List Int)} {W : World} {u : Value} (hr : EVr N M rows) (hA : HasR W u rows) {j : Nat} (hj : (j : Int) < N) : RowOf M (colR rows j) := by
  refine ⟨by unfold colR; rw [Oj.rowL_len]; exact hr.1, fun i hi => ?_⟩
  have hi' : i < rows.length := by rw [hr.1]; exact hi
  obtain ⟨a, c, rfl⟩ := hA.form
  obtain ⟨g, o, x, m, c, rfl, -, hm, hp⟩ := HasB.at_ hA hi'
  have h1 := (hp.1).at_ j
  have h2 := hr.2 i hi
  unfold colR
  rw [Oj.rowL_at _ _ hi']
  have h3 := of_decide_eq_true h2.2 j (by have := h2.1; omega)
  exact ⟨h1.1, h3⟩
def WdOK (N : Int) (ch : List Int) (S : Int) (lv : Int) (sp : Bool) (rows : List (List Int)) : Prop := (VP N ch S ∧ EV N ch S lv sp rows) ∧ Dis (Oj.mods ch S lv.toNat sp)
def WdZ (N : Int) (M : List Int) (rows : List (List Int)) (zs : List Int) : Prop := (zs.length : Int) = N ∧ ∀ j, j < zs.length → JoinV M (colR rows j) (Op.cf zs j)
def WdP (N : Int) (ch : List Int) (S : Int) (lv : Int) (sp : Bool) (rows : List (List Int)) (w : World) (e : Ending) (w' : World) : Prop :=
  ∃ v zs c, e = .returned (.tuple #[v, .int .i64 c]) ∧ Gr w w' ∧ HasW w' v zs ∧ ((WdOK N ch S lv sp rows ∧ c = 0 ∧ WdZ N (Oj.mods ch S lv.toNat sp) rows zs) ∨ (¬ WdOK N ch S lv sp rows ∧ c = 2 ∧ zs = []))
set_option maxRecDepth 100000 in
set_option maxHeartbeats 4000000 in
theorem wides_any (N p1 p2 : Int) (xC : Option Addr) (nC cC : Nat) (S p5 p6 : Int) (lv : Int) (sp : Bool) (ch : List Int) (uA : Value) (rows : List (List Int)) (w : World) (h3 : ch.length ≤ 1000) (hC : HasP w (.slice xC nC cC) ch) (hS : 0 ≤ S ∧ S < 4294967296) (hA : HasR w uA rows) :
    Calls Try.prog 7 #[.agg #[.int .i64 N, .int .u32 p1, .int .i64 p2, .slice xC nC cC, .int .u32 S, .int .i64 p5, .int .u32 p6], .agg #[.int .i64 lv, .bool sp, uA]] w (WdP N ch S lv sp rows w) := by
  obtain ⟨xA, cA, rfl⟩ := hA.form
  generalize hnA : rows.length = nA at *
  obtain ⟨W0, hW0⟩ : ∃ W0, W0 = (w.alloc (.cells #[.int .i64 N, .int .u32 p1, .int .i64 p2, .slice xC nC cC, .int .u32 S, .int .i64 p5, .int .u32 p6] 25)).alloc (.cells #[.int .i64 lv, .bool sp, .slice xA nA cA] 28) := ⟨_, rfl⟩
  have HG0 := Lib.hid (show Gr w W0 by rw [hW0]; exact (Gr.new w _).alloc _)
  have HBP := Lib.hid (show Blk W0 w.heap.size 25 #[.int .i64 N, .int .u32 p1, .int .i64 p2, .slice xC nC cC, .int .u32 S, .int .i64 p5, .int .u32 p6] by rw [hW0]; exact (Blk.new w _ _).gr (Gr.new _ _))
  have HBE := Lib.hid (show Blk W0 (w.heap.size + 1) 28 #[.int .i64 lv, .bool sp, .slice xA nA cA] by rw [hW0]; exact Blk.newk _ _ (by simp))
  have HC := Lib.hid hC
  have HA := Lib.hid hA
  have HS := Lib.hid hS
  have HNA := Lib.hid hnA
  clear hC hA hS hnA
  go_enter Try.func7, Try.ntmps7
  go_wp2_with fail
  rw [← hW0]
  refine (pCheck_any N p1 p2 xC nC cC S p5 p6 lv sp ch _ rows _ h3 (HC.out.later HG0.out) HS.out (HA.out.later HG0.out)).mono ?_
  rintro e w1 ⟨rfl, hg1⟩
  have HG1 := Lib.hid (HG0.out.trans hg1)
  have HBP1 := Lib.hid (HBP.out.gr hg1)
  have HBE1 := Lib.hid (HBE.out.gr hg1)
  obtain ⟨q0, q1, q2, q3, q4, q5, q6⟩ := HBP1.out.p7
  obtain ⟨k0, k1, k2⟩ := HBE1.out.p3
  clear hg1 hW0
  by_cases hok : VP N ch S ∧ EV N ch S lv sp rows
  · obtain ⟨l, rfl⟩ := Int.eq_ofNat_of_zero_le (show 0 ≤ lv by have := hok.2.1.1; omega)
    have hE0 : chkE N ch S l sp rows = 0 := if_pos hok
    have HOK := Lib.hid hok
    have hl1 : 1 ≤ l := by have := hok.2.1.1; omega
    have hl2 : l ≤ ch.length := by have := hok.2.1.2.1; omega
    have HL1 := Lib.hid hl1
    have HL2 := Lib.hid hl2
    rw [hE0]
    clear hok hE0 hl1 hl2
    go_wp2_with fail
    refine (moduli_any N p1 p2 xC nC cC S p5 p6 l sp _).mono ?_
    rintro e w2 ⟨rfl, hw2⟩
    have HM := Lib.hid (show MI w1.heap.size xC nC cC S l sp ch w2 by rw [← hw2]; exact MI.new N p1 p2 xC nC cC S p5 p6 l sp ch _ (HC.out.later HG1.out))
    have hg2 : Gr w1 w2 := by rw [← hw2]; exact ((Gr.new w1 _).alloc _).alloc _
    have HG2 := Lib.hid (HG1.out.trans hg2)
    have HBP2 := Lib.hid (HBP1.out.gr hg2)
    have HBE2 := Lib.hid (HBE1.out.gr hg2)
    clear hw2 hg2 q0 q1 q2 q3 q4 q5 q6 k0 k1 k2
    go_wp2_with fail
    refine (collect_any w1.heap.size xC nC cC S l sp ch w2 HL1.out HL2.out h3 HS.out HM.out).mono ?_
    rintro e w3 ⟨a3, n3, c3, rfl, hp3, -, hg3⟩
    obtain ⟨M, hM⟩ : ∃ M, M = Oj.mods ch S l sp := ⟨_, rfl⟩
    have HME := Lib.hid hM
    rw [← hM] at hp3
    have HP := Lib.hid hp3
    have HG3 := Lib.hid (HG2.out.trans hg3)
    have HBP3 := Lib.hid (HBP2.out.gr hg3)
    have HBE3 := Lib.hid (HBE2.out.gr hg3)
    clear hp3 hg3 hM
    go_wp2_with fail
    refine (new_any M _ _ HP.out).mono ?_
    rintro e w4 ⟨hg4, hr⟩
    have HG4 := Lib.hid (HG3.out.trans hg4)
    have HBP4 := Lib.hid (HBP3.out.gr hg4)
    have HBE4 := Lib.hid (HBE3.out.gr hg4)
    clear hg4
    rcases hr with ⟨hd, T, rfl, hsys, -⟩ | ⟨hd, rfl⟩
    · have HD := Lib.hid hd
      have HT := Lib.hid hsys
      clear hd hsys
      obtain ⟨q0, q1, q2, q3, q4, q5, q6⟩ := HBP4.out.p7
      obtain ⟨k0, k1, k2⟩ := HBE4.out.p3
      obtain ⟨n, hn⟩ := Int.eq_ofNat_of_zero_le (show 0 ≤ N by have := HOK.out.1.1; unfold DimI at this; omega)
      subst hn
      have hn32 : n ≤ 32 := by have := HOK.out.1.1; unfold DimI at this; omega
      have hna : nA ≤ 1000 := by
        have h1 := HOK.out.2.2.1
        have h2 := HD.out.2.1
        have h4 := HNA.out
        have h5 := HME.out
        simp only [Int.toNat_natCast] at h1
        rw [← h5] at h1
        omega
      have hmk1 := mk_wides n (by omega)
      have hmk2 := fun w => mk_row nA (nA : Int) rfl (by omega) w
      go_upto_region 8 with (fail)
      go_cut [9, 10] (fun p q wx => TwoW w4 n nA p q wx)
      case first =>
        have q0' := (Gr.new w4 (.cells (zrow nA) 22)).keeps q0
        have k2' := (Gr.new w4 (.cells (zrow nA) 22)).keeps k2
        have q0'' := (Gr.new w4 (.cells (zwide n) 42)).keeps q0
        have k2'' := (Gr.new w4 (.cells (zwide n) 42)).keeps k2
        go_region
        all_goals go_wp2_with fail
        all_goals go_meet
        all_goals first | exact twoW_new w4 _ n nA (Below.drew (Gr.refl w4)) | exact twoW_new' w4 _ n nA (Below.drew (Gr.refl w4)) | exact twoW_new w4 _ n nA (Gr.refl w4) | exact twoW_new' w4 _ n nA (Gr.refl w4)
      case rest =>
        obtain ⟨G1, G2, rfl, rfl, hne, hg1, hg2, hb1, hb2, hgw⟩ := hcut
        have HNE := Lib.hid hne
        have HGA := Lib.hid hg1
        have HGB := Lib.hid hg2
        have HCOL := Lib.hid (Col.zero hna hb2)
        have HLS := Lib.hid hb1
        have HGW := Lib.hid hgw
        clear hne hg1 hg2 hb1 hb2 hgw hmk1 hmk2 q0 q1 q2 q3 q4 q5 q6 k0 k1 k2
        go_wp2_with fail
        go_loopw [11, 12, 13, 42] (fun _ _ _ t wr => ∃ (j : Nat) (zs : List Int) (cs : Array Value) (cur : List Int), t = .int .i64 j ∧ j ≤ n ∧ WCs n j zs cs ∧ (∀ i, i < j → JoinV M (colR rows i) (Op.cf zs i)) ∧ Blk wr G1 42 cs ∧ Col wr G2 cur ∧ cur.length = nA ∧ Gr w4 wr) (fun _ _ _ t _ => n - (intOf t).toNat)
        case atStart => exact ⟨0, [], zwide n, List.replicate nA 0, rfl, by omega, WCs.zero n, fun i hi => by omega, HLS.out, HCOL.out, by simp, HGW.out⟩
        case round =>
          obtain ⟨j, zs, cs, cur, rfl, hj, hzs, hjv, hb, hc, hcl, hg⟩ := hrel
          have HZS := Lib.hid hzs
          have HJV := Lib.hid hjv
          have HB := Lib.hid hb
          have HCU := Lib.hid hc
          have HCL := Lib.hid hcl
          have HGJ := Lib.hid hg
          obtain ⟨-, -, k2⟩ := (HBE4.out.gr hg).p3
          clear hzs hjv hb hc hcl hg
          by_cases hlt : j < n
          · have j1 : (j : Int) < (n : Int) := by omega
            have j0 : (0 : Int) ≤ (j : Int) := by omega
            go_wp2_with fail
            go_loopw [12, 13, 48] (fun _ _ t ws => ∃ (i : Nat) (cur : List Int), t = .int .i64 i ∧ i ≤ nA ∧ (∀ i', i' < i → Op.cf cur i' = Op.cf (rw_ rows i') j) ∧ cur.length = nA ∧ Col ws G2 cur ∧ Blk ws G1 42 cs ∧ Gr w4 ws) (fun _ _ t _ => nA - (intOf t).toNat)
            case atStart => exact ⟨0, cur, rfl, by omega, fun i hi => by omega, HCL.out, HCU.out, HB.out, HGJ.out⟩
            case round =>
              obtain ⟨i, cur2, rfl, hi, hcf, hl2, hc2, hb2, hg2⟩ := hrel
              have HCF := Lib.hid hcf
              have HL2c := Lib.hid hl2
              have HC2 := Lib.hid hc2
              have HB2 := Lib.hid hb2
              have HGI := Lib.hid hg2
              clear hcf hl2 hc2 hb2 hg2
              by_cases hil : i < nA
              · have i1 : (i : Int) < (nA : Int) := by omega
                have i0 : (0 : Int) ≤ (i : Int) := by omega
                have hir : i < rows.length := by rw [HNA.out]; exact hil
                have hrow : ((rw_ rows i).length : Int) = n := by
                  have h1 := HOK.out.2.2
                  exact (h1.2 i (by rw [← h1.1]; exact hir)).1
                obtain ⟨g, o, x, m, c, rfl, c1, hm, hp⟩ := HasB.at_ (HA.out.later (HG4.out.trans HGI.out)) (i := i) hir
                obtain ⟨g3, o3, rfl, c4⟩ := hp.at_ (i := j) (by omega)
                have hu := hp.1.at_ j
                obtain ⟨y, hy⟩ : ∃ y, y = Op.cf (rw_ rows i) j := ⟨_, rfl⟩
                rw [← hy] at c4 hu
                have HY := Lib.hid hy
                have HU := Lib.hid hu
                have m1 : (j : Int) < (m : Int) := by rw [hm]; omega
                have c2 := HC2.out.cell (i := i) (by rw [HL2c.out]; exact hil)
                have f2 := HC2.out.2.2.frozen i
                clear hir hrow hm hp hu hy
                go_wp2_with fail
                go_roundw
                case rel => exact ⟨i + 1, cur2.set i y, by go_num, by omega, (fun i' hi' => by
                  rw [cf_set _ _ _ _ (by rw [HL2c.out]; exact hil)]
                  by_cases h : i' = i
                  · subst h; rw [if_pos rfl]; exact HY.out
                  · rw [if_neg h]; exact HCF.out i' (by omega)), by rw [List.length_set]; exact HL2c.out, HC2.out.set i HU.out, HB2.out.other (fun e => HNE.out e.symm) _, HGI.out.setCell (p := ⟨G2, i, none⟩) HGB.out _⟩
                case measure => simp [intOf]; omega
              · obtain rfl : i = nA := by omega
                have i1 : ¬ (i : Int) < (i : Int) := by omega
                have hcol : cur2 = colR rows j := by
                  unfold colR
                  rw [HNA.out]
                  exact row_done HL2c.out HCF.out
                have hp := HC2.out.hasP
                rw [HL2c.out, hcol] at hp
                have HPC := Lib.hid hp
                have HRO := Lib.hid (show RowOf M (colR rows j) by rw [HME.out]; exact colR_rowOf HOK.out.2.2 HA.out j1)
                clear hcol hp
                go_wp2_with fail
                refine (join_any T M (colR rows j) _ _ (HT.out.later HGI.out) HD.out.sys HPC.out).mono ?_
                rintro e w8 ⟨X, c, rfl, hjr, hg8⟩
                rcases hjr with ⟨hno, -, -⟩ | ⟨-, rfl, hX⟩
                · exact absurd HRO.out hno
                have HX := Lib.hid hX
                have HG8 := Lib.hid (HGI.out.trans hg8)
                have HC8 := Lib.hid (HC2.out.gr hg8)
                have HB8 := Lib.hid (HB2.out.gr hg8)
                have d0 := HB8.out.cell (j * 2)
                have d1 := HB8.out.cell (j * 2 + 1)
                have f0 := HB8.out.frozen (j * 2)
                have f1 := HB8.out.frozen (j * 2 + 1)
                have hsz := HZS.out.1
                rw [Array.getElem?_eq_getElem (show j * 2 < cs.size by omega)] at d0
                rw [Array.getElem?_eq_getElem (show j * 2 + 1 < cs.size by omega)] at d1
                generalize cs[j * 2] = y0 at d0
                generalize cs[j * 2 + 1] = y1 at d1
                clear hX hg8 hsz
                rw [show wv X = .agg #[.bool (decide (X < 0)), .string (bstr X.natAbs)] from rfl]
                go_wp2_with fail
                go_roundw
                case rel => exact ⟨j + 1, zs ++ [X], _, cur2, by go_num, by omega, HZS.out.snoc hlt X, (fun i hi => by
                  have e : Op.cf (zs ++ [X]) i = if i < j then Op.cf zs i else X := by
                    have hl := HZS.out.2.1
                    rw [← Op.cf_at, ← Op.cf_at, List.getElem?_append]
                    by_cases hij : i < j
                    · rw [if_pos (by omega), if_pos hij]
                    · rw [if_neg (by omega), if_neg hij]
                      have : i - zs.length = 0 := by omega
                      rw [this]; rfl
                  rw [e]
                  by_cases hij : i < j
                  · rw [if_pos hij]; exact HJV.out i hij
                  · obtain rfl : i = j := by omega
                    rw [if_neg hij]; exact HX.out), (HB8.out.set _ _).set _ _, (HC8.out.row HNE.out _).row HNE.out _, HL2c.out, (HG8.out.setCell (p := ⟨G1, j * 2, none⟩) HGA.out _).setCell (p := ⟨G1, j * 2 + 1, none⟩) HGA.out _⟩
                case measure => simp [intOf]; omega
          · obtain rfl : j = n := by omega
            have j1 : ¬ (j : Int) < (j : Int) := by omega
            go_wp2_with fail
            go_ret2
            have hl := HZS.out.2.1
            exact ⟨.slice (some ⟨G1, 0, none⟩) j j, zs, 0, rfl, HG4.out.trans HGJ.out, ⟨_, _, by rw [hl], by omega, by omega, fun i hi => ⟨G1, rfl, by
              have h := HZS.out.2.2 i (by omega)
              rw [HB.out.cell, HB.out.cell]; exact h⟩⟩, .inl ⟨⟨HOK.out, by rw [Int.toNat_natCast, ← HME.out]; exact HD.out⟩, rfl, by rw [hl], fun i hi => by rw [Int.toNat_natCast, ← HME.out]; exact HJV.out i (by omega)⟩⟩
    · have HE0 := Lib.hid (show ¬ WdOK N ch S l sp rows from fun h => hd (by rw [HME.out]; exact h.2))
      clear hd
      go_wp2_with fail
      go_ret2
      exact ⟨.slice none 0 0, [], 2, rfl, HG4.out, ⟨none, 0, rfl, by simp, by omega, fun i hi => by simp at hi⟩, .inr ⟨HE0.out, rfl, rfl⟩⟩
  · have hE0 : chkE N ch S lv sp rows = 2 := if_neg hok
    have HE0 := Lib.hid (show ¬ WdOK N ch S lv sp rows from fun h => hok h.1)
    rw [hE0]
    clear hok hE0
    go_wp2_with fail
    go_ret2
    exact ⟨.slice none 0 0, [], 2, rfl, HG1.out, ⟨none, 0, rfl, by simp, by omega, fun i hi => by simp at hi⟩, .inr ⟨HE0.out, rfl, rfl⟩⟩
end Go.Proofs.Ytlfiakpmnkhcdaa.Mo
