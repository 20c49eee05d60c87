import Derived.Test.YtlfiakpmnkhcdaaLJq
import Derived.Test.YtlfiakpmnkhcdaaLWI
namespace Go.Proofs.Ytlfiakpmnkhcdaa.Mo
open Go.RowKit Go.Shelf
set_option linter.unusedVariables false
theorem wabs_any (x : Int) (w : World) (hx : InR x) : Calls Try.prog 26 #[wv x] w (fun e w' => e = .returned (.tuple #[wv (x.natAbs : Int), .int .i64 0]) ∧ Gr w w') := by
  refine (Go.Proofs.Ytlfiakpmnkhcdaa.abs_ok _ _ w (form_bstr x hx)).mono ?_
  rintro e w' ⟨rfl, hg⟩
  have h : InR (x.natAbs : Int) := by unfold InR at *; omega
  rw [zOf_bstr, fNeg_in h, fStr_in h, fErr_in h]
  exact ⟨rfl, hg⟩
theorem wmax_any (x y : Int) (w : World) (hx : InR x) (hy : InR y) : Calls Try.prog 27 #[wv x, wv y] w (fun e w' => e = .returned (.tuple #[wv (if x < y then y else x), .int .i64 0]) ∧ Gr w w') := by
  refine (Go.Proofs.Ytlfiakpmnkhcdaa.max_ok _ _ _ _ w (form_bstr x hx) (form_bstr y hy)).mono ?_
  rintro e w' ⟨rfl, hg⟩
  have e1 : (if sgn x y < 0 then y else x) = if x < y then y else x := by
    unfold sgn
    by_cases h : x < y
    · rw [if_pos h, if_pos (by omega), if_pos h]
    · rw [if_neg h, if_neg h, if_neg (by split <;> omega)]
  have h : InR (if x < y then y else x) := by split <;> assumption
  rw [zOf_bstr, zOf_bstr, e1, fNeg_in h, fStr_in h, fErr_in h]
  exact ⟨rfl, hg⟩
def nrm (zs : List Int) : Int := zs.foldl (fun a z => if a < (z.natAbs : Int) then (z.natAbs : Int) else a) 0
theorem nrm_take {zs : List Int} {i : Nat} (hi : i < zs.length) : nrm (zs.take (i + 1)) = if nrm (zs.take i) < ((Op.cf zs i).natAbs : Int) then ((Op.cf zs i).natAbs : Int) else nrm (zs.take i) := by
  unfold nrm
  rw [List.take_add_one, List.foldl_append]
  have e : zs[i]? = some (Op.cf zs i) := by rw [← Op.cf_at, List.getElem?_eq_getElem hi]; rfl
  rw [e]
  rfl
theorem joinV_inR {l r : List Int} {X : Int} (hs : Sys l) (h : JoinV l r X) : InR X := by
  have h1 := h.1
  have h2 := pr_le hs.1
  exact inR_of (n := l.length) hs.2.2.2.2 (by omega) (by omega)
def NmP (N : Int) (ch : List Int) (S : Int) (lv : Int) (sp : Bool) (rows : List (List Int)) (w : World) (e : Ending) (w' : World) : Prop :=
  ∃ X c, e = .returned (.tuple #[wv X, .int .i64 c]) ∧ Gr w w' ∧ ((WdOK N ch S lv sp rows ∧ c = 0 ∧ ∃ zs, WdZ N (Oj.mods ch S lv.toNat sp) rows zs ∧ X = nrm zs) ∨ (¬ WdOK N ch S lv sp rows ∧ c = 2 ∧ X = 0))
theorem HasW.at_ {W : World} {a : Option Addr} {n c : Nat} {zs : List Int} (h : HasW W (.slice a n c) zs) {i : Nat} (hi : i < zs.length) : ∃ g, a = some ⟨g, 0, none⟩ ∧ W.cell? ⟨g, i * 2, none⟩ = some (.bool (decide (Op.cf zs i < 0))) ∧ W.cell? ⟨g, i * 2 + 1, none⟩ = some (.string (bstr (Op.cf zs i).natAbs)) := by
  obtain ⟨a', c', e, -, -, h3⟩ := h
  cases e
  exact h3 i hi
theorem Blk.p2 {W : World} {b : Nat} {t : TypeId} {a0 a1 : Value} (h : Blk W b t #[a0, a1]) : W.cell? ⟨b, 0, none⟩ = some a0 ∧ W.cell? ⟨b, 1, none⟩ = some a1 := ⟨h.cell 0, h.cell 1⟩
set_option maxRecDepth 100000 in
set_option maxHeartbeats 4000000 in
theorem norm_any (N p1 p2 : Int) (xC : Option Addr) (nC cC : Nat) (S p5 p6 : Int) (lv : Int) (sp : Bool) (ch : List Int) (uA : Value) (rows : List (List Int)) (w : World) (h3 : ch.length ≤ 1000) (hC : HasP w (.slice xC nC cC) ch) (hS : 0 ≤ S ∧ S < 4294967296) (hA : HasR w uA rows) :
    Calls Try.prog 11 #[.agg #[.int .i64 N, .int .u32 p1, .int .i64 p2, .slice xC nC cC, .int .u32 S, .int .i64 p5, .int .u32 p6], .agg #[.int .i64 lv, .bool sp, uA]] w (NmP N ch S lv sp rows w) := by
  obtain ⟨xA, cA, rfl⟩ := hA.form
  generalize hnA : rows.length = nA at *
  obtain ⟨W0, hW0⟩ : ∃ W0, W0 = ((w.alloc (.cells #[.int .i64 N, .int .u32 p1, .int .i64 p2, .slice xC nC cC, .int .u32 S, .int .i64 p5, .int .u32 p6] 25)).alloc (.cells #[.int .i64 lv, .bool sp, .slice xA nA cA] 28)).alloc (.cells #[.bool false, .string ⟨#[]⟩] 42) := ⟨_, rfl⟩
  have HG0 := Lib.hid (show Gr w W0 by rw [hW0]; exact ((Gr.new w _).alloc _).alloc _)
  have HBR := Lib.hid (show Blk W0 (w.heap.size + 2) 42 #[.bool false, .string ⟨#[]⟩] by rw [hW0]; exact Blk.newk _ _ (by simp))
  have HCALL := Lib.hid (wides_any N p1 p2 xC nC cC S p5 p6 lv sp ch (.slice xA nA cA) rows W0 h3 (hC.later HG0.out) hS (hA.later HG0.out))
  have HDIM := Lib.hid (show WdOK N ch S lv sp rows → 4 ≤ N ∧ N ≤ 32 from fun h => by have := h.1.1.1; unfold DimI at this; omega)
  clear hC hA hS hnA h3
  go_enter Try.func11, Try.ntmps11
  go_wp2_with fail
  rw [← hW0]
  refine HCALL.out.mono ?_
  rintro e w1 ⟨v, zs, c, rfl, hg1, hw, hr⟩
  have HGK := Lib.hid hg1
  have HG1 := Lib.hid (HG0.out.trans hg1)
  have HBR1 := Lib.hid (HBR.out.gr hg1)
  have HW := Lib.hid hw
  obtain ⟨a, cz, rfl, -, -, -⟩ := hw
  clear hg1 hW0
  rcases hr with ⟨hok, rfl, hz⟩ | ⟨hno, rfl, rfl⟩
  · have HOK := Lib.hid hok
    have HZ := Lib.hid hz
    have HIN := Lib.hid (show ∀ i, i < zs.length → InR (Op.cf zs i) from fun i hi => joinV_inR hok.2.sys (hz.2 i hi))
    obtain ⟨n, hn⟩ : ∃ n, n = zs.length := ⟨_, rfl⟩
    have HN := Lib.hid hn
    have hn32 : n ≤ 1000 := by have h1 := hz.1; have h2 := HDIM.out hok; omega
    rw [← hn]
    clear hok hz hn
    go_wp2_with fail
    refine (wof_any 0 _ (by unfold isW; decide)).mono ?_
    rintro e w2 ⟨rfl, hg2⟩
    have HG2 := Lib.hid (HG1.out.trans hg2)
    have HGK2 := Lib.hid (HGK.out.trans hg2)
    have HBR2 := Lib.hid (HBR1.out.gr hg2)
    have HW2 := Lib.hid (HW.out.later hg2)
    clear hg2
    rw [show wv 0 = .agg #[.bool (decide ((0 : Int) < 0)), .string (bstr (0 : Int).natAbs)] from rfl]
    have hb8 := Blk.new w2 42 #[.bool (decide ((0 : Int) < 0)), .string (bstr (0 : Int).natAbs)]
    have hg8 := Gr.new w2 (.cells #[.bool (decide ((0 : Int) < 0)), .string (bstr (0 : Int).natAbs)] 42)
    have HB8 := Lib.hid hb8
    have HG8 := Lib.hid hg8
    clear hb8 hg8
    go_wp2_with fail
    go_loopw [10, 11, 12, 26] (fun _ _ _ t wr => ∃ (i : Nat) (X : Int), t = .int .i64 i ∧ i ≤ n ∧ X = nrm (zs.take i) ∧ InR X ∧ Blk wr w2.heap.size 42 #[.bool (decide (X < 0)), .string (bstr X.natAbs)] ∧ Gr w2 wr) (fun _ _ _ t _ => n - (intOf t).toNat)
    case atStart => exact ⟨0, 0, rfl, by omega, rfl, by unfold InR Ow.R; simp, HB8.out, HG8.out⟩
    case round =>
      obtain ⟨i, X, rfl, hi, hX, hin, hb, hg⟩ := hrel
      have HX := Lib.hid hX
      have HINX := Lib.hid hin
      have HB := Lib.hid hb
      have HG := Lib.hid hg
      clear hX hin hb hg
      by_cases hlt : i < n
      · have i1 : (i : Int) < (n : Int) := by omega
        have i0 : (0 : Int) ≤ (i : Int) := by omega
        have hil : i < zs.length := by rw [← HN.out]; exact hlt
        obtain ⟨g, rfl, c1, c2⟩ := (HW2.out.later HG.out).at_ hil
        have hz := HIN.out i hil
        have HT := Lib.hid (nrm_take hil)
        obtain ⟨z, hze⟩ : ∃ z, z = Op.cf zs i := ⟨_, rfl⟩
        rw [← hze] at c1 c2 hz HT
        have HZI := Lib.hid hz
        have hzz : InR (z.natAbs : Int) := by unfold InR at *; omega
        have HZZ := Lib.hid hzz
        clear hil hz hze hzz
        go_wp2_with fail
        refine (wabs_any z _ HZI.out).mono ?_
        rintro e w3 ⟨rfl, hg3⟩
        have hg3' := (Gr.new wr _).trans hg3
        have HB3 := Lib.hid (HB.out.gr hg3')
        have HG3 := Lib.hid (HG.out.trans hg3')
        clear hg3 hg3'
        obtain ⟨Z, hZ⟩ : ∃ Z : Int, Z = (z.natAbs : Int) := ⟨_, rfl⟩
        rw [← hZ] at HZZ HT
        rw [← hZ]
        clear hZ
        rw [show wv Z = .agg #[.bool (decide (Z < 0)), .string (bstr Z.natAbs)] from rfl]
        have hg4 := Gr.new w3 (.cells #[.bool (decide (Z < 0)), .string (bstr Z.natAbs)] 42)
        obtain ⟨b0, b1⟩ := (HB3.out.gr hg4).p2
        have HG4 := Lib.hid (HG3.out.trans hg4)
        have HB4 := Lib.hid (HB3.out.gr hg4)
        clear hg4
        go_wp2_with fail
        refine (wmax_any X Z _ HINX.out HZZ.out).mono ?_
        rintro e w5 ⟨rfl, hg5⟩
        have HB5 := Lib.hid (HB4.out.gr hg5)
        have HG5 := Lib.hid (HG4.out.trans hg5)
        clear hg5 b0 b1
        obtain ⟨Y, hY⟩ : ∃ Y : Int, Y = (if X < Z then Z else X) := ⟨_, rfl⟩
        have HYR := Lib.hid (show InR Y by rw [hY]; split; exact HZZ.out; exact HINX.out)
        have HYT := Lib.hid (show Y = nrm (zs.take (i + 1)) by rw [HT.out, hY, ← HX.out])
        rw [← hY]
        clear hY
        rw [show wv Y = .agg #[.bool (decide (Y < 0)), .string (bstr Y.natAbs)] from rfl]
        obtain ⟨b0, b1⟩ := HB5.out.p2
        have f0 := HB5.out.frozen 0
        have f1 := HB5.out.frozen 1
        go_wp2_with fail
        go_roundw
        case rel => exact ⟨i + 1, Y, by go_num, by omega, HYT.out, HYR.out, (show Blk _ _ _ #[.bool (decide (Y < 0)), .string (bstr Y.natAbs)] from (HB5.out.set 0 (.bool (decide (Y < 0)))).set 1 (.string (bstr Y.natAbs))), (HG5.out.setCell (p := ⟨w2.heap.size, 0, none⟩) (Nat.le_refl _) _).setCell (p := ⟨w2.heap.size, 1, none⟩) (Nat.le_refl _) _⟩
        case measure => simp [intOf]; omega
      · obtain rfl : i = n := by omega
        have i1 : ¬ (i : Int) < (i : Int) := by omega
        obtain ⟨b0, b1⟩ := HB.out.p2
        have HBR3 := Lib.hid (HBR2.out.gr HG.out)
        obtain ⟨r0, r1⟩ := HBR3.out.p2
        have f0 := HBR3.out.frozen 0
        have f1 := HBR3.out.frozen 1
        have HXX := Lib.hid (show X = nrm zs by rw [HX.out, HN.out, List.take_length])
        go_wp2_with fail
        have hr := (HBR3.out.set 0 (.bool (decide (X < 0)))).set 1 (.string (bstr X.natAbs))
        obtain ⟨e0, e1⟩ := (show Blk _ _ _ #[.bool (decide (X < 0)), .string (bstr X.natAbs)] from hr).p2
        refine bodyPost_ret (v := .tuple #[.agg #[.bool (decide (X < 0)), .string (bstr X.natAbs)], .int .i64 0]) (by simp only [Nat.add_assoc, Nat.reduceAdd]; simp [results, Try.results11, go_sem, e0, e1]) rfl ?_
        exact ⟨X, 0, rfl, ((HG2.out.trans HG.out).setCell (p := ⟨w.heap.size + 2, 0, none⟩) (by simp) _).setCell (p := ⟨w.heap.size + 2, 1, none⟩) (by simp) _, .inl ⟨HOK.out, rfl, zs, HZ.out, HXX.out⟩⟩
  · have HNO := Lib.hid hno
    clear hno
    obtain ⟨r0, r1⟩ := HBR1.out.p2
    have f0 := HBR1.out.frozen 0
    have f1 := HBR1.out.frozen 1
    go_wp2_with fail
    have hr := (HBR1.out.set 0 (.bool false)).set 1 (.string ⟨#[]⟩)
    obtain ⟨e0, e1⟩ := (show Blk _ _ _ #[.bool false, .string ⟨#[]⟩] from hr).p2
    refine bodyPost_ret (v := .tuple #[.agg #[.bool false, .string ⟨#[]⟩], .int .i64 2]) (by simp only [Nat.add_assoc, Nat.reduceAdd]; simp [results, Try.results11, go_sem, e0, e1]) rfl ?_
    exact ⟨0, 2, by rw [wv_zero], (HG1.out.setCell (p := ⟨w.heap.size + 2, 0, none⟩) (by simp) _).setCell (p := ⟨w.heap.size + 2, 1, none⟩) (by simp) _, .inr ⟨HNO.out, rfl, rfl⟩⟩
end Go.Proofs.Ytlfiakpmnkhcdaa.Mo
