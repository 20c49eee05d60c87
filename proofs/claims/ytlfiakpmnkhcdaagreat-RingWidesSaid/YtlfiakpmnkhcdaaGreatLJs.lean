import Derived.Test.YtlfiakpmnkhcdaaGreatLJq
import Derived.Test.YtlfiakpmnkhcdaaGreatLWI
import Derived.Test.YtlfiakpmnkhcdaaGreatLWO
namespace Go.Proofs.YtlfiakpmnkhcdaaGreat.Mo
open Go.RowKit Go.Shelf
set_option linter.unusedVariables false
theorem wabs_any (x : Int) (w : World) (hx : InR x) : Calls Tryz.prog 79 #[wv x] w (fun e w' => e = .returned (.tuple #[wv (x.natAbs : Int), .int .i64 0]) ∧ Gr w w') := by
 refine (Go.Proofs.YtlfiakpmnkhcdaaGreat.abs_ok _ _ w (form_bstr x hx)).mono ?_
 rintro e w' ⟨rfl, hg⟩
 have h : InR (x.natAbs : Int) := by unfold InR at *; omega
 rw [zOf_bstr, fNeg_in h, fStr_in h, fErr_in h]
 exact ⟨rfl, hg⟩
theorem wmax_any (x y : Int) (w : World) (hx : InR x) (hy : InR y) : Calls Tryz.prog 80 #[wv x, wv y] w (fun e w' => e = .returned (.tuple #[wv (if x < y then y else x), .int .i64 0]) ∧ Gr w w') := by
 refine (Go.Proofs.YtlfiakpmnkhcdaaGreat.max_ok _ _ _ _ w (form_bstr x hx) (form_bstr y hy)).mono ?_
 rintro e w' ⟨rfl, hg⟩
 have e1 : (if sgn x y < 0 then y else x) = if x < y then y else x := by
  unfold sgn
  by_cases h : x < y
  ·rw [if_pos h, if_pos (by omega), if_pos h]
  ·rw [if_neg h, if_neg h, if_neg (by split <;> omega)]
 have h : InR (if x < y then y else x) := by split <;> assumption
 rw [zOf_bstr, zOf_bstr, e1, fNeg_in h, fStr_in h, fErr_in h]
 exact ⟨rfl, hg⟩
def nrm (zs : List Int) : Int := zs.foldl (fun a z => if a < (z.natAbs : Int) then (z.natAbs : Int) else a) 0
theorem nrm_take {zs : List Int} {i : Nat} (hi : i < zs.length) : nrm (zs.take (i + 1)) = if nrm (zs.take i) < ((Op.cf zs i).natAbs : Int) then ((Op.cf zs i).natAbs : Int) else nrm (zs.take i) := by
 unfold nrm
 rw [List.take_add_one, List.foldl_append]
 have e : zs[i]? = some (Op.cf zs i) := by rw [← Op.cf_at, List.getElem?_eq_getElem hi]; rfl
 rw [e]
 rfl
theorem joinV_inR {l r : List Int} {X : Int} (hs : Sys l) (h : JoinV l r X) : InR X := by
 have h1 := h.1
 have h2 := pr_le hs.1
 exact inR_of (n := l.length) hs.2.2.2.2 (by omega) (by omega)
def NmP (N : Int) (ch : List Int) (S : Int) (lv : Int) (sp : Bool) (rows : List (List Int)) (w : World) (e : Ending) (w' : World) : Prop :=
 ∃ X c, e = .returned (.tuple #[wv X, .int .i64 c]) ∧ Gr w w' ∧ ((WdOK N ch S lv sp rows ∧ c = 0 ∧ ∃ zs, WdZ N (Oj.mods ch S lv.toNat sp) rows zs ∧ X = nrm zs) ∨ (¬ WdOK N ch S lv sp rows ∧ c = 2 ∧ X = 0))
theorem HasW.at_ {W : World} {a : Option Addr} {n c : Nat} {zs : List Int} (h : HasW W (.slice a n c) zs) {i : Nat} (hi : i < zs.length) : ∃ g, a = some ⟨g, 0, none⟩ ∧ W.cell? ⟨g, i * 2, none⟩ = some (.bool (decide (Op.cf zs i < 0))) ∧ W.cell? ⟨g, i * 2 + 1, none⟩ = some (.string (bstr (Op.cf zs i).natAbs)) := by
 obtain ⟨a', c', e, -, -, h3⟩ := h
 cases e
 exact h3 i hi
theorem Blk.p2 {W : World} {b : Nat} {t : TypeId} {a0 a1 : Value} (h : Blk W b t #[a0, a1]) : W.cell? ⟨b, 0, none⟩ = some a0 ∧ W.cell? ⟨b, 1, none⟩ = some a1 := ⟨h.cell 0, h.cell 1⟩
set_option maxRecDepth 100000 in
set_option maxHeartbeats 4000000 in
theorem norm_any (N p1 p2 : Int) (xC : Option Addr) (nC cC : Nat) (S p5 p6 : Int) (lv : Int) (sp : Bool) (ch : List Int) (uA : Value) (rows : List (List Int)) (w : World) (h3 : ch.length ≤ 1000) (hC : HasP w (.slice xC nC cC) ch) (hS : 0 ≤ S ∧ S < 4294967296) (hA : HasR w uA rows) :
  Calls Tryz.prog 36 #[.agg #[.int .i64 N, .int .u32 p1, .int .i64 p2, .slice xC nC cC, .int .u32 S, .int .i64 p5, .int .u32 p6], .agg #[.int .i64 lv, .bool sp, uA]] w (NmP N ch S lv sp rows w) := by
 obtain ⟨xA, cA, rfl⟩ := hA.form
 generalize hnA : rows.length = nA at *
 obtain ⟨W0, hW0⟩ : ∃ W0, W0 = ((w.alloc (.cells #[.int .i64 N, .int .u32 p1, .int .i64 p2, .slice xC nC cC, .int .u32 S, .int .i64 p5, .int .u32 p6] 25)).alloc (.cells #[.int .i64 lv, .bool sp, .slice xA nA cA] 28)).alloc (.cells #[.bool false, .string ⟨#[]⟩] 50) := ⟨_, rfl⟩
 have HG0 := Lib.hid (show Gr w W0 by rw [hW0]; exact ((Gr.new w _).alloc _).alloc _)
 have HBR := Lib.hid (show Blk W0 (w.heap.size + 2) 50 #[.bool false, .string ⟨#[]⟩] by rw [hW0]; exact Blk.newk _ _ (by simp))
 have HCALL := Lib.hid (wides_any N p1 p2 xC nC cC S p5 p6 lv sp ch (.slice xA nA cA) rows W0 h3 (hC.later HG0.out) hS (hA.later HG0.out))
 have HDIM := Lib.hid (show WdOK N ch S lv sp rows → 4 ≤ N ∧ N ≤ 32 from fun h => by have := h.1.1.1; unfold DimI at this; omega)
 clear hC hA hS hnA h3
 go_enter Tryz.func36, Tryz.ntmps36
 go_wp2_with fail
 rw [← hW0]
 refine HCALL.out.mono ?_
 rintro e w1 ⟨v, zs, c, rfl, hg1, hw, hr⟩
 have HGK := Lib.hid hg1
 have HG1 := Lib.hid (HG0.out.trans hg1)
 have HBR1 := Lib.hid (HBR.out.gr hg1)
 have HW := Lib.hid hw
 obtain ⟨a, cz, rfl, -, -, -⟩ := hw
 clear hg1 hW0
 rcases hr with ⟨hok, rfl, hz⟩ | ⟨hno, rfl, rfl⟩
 ·have HOK := Lib.hid hok
  have HZ := Lib.hid hz
  have HIN := Lib.hid (show ∀ i, i < zs.length → InR (Op.cf zs i) from fun i hi => joinV_inR hok.2.sys (hz.2 i hi))
  obtain ⟨n, hn⟩ : ∃ n, n = zs.length := ⟨_, rfl⟩
  have HN := Lib.hid hn
  have hn32 : n ≤ 1000 := by have h1 := hz.1; have h2 := HDIM.out hok; omega
  rw [← hn]
  clear hok hz hn
  go_wp2_with fail
  refine (wof_any 0 _ (by unfold isW; decide)).mono ?_
  rintro e w2 ⟨rfl, hg2⟩
  have HG2 := Lib.hid (HG1.out.trans hg2)
  have HGK2 := Lib.hid (HGK.out.trans hg2)
  have HBR2 := Lib.hid (HBR1.out.gr hg2)
  have HW2 := Lib.hid (HW.out.later hg2)
  clear hg2
  rw [show wv 0 = .agg #[.bool (decide ((0 : Int) < 0)), .string (bstr (0 : Int).natAbs)] from rfl]
  have hb8 := Blk.new w2 50 #[.bool (decide ((0 : Int) < 0)), .string (bstr (0 : Int).natAbs)]
  have hg8 := Gr.new w2 (.cells #[.bool (decide ((0 : Int) < 0)), .string (bstr (0 : Int).natAbs)] 50)
  have HB8 := Lib.hid hb8
  have HG8 := Lib.hid hg8
  clear hb8 hg8
  go_wp2_with fail
  go_loopw [10, 11, 12, 26] (fun _ _ _ t wr => ∃ (i : Nat) (X : Int), t = .int .i64 i ∧ i ≤ n ∧ X = nrm (zs.take i) ∧ InR X ∧ Blk wr w2.heap.size 50 #[.bool (decide (X < 0)), .string (bstr X.natAbs)] ∧ Gr w2 wr) (fun _ _ _ t _ => n - (intOf t).toNat)
  case atStart => exact ⟨0, 0, rfl, by omega, rfl, by unfold InR Ow.R; simp, HB8.out, HG8.out⟩
  case round =>
   obtain ⟨i, X, rfl, hi, hX, hin, hb, hg⟩ := hrel
   have HX := Lib.hid hX
   have HINX := Lib.hid hin
   have HB := Lib.hid hb
   have HG := Lib.hid hg
   clear hX hin hb hg
   by_cases hlt : i < n
   ·have i1 : (i : Int) < (n : Int) := by omega
    have i0 : (0 : Int) ≤ (i : Int) := by omega
    have hil : i < zs.length := by rw [← HN.out]; exact hlt
    obtain ⟨g, rfl, c1, c2⟩ := (HW2.out.later HG.out).at_ hil
    have hz := HIN.out i hil
    have HT := Lib.hid (nrm_take hil)
    obtain ⟨z, hze⟩ : ∃ z, z = Op.cf zs i := ⟨_, rfl⟩
    rw [← hze] at c1 c2 hz HT
    have HZI := Lib.hid hz
    have hzz : InR (z.natAbs : Int) := by unfold InR at *; omega
    have HZZ := Lib.hid hzz
    clear hil hz hze hzz
    go_wp2_with fail
    refine (wabs_any z _ HZI.out).mono ?_
    rintro e w3 ⟨rfl, hg3⟩
    have hg3' := (Gr.new wr _).trans hg3
    have HB3 := Lib.hid (HB.out.gr hg3')
    have HG3 := Lib.hid (HG.out.trans hg3')
    clear hg3 hg3'
    obtain ⟨Z, hZ⟩ : ∃ Z : Int, Z = (z.natAbs : Int) := ⟨_, rfl⟩
    rw [← hZ] at HZZ HT
    rw [← hZ]
    clear hZ
    rw [show wv Z = .agg #[.bool (decide (Z < 0)), .string (bstr Z.natAbs)] from rfl]
    have hg4 := Gr.new w3 (.cells #[.bool (decide (Z < 0)), .string (bstr Z.natAbs)] 50)
    obtain ⟨b0, b1⟩ := (HB3.out.gr hg4).p2
    have HG4 := Lib.hid (HG3.out.trans hg4)
    have HB4 := Lib.hid (HB3.out.gr hg4)
    clear hg4
    go_wp2_with fail
    refine (wmax_any X Z _ HINX.out HZZ.out).mono ?_
    rintro e w5 ⟨rfl, hg5⟩
    have HB5 := Lib.hid (HB4.out.gr hg5)
    have HG5 := Lib.hid (HG4.out.trans hg5)
    clear hg5 b0 b1
    obtain ⟨Y, hY⟩ : ∃ Y : Int, Y = (if X < Z then Z else X) := ⟨_, rfl⟩
    have HYR := Lib.hid (show InR Y by rw [hY]; split; exact HZZ.out; exact HINX.out)
    have HYT := Lib.hid (show Y = nrm (zs.take (i + 1)) by rw [HT.out, hY, ← HX.out])
    rw [← hY]
    clear hY
    rw [show wv Y = .agg #[.bool (decide (Y < 0)), .string (bstr Y.natAbs)] from rfl]
    obtain ⟨b0, b1⟩ := HB5.out.p2
    have f0 := HB5.out.frozen 0
    have f1 := HB5.out.frozen 1
    go_wp2_with fail
    go_roundw
    case rel => exact ⟨i + 1, Y, by go_num, by omega, HYT.out, HYR.out, (show Blk _ _ _ #[.bool (decide (Y < 0)), .string (bstr Y.natAbs)] from (HB5.out.set 0 (.bool (decide (Y < 0)))).set 1 (.string (bstr Y.natAbs))), (HG5.out.setCell (p := ⟨w2.heap.size, 0, none⟩) (Nat.le_refl _) _).setCell (p := ⟨w2.heap.size, 1, none⟩) (Nat.le_refl _) _⟩
    case measure => simp [intOf]; omega
   ·obtain rfl : i = n := by omega
    have i1 : ¬ (i : Int) < (i : Int) := by omega
    obtain ⟨b0, b1⟩ := HB.out.p2
    have HBR3 := Lib.hid (HBR2.out.gr HG.out)
    obtain ⟨r0, r1⟩ := HBR3.out.p2
    have f0 := HBR3.out.frozen 0
    have f1 := HBR3.out.frozen 1
    have HXX := Lib.hid (show X = nrm zs by rw [HX.out, HN.out, List.take_length])
    go_wp2_with fail
    have hr := (HBR3.out.set 0 (.bool (decide (X < 0)))).set 1 (.string (bstr X.natAbs))
    obtain ⟨e0, e1⟩ := (show Blk _ _ _ #[.bool (decide (X < 0)), .string (bstr X.natAbs)] from hr).p2
    refine bodyPost_ret (v := .tuple #[.agg #[.bool (decide (X < 0)), .string (bstr X.natAbs)], .int .i64 0]) (by simp only [Nat.add_assoc, Nat.reduceAdd]; simp [results, Tryz.results36, go_sem, e0, e1]) rfl ?_
    exact ⟨X, 0, rfl, ((HG2.out.trans HG.out).setCell (p := ⟨w.heap.size + 2, 0, none⟩) (by simp) _).setCell (p := ⟨w.heap.size + 2, 1, none⟩) (by simp) _, .inl ⟨HOK.out, rfl, zs, HZ.out, HXX.out⟩⟩
 ·have HNO := Lib.hid hno
  clear hno
  obtain ⟨r0, r1⟩ := HBR1.out.p2
  have f0 := HBR1.out.frozen 0
  have f1 := HBR1.out.frozen 1
  go_wp2_with fail
  have hr := (HBR1.out.set 0 (.bool false)).set 1 (.string ⟨#[]⟩)
  obtain ⟨e0, e1⟩ := (show Blk _ _ _ #[.bool false, .string ⟨#[]⟩] from hr).p2
  refine bodyPost_ret (v := .tuple #[.agg #[.bool false, .string ⟨#[]⟩], .int .i64 2]) (by simp only [Nat.add_assoc, Nat.reduceAdd]; simp [results, Tryz.results36, go_sem, e0, e1]) rfl ?_
  exact ⟨0, 2, by rw [wv_zero], (HG1.out.setCell (p := ⟨w.heap.size + 2, 0, none⟩) (by simp) _).setCell (p := ⟨w.heap.size + 2, 1, none⟩) (by simp) _, .inr ⟨HNO.out, rfl, rfl⟩⟩
end Go.Proofs.YtlfiakpmnkhcdaaGreat.Mo
namespace Go.Proofs.YtlfiakpmnkhcdaaGreat.Mo
open Go.RowKit Go.Shelf
set_option linter.unusedVariables false
theorem four_hasQ (W : World) (x y z t : Int) (g : Nat) (hg : g = W.heap.size) (hx : Lo.I64 [x, y, z, t]) : Lo.HasQ (W.alloc (.cells #[.int .i64 x, .int .i64 y, .int .i64 z, .int .i64 t] 2)) (.slice (some ⟨g, 0, none⟩) 4 4) [x, y, z, t] := by
 subst hg
 refine ⟨hx, _, 4, rfl, Nat.le_refl _, by omega, fun i hi => ⟨_, 0, rfl, ?_⟩⟩
 have : i = 0 ∨ i = 1 ∨ i = 2 ∨ i = 3 := by simp at hi; omega
 rcases this with rfl | rfl | rfl | rfl <;> simp [go_sem]
theorem i64_dec {l : List Int} (h : ∀ x ∈ l, -100 ≤ x ∧ x ≤ 100) : Lo.I64 l := fun x hx => by have := h x hx; omega
theorem u32_dec {l : List Int} (h : ∀ x ∈ l, 0 ≤ x ∧ x ≤ 1000) : U32 l := fun x hx => by have := h x hx; omega
theorem two_hasP (W : World) (x y : Int) (g : Nat) (hg : g = W.heap.size) (hx : U32 [x, y]) : HasP (W.alloc (.cells #[.int .u32 x, .int .u32 y] 22)) (.slice (some ⟨g, 0, none⟩) 2 2) [x, y] := by
 subst hg
 refine ⟨hx, _, 2, rfl, Nat.le_refl _, by omega, fun i hi => ⟨_, 0, rfl, ?_⟩⟩
 have : i = 0 ∨ i = 1 := by simp at hi; omega
 rcases this with rfl | rfl <;> simp [go_sem]
theorem vp17 : VP 4 [17, 97] 41 := by decide +kernel
theorem mods17 : Oj.mods [17, 97] 41 2 false = [17, 97] := by decide +kernel
theorem rows17 : rwA (Oj.mods [17, 97] 41 2 false) (fun _ m => resR 4 m [1, -1, 20, 0]) = [[1, 16, 3, 0], [1, 96, 20, 0]] := by decide +kernel
theorem fi17 : fiE 4 [17, 97] 41 2 false 4 = 0 := by decide +kernel
theorem ev17 : EV 4 [17, 97] 41 2 false [[1, 16, 3, 0], [1, 96, 20, 0]] := by decide +kernel
theorem prm17 : Prm 17 := .inr ⟨by decide, by decide, .inr ⟨1, 4, by decide, by decide, .inr ⟨2, by decide, by decide +kernel⟩⟩, .inr ⟨1, 4, by decide, by decide, .inr ⟨3, by decide, by decide +kernel⟩⟩, .inr ⟨1, 4, by decide, by decide, .inr ⟨3, by decide, by decide +kernel⟩⟩⟩
theorem prm97 : Prm 97 := .inr ⟨by decide, by decide, .inr ⟨3, 5, by decide, by decide, .inr ⟨3, by decide, by decide +kernel⟩⟩, .inr ⟨3, 5, by decide, by decide, .inr ⟨4, by decide, by decide +kernel⟩⟩, .inr ⟨3, 5, by decide, by decide, .inl (by decide +kernel)⟩⟩
theorem dis17 : Dis [17, 97] := by
 refine ⟨by decide, by decide, fun i hi => ?_⟩
 have : i = 0 ∨ i = 1 := by simp at hi; omega
 rcases this with rfl | rfl
 ·exact ⟨by decide, by decide, prm17, by decide⟩
 ·exact ⟨by decide, by decide, prm97, by decide⟩
instance (l r : List Int) (X : Int) : Decidable (JoinV l r X) := by unfold JoinV; infer_instance
theorem wdOK17 : WdOK 4 [17, 97] 41 2 false [[1, 16, 3, 0], [1, 96, 20, 0]] := ⟨⟨vp17, ev17⟩, by rw [show ((2 : Int).toNat) = 2 from rfl, mods17]; exact dis17⟩
theorem list_four {zs : List Int} {a b c d : Int} (hl : zs.length = 4) (h0 : Op.cf zs 0 = a) (h1 : Op.cf zs 1 = b) (h2 : Op.cf zs 2 = c) (h3 : Op.cf zs 3 = d) : zs = [a, b, c, d] := by
 apply Op.ext_cf (by rw [hl]; rfl)
 intro i
 by_cases hi : i < 4
 ·have : i = 0 ∨ i = 1 ∨ i = 2 ∨ i = 3 := by omega
  rcases this with rfl | rfl | rfl | rfl
  ·exact h0
  ·exact h1
  ·exact h2
  ·exact h3
 ·rw [Op.cf_out (by omega), Op.cf_out (by simp; omega)]
theorem wdZ17 {zs : List Int} (h : WdZ 4 (Oj.mods [17, 97] 41 (2 : Int).toNat false) [[1, 16, 3, 0], [1, 96, 20, 0]] zs) : zs = [1, -1, 20, 0] := by
 rw [show ((2 : Int).toNat) = 2 from rfl, mods17] at h
 have hl : zs.length = 4 := by have := h.1; omega
 have hs := dis17.sys
 exact list_four hl ((h.2 0 (by omega)).unique hs (by decide +kernel)) ((h.2 1 (by omega)).unique hs (by decide +kernel)) ((h.2 2 (by omega)).unique hs (by decide +kernel)) ((h.2 3 (by omega)).unique hs (by decide +kernel))
theorem norm17 {X c : Int} (h : (WdOK 4 [17, 97] 41 2 false [[1, 16, 3, 0], [1, 96, 20, 0]] ∧ c = 0 ∧ ∃ zs, WdZ 4 (Oj.mods [17, 97] 41 (2 : Int).toNat false) [[1, 16, 3, 0], [1, 96, 20, 0]] zs ∧ X = nrm zs) ∨ (¬ WdOK 4 [17, 97] 41 2 false [[1, 16, 3, 0], [1, 96, 20, 0]] ∧ c = 2 ∧ X = 0)) : c = 0 ∧ X = 20 := by
 rcases h with ⟨_, h1, zs, h2, h3⟩ | ⟨h1, _⟩
 ·rw [wdZ17 h2] at h3
  exact ⟨h1, h3.trans (by decide)⟩
 ·exact absurd wdOK17 h1
theorem resE_ok {lv : Int} {sp : Bool} {ls : List (List Int)} {w w' : World} {e : Ending} (h : ResE 0 lv sp ls w e w') : ∃ x c, e = .returned (.tuple #[.agg #[.int .i64 lv, .bool sp, .slice x ls.length c], .int .i64 0]) ∧ HasB w' w.heap.size w'.heap.size (.slice x ls.length c) ls ∧ Gr w w' := by
 obtain ⟨lv', sp', ls', u, rfl, h1, h2, h3⟩ := h
 rcases h1 with ⟨_, rfl, rfl, rfl⟩ | ⟨h, _⟩
 ·obtain ⟨x, c, rfl⟩ := h2.form
  exact ⟨x, c, rfl, h2, h3⟩
 ·exact absurd h (by decide)
theorem two_hasR {W : World} {g1 g2 g3 : Nat} {l1 l2 : List Int} (n1 n2 c1 c2 : Nat) (e1 : n1 = l1.length) (e2 : n2 = l2.length) (h1 : HasP W (.slice (some ⟨g1, 0, none⟩) n1 c1) l1) (h2 : HasP W (.slice (some ⟨g2, 0, none⟩) n2 c2) l2) (h3 : g3 < W.heap.size) (h4 : g1 < W.heap.size) (h5 : g2 < W.heap.size) (h6 : W.cell? ⟨g3, 0, none⟩ = some (.slice (some ⟨g1, 0, none⟩) n1 c1)) (h7 : W.cell? ⟨g3, 1, none⟩ = some (.slice (some ⟨g2, 0, none⟩) n2 c2)) : HasR W (.slice (some ⟨g3, 0, none⟩) 2 2) [l1, l2] := by
 subst e1 e2
 refine ⟨_, _, rfl, Nat.le_refl _, by omega, fun i hi => ?_⟩
 have : i = 0 ∨ i = 1 := by simp at hi; omega
 rcases this with rfl | rfl
 ·exact ⟨g3, 0, _, c1, rfl, Nat.zero_le _, h3, h6, h1, fun _ p hp => by cases hp; exact ⟨Nat.zero_le _, h4⟩⟩
 ·exact ⟨g3, 0, _, c2, rfl, Nat.zero_le _, h3, h7, h2, fun _ p hp => by cases hp; exact ⟨Nat.zero_le _, h5⟩⟩
theorem four_hasP (W : World) (x y z t : Int) (g : Nat) (hg : g = W.heap.size) (hx : U32 [x, y, z, t]) : HasP (W.alloc (.cells #[.int .u32 x, .int .u32 y, .int .u32 z, .int .u32 t] 22)) (.slice (some ⟨g, 0, none⟩) 4 4) [x, y, z, t] := by
 subst hg
 refine ⟨hx, _, 4, rfl, Nat.le_refl _, by omega, fun i hi => ⟨_, 0, rfl, ?_⟩⟩
 have : i = 0 ∨ i = 1 ∨ i = 2 ∨ i = 3 := by simp at hi; omega
 rcases this with rfl | rfl | rfl | rfl <;> simp [go_sem]
theorem newrows (W : World) (g : Nat) (hg : g = W.heap.size) (x y z t x' y' z' t' : Int) (h1 : U32 [x, y, z, t]) (h2 : U32 [x', y', z', t']) :
  HasR (((W.alloc (.cells #[.int .u32 x, .int .u32 y, .int .u32 z, .int .u32 t] 22)).alloc (.cells #[.int .u32 x', .int .u32 y', .int .u32 z', .int .u32 t'] 22)).alloc (.cells #[.slice (some ⟨g, 0, none⟩) 4 4, .slice (some ⟨g + 1, 0, none⟩) 4 4] 23)) (.slice (some ⟨g + 1 + 1, 0, none⟩) 2 2) [[x, y, z, t], [x', y', z', t']] :=
 two_hasR 4 4 4 4 rfl rfl (((four_hasP W x y z t g hg h1).later (Gr.new _ _)).later (Gr.new _ _)) ((four_hasP _ x' y' z' t' (g + 1) (by subst hg; simp) h2).later (Gr.new _ _)) (by subst hg; simp) (by subst hg; simp; omega) (by subst hg; simp) (by subst hg; simp [go_sem]) (by subst hg; simp [go_sem])
theorem newrows' (W : World) (g : Nat) (hg : g = W.heap.size) (x y z t x' y' z' t' : Int) (h1 : U32 [x, y, z, t]) (h2 : U32 [x', y', z', t']) :
  HasR (((W.alloc (.cells #[.int .u32 x', .int .u32 y', .int .u32 z', .int .u32 t'] 22)).alloc (.cells #[.int .u32 x, .int .u32 y, .int .u32 z, .int .u32 t] 22)).alloc (.cells #[.slice (some ⟨g + 1, 0, none⟩) 4 4, .slice (some ⟨g, 0, none⟩) 4 4] 23)) (.slice (some ⟨g + 1 + 1, 0, none⟩) 2 2) [[x, y, z, t], [x', y', z', t']] :=
 two_hasR 4 4 4 4 rfl rfl ((four_hasP _ x y z t (g + 1) (by subst hg; simp) h1).later (Gr.new _ _)) (((four_hasP W x' y' z' t' g hg h2).later (Gr.new _ _)).later (Gr.new _ _)) (by subst hg; simp) (by subst hg; simp) (by subst hg; simp; omega) (by subst hg; simp [go_sem]) (by subst hg; simp [go_sem])
theorem from17_any (xC : Option Addr) (uL : Value) (w : World) (hC : HasP w (.slice xC 2 2) [17, 97]) (hL : Lo.HasQ w uL [1, -1, 20, 0]) : Calls Tryz.prog 15 #[.agg #[.int .i64 4, .int .u32 0, .int .i64 0, .slice xC 2 2, .int .u32 41, .int .i64 0, .int .u32 0], .int .i64 2, .bool false, uL] w (ResE 0 2 false [[1, 16, 3, 0], [1, 96, 20, 0]] w) := by
 have h := rFromInts_any 4 0 0 xC 2 2 41 0 0 2 false [17, 97] uL [1, -1, 20, 0] w (by decide) hC (by decide) hL
 have e1 : fiE 4 [17, 97] 41 2 false [(1 : Int), -1, 20, 0].length = 0 := fi17
 have e2 : rwA (Oj.mods [17, 97] 41 (2 : Int).toNat false) (fun _ m => resR [(1 : Int), -1, 20, 0].length m [1, -1, 20, 0]) = [[1, 16, 3, 0], [1, 96, 20, 0]] := rows17
 rw [e1, e2] at h
 exact h
theorem norm17_any (xC : Option Addr) (uA : Value) (w : World) (hC : HasP w (.slice xC 2 2) [17, 97]) (hA : HasR w uA [[1, 16, 3, 0], [1, 96, 20, 0]]) : Calls Tryz.prog 36 #[.agg #[.int .i64 4, .int .u32 0, .int .i64 0, .slice xC 2 2, .int .u32 41, .int .i64 0, .int .u32 0], .agg #[.int .i64 2, .bool false, uA]] w (fun e w' => e = .returned (.tuple #[wv 20, .int .i64 0]) ∧ Gr w w') := by
 refine (norm_any 4 0 0 xC 2 2 41 0 0 2 false [17, 97] uA _ w (by decide) hC (by decide) hA).mono ?_
 rintro e w' ⟨X, c, rfl, hg, h⟩
 obtain ⟨rfl, rfl⟩ := norm17 h
 exact ⟨rfl, hg⟩
theorem same17_any (u v : Value) (w : World) (hu : HasR w u [[1, 16, 3, 0], [1, 96, 20, 0]]) (hv : HasR w v [[1, 16, 3, 0], [1, 96, 20, 0]]) : Calls Tryz.prog 31 #[.agg #[.int .i64 2, .bool false, u], .agg #[.int .i64 2, .bool false, v]] w (fun e w' => e = .returned (.bool true) ∧ Gr w w') := by
 refine (rSame_any 2 false 2 false _ _ u v w hu hv ⟨by decide, by decide⟩ ⟨by decide, by decide⟩).mono ?_
 rintro e w' ⟨rfl, hg⟩
 exact ⟨by rw [show decide (SameE 2 false [[1, 16, 3, 0], [1, 96, 20, 0]] 2 false [[1, 16, 3, 0], [1, 96, 20, 0]]) = true from by decide], hg⟩
theorem nsame17_any (u : Value) (w : World) (hu : HasR w u [[1, 16, 3, 0], [1, 96, 20, 0]]) : Calls Tryz.prog 31 #[.agg #[.int .i64 2, .bool false, u], .agg #[.int .i64 0, .bool false, .slice none 0 0]] w (fun e w' => e = .returned (.bool false) ∧ Gr w w') := by
 refine (rSame_any 2 false 0 false _ [] u _ w hu (HasR.nil w) ⟨by decide, by decide⟩ ⟨by decide, by decide⟩).mono ?_
 rintro e w' ⟨rfl, hg⟩
 exact ⟨by rw [show decide (SameE 2 false [[1, 16, 3, 0], [1, 96, 20, 0]] 0 false []) = false from by decide], hg⟩
set_option maxRecDepth 100000 in
set_option maxHeartbeats 4000000 in
theorem awake9_any (w : World) : Calls Tryz.prog 12 #[] w (Truth w) := by
 have HU1 := Lib.hid (i64_dec (l := [1, -1, 20, 0]) (by decide))
 have HU2 := Lib.hid (u32_dec (l := [17, 97]) (by decide))
 go_enter Tryz.func12, Tryz.ntmps12
 go_wp2_with fail
 obtain ⟨W3, hW3⟩ : ∃ W3, W3 = ((w.alloc (.cells #[.int .u32 17, .int .u32 97] 22)).alloc (.cells #[.int .i64 4, .int .u32 0, .int .i64 0, .slice (some ⟨w.heap.size, 0, none⟩) 2 2, .int .u32 41, .int .i64 0, .int .u32 0] 25)).alloc (.cells #[.int .i64 1, .int .i64 (-1), .int .i64 20, .int .i64 0] 2) := ⟨_, rfl⟩
 have HG3 := Lib.hid (show Gr w W3 by rw [hW3]; exact ((Gr.new w _).alloc _).alloc _)
 have HC3 := Lib.hid (show HasP W3 (.slice (some ⟨w.heap.size, 0, none⟩) 2 2) [17, 97] by rw [hW3]; exact (two_hasP w 17 97 _ rfl HU2.out).later ((Gr.new _ _).alloc _))
 have HL3 := Lib.hid (show Lo.HasQ W3 (.slice (some ⟨w.heap.size + 1 + 1, 0, none⟩) 4 4) [1, -1, 20, 0] by rw [hW3]; exact four_hasQ _ 1 (-1) 20 0 _ (by simp) HU1.out)
 have HP3 := Lib.hid (show Blk W3 (w.heap.size + 1) 25 #[.int .i64 4, .int .u32 0, .int .i64 0, .slice (some ⟨w.heap.size, 0, none⟩) 2 2, .int .u32 41, .int .i64 0, .int .u32 0] by rw [hW3]; exact (Blk.newk _ _ (by simp)).gr (Gr.new _ _))
 rw [← hW3]
 clear hW3
 refine (from17_any _ _ _ HC3.out HL3.out).mono ?_
 intro e w1 hres
 obtain ⟨x1, c1, rfl, hb1, hg1⟩ := resE_ok hres
 have hg2 := Gr.new w1 (.cells #[.int .i64 2, .bool false, .slice x1 2 c1] 28)
 have HG2 := Lib.hid ((HG3.out.trans hg1).trans hg2)
 have HC2 := Lib.hid (HC3.out.later (hg1.trans hg2))
 have HP2 := Lib.hid (HP3.out.gr (hg1.trans hg2))
 have HA2 := Lib.hid (hb1.hasR.later hg2)
 have HE2 := Lib.hid (Blk.new w1 28 #[.int .i64 2, .bool false, .slice x1 2 c1])
 obtain ⟨q0, q1, q2, q3, q4, q5, q6⟩ := HP2.out.p7
 clear hres hb1 hg1 hg2
 rw [show [[(1 : Int), 16, 3, 0], [1, 96, 20, 0]].length = 2 from rfl] at *
 go_wp2_with fail
 refine (norm17_any _ _ _ HC2.out HA2.out).mono ?_
 rintro e w3 ⟨rfl, hg3⟩
 obtain ⟨s, hs⟩ : ∃ s, s = bstr 20 := ⟨_, rfl⟩
 rw [show wv 20 = .agg #[.bool false, .string s] by rw [hs]; rfl]
 have hg4 := Gr.new w3 (.cells #[.bool false, .string s] 50)
 have HG4 := Lib.hid ((HG2.out.trans hg3).trans hg4)
 have HA4 := Lib.hid (HA2.out.later (hg3.trans hg4))
 have HE4 := Lib.hid (HE2.out.gr (hg3.trans hg4))
 have HN4 := Lib.hid (Blk.new w3 50 #[.bool false, .string s])
 have HOF := Lib.hid (show ∀ W, Calls Tryz.prog 44 #[.int .i64 20] W (fun e w' => e = .returned (.agg #[.bool false, .string s]) ∧ Gr W w') from fun W => (rof_any 20 W (by decide) (by decide)).mono (by rintro e w' ⟨rfl, hg⟩; exact ⟨by rw [hs]; rfl, hg⟩))
 have HU3 := Lib.hid (u32_dec (l := [1, 16, 3, 0]) (by decide))
 have HU4 := Lib.hid (u32_dec (l := [1, 96, 20, 0]) (by decide))
 clear hs hg3 hg4 q0 q1 q2 q3 q4 q5 q6
 obtain ⟨k0, k1, k2⟩ := HE4.out.p3
 go_wp2_with fail
 obtain ⟨ka0, kb0, kc0⟩ := (HE4.out.gr ((Gr.refl (w3.alloc (.cells #[.bool false, .string s] 50))).alloc (.cells #[.int .u32 1, .int .u32 16, .int .u32 3, .int .u32 0] 22))).p3
 obtain ⟨ka1, kb1, kc1⟩ := (HE4.out.gr ((Gr.refl (w3.alloc (.cells #[.bool false, .string s] 50))).alloc (.cells #[.int .u32 1, .int .u32 96, .int .u32 20, .int .u32 0] 22))).p3
 obtain ⟨ka2, kb2, kc2⟩ := (HE4.out.gr (((Gr.refl (w3.alloc (.cells #[.bool false, .string s] 50))).alloc (.cells #[.int .u32 1, .int .u32 16, .int .u32 3, .int .u32 0] 22)).alloc (.cells #[.int .u32 1, .int .u32 96, .int .u32 20, .int .u32 0] 22))).p3
 obtain ⟨ka3, kb3, kc3⟩ := (HE4.out.gr (((Gr.refl (w3.alloc (.cells #[.bool false, .string s] 50))).alloc (.cells #[.int .u32 1, .int .u32 96, .int .u32 20, .int .u32 0] 22)).alloc (.cells #[.int .u32 1, .int .u32 16, .int .u32 3, .int .u32 0] 22))).p3
 obtain ⟨ka4, kb4, kc4⟩ := (HE4.out.gr ((((Gr.refl (w3.alloc (.cells #[.bool false, .string s] 50))).alloc (.cells #[.int .u32 1, .int .u32 16, .int .u32 3, .int .u32 0] 22)).alloc (.cells #[.int .u32 1, .int .u32 96, .int .u32 20, .int .u32 0] 22)).alloc (.cells #[.slice (some ⟨w3.heap.size + 1, 0, none⟩) 4 4, .slice (some ⟨w3.heap.size + 1 + 1, 0, none⟩) 4 4] 23))).p3
 obtain ⟨ka5, kb5, kc5⟩ := (HE4.out.gr ((((Gr.refl (w3.alloc (.cells #[.bool false, .string s] 50))).alloc (.cells #[.int .u32 1, .int .u32 96, .int .u32 20, .int .u32 0] 22)).alloc (.cells #[.int .u32 1, .int .u32 16, .int .u32 3, .int .u32 0] 22)).alloc (.cells #[.slice (some ⟨w3.heap.size + 1 + 1, 0, none⟩) 4 4, .slice (some ⟨w3.heap.size + 1, 0, none⟩) 4 4] 23))).p3
 have HSZ := Lib.hid (show w3.heap.size + 1 = (w3.alloc (.cells #[.bool false, .string s] 50)).heap.size by simp)
 obtain ⟨n0, n1⟩ := HN4.out.p2
 go_region_held3 (fun wz => wz.cell? ⟨w1.heap.size, 0, none⟩ = some (.int .i64 2) ∧ wz.cell? ⟨w1.heap.size, 1, none⟩ = some (.bool false) ∧ wz.cell? ⟨w1.heap.size, 2, none⟩ = some (.slice x1 2 c1) ∧ wz.cell? ⟨w3.heap.size, 0, none⟩ = some (.bool false) ∧ wz.cell? ⟨w3.heap.size, 1, none⟩ = some (.string s)) (go_keep)
  ((first
  | (go_at_call 44; refine (HOF.out _).mono ?_; rintro e w6 ⟨rfl, g⟩; have HX := Lib.hid (Gr.trans HX.out g); clear g; obtain ⟨k0, k1, k2⟩ := (HE4.out.gr HX.out).p3; obtain ⟨n0, n1⟩ := (HN4.out.gr HX.out).p2)
  | (go_at_call 31; with_reducible refine (nsame17_any _ _ (HA4.out.later HX.out)).mono ?_; rintro e w6 ⟨rfl, g⟩; have HX := Lib.hid (Gr.trans HX.out g); clear g; obtain ⟨k0, k1, k2⟩ := (HE4.out.gr HX.out).p3; obtain ⟨n0, n1⟩ := (HN4.out.gr HX.out).p2)
  | (go_at_call 31; refine (same17_any _ _ _ (HA4.out.later (Below.drew ((((Gr.refl _).alloc _).alloc _).alloc _))) ((newrows _ _ HSZ.out 1 16 3 0 1 96 20 0 HU3.out HU4.out).later (Below.drew (Gr.refl _)))).mono ?_; rintro e w5 ⟨rfl, g⟩; have HX := Lib.hid (Gr.trans (Below.drew ((((Gr.refl (w3.alloc (.cells #[.bool false, .string s] 50))).alloc _).alloc _).alloc _)) g); clear g; obtain ⟨k0, k1, k2⟩ := (HE4.out.gr HX.out).p3; obtain ⟨n0, n1⟩ := (HN4.out.gr HX.out).p2)
  | (go_at_call 31; refine (same17_any _ _ _ (HA4.out.later (Below.drew ((((Gr.refl _).alloc _).alloc _).alloc _))) ((newrows' _ _ HSZ.out 1 16 3 0 1 96 20 0 HU3.out HU4.out).later (Below.drew (Gr.refl _)))).mono ?_; rintro e w5 ⟨rfl, g⟩; have HX := Lib.hid (Gr.trans (Below.drew ((((Gr.refl (w3.alloc (.cells #[.bool false, .string s] 50))).alloc _).alloc _).alloc _)) g); clear g; obtain ⟨k0, k1, k2⟩ := (HE4.out.gr HX.out).p3; obtain ⟨n0, n1⟩ := (HN4.out.gr HX.out).p2)))
 all_goals go_wp2_with fail
 all_goals go_ret
 all_goals exact ⟨rfl, HG4.out.trans HX.out⟩
end Go.Proofs.YtlfiakpmnkhcdaaGreat.Mo
