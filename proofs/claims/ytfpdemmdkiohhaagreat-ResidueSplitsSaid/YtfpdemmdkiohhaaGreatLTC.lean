import Derived.Test.YtfpdemmdkiohhaaGreatLTA
import Derived.Test.YtfpdemmdkiohhaaGreatLTB
import Derived.Test.YtfpdemmdkiohhaaGreatLWR
import Derived.Test.YtfpdemmdkiohhaaGreatLZE
/- The reference of package residue: Row, Split. -/
namespace Go.Proofs.YtfpdemmdkiohhaaGreat.Mo
open Go.RowKit
set_option linter.unusedVariables false

theorem rwmod_any (neg : Bool) (s : ByteArray) (p : Int) (w : World) (h : Form neg s) (hp : okP p) : Calls Tryz.prog 30 #[.agg #[.bool neg, .string s], .int .u32 p] w (fun e w' => e = .returned (.tuple #[.int .u32 (zOf neg s % p), .int .i64 0]) ∧ Gr w w') := by
  obtain ⟨n, rfl⟩ := Int.eq_ofNat_of_zero_le (show 0 ≤ p by have := hp.1; omega)
  have h1 := hp.1
  have h2 := hp.2
  have hn : n ≠ 0 := by omega
  refine (Go.Proofs.YtfpdemmdkiohhaaGreat.rmod_ok neg s n w h (by omega) hn).mono ?_
  rintro e w' ⟨rfl, hg⟩
  rw [resU_mod neg s h hn]
  exact ⟨rfl, hg⟩
/-- A place whose first cell holds the numbers. -/
def RefPr (W : World) (R : Nat) (l : List Int) : Prop := ∃ v, W.cell? ⟨R, 0, none⟩ = some v ∧ HasP W v l
theorem RefPr.later {W W' : World} {R : Nat} {l : List Int} (h : RefPr W R l) (g : Gr W W') : RefPr W' R l := by
  obtain ⟨v, h1, h2⟩ := h
  exact ⟨v, g.keeps h1, h2.later g⟩

set_option maxRecDepth 100000 in
set_option maxHeartbeats 4000000 in
theorem rrow_any (R : Nat) (l r : List Int) (vr : Value) (w : World) (h : RefPr w R l) (hu : HasP w vr r) (hl : l.length ≤ 25) : Calls Tryz.prog 35 #[.pointer (some ⟨R, 0, none⟩), vr] w (BoolPost (RowOf l r) w) := by
  obtain ⟨v, h0, hv⟩ := h
  obtain ⟨-, xa, ca, rfl, -, -, -⟩ := id hv
  obtain ⟨-, xb, cb, rfl, -, -, -⟩ := id hu
  obtain ⟨n, hn⟩ : ∃ n, n = l.length := ⟨_, rfl⟩
  obtain ⟨m, hm⟩ : ∃ m, m = r.length := ⟨_, rfl⟩
  rw [← hn] at hv h0 hl
  rw [← hm] at hu ⊢
  have HV := Lib.hid hv
  have HU := Lib.hid hu
  have HN := Lib.hid hn
  have HM := Lib.hid hm
  clear hv hu hn hm
  by_cases hnm : m = n
  · subst hnm
    go_enter Tryz.func35, Tryz.ntmps35
    go_wp2_with fail
    have H0 := Lib.hid h0
    clear h0
    go_loopw [5] (fun t wr => ∃ k : Nat, t = .int .i64 k ∧ k ≤ m ∧ (∀ i, i < k → Op.cf r i < Op.cf l i) ∧ Gr w wr) (fun t _ => m - (intOf t).toNat)
    case atStart => exact ⟨0, rfl, by omega, fun i hi => by omega, Gr.refl w⟩
    case round =>
      obtain ⟨k, rfl, hk, hlow, hg⟩ := hrel
      have HLOW := Lib.hid hlow
      have HG := Lib.hid hg
      have h0 := hg.keeps H0.out
      clear hlow hg
      by_cases hlt : k < m
      · have hk0 : (0 : Int) ≤ (k : Int) := by omega
        have hk1 : (k : Int) < (m : Int) := by omega
        obtain ⟨gx, ox, rfl, hcx⟩ : ∃ gx ox, xa = some ⟨gx, ox, none⟩ ∧ wr.cell? ⟨gx, ox + k, none⟩ = some (.int .u32 (Op.cf l k)) := by
          obtain ⟨_, a, c', e, _, _, h3⟩ := HV.out.later HG.out
          cases e
          obtain ⟨gx, ox, e, hc⟩ := h3 k (by have := HN.out; omega)
          exact ⟨gx, ox, e, hc⟩
        obtain ⟨gy, oy, rfl, hcy⟩ : ∃ gy oy, xb = some ⟨gy, oy, none⟩ ∧ wr.cell? ⟨gy, oy + k, none⟩ = some (.int .u32 (Op.cf r k)) := by
          obtain ⟨_, a, c', e, _, _, h3⟩ := HU.out.later HG.out
          cases e
          obtain ⟨gx, ox, e, hc⟩ := h3 k (by have := HM.out; omega)
          exact ⟨gx, ox, e, hc⟩
        obtain ⟨q, hq⟩ : ∃ q, q = Op.cf l k := ⟨_, rfl⟩
        obtain ⟨a, ha⟩ : ∃ a, a = Op.cf r k := ⟨_, rfl⟩
        rw [← hq] at hcx
        rw [← ha] at hcy
        have HQ := Lib.hid hq
        have HA := Lib.hid ha
        clear hq ha
        by_cases haq : a ≥ q
        · have HAQ := Lib.hid haq
          go_wp2_with fail
          go_region
          go_wp2_with fail
          go_ret
          exact ⟨false, rfl, ⟨fun h => (by cases h), fun h => by have := (h.2 k (by have := HN.out; omega)).2; have := HQ.out; have := HA.out; have := HAQ.out; omega⟩, HG.out.trans (Gr.refl _).drew⟩
        · have HAQ := Lib.hid haq
          go_wp2_with fail
          go_region
          go_wp2_with fail
          refine ⟨⟨k + 1, by simp, by omega, fun j hj => ?_, HG.out.trans (Gr.refl _).drew⟩, by simp [intOf]; omega⟩
          by_cases hjk : j = k
          · subst hjk; have := HQ.out; have := HA.out; have := HAQ.out; omega
          · exact HLOW.out j (by omega)
      · obtain rfl : k = m := by omega
        have hk1 : ¬ (k : Int) < (k : Int) := by omega
        go_wp2_with fail
        go_ret
        exact ⟨true, rfl, ⟨fun _ => ⟨by have := HN.out; have := HM.out; omega, fun i hi => ⟨(HU.out.1.at_ i).1, HLOW.out i (by have := HN.out; omega)⟩⟩, fun _ => rfl⟩, HG.out⟩
  · have hb : ¬ (m : Int) = (n : Int) := by omega
    have HNM := Lib.hid hnm
    go_enter Tryz.func35, Tryz.ntmps35
    go_wp2_with fail
    go_ret
    exact ⟨false, rfl, ⟨fun h => (by cases h), fun h => absurd h.1 (by have := HN.out; have := HM.out; have := HNM.out; omega)⟩, Gr.refl w⟩

theorem rowL_succ (n : Nat) (f : Nat → Int) : rowL (n + 1) f = rowL n f ++ [f n] := by simp [rowL, List.range_succ]
set_option maxRecDepth 100000 in
set_option maxHeartbeats 4000000 in
theorem rsplit_any (R : Nat) (l : List Int) (neg : Bool) (s : ByteArray) (w : World) (h : RefPr w R l) (hl : okL l) (h25 : l.length ≤ 25) (hsz : s.size ≤ 9223372036854775807) : Calls Tryz.prog 8 #[.pointer (some ⟨R, 0, none⟩), .agg #[.bool neg, .string s]] w (ScalePost (SplitR l neg s) w) := by
  have hg0 := Gr.new w (.cells #[.bool neg, .string s] 24)
  have H := Lib.hid (h.later hg0)
  have HG0 := Lib.hid hg0
  have HL := Lib.hid hl
  have b0 : (w.alloc (.cells #[.bool neg, .string s] 24)).cell? ⟨w.heap.size, 0, none⟩ = some (.bool neg) := by simp [go_sem]
  have b1 : (w.alloc (.cells #[.bool neg, .string s] 24)).cell? ⟨w.heap.size, 1, none⟩ = some (.string s) := by simp [go_sem]
  clear h hg0 hl
  go_enter Tryz.func8, Tryz.ntmps8
  go_wp2_with fail
  generalize w.alloc (.cells #[.bool neg, .string s] 24) = w0 at *
  generalize w.heap.size = X at *
  refine (rvalid_any neg s _ hsz).mono ?_
  rintro e w1 ⟨b, rfl, hb, g⟩
  have b0 := g.keeps b0
  have b1 := g.keeps b1
  have HB := Lib.hid hb
  have HG := Lib.hid (HG0.out.trans g)
  have H1 := Lib.hid (H.out.later g)
  clear g hb
  cases b with
  | false =>
    go_wp2_with fail
    go_ret2
    exact ⟨none, 0, 0, [], 2, rfl, HasP.nil _, .inl ⟨fun h => by have := HB.out.2 h; simp at this, rfl, rfl⟩, HG.out⟩
  | true =>
    have HF := Lib.hid (HB.out.1 (by simp))
    obtain ⟨v, h0, hv⟩ := H1.out
    have HV := Lib.hid hv
    obtain ⟨-, xa, ca, rfl, -, -, -⟩ := hv
    obtain ⟨n, hn⟩ : ∃ n, n = l.length := ⟨_, rfl⟩
    have HN := Lib.hid hn
    rw [← hn] at HV h0 h25
    have H0 := Lib.hid (show w1.cell? ⟨R, 0, none⟩ = some (.slice xa n ca) from h0)
    have B0 := Lib.hid b0
    have B1 := Lib.hid b1
    obtain ⟨z, hz⟩ : ∃ z, z = zOf neg s := ⟨_, rfl⟩
    have HZ := Lib.hid hz
    clear hz hn h0 b0 b1
    go_wp2_with fail
    go_loopw [6, 7] (fun t6 t7 wr => ∃ k : Nat, t7 = .int .i64 k ∧ k ≤ n ∧ Own1 wr w1.heap.size t6 (rowL k (fun i => z % Op.cf l i)) ∧ w1.heap.size ≤ wr.heap.size ∧ Gr w1 wr) (fun t6 t7 _ => n - (intOf t7).toNat)
    case atStart => exact ⟨0, rfl, by omega, Own1.nil _ _, Nat.le_refl _, Gr.refl _⟩
    case round =>
      obtain ⟨k, rfl, hk, hown, hsz1, hg⟩ := hrel
      have HOW := Lib.hid hown
      have HGR := Lib.hid hg
      have HSZ := Lib.hid hsz1
      have h0 := hg.keeps H0.out
      have b0 := hg.keeps B0.out
      have b1 := hg.keeps B1.out
      obtain ⟨va, vc, e, -, -⟩ := hown.form
      rw [rowL_len] at e
      subst e
      clear hown hg hsz1
      by_cases hlt : k < n
      · have hk0 : (0 : Int) ≤ (k : Int) := by omega
        have hk1 : (k : Int) < (n : Int) := by omega
        have hkl : k < l.length := by have := HN.out; omega
        obtain ⟨gx, ox, rfl, hcx⟩ : ∃ gx ox, xa = some ⟨gx, ox, none⟩ ∧ wr.cell? ⟨gx, ox + k, none⟩ = some (.int .u32 (Op.cf l k)) := by
          obtain ⟨_, a, c', e, _, _, h3⟩ := HV.out.later HGR.out
          cases e
          obtain ⟨gx, ox, e, hc⟩ := h3 k hkl
          exact ⟨gx, ox, e, hc⟩
        have hq3 := HL.out.at_ hkl
        obtain ⟨q, hq⟩ : ∃ q, q = Op.cf l k := ⟨_, rfl⟩
        rw [← hq] at hcx hq3
        have HQ := Lib.hid hq
        have gd : Gr wr wr.drew := (Gr.refl wr).drew
        have HOK := Lib.hid (show okP q from ⟨by omega, by omega⟩)
        clear hq hkl
        go_upto_region 7 with (fail)
        have h0 := gd.keeps h0
        have b0 := gd.keeps b0
        have b1 := gd.keeps b1
        have hcx := gd.keeps hcx
        have HOW := Lib.hid (HOW.out.gr gd)
        have HSZ := Lib.hid (Nat.le_trans HSZ.out gd.size)
        have HGR := Lib.hid (HGR.out.trans gd)
        clear gd
        go_region_held3 (fun w' => w'.cell? ⟨R, 0, none⟩ = some (.slice (some ⟨gx, ox, none⟩) n ca) ∧ w'.cell? ⟨X, 0, none⟩ = some (.bool neg) ∧ w'.cell? ⟨X, 1, none⟩ = some (.string s) ∧ w'.cell? ⟨gx, ox + k, none⟩ = some (.int .u32 q)) (first | exact ⟨h0, b0, b1, hcx⟩ | go_keep)
          (first
            | (go_at_call 30; (with_reducible refine (rwmod_any neg s q _ HF.out HOK.out).mono ?_); rintro e w' ⟨rfl, g⟩; rw [← HZ.out]; have h0 := g.keeps h0; have b0 := g.keeps b0; have b1 := g.keeps b1; have hcx := g.keeps hcx; have HOW := Lib.hid (HOW.out.gr g); have HSZ := Lib.hid (Nat.le_trans HSZ.out g.size); have HGR := Lib.hid (HGR.out.trans g); clear g))
        all_goals
          have hm0 := emod_lo z q (by omega)
          have hm1 := emod_hi z q (by omega)
          obtain ⟨a, ha⟩ : ∃ a, a = z % q := ⟨_, rfl⟩
          rw [← ha] at hm0 hm1 ⊢
          have HA := Lib.hid ha
          clear ha
          have gz := Gr.new w' (.cells #[.int .u32 a] 42)
          have HONE := Lib.hid (one_hasP w' a ⟨by omega, by omega⟩)
          have HOW := Lib.hid (HOW.out.gr gz)
          have HSZ := Lib.hid (Nat.le_trans HSZ.out gz.size)
          have HGR := Lib.hid (HGR.out.trans gz)
          have HLE := Lib.hid (show (rowL k (fun i => z % Op.cf l i)).length + [a].length ≤ 1000000 by rw [rowL_len]; simp; omega)
          clear gz
          go_wp2_with (at_builtin; refine wpList_app rfl (.tmp 34) (.tmp 36) rfl rfl w1.heap.size _ (rowL k (fun i => z % Op.cf l i)) rfl HOW.out _ [a] rfl HONE.out HLE.out HSZ.out ?_; intro v' w3 hown hgrow; have HO3 := Lib.hid hown; have HS3 := Lib.hid (Nat.le_trans HSZ.out hgrow.size); have HG3 := Lib.hid (grown_own HGR.out HOW.out hgrow (Nat.le_refl _)); clear hown hgrow)
          go_roundw
          case rel =>
            refine ⟨k + 1, by simp, by omega, ?_, HS3.out, HG3.out⟩
            rw [rowL_succ, ← HQ.out, ← HA.out]
            exact HO3.out
          case measure => simp [intOf]; omega
      · obtain rfl : k = n := by omega
        have hk1 : ¬ (k : Int) < (k : Int) := by omega
        go_wp2_with fail
        go_ret2
        have hp := HOW.out.hasP
        refine ⟨va, k, vc, _, 0, rfl, hp, .inr ⟨HF.out, rfl, ?_⟩, HG.out.trans HGR.out⟩
        rw [HN.out, HZ.out]
end Go.Proofs.YtfpdemmdkiohhaaGreat.Mo
/- The reference of package residue: Join, the regions that draw. -/
namespace Go.Proofs.YtfpdemmdkiohhaaGreat.Mo
open Go.RowKit
set_option linter.unusedVariables false
set_option linter.unusedSimpArgs false

/-- A place for a number of package wide, made behind W, still zero. -/
def FreshW (W w : World) (B : Nat) : Prop := W.heap.size ≤ B ∧ w.cell? ⟨B, 0, none⟩ = some (.bool false) ∧ w.cell? ⟨B, 1, none⟩ = some (.string ⟨#[]⟩) ∧ w.frozen? ⟨B, 0, none⟩ = false ∧ w.frozen? ⟨B, 1, none⟩ = false
theorem FreshW.later {W w w' : World} {B : Nat} (h : FreshW W w B) (g : Gr w w') : FreshW W w' B :=
  ⟨h.1, g.keeps h.2.1, g.keeps h.2.2.1, (Below.frozen g (World.block_lt_of_cell? w _ h.2.1)).trans h.2.2.2.1, (Below.frozen g (World.block_lt_of_cell? w _ h.2.2.1)).trans h.2.2.2.2⟩
theorem FreshW.new {W w : World} (h : Gr W w) (t : TypeId) : FreshW W (w.alloc (.cells #[.bool false, .string ⟨#[]⟩] t)) w.heap.size :=
  ⟨h.size, by simp [go_sem], by simp [go_sem], by simp [go_sem], by simp [go_sem]⟩
theorem FreshW.ne {W w : World} {B : Nat} (h : FreshW W w B) : ¬ (w.heap.size = B) := fun e => by
  have := World.block_lt_of_cell? w _ h.2.1
  simp at this; omega
theorem xc_far {W : World} {B C : Nat} (h : ¬ (B = C)) (o : Nat) (a b : Value) : ((W.setCell ⟨B, 0, none⟩ a).setCell ⟨B, 1, none⟩ b).cell? ⟨C, o, none⟩ = W.cell? ⟨C, o, none⟩ := by
  rw [Lo.cell_far (fun e => h (congrArg Addr.block e)), Lo.cell_far (fun e => h (congrArg Addr.block e))]
theorem XC.put {W0 : World} {X : Nat} {z : Int} {w : World} (h : XC W0 X z w) (y : Int) : XC W0 X y ((w.setCell ⟨X, 0, none⟩ (.bool (decide (y < 0)))).setCell ⟨X, 1, none⟩ (.string (bstr y.natAbs))) := by
  obtain ⟨l7, c0, c1, z0, z1⟩ := h
  exact ⟨l7, (xc_put c0 c1 _ _).1, (xc_put c0 c1 _ _).2, (xc_frz _ _ _ _ _ _).trans z0, (xc_frz _ _ _ _ _ _).trans z1⟩
theorem XC.other {W0 : World} {X P : Nat} {z : Int} {w : World} (h : XC W0 P z w) (hne : ¬ (X = P)) (a b : Value) : XC W0 P z ((w.setCell ⟨X, 0, none⟩ a).setCell ⟨X, 1, none⟩ b) := by
  obtain ⟨l7, c0, c1, z0, z1⟩ := h
  exact ⟨l7, (xc_far hne 0 a b).trans c0, (xc_far hne 1 a b).trans c1, (xc_frz _ _ _ _ _ _).trans z0, (xc_frz _ _ _ _ _ _).trans z1⟩
/-- Two such places. -/
def XD (W0 : World) (X O : Nat) (y z : Int) (w : World) : Prop := XC W0 X z w ∧ XC W0 O y w ∧ ¬ (X = O)
theorem XD.later {W0 : World} {X O : Nat} {y z : Int} {w w' : World} (h : XD W0 X O y z w) (g : Gr w w') : XD W0 X O y z w' := ⟨h.1.later g, h.2.1.later g, h.2.2⟩

set_option maxRecDepth 100000 in
set_option maxHeartbeats 8000000 in
theorem rj_more (x : Int) (a : Int) (XB : Nat) (W0 W : World) (x0 : W0.cell? ⟨XB, 0, none⟩ = some (.bool (decide (x < 0)))) (x1 : W0.cell? ⟨XB, 1, none⟩ = some (.string (bstr x.natAbs)))  (hG : Gr W0 W)
    (hw0 : IntKind.i64.wrap a = a)
    (HC1 : ∀ w, Gr W0 w → Calls Tryz.prog 36 #[.int .i64 a] w (fun e w' => e = .returned (wv a) ∧ Gr w w'))
    (HC2 : ∀ w, Calls Tryz.prog 40 #[wv x, wv a] w (fun e w' => e = .returned (.tuple #[wv (x * a), .int .i64 0]) ∧ Gr w w'))
    (v0 v1 v2 v3 v4 v5 v6 v8 v9 v10 v11 v12 v13 v14 v15 v16 v17 v19 v22 v23 v24 v25 v26 v27 v28 v29 v30 v31 v32 v33 v34 v35 v36 v37 v38 v39 v40 v41 v42 v43 v44 v45 v46 v47 v48 v49 v50 v51 v52 v53 v54 v55 v56 v57 v58 v59 v60 v61 v62 v63 v64 v65 v66 v67 v68 v69 v70 v71 v72 v73 v74 v75 v76 v85 v86 v87 v88 v89 v90 v91 v92 v93 v94 v95 v96 v97 v98 v99 v100 v101 v102 v103 s20 s21 s77 s78 s79 s80 s81 s82 s83 s84 : Value) (Q : Exit → Act → World → Prop) (hQ : ∀ (d : Option Tmp) (v : Value) c a w, Q (.panic c) (a.put d v) w → Q (.panic c) a w)
    (hpost : ∀ u77 u78 u79 u80 u81 u82 u83 u84 A0 wx, wx.cell? ⟨A0, 0, none⟩ = some (.bool (decide (x * a < 0))) → wx.cell? ⟨A0, 1, none⟩ = some (.string (bstr (x * a).natAbs)) → Gr W0 wx → Q .normal { tmps := List.toArray (v0 :: v1 :: v2 :: v3 :: v4 :: v5 :: v6 :: .pointer (some ⟨XB, 0, none⟩) :: v8 :: v9 :: v10 :: v11 :: v12 :: v13 :: v14 :: v15 :: v16 :: v17 :: .int .u32 a :: v19 :: .pointer (some ⟨A0, 0, none⟩) :: .int .i64 0 :: v22 :: v23 :: v24 :: v25 :: v26 :: v27 :: v28 :: v29 :: v30 :: v31 :: v32 :: v33 :: v34 :: v35 :: v36 :: v37 :: v38 :: v39 :: v40 :: v41 :: v42 :: v43 :: v44 :: v45 :: v46 :: v47 :: v48 :: v49 :: v50 :: v51 :: v52 :: v53 :: v54 :: v55 :: v56 :: v57 :: v58 :: v59 :: v60 :: v61 :: v62 :: v63 :: v64 :: v65 :: v66 :: v67 :: v68 :: v69 :: v70 :: v71 :: v72 :: v73 :: v74 :: v75 :: v76 :: u77 :: u78 :: u79 :: u80 :: u81 :: u82 :: u83 :: u84 :: v85 :: v86 :: v87 :: v88 :: v89 :: v90 :: v91 :: v92 :: v93 :: v94 :: v95 :: v96 :: v97 :: v98 :: v99 :: v100 :: v101 :: v102 :: v103 :: ([] : List Value)), defers := [] } wx) :
    (Code.region 13 #[{ dst := some 78, op := Op.load 24 (Operand.tmp 7), type := 24, pos := "ref.go:77", after := #[], guard := none },
      { dst := some 79, op := Op.move (Operand.tmp 18), type := 42, pos := "ref.go:77", after := #[], guard := none },
      { dst := some 80, op := Op.convert 42 2 (Operand.tmp 79), type := 2, pos := "ref.go:77", after := #[{ on := 1, ground := Ground.data }], guard := none },
      { dst := some 81, op := Op.call { callee := Callee.value (Operand.func 36), args := #[Operand.tmp 80], argTypes := #[2] }, type := 24, pos := "ref.go:77", after := #[{ on := 2, ground := Ground.data }], guard := none },
      { dst := some 82, op := Op.call { callee := Callee.value (Operand.func 40), args := #[Operand.tmp 78, Operand.tmp 81], argTypes := #[24, 24] }, type := 37, pos := "ref.go:77", after := #[{ on := 0, ground := Ground.data }, { on := 3, ground := Ground.data }, { on := 3, ground := Ground.chain }], guard := none },
      { dst := some 77, op := Op.move (Operand.tmp 82), type := 37, pos := "ref.go:77", after := #[{ on := 4, ground := Ground.data }], guard := none },
      { dst := some 83, op := Op.extract (Operand.tmp 77) 0, type := 24, pos := "ref.go:77", after := #[{ on := 5, ground := Ground.data }], guard := none },
      { dst := some 84, op := Op.extract (Operand.tmp 77) 1, type := 32, pos := "ref.go:77", after := #[{ on := 5, ground := Ground.data }, { on := 9, ground := Ground.gcOnly Departure.lateStores }], guard := none },
      { dst := some 20, op := Op.alloc 24, type := 0, pos := "ref.go:77", after := #[], guard := none },
      { dst := none, op := Op.store 24 (Operand.tmp 20) (Operand.tmp 83), type := 0, pos := "ref.go:77", after := #[{ on := 8, ground := Ground.data }, { on := 6, ground := Ground.data }, { on := 4, ground := Ground.chain }, { on := 0, ground := Ground.phase }, { on := 1, ground := Ground.phase }, { on := 2, ground := Ground.phase }, { on := 3, ground := Ground.phase }, { on := 4, ground := Ground.phase }, { on := 5, ground := Ground.phase }, { on := 6, ground := Ground.phase }, { on := 7, ground := Ground.textOnly Departure.lateStores }, { on := 8, ground := Ground.phase }], guard := none },
      { dst := some 21, op := Op.assign (Operand.tmp 84), type := 32, pos := "ref.go:77", after := #[{ on := 7, ground := Ground.data }, { on := 9, ground := Ground.chain }, { on := 0, ground := Ground.phase }, { on := 1, ground := Ground.phase }, { on := 2, ground := Ground.phase }, { on := 3, ground := Ground.phase }, { on := 4, ground := Ground.phase }, { on := 5, ground := Ground.phase }, { on := 6, ground := Ground.phase }, { on := 7, ground := Ground.phase }, { on := 8, ground := Ground.phase }, { on := 9, ground := Ground.phase }], guard := none }] true).wp Tryz.prog Q { tmps := List.toArray (v0 :: v1 :: v2 :: v3 :: v4 :: v5 :: v6 :: .pointer (some ⟨XB, 0, none⟩) :: v8 :: v9 :: v10 :: v11 :: v12 :: v13 :: v14 :: v15 :: v16 :: v17 :: .int .u32 a :: v19 :: s20 :: s21 :: v22 :: v23 :: v24 :: v25 :: v26 :: v27 :: v28 :: v29 :: v30 :: v31 :: v32 :: v33 :: v34 :: v35 :: v36 :: v37 :: v38 :: v39 :: v40 :: v41 :: v42 :: v43 :: v44 :: v45 :: v46 :: v47 :: v48 :: v49 :: v50 :: v51 :: v52 :: v53 :: v54 :: v55 :: v56 :: v57 :: v58 :: v59 :: v60 :: v61 :: v62 :: v63 :: v64 :: v65 :: v66 :: v67 :: v68 :: v69 :: v70 :: v71 :: v72 :: v73 :: v74 :: v75 :: v76 :: s77 :: s78 :: s79 :: s80 :: s81 :: s82 :: s83 :: s84 :: v85 :: v86 :: v87 :: v88 :: v89 :: v90 :: v91 :: v92 :: v93 :: v94 :: v95 :: v96 :: v97 :: v98 :: v99 :: v100 :: v101 :: v102 :: v103 :: ([] : List Value)), defers := [] } W := by
  refine wp_region_held_drew (S := fun w' => w'.cell? ⟨XB, 0, none⟩ = some (.bool (decide (x < 0))) ∧ w'.cell? ⟨XB, 1, none⟩ = some (.string (bstr x.natAbs)) ∧ Gr W0 w') (by kernel_rfl) (have g : Gr W0 W.drew := hG.drew; ⟨(g).keeps x0, (g).keeps x1, g⟩) (fun hHeld => ?_)
  refine chain_any (fun G out inn => ?_)
  have st1_2 : ∀ (A0 : Nat) (w : World), (fun w' => w'.cell? ⟨XB, 0, none⟩ = some (.bool (decide (x < 0))) ∧ w'.cell? ⟨XB, 1, none⟩ = some (.string (bstr x.natAbs)) ∧ Gr W0 w') w → FreshW W0 w A0 → G 2 #[true, true, true, true, true, true, true, true, true, false, false] { tmps := List.toArray (v0 :: v1 :: v2 :: v3 :: v4 :: v5 :: v6 :: .pointer (some ⟨XB, 0, none⟩) :: v8 :: v9 :: v10 :: v11 :: v12 :: v13 :: v14 :: v15 :: v16 :: v17 :: .int .u32 a :: v19 :: .pointer (some ⟨A0, 0, none⟩) :: s21 :: v22 :: v23 :: v24 :: v25 :: v26 :: v27 :: v28 :: v29 :: v30 :: v31 :: v32 :: v33 :: v34 :: v35 :: v36 :: v37 :: v38 :: v39 :: v40 :: v41 :: v42 :: v43 :: v44 :: v45 :: v46 :: v47 :: v48 :: v49 :: v50 :: v51 :: v52 :: v53 :: v54 :: v55 :: v56 :: v57 :: v58 :: v59 :: v60 :: v61 :: v62 :: v63 :: v64 :: v65 :: v66 :: v67 :: v68 :: v69 :: v70 :: v71 :: v72 :: v73 :: v74 :: v75 :: v76 :: .tuple #[wv (x * a), .int .i64 0] :: wv x :: .int .u32 a :: .int .i64 a :: wv a :: .tuple #[wv (x * a), .int .i64 0] :: wv (x * a) :: .int .i64 0 :: v85 :: v86 :: v87 :: v88 :: v89 :: v90 :: v91 :: v92 :: v93 :: v94 :: v95 :: v96 :: v97 :: v98 :: v99 :: v100 :: v101 :: v102 :: v103 :: ([] : List Value)), defers := [] } w := by
    intro A0 w hS hF0
    refine inn _ _ _ _ ?_
    obtain ⟨l0, c00, c01, z00, z01⟩ := hF0
    refine wpAnyH_ready (rs := [9]) (by kernel_rfl) (by simp) ?_
    refine AllReadyH.cons (o := { dst := none, op := Op.store 24 (Operand.tmp 20) (Operand.tmp 83), type := 0, pos := "ref.go:77", after := #[{ on := 8, ground := Ground.data }, { on := 6, ground := Ground.data }, { on := 4, ground := Ground.chain }, { on := 0, ground := Ground.phase }, { on := 1, ground := Ground.phase }, { on := 2, ground := Ground.phase }, { on := 3, ground := Ground.phase }, { on := 4, ground := Ground.phase }, { on := 5, ground := Ground.phase }, { on := 6, ground := Ground.phase }, { on := 7, ground := Ground.textOnly Departure.lateStores }, { on := 8, ground := Ground.phase }], guard := none }) rfl (fun K hK => ?_) AllReadyH.nil
    unfold wv
    go_simp
    have g2 : Gr W0 ((w.setCell ⟨A0, 0, none⟩ (.bool (decide (x * a < 0)))).setCell ⟨A0, 1, none⟩ (.string (bstr (x * a).natAbs))) := ((hS.2.2).setCell (p := ⟨A0, 0, none⟩) l0 _).setCell (p := ⟨A0, 1, none⟩) l0 _
    refine hK.out _ _ ⟨(g2).keeps x0, (g2).keeps x1, g2⟩ (fun hHeld => ?_)
    clear hK K
    (simp only [Act.put, List.setIfInBounds_toArray, List.set_cons_zero, List.set_cons_succ])
    refine wpAnyH_take (i := 10) (oi := { dst := some 21, op := Op.assign (Operand.tmp 84), type := 32, pos := "ref.go:77", after := #[{ on := 7, ground := Ground.data }, { on := 9, ground := Ground.chain }, { on := 0, ground := Ground.phase }, { on := 1, ground := Ground.phase }, { on := 2, ground := Ground.phase }, { on := 3, ground := Ground.phase }, { on := 4, ground := Ground.phase }, { on := 5, ground := Ground.phase }, { on := 6, ground := Ground.phase }, { on := 7, ground := Ground.phase }, { on := 8, ground := Ground.phase }, { on := 9, ground := Ground.phase }], guard := none }) (v := ?_) rfl (by kernel_rfl) (by kernel_rfl) (by kernel_rfl) (hQ _ _) (_root_.Or.inl ⟨by rfl, ?_⟩) (by assumption) ?_
    rotate_left
    · intro w0 hSw; (try dsimp only at hSw); have y0 := hSw.1; have y1 := hSw.2.1; go_simp; try with_reducible rfl
    (simp only [Act.put, List.setIfInBounds_toArray, List.set_cons_zero, List.set_cons_succ])
    refine wpAnyH_done (by kernel_rfl) ?_ _
    exact hpost _ _ _ _ _ _ _ _ A0 _ (xc_put c00 c01 _ _).1 (xc_put c00 c01 _ _).2 g2
  have st0_2 : ∀ (w : World), (fun w' => w'.cell? ⟨XB, 0, none⟩ = some (.bool (decide (x < 0))) ∧ w'.cell? ⟨XB, 1, none⟩ = some (.string (bstr x.natAbs)) ∧ Gr W0 w') w → G 3 #[true, true, true, true, true, true, true, true, false, false, false] { tmps := List.toArray (v0 :: v1 :: v2 :: v3 :: v4 :: v5 :: v6 :: .pointer (some ⟨XB, 0, none⟩) :: v8 :: v9 :: v10 :: v11 :: v12 :: v13 :: v14 :: v15 :: v16 :: v17 :: .int .u32 a :: v19 :: s20 :: s21 :: v22 :: v23 :: v24 :: v25 :: v26 :: v27 :: v28 :: v29 :: v30 :: v31 :: v32 :: v33 :: v34 :: v35 :: v36 :: v37 :: v38 :: v39 :: v40 :: v41 :: v42 :: v43 :: v44 :: v45 :: v46 :: v47 :: v48 :: v49 :: v50 :: v51 :: v52 :: v53 :: v54 :: v55 :: v56 :: v57 :: v58 :: v59 :: v60 :: v61 :: v62 :: v63 :: v64 :: v65 :: v66 :: v67 :: v68 :: v69 :: v70 :: v71 :: v72 :: v73 :: v74 :: v75 :: v76 :: .tuple #[wv (x * a), .int .i64 0] :: wv x :: .int .u32 a :: .int .i64 a :: wv a :: .tuple #[wv (x * a), .int .i64 0] :: wv (x * a) :: .int .i64 0 :: v85 :: v86 :: v87 :: v88 :: v89 :: v90 :: v91 :: v92 :: v93 :: v94 :: v95 :: v96 :: v97 :: v98 :: v99 :: v100 :: v101 :: v102 :: v103 :: ([] : List Value)), defers := [] } w := by
    intro w hS
    refine inn _ _ _ _ ?_
    refine wpAnyH_ready (rs := [8]) (by kernel_rfl) (by simp) ?_
    refine AllReadyH.cons (o := { dst := some 20, op := Op.alloc 24, type := 0, pos := "ref.go:77", after := #[], guard := none }) rfl (fun K hK => ?_) ?_
    · go_simp
      have g2 := hS.2.2.alloc (.cells #[.bool false, .string ⟨#[]⟩] 24)
      refine hK.out _ _ ⟨(g2).keeps x0, (g2).keeps x1, g2⟩ (fun hHeld => ?_)
      (simp only [Act.put, List.setIfInBounds_toArray, List.set_cons_zero, List.set_cons_succ])
      exact out _ _ _ _ (st1_2 _ _ hHeld (FreshW.new hS.2.2 _))
    exact AllReadyH.nil
  have st1_1 : ∀ (A0 : Nat) (w : World), (fun w' => w'.cell? ⟨XB, 0, none⟩ = some (.bool (decide (x < 0))) ∧ w'.cell? ⟨XB, 1, none⟩ = some (.string (bstr x.natAbs)) ∧ Gr W0 w') w → FreshW W0 w A0 → G 6 #[true, true, true, true, false, false, false, false, true, false, false] { tmps := List.toArray (v0 :: v1 :: v2 :: v3 :: v4 :: v5 :: v6 :: .pointer (some ⟨XB, 0, none⟩) :: v8 :: v9 :: v10 :: v11 :: v12 :: v13 :: v14 :: v15 :: v16 :: v17 :: .int .u32 a :: v19 :: .pointer (some ⟨A0, 0, none⟩) :: s21 :: v22 :: v23 :: v24 :: v25 :: v26 :: v27 :: v28 :: v29 :: v30 :: v31 :: v32 :: v33 :: v34 :: v35 :: v36 :: v37 :: v38 :: v39 :: v40 :: v41 :: v42 :: v43 :: v44 :: v45 :: v46 :: v47 :: v48 :: v49 :: v50 :: v51 :: v52 :: v53 :: v54 :: v55 :: v56 :: v57 :: v58 :: v59 :: v60 :: v61 :: v62 :: v63 :: v64 :: v65 :: v66 :: v67 :: v68 :: v69 :: v70 :: v71 :: v72 :: v73 :: v74 :: v75 :: v76 :: s77 :: wv x :: .int .u32 a :: .int .i64 a :: wv a :: s82 :: s83 :: s84 :: v85 :: v86 :: v87 :: v88 :: v89 :: v90 :: v91 :: v92 :: v93 :: v94 :: v95 :: v96 :: v97 :: v98 :: v99 :: v100 :: v101 :: v102 :: v103 :: ([] : List Value)), defers := [] } w := by
    intro A0 w hS hF0
    refine inn _ _ _ _ ?_
    refine wpAnyH_ready (rs := [4]) (by kernel_rfl) (by simp) ?_
    refine AllReadyH.cons (o := { dst := some 82, op := Op.call { callee := Callee.value (Operand.func 40), args := #[Operand.tmp 78, Operand.tmp 81], argTypes := #[24, 24] }, type := 37, pos := "ref.go:77", after := #[{ on := 0, ground := Ground.data }, { on := 3, ground := Ground.data }, { on := 3, ground := Ground.chain }], guard := none }) rfl (fun K hK => ?_) ?_
    · go_simp
      go_at_call 40
      refine (HC2 _).mono ?_
      rintro e w' ⟨rfl, g⟩
      go_wp2_with fail
      have g2 := hS.2.2.trans g
      refine hK.out _ _ ⟨(g2).keeps x0, (g2).keeps x1, g2⟩ (fun hHeld => ?_)
      (simp only [Act.put, List.setIfInBounds_toArray, List.set_cons_zero, List.set_cons_succ])
      refine wpAnyH_take (i := 5) (oi := { dst := some 77, op := Op.move (Operand.tmp 82), type := 37, pos := "ref.go:77", after := #[{ on := 4, ground := Ground.data }], guard := none }) (v := ?_) rfl (by kernel_rfl) (by kernel_rfl) (by kernel_rfl) (hQ _ _) (_root_.Or.inl ⟨by rfl, ?_⟩) (by assumption) ?_
      rotate_left
      · intro w0 hSw; (try dsimp only at hSw); have y0 := hSw.1; have y1 := hSw.2.1; go_simp; try with_reducible rfl
      (simp only [Act.put, List.setIfInBounds_toArray, List.set_cons_zero, List.set_cons_succ])
      refine wpAnyH_take (i := 6) (oi := { dst := some 83, op := Op.extract (Operand.tmp 77) 0, type := 24, pos := "ref.go:77", after := #[{ on := 5, ground := Ground.data }], guard := none }) (v := ?_) rfl (by kernel_rfl) (by kernel_rfl) (by kernel_rfl) (hQ _ _) (_root_.Or.inl ⟨by rfl, ?_⟩) (by assumption) ?_
      rotate_left
      · intro w0 hSw; (try dsimp only at hSw); have y0 := hSw.1; have y1 := hSw.2.1; go_simp; try with_reducible rfl
      (simp only [Act.put, List.setIfInBounds_toArray, List.set_cons_zero, List.set_cons_succ])
      refine wpAnyH_take (i := 7) (oi := { dst := some 84, op := Op.extract (Operand.tmp 77) 1, type := 32, pos := "ref.go:77", after := #[{ on := 5, ground := Ground.data }, { on := 9, ground := Ground.gcOnly Departure.lateStores }], guard := none }) (v := ?_) rfl (by kernel_rfl) (by kernel_rfl) (by kernel_rfl) (hQ _ _) (_root_.Or.inl ⟨by rfl, ?_⟩) (by assumption) ?_
      rotate_left
      · intro w0 hSw; (try dsimp only at hSw); have y0 := hSw.1; have y1 := hSw.2.1; go_simp; try with_reducible rfl
      (simp only [Act.put, List.setIfInBounds_toArray, List.set_cons_zero, List.set_cons_succ])
      exact out _ _ _ _ (st1_2 _ _ hHeld (hF0.later g))
    exact AllReadyH.nil
  have st0_1 : ∀ (w : World), (fun w' => w'.cell? ⟨XB, 0, none⟩ = some (.bool (decide (x < 0))) ∧ w'.cell? ⟨XB, 1, none⟩ = some (.string (bstr x.natAbs)) ∧ Gr W0 w') w → G 7 #[true, true, true, true, false, false, false, false, false, false, false] { tmps := List.toArray (v0 :: v1 :: v2 :: v3 :: v4 :: v5 :: v6 :: .pointer (some ⟨XB, 0, none⟩) :: v8 :: v9 :: v10 :: v11 :: v12 :: v13 :: v14 :: v15 :: v16 :: v17 :: .int .u32 a :: v19 :: s20 :: s21 :: v22 :: v23 :: v24 :: v25 :: v26 :: v27 :: v28 :: v29 :: v30 :: v31 :: v32 :: v33 :: v34 :: v35 :: v36 :: v37 :: v38 :: v39 :: v40 :: v41 :: v42 :: v43 :: v44 :: v45 :: v46 :: v47 :: v48 :: v49 :: v50 :: v51 :: v52 :: v53 :: v54 :: v55 :: v56 :: v57 :: v58 :: v59 :: v60 :: v61 :: v62 :: v63 :: v64 :: v65 :: v66 :: v67 :: v68 :: v69 :: v70 :: v71 :: v72 :: v73 :: v74 :: v75 :: v76 :: s77 :: wv x :: .int .u32 a :: .int .i64 a :: wv a :: s82 :: s83 :: s84 :: v85 :: v86 :: v87 :: v88 :: v89 :: v90 :: v91 :: v92 :: v93 :: v94 :: v95 :: v96 :: v97 :: v98 :: v99 :: v100 :: v101 :: v102 :: v103 :: ([] : List Value)), defers := [] } w := by
    intro w hS
    refine inn _ _ _ _ ?_
    refine wpAnyH_ready (rs := [4, 8]) (by kernel_rfl) (by simp) ?_
    refine AllReadyH.cons (o := { dst := some 82, op := Op.call { callee := Callee.value (Operand.func 40), args := #[Operand.tmp 78, Operand.tmp 81], argTypes := #[24, 24] }, type := 37, pos := "ref.go:77", after := #[{ on := 0, ground := Ground.data }, { on := 3, ground := Ground.data }, { on := 3, ground := Ground.chain }], guard := none }) rfl (fun K hK => ?_) ?_
    · go_simp
      go_at_call 40
      refine (HC2 _).mono ?_
      rintro e w' ⟨rfl, g⟩
      go_wp2_with fail
      have g2 := hS.2.2.trans g
      refine hK.out _ _ ⟨(g2).keeps x0, (g2).keeps x1, g2⟩ (fun hHeld => ?_)
      (simp only [Act.put, List.setIfInBounds_toArray, List.set_cons_zero, List.set_cons_succ])
      refine wpAnyH_take (i := 5) (oi := { dst := some 77, op := Op.move (Operand.tmp 82), type := 37, pos := "ref.go:77", after := #[{ on := 4, ground := Ground.data }], guard := none }) (v := ?_) rfl (by kernel_rfl) (by kernel_rfl) (by kernel_rfl) (hQ _ _) (_root_.Or.inl ⟨by rfl, ?_⟩) (by assumption) ?_
      rotate_left
      · intro w0 hSw; (try dsimp only at hSw); have y0 := hSw.1; have y1 := hSw.2.1; go_simp; try with_reducible rfl
      (simp only [Act.put, List.setIfInBounds_toArray, List.set_cons_zero, List.set_cons_succ])
      refine wpAnyH_take (i := 6) (oi := { dst := some 83, op := Op.extract (Operand.tmp 77) 0, type := 24, pos := "ref.go:77", after := #[{ on := 5, ground := Ground.data }], guard := none }) (v := ?_) rfl (by kernel_rfl) (by kernel_rfl) (by kernel_rfl) (hQ _ _) (_root_.Or.inl ⟨by rfl, ?_⟩) (by assumption) ?_
      rotate_left
      · intro w0 hSw; (try dsimp only at hSw); have y0 := hSw.1; have y1 := hSw.2.1; go_simp; try with_reducible rfl
      (simp only [Act.put, List.setIfInBounds_toArray, List.set_cons_zero, List.set_cons_succ])
      refine wpAnyH_take (i := 7) (oi := { dst := some 84, op := Op.extract (Operand.tmp 77) 1, type := 32, pos := "ref.go:77", after := #[{ on := 5, ground := Ground.data }, { on := 9, ground := Ground.gcOnly Departure.lateStores }], guard := none }) (v := ?_) rfl (by kernel_rfl) (by kernel_rfl) (by kernel_rfl) (hQ _ _) (_root_.Or.inl ⟨by rfl, ?_⟩) (by assumption) ?_
      rotate_left
      · intro w0 hSw; (try dsimp only at hSw); have y0 := hSw.1; have y1 := hSw.2.1; go_simp; try with_reducible rfl
      (simp only [Act.put, List.setIfInBounds_toArray, List.set_cons_zero, List.set_cons_succ])
      exact out _ _ _ _ (st0_2 _ hHeld)
    refine AllReadyH.cons (o := { dst := some 20, op := Op.alloc 24, type := 0, pos := "ref.go:77", after := #[], guard := none }) rfl (fun K hK => ?_) ?_
    · go_simp
      have g2 := hS.2.2.alloc (.cells #[.bool false, .string ⟨#[]⟩] 24)
      refine hK.out _ _ ⟨(g2).keeps x0, (g2).keeps x1, g2⟩ (fun hHeld => ?_)
      (simp only [Act.put, List.setIfInBounds_toArray, List.set_cons_zero, List.set_cons_succ])
      exact out _ _ _ _ (st1_1 _ _ hHeld (FreshW.new hS.2.2 _))
    exact AllReadyH.nil
  have st1_0 : ∀ (A0 : Nat) (w : World), (fun w' => w'.cell? ⟨XB, 0, none⟩ = some (.bool (decide (x < 0))) ∧ w'.cell? ⟨XB, 1, none⟩ = some (.string (bstr x.natAbs)) ∧ Gr W0 w') w → FreshW W0 w A0 → G 7 #[true, true, true, false, false, false, false, false, true, false, false] { tmps := List.toArray (v0 :: v1 :: v2 :: v3 :: v4 :: v5 :: v6 :: .pointer (some ⟨XB, 0, none⟩) :: v8 :: v9 :: v10 :: v11 :: v12 :: v13 :: v14 :: v15 :: v16 :: v17 :: .int .u32 a :: v19 :: .pointer (some ⟨A0, 0, none⟩) :: s21 :: v22 :: v23 :: v24 :: v25 :: v26 :: v27 :: v28 :: v29 :: v30 :: v31 :: v32 :: v33 :: v34 :: v35 :: v36 :: v37 :: v38 :: v39 :: v40 :: v41 :: v42 :: v43 :: v44 :: v45 :: v46 :: v47 :: v48 :: v49 :: v50 :: v51 :: v52 :: v53 :: v54 :: v55 :: v56 :: v57 :: v58 :: v59 :: v60 :: v61 :: v62 :: v63 :: v64 :: v65 :: v66 :: v67 :: v68 :: v69 :: v70 :: v71 :: v72 :: v73 :: v74 :: v75 :: v76 :: s77 :: wv x :: .int .u32 a :: .int .i64 a :: s81 :: s82 :: s83 :: s84 :: v85 :: v86 :: v87 :: v88 :: v89 :: v90 :: v91 :: v92 :: v93 :: v94 :: v95 :: v96 :: v97 :: v98 :: v99 :: v100 :: v101 :: v102 :: v103 :: ([] : List Value)), defers := [] } w := by
    intro A0 w hS hF0
    refine inn _ _ _ _ ?_
    refine wpAnyH_ready (rs := [3]) (by kernel_rfl) (by simp) ?_
    refine AllReadyH.cons (o := { dst := some 81, op := Op.call { callee := Callee.value (Operand.func 36), args := #[Operand.tmp 80], argTypes := #[2] }, type := 24, pos := "ref.go:77", after := #[{ on := 2, ground := Ground.data }], guard := none }) rfl (fun K hK => ?_) ?_
    · go_simp
      go_at_call 36
      refine (HC1 _ hS.2.2).mono ?_
      rintro e w' ⟨rfl, g⟩
      go_wp2_with fail
      have g2 := hS.2.2.trans g
      refine hK.out _ _ ⟨(g2).keeps x0, (g2).keeps x1, g2⟩ (fun hHeld => ?_)
      (simp only [Act.put, List.setIfInBounds_toArray, List.set_cons_zero, List.set_cons_succ])
      exact out _ _ _ _ (st1_1 _ _ hHeld (hF0.later g))
    exact AllReadyH.nil
  have st0_0 : ∀ (w : World), (fun w' => w'.cell? ⟨XB, 0, none⟩ = some (.bool (decide (x < 0))) ∧ w'.cell? ⟨XB, 1, none⟩ = some (.string (bstr x.natAbs)) ∧ Gr W0 w') w → G 8 #[true, true, true, false, false, false, false, false, false, false, false] { tmps := List.toArray (v0 :: v1 :: v2 :: v3 :: v4 :: v5 :: v6 :: .pointer (some ⟨XB, 0, none⟩) :: v8 :: v9 :: v10 :: v11 :: v12 :: v13 :: v14 :: v15 :: v16 :: v17 :: .int .u32 a :: v19 :: s20 :: s21 :: v22 :: v23 :: v24 :: v25 :: v26 :: v27 :: v28 :: v29 :: v30 :: v31 :: v32 :: v33 :: v34 :: v35 :: v36 :: v37 :: v38 :: v39 :: v40 :: v41 :: v42 :: v43 :: v44 :: v45 :: v46 :: v47 :: v48 :: v49 :: v50 :: v51 :: v52 :: v53 :: v54 :: v55 :: v56 :: v57 :: v58 :: v59 :: v60 :: v61 :: v62 :: v63 :: v64 :: v65 :: v66 :: v67 :: v68 :: v69 :: v70 :: v71 :: v72 :: v73 :: v74 :: v75 :: v76 :: s77 :: wv x :: .int .u32 a :: .int .i64 a :: s81 :: s82 :: s83 :: s84 :: v85 :: v86 :: v87 :: v88 :: v89 :: v90 :: v91 :: v92 :: v93 :: v94 :: v95 :: v96 :: v97 :: v98 :: v99 :: v100 :: v101 :: v102 :: v103 :: ([] : List Value)), defers := [] } w := by
    intro w hS
    refine inn _ _ _ _ ?_
    refine wpAnyH_ready (rs := [3, 8]) (by kernel_rfl) (by simp) ?_
    refine AllReadyH.cons (o := { dst := some 81, op := Op.call { callee := Callee.value (Operand.func 36), args := #[Operand.tmp 80], argTypes := #[2] }, type := 24, pos := "ref.go:77", after := #[{ on := 2, ground := Ground.data }], guard := none }) rfl (fun K hK => ?_) ?_
    · go_simp
      go_at_call 36
      refine (HC1 _ hS.2.2).mono ?_
      rintro e w' ⟨rfl, g⟩
      go_wp2_with fail
      have g2 := hS.2.2.trans g
      refine hK.out _ _ ⟨(g2).keeps x0, (g2).keeps x1, g2⟩ (fun hHeld => ?_)
      (simp only [Act.put, List.setIfInBounds_toArray, List.set_cons_zero, List.set_cons_succ])
      exact out _ _ _ _ (st0_1 _ hHeld)
    refine AllReadyH.cons (o := { dst := some 20, op := Op.alloc 24, type := 0, pos := "ref.go:77", after := #[], guard := none }) rfl (fun K hK => ?_) ?_
    · go_simp
      have g2 := hS.2.2.alloc (.cells #[.bool false, .string ⟨#[]⟩] 24)
      refine hK.out _ _ ⟨(g2).keeps x0, (g2).keeps x1, g2⟩ (fun hHeld => ?_)
      (simp only [Act.put, List.setIfInBounds_toArray, List.set_cons_zero, List.set_cons_succ])
      exact out _ _ _ _ (st1_0 _ _ hHeld (FreshW.new hS.2.2 _))
    exact AllReadyH.nil
  show wpAnyH _ _ _ _ _ 11 #[false, false, false, false, false, false, false, false, false, false, false] _ _
  refine wpAnyH_take (i := 0) (oi := { dst := some 78, op := Op.load 24 (Operand.tmp 7), type := 24, pos := "ref.go:77", after := #[], guard := none }) (v := ?_) rfl (by kernel_rfl) (by kernel_rfl) (by kernel_rfl) (hQ _ _) (_root_.Or.inl ⟨by rfl, ?_⟩) (by assumption) ?_
  rotate_left
  · intro w0 hSw; (try dsimp only at hSw); have y0 := hSw.1; have y1 := hSw.2.1; go_simp; try with_reducible rfl
  (simp only [Act.put, List.setIfInBounds_toArray, List.set_cons_zero, List.set_cons_succ])
  refine wpAnyH_take (i := 1) (oi := { dst := some 79, op := Op.move (Operand.tmp 18), type := 42, pos := "ref.go:77", after := #[], guard := none }) (v := ?_) rfl (by kernel_rfl) (by kernel_rfl) (by kernel_rfl) (hQ _ _) (_root_.Or.inl ⟨by rfl, ?_⟩) (by assumption) ?_
  rotate_left
  · intro w0 hSw; (try dsimp only at hSw); have y0 := hSw.1; have y1 := hSw.2.1; go_simp; try with_reducible rfl
  (simp only [Act.put, List.setIfInBounds_toArray, List.set_cons_zero, List.set_cons_succ])
  refine wpAnyH_take (i := 2) (oi := { dst := some 80, op := Op.convert 42 2 (Operand.tmp 79), type := 2, pos := "ref.go:77", after := #[{ on := 1, ground := Ground.data }], guard := none }) (v := .int .i64 a) rfl (by kernel_rfl) (by kernel_rfl) (by kernel_rfl) (hQ _ _) (_root_.Or.inl ⟨by rfl, ?_⟩) (by assumption) ?_
  · intro w0 hSw; (try dsimp only at hSw); have y0 := hSw.1; have y1 := hSw.2.1; go_simp <;> first | with_reducible rfl | simp only [hw0]
  (simp only [Act.put, List.setIfInBounds_toArray, List.set_cons_zero, List.set_cons_succ])
  exact out _ _ _ _ (st0_0 _ hHeld)

set_option maxRecDepth 100000 in
set_option maxHeartbeats 8000000 in
theorem rj_product (x : Int) (p : Int) (W0 W : World) (X O : Nat) (y : Int) (HK : isW (p)) (HX : InR x) (HKR : InR (p)) (HZ : InR (x * p))
     (hG : Gr W0 W) (hX0 : XD W0 X O y x W)
    (v0 v1 v2 v3 v4 v5 v6 v8 v10 v11 v12 v13 v14 v15 v16 v17 v18 v19 v20 v21 v22 v23 v24 v25 v26 v27 v28 v29 v30 v31 v32 v33 v34 v35 v36 v37 v38 v39 v40 v41 v42 v43 v44 v45 v46 v47 v48 v49 v50 v51 v52 v53 v54 v55 v56 v57 v58 v59 v60 v61 v62 v63 v64 v65 v66 v67 v68 v69 v70 v71 v72 v73 v74 v75 v76 v77 v78 v79 v80 v81 v82 v83 v84 v85 v86 v87 v88 v89 v90 v99 v100 v101 v102 v103 s91 s92 s93 s94 s95 s96 s97 s98 : Value) (Q : Exit → Act → World → Prop) (hQ : ∀ (d : Option Tmp) (v : Value) c a w, Q (.panic c) (a.put d v) w → Q (.panic c) a w)
    (hpost : ∀ u91 u92 u93 u94 u95 u96 u97 u98 wx, XD W0 X O y (x * p) wx → Gr W0 wx → Q .normal { tmps := List.toArray (v0 :: v1 :: v2 :: v3 :: v4 :: v5 :: v6 :: .pointer (some ⟨X, 0, none⟩) :: v8 :: .int .u32 p :: v10 :: v11 :: v12 :: v13 :: v14 :: v15 :: v16 :: v17 :: v18 :: v19 :: v20 :: v21 :: v22 :: v23 :: v24 :: v25 :: v26 :: v27 :: v28 :: v29 :: v30 :: v31 :: v32 :: v33 :: v34 :: v35 :: v36 :: v37 :: v38 :: v39 :: v40 :: v41 :: v42 :: v43 :: v44 :: v45 :: v46 :: v47 :: v48 :: v49 :: v50 :: v51 :: v52 :: v53 :: v54 :: v55 :: v56 :: v57 :: v58 :: v59 :: v60 :: v61 :: v62 :: v63 :: v64 :: v65 :: v66 :: v67 :: v68 :: v69 :: v70 :: v71 :: v72 :: v73 :: v74 :: v75 :: v76 :: v77 :: v78 :: v79 :: v80 :: v81 :: v82 :: v83 :: v84 :: v85 :: v86 :: v87 :: v88 :: v89 :: v90 :: u91 :: u92 :: u93 :: u94 :: u95 :: u96 :: u97 :: u98 :: v99 :: v100 :: v101 :: v102 :: v103 :: ([] : List Value)), defers := [] } wx) :
    (Code.region 15 #[{ dst := some 92, op := Op.load 24 (Operand.tmp 7), type := 24, pos := "ref.go:79", after := #[], guard := none },
      { dst := some 93, op := Op.move (Operand.tmp 9), type := 42, pos := "ref.go:79", after := #[], guard := none },
      { dst := some 94, op := Op.convert 42 2 (Operand.tmp 93), type := 2, pos := "ref.go:79", after := #[{ on := 1, ground := Ground.data }], guard := none },
      { dst := some 95, op := Op.call { callee := Callee.value (Operand.func 36), args := #[Operand.tmp 94], argTypes := #[2] }, type := 24, pos := "ref.go:79", after := #[{ on := 2, ground := Ground.data }], guard := none },
      { dst := some 96, op := Op.call { callee := Callee.value (Operand.func 40), args := #[Operand.tmp 92, Operand.tmp 95], argTypes := #[24, 24] }, type := 37, pos := "ref.go:79", after := #[{ on := 0, ground := Ground.data }, { on := 3, ground := Ground.data }, { on := 3, ground := Ground.chain }], guard := none },
      { dst := some 91, op := Op.move (Operand.tmp 96), type := 37, pos := "ref.go:79", after := #[{ on := 4, ground := Ground.data }], guard := none },
      { dst := some 97, op := Op.extract (Operand.tmp 91) 0, type := 24, pos := "ref.go:79", after := #[{ on := 5, ground := Ground.data }], guard := none },
      { dst := some 98, op := Op.extract (Operand.tmp 91) 1, type := 32, pos := "ref.go:79", after := #[{ on := 5, ground := Ground.data }, { on := 8, ground := Ground.gcOnly Departure.lateStores }], guard := none },
      { dst := none, op := Op.store 24 (Operand.tmp 7) (Operand.tmp 97), type := 0, pos := "ref.go:79", after := #[{ on := 6, ground := Ground.data }, { on := 4, ground := Ground.chain }, { on := 0, ground := Ground.phase }, { on := 1, ground := Ground.phase }, { on := 2, ground := Ground.phase }, { on := 3, ground := Ground.phase }, { on := 4, ground := Ground.phase }, { on := 5, ground := Ground.phase }, { on := 6, ground := Ground.phase }, { on := 7, ground := Ground.textOnly Departure.lateStores }], guard := none }] true).wp Tryz.prog Q { tmps := List.toArray (v0 :: v1 :: v2 :: v3 :: v4 :: v5 :: v6 :: .pointer (some ⟨X, 0, none⟩) :: v8 :: .int .u32 p :: v10 :: v11 :: v12 :: v13 :: v14 :: v15 :: v16 :: v17 :: v18 :: v19 :: v20 :: v21 :: v22 :: v23 :: v24 :: v25 :: v26 :: v27 :: v28 :: v29 :: v30 :: v31 :: v32 :: v33 :: v34 :: v35 :: v36 :: v37 :: v38 :: v39 :: v40 :: v41 :: v42 :: v43 :: v44 :: v45 :: v46 :: v47 :: v48 :: v49 :: v50 :: v51 :: v52 :: v53 :: v54 :: v55 :: v56 :: v57 :: v58 :: v59 :: v60 :: v61 :: v62 :: v63 :: v64 :: v65 :: v66 :: v67 :: v68 :: v69 :: v70 :: v71 :: v72 :: v73 :: v74 :: v75 :: v76 :: v77 :: v78 :: v79 :: v80 :: v81 :: v82 :: v83 :: v84 :: v85 :: v86 :: v87 :: v88 :: v89 :: v90 :: s91 :: s92 :: s93 :: s94 :: s95 :: s96 :: s97 :: s98 :: v99 :: v100 :: v101 :: v102 :: v103 :: ([] : List Value)), defers := [] } W := by
  refine wp_region_held_drew (S := fun w' => Gr W0 w') (by kernel_rfl) (have g : Gr W0 W.drew := hG.drew; g) (fun hHeld => ?_)
  have hw : IntKind.i64.wrap (p) = p := IntWalk.i64_in _ (by have a := HK.1; have b := HK.2; omega)
  refine chain_any (fun G out inn => ?_)
  have st12 : ∀ (w : World), (fun w' => Gr W0 w') w → XD W0 X O y x w → G 1 #[true, true, true, true, true, true, true, true, false] { tmps := List.toArray (v0 :: v1 :: v2 :: v3 :: v4 :: v5 :: v6 :: .pointer (some ⟨X, 0, none⟩) :: v8 :: .int .u32 p :: v10 :: v11 :: v12 :: v13 :: v14 :: v15 :: v16 :: v17 :: v18 :: v19 :: v20 :: v21 :: v22 :: v23 :: v24 :: v25 :: v26 :: v27 :: v28 :: v29 :: v30 :: v31 :: v32 :: v33 :: v34 :: v35 :: v36 :: v37 :: v38 :: v39 :: v40 :: v41 :: v42 :: v43 :: v44 :: v45 :: v46 :: v47 :: v48 :: v49 :: v50 :: v51 :: v52 :: v53 :: v54 :: v55 :: v56 :: v57 :: v58 :: v59 :: v60 :: v61 :: v62 :: v63 :: v64 :: v65 :: v66 :: v67 :: v68 :: v69 :: v70 :: v71 :: v72 :: v73 :: v74 :: v75 :: v76 :: v77 :: v78 :: v79 :: v80 :: v81 :: v82 :: v83 :: v84 :: v85 :: v86 :: v87 :: v88 :: v89 :: v90 :: .tuple #[wv (x * p), .int .i64 0] :: wv x :: .int .u32 p :: .int .i64 p :: wv (p) :: .tuple #[wv (x * p), .int .i64 0] :: wv (x * p) :: .int .i64 0 :: v99 :: v100 :: v101 :: v102 :: v103 :: ([] : List Value)), defers := [] } w := by
    intro w hS hX
    refine inn _ _ _ _ ?_
    obtain ⟨⟨l7, c0, c1, z0, z1⟩, hO, hne⟩ := hX
    refine wpAnyH_ready (rs := [8]) (by kernel_rfl) (by simp) ?_
    refine AllReadyH.cons (o := { dst := none, op := Op.store 24 (Operand.tmp 7) (Operand.tmp 97), type := 0, pos := "ref.go:79", after := #[{ on := 6, ground := Ground.data }, { on := 4, ground := Ground.chain }, { on := 0, ground := Ground.phase }, { on := 1, ground := Ground.phase }, { on := 2, ground := Ground.phase }, { on := 3, ground := Ground.phase }, { on := 4, ground := Ground.phase }, { on := 5, ground := Ground.phase }, { on := 6, ground := Ground.phase }, { on := 7, ground := Ground.textOnly Departure.lateStores }], guard := none }) rfl (fun K hK => ?_) AllReadyH.nil
    unfold wv
    go_simp
    have g2 : Gr W0 ((w.setCell ⟨X, 0, none⟩ (.bool (decide (x * p < 0)))).setCell ⟨X, 1, none⟩ (.string (bstr (x * p).natAbs))) := (hS.setCell (p := ⟨X, 0, none⟩) l7 _).setCell (p := ⟨X, 1, none⟩) l7 _
    refine hK.out _ _ g2 (fun hHeld => ?_)
    clear hK K
    (simp only [Act.put, List.setIfInBounds_toArray, List.set_cons_zero, List.set_cons_succ])
    refine wpAnyH_done (by kernel_rfl) ?_ _
    exact hpost _ _ _ _ _ _ _ _ _ ⟨⟨l7, (xc_put c0 c1 _ _).1, (xc_put c0 c1 _ _).2, (xc_frz _ _ _ _ _ _).trans z0, (xc_frz _ _ _ _ _ _).trans z1⟩, hO.other hne _ _, hne⟩ g2
  have st11 : ∀ (w : World), (fun w' => Gr W0 w') w → XD W0 X O y x w → G 5 #[true, true, true, true, false, false, false, false, false] { tmps := List.toArray (v0 :: v1 :: v2 :: v3 :: v4 :: v5 :: v6 :: .pointer (some ⟨X, 0, none⟩) :: v8 :: .int .u32 p :: v10 :: v11 :: v12 :: v13 :: v14 :: v15 :: v16 :: v17 :: v18 :: v19 :: v20 :: v21 :: v22 :: v23 :: v24 :: v25 :: v26 :: v27 :: v28 :: v29 :: v30 :: v31 :: v32 :: v33 :: v34 :: v35 :: v36 :: v37 :: v38 :: v39 :: v40 :: v41 :: v42 :: v43 :: v44 :: v45 :: v46 :: v47 :: v48 :: v49 :: v50 :: v51 :: v52 :: v53 :: v54 :: v55 :: v56 :: v57 :: v58 :: v59 :: v60 :: v61 :: v62 :: v63 :: v64 :: v65 :: v66 :: v67 :: v68 :: v69 :: v70 :: v71 :: v72 :: v73 :: v74 :: v75 :: v76 :: v77 :: v78 :: v79 :: v80 :: v81 :: v82 :: v83 :: v84 :: v85 :: v86 :: v87 :: v88 :: v89 :: v90 :: s91 :: wv x :: .int .u32 p :: .int .i64 p :: wv (p) :: s96 :: s97 :: s98 :: v99 :: v100 :: v101 :: v102 :: v103 :: ([] : List Value)), defers := [] } w := by
    intro w hS hX
    refine inn _ _ _ _ ?_
    refine wpAnyH_ready (rs := [4]) (by kernel_rfl) (by simp) ?_
    refine AllReadyH.cons (o := { dst := some 96, op := Op.call { callee := Callee.value (Operand.func 40), args := #[Operand.tmp 92, Operand.tmp 95], argTypes := #[24, 24] }, type := 37, pos := "ref.go:79", after := #[{ on := 0, ground := Ground.data }, { on := 3, ground := Ground.data }, { on := 3, ground := Ground.chain }], guard := none }) rfl (fun K hK => ?_) ?_
    · go_simp
      go_at_call 40
      refine (rwmul_any x (p) _ HX HKR HZ).mono ?_
      rintro e w' ⟨rfl, g⟩
      go_wp2_with fail
      have g2 := hS.trans g
      refine hK.out _ _ g2 (fun hHeld => ?_)
      (simp only [Act.put, List.setIfInBounds_toArray, List.set_cons_zero, List.set_cons_succ])
      refine wpAnyH_take (i := 5) (oi := { dst := some 91, op := Op.move (Operand.tmp 96), type := 37, pos := "ref.go:79", after := #[{ on := 4, ground := Ground.data }], guard := none }) (v := ?_) rfl (by kernel_rfl) (by kernel_rfl) (by kernel_rfl) (hQ _ _) (_root_.Or.inl ⟨by rfl, ?_⟩) (by assumption) ?_
      rotate_left
      · intro w0 hSw; (try dsimp only at hSw); go_simp; try with_reducible rfl
      (simp only [Act.put, List.setIfInBounds_toArray, List.set_cons_zero, List.set_cons_succ])
      refine wpAnyH_take (i := 6) (oi := { dst := some 97, op := Op.extract (Operand.tmp 91) 0, type := 24, pos := "ref.go:79", after := #[{ on := 5, ground := Ground.data }], guard := none }) (v := ?_) rfl (by kernel_rfl) (by kernel_rfl) (by kernel_rfl) (hQ _ _) (_root_.Or.inl ⟨by rfl, ?_⟩) (by assumption) ?_
      rotate_left
      · intro w0 hSw; (try dsimp only at hSw); go_simp; try with_reducible rfl
      (simp only [Act.put, List.setIfInBounds_toArray, List.set_cons_zero, List.set_cons_succ])
      refine wpAnyH_take (i := 7) (oi := { dst := some 98, op := Op.extract (Operand.tmp 91) 1, type := 32, pos := "ref.go:79", after := #[{ on := 5, ground := Ground.data }, { on := 8, ground := Ground.gcOnly Departure.lateStores }], guard := none }) (v := ?_) rfl (by kernel_rfl) (by kernel_rfl) (by kernel_rfl) (hQ _ _) (_root_.Or.inl ⟨by rfl, ?_⟩) (by assumption) ?_
      rotate_left
      · intro w0 hSw; (try dsimp only at hSw); go_simp; try with_reducible rfl
      (simp only [Act.put, List.setIfInBounds_toArray, List.set_cons_zero, List.set_cons_succ])
      exact out _ _ _ _ (st12 _ hHeld (hX.later g))
    exact AllReadyH.nil
  have st01 : ∀ (w : World), (fun w' => Gr W0 w') w → XD W0 X O y x w → G 6 #[false, true, true, true, false, false, false, false, false] { tmps := List.toArray (v0 :: v1 :: v2 :: v3 :: v4 :: v5 :: v6 :: .pointer (some ⟨X, 0, none⟩) :: v8 :: .int .u32 p :: v10 :: v11 :: v12 :: v13 :: v14 :: v15 :: v16 :: v17 :: v18 :: v19 :: v20 :: v21 :: v22 :: v23 :: v24 :: v25 :: v26 :: v27 :: v28 :: v29 :: v30 :: v31 :: v32 :: v33 :: v34 :: v35 :: v36 :: v37 :: v38 :: v39 :: v40 :: v41 :: v42 :: v43 :: v44 :: v45 :: v46 :: v47 :: v48 :: v49 :: v50 :: v51 :: v52 :: v53 :: v54 :: v55 :: v56 :: v57 :: v58 :: v59 :: v60 :: v61 :: v62 :: v63 :: v64 :: v65 :: v66 :: v67 :: v68 :: v69 :: v70 :: v71 :: v72 :: v73 :: v74 :: v75 :: v76 :: v77 :: v78 :: v79 :: v80 :: v81 :: v82 :: v83 :: v84 :: v85 :: v86 :: v87 :: v88 :: v89 :: v90 :: s91 :: s92 :: .int .u32 p :: .int .i64 p :: wv (p) :: s96 :: s97 :: s98 :: v99 :: v100 :: v101 :: v102 :: v103 :: ([] : List Value)), defers := [] } w := by
    intro w hS hX
    refine inn _ _ _ _ ?_
    refine wpAnyH_ready (rs := [0]) (by kernel_rfl) (by simp) ?_
    refine AllReadyH.cons (o := { dst := some 92, op := Op.load 24 (Operand.tmp 7), type := 24, pos := "ref.go:79", after := #[], guard := none }) rfl (fun K hK => ?_) ?_
    · obtain ⟨⟨l7, c0, c1, z0, z1⟩, -, -⟩ := id hX
      go_simp
      refine hK.out _ _ hS (fun hHeld => ?_)
      (simp only [Act.put, List.setIfInBounds_toArray, List.set_cons_zero, List.set_cons_succ])
      exact out _ _ _ _ (st11 _ hHeld hX)
    exact AllReadyH.nil
  have st10 : ∀ (w : World), (fun w' => Gr W0 w') w → XD W0 X O y x w → G 6 #[true, true, true, false, false, false, false, false, false] { tmps := List.toArray (v0 :: v1 :: v2 :: v3 :: v4 :: v5 :: v6 :: .pointer (some ⟨X, 0, none⟩) :: v8 :: .int .u32 p :: v10 :: v11 :: v12 :: v13 :: v14 :: v15 :: v16 :: v17 :: v18 :: v19 :: v20 :: v21 :: v22 :: v23 :: v24 :: v25 :: v26 :: v27 :: v28 :: v29 :: v30 :: v31 :: v32 :: v33 :: v34 :: v35 :: v36 :: v37 :: v38 :: v39 :: v40 :: v41 :: v42 :: v43 :: v44 :: v45 :: v46 :: v47 :: v48 :: v49 :: v50 :: v51 :: v52 :: v53 :: v54 :: v55 :: v56 :: v57 :: v58 :: v59 :: v60 :: v61 :: v62 :: v63 :: v64 :: v65 :: v66 :: v67 :: v68 :: v69 :: v70 :: v71 :: v72 :: v73 :: v74 :: v75 :: v76 :: v77 :: v78 :: v79 :: v80 :: v81 :: v82 :: v83 :: v84 :: v85 :: v86 :: v87 :: v88 :: v89 :: v90 :: s91 :: wv x :: .int .u32 p :: .int .i64 p :: s95 :: s96 :: s97 :: s98 :: v99 :: v100 :: v101 :: v102 :: v103 :: ([] : List Value)), defers := [] } w := by
    intro w hS hX
    refine inn _ _ _ _ ?_
    refine wpAnyH_ready (rs := [3]) (by kernel_rfl) (by simp) ?_
    refine AllReadyH.cons (o := { dst := some 95, op := Op.call { callee := Callee.value (Operand.func 36), args := #[Operand.tmp 94], argTypes := #[2] }, type := 24, pos := "ref.go:79", after := #[{ on := 2, ground := Ground.data }], guard := none }) rfl (fun K hK => ?_) ?_
    · go_simp
      go_at_call 36
      refine (rwof_any (p) _ HK).mono ?_
      rintro e w' ⟨rfl, g⟩
      go_wp2_with fail
      have g2 := hS.trans g
      refine hK.out _ _ g2 (fun hHeld => ?_)
      (simp only [Act.put, List.setIfInBounds_toArray, List.set_cons_zero, List.set_cons_succ])
      exact out _ _ _ _ (st11 _ hHeld (hX.later g))
    exact AllReadyH.nil
  have st00 : ∀ (w : World), (fun w' => Gr W0 w') w → XD W0 X O y x w → G 7 #[false, true, true, false, false, false, false, false, false] { tmps := List.toArray (v0 :: v1 :: v2 :: v3 :: v4 :: v5 :: v6 :: .pointer (some ⟨X, 0, none⟩) :: v8 :: .int .u32 p :: v10 :: v11 :: v12 :: v13 :: v14 :: v15 :: v16 :: v17 :: v18 :: v19 :: v20 :: v21 :: v22 :: v23 :: v24 :: v25 :: v26 :: v27 :: v28 :: v29 :: v30 :: v31 :: v32 :: v33 :: v34 :: v35 :: v36 :: v37 :: v38 :: v39 :: v40 :: v41 :: v42 :: v43 :: v44 :: v45 :: v46 :: v47 :: v48 :: v49 :: v50 :: v51 :: v52 :: v53 :: v54 :: v55 :: v56 :: v57 :: v58 :: v59 :: v60 :: v61 :: v62 :: v63 :: v64 :: v65 :: v66 :: v67 :: v68 :: v69 :: v70 :: v71 :: v72 :: v73 :: v74 :: v75 :: v76 :: v77 :: v78 :: v79 :: v80 :: v81 :: v82 :: v83 :: v84 :: v85 :: v86 :: v87 :: v88 :: v89 :: v90 :: s91 :: s92 :: .int .u32 p :: .int .i64 p :: s95 :: s96 :: s97 :: s98 :: v99 :: v100 :: v101 :: v102 :: v103 :: ([] : List Value)), defers := [] } w := by
    intro w hS hX
    refine inn _ _ _ _ ?_
    refine wpAnyH_ready (rs := [0, 3]) (by kernel_rfl) (by simp) ?_
    refine AllReadyH.cons (o := { dst := some 92, op := Op.load 24 (Operand.tmp 7), type := 24, pos := "ref.go:79", after := #[], guard := none }) rfl (fun K hK => ?_) ?_
    · obtain ⟨⟨l7, c0, c1, z0, z1⟩, -, -⟩ := id hX
      go_simp
      refine hK.out _ _ hS (fun hHeld => ?_)
      (simp only [Act.put, List.setIfInBounds_toArray, List.set_cons_zero, List.set_cons_succ])
      exact out _ _ _ _ (st10 _ hHeld hX)
    refine AllReadyH.cons (o := { dst := some 95, op := Op.call { callee := Callee.value (Operand.func 36), args := #[Operand.tmp 94], argTypes := #[2] }, type := 24, pos := "ref.go:79", after := #[{ on := 2, ground := Ground.data }], guard := none }) rfl (fun K hK => ?_) ?_
    · go_simp
      go_at_call 36
      refine (rwof_any (p) _ HK).mono ?_
      rintro e w' ⟨rfl, g⟩
      go_wp2_with fail
      have g2 := hS.trans g
      refine hK.out _ _ g2 (fun hHeld => ?_)
      (simp only [Act.put, List.setIfInBounds_toArray, List.set_cons_zero, List.set_cons_succ])
      exact out _ _ _ _ (st01 _ hHeld (hX.later g))
    exact AllReadyH.nil
  show wpAnyH _ _ _ _ _ 9 #[false, false, false, false, false, false, false, false, false] _ _
  refine wpAnyH_take (i := 1) (oi := { dst := some 93, op := Op.move (Operand.tmp 9), type := 42, pos := "ref.go:79", after := #[], guard := none }) (v := ?_) rfl (by kernel_rfl) (by kernel_rfl) (by kernel_rfl) (hQ _ _) (_root_.Or.inl ⟨by rfl, ?_⟩) (by assumption) ?_
  rotate_left
  · intro w0 hSw; (try dsimp only at hSw); go_simp; try with_reducible rfl
  (simp only [Act.put, List.setIfInBounds_toArray, List.set_cons_zero, List.set_cons_succ])
  refine wpAnyH_take (i := 2) (oi := { dst := some 94, op := Op.convert 42 2 (Operand.tmp 93), type := 2, pos := "ref.go:79", after := #[{ on := 1, ground := Ground.data }], guard := none }) (v := ?_) rfl (by kernel_rfl) (by kernel_rfl) (by kernel_rfl) (hQ _ _) (_root_.Or.inl ⟨by rfl, ?_⟩) (by assumption) ?_
  rotate_left
  · intro w0 hSw; (try dsimp only at hSw); go_simp; try with_reducible rfl
  (simp only [Act.put, List.setIfInBounds_toArray, List.set_cons_zero, List.set_cons_succ])
  try rw [hw]
  exact out _ _ _ _ (st00 _ hHeld (hX0.later (Gr.refl W).drew))
end Go.Proofs.YtfpdemmdkiohhaaGreat.Mo
/- The reference of package residue: Join. -/
namespace Go.Proofs.YtfpdemmdkiohhaaGreat.Mo
open Go.RowKit
set_option linter.unusedVariables false

theorem rinv_any (u p : Int) (w : World) (hp : okP p) (hc : Int.gcd u p = 1) : Calls Tryz.prog 37 #[.int .u32 (u % p), .int .u32 p] w (fun e w' => ∃ b, e = .returned (.tuple #[.int .u32 b, .int .i64 0]) ∧ IsInv (u % p) p b ∧ Gr w w') := by
  have hp1 : 1 ≤ p := by have := hp.1; omega
  have h2 := hp.1
  have h3 := hp.2
  have hm0 := emod_lo u p hp1
  have hm1 := emod_hi u p hp1
  have hg := gcd_mod1 hc
  generalize u % p = y at *
  obtain ⟨x, rfl⟩ := Int.eq_ofNat_of_zero_le hm0
  obtain ⟨n, rfl⟩ := Int.eq_ofNat_of_zero_le (show 0 ≤ p by omega)
  refine (rinverse_any x n w (by omega) (by omega) (by omega)).mono ?_
  rintro e w' ⟨h, -⟩
  obtain ⟨b, ⟨rfl, hg2⟩, hb⟩ := h (by simpa using hg)
  exact ⟨b, rfl, hb, hg2⟩
theorem rwbalv_any (x y : Int) (w : World) (hx : InR x) (hy : InR y) (h0 : 0 < y) (hb : InR (wbal x y)) : Calls Tryz.prog 42 #[wv x, wv y] w (fun e w' => e = .returned (.tuple #[wv (wbal x y), .int .i64 0]) ∧ Gr w w') := by
  have h := rwbal_any (decide (x < 0)) (bstr x.natAbs) y w (form_bstr x hx) hy h0 (by rw [zOf_bstr]; exact hb)
  rw [zOf_bstr] at h
  exact h
theorem rwmodv_any (x p : Int) (w : World) (hx : InR x) (hp : okP p) : Calls Tryz.prog 30 #[wv x, .int .u32 p] w (fun e w' => e = .returned (.tuple #[.int .u32 (x % p), .int .i64 0]) ∧ Gr w w') := by
  have h := rwmod_any (decide (x < 0)) (bstr x.natAbs) p w (form_bstr x hx) hp
  rw [zOf_bstr] at h
  exact h
theorem bstr0 : bstr 0 = ⟨#[]⟩ := by unfold bstr; rw [Ow.byt_zero]
def JoinRP (l r : List Int) (w : World) (e : Ending) (w' : World) : Prop := ∃ X c, e = .returned (.tuple #[wv X, .int .i64 c]) ∧ JoinR l r X c ∧ Gr w w'

set_option maxRecDepth 100000 in
set_option maxHeartbeats 8000000 in
theorem rjoin_any (R : Nat) (l r : List Int) (vr : Value) (w : World) (h : RefPr w R l) (hs : Sys l) (hu : HasP w vr r) : Calls Tryz.prog 12 #[.pointer (some ⟨R, 0, none⟩), vr] w (JoinRP l r w) := by
  have hg0 := Gr.new w (.cells #[.bool false, .string ⟨#[]⟩] 24)
  have H := Lib.hid (h.later hg0)
  have HU := Lib.hid (hu.later hg0)
  have HG0 := Lib.hid hg0
  have HS := Lib.hid hs
  obtain ⟨-, xb, cb, rfl, -, -, -⟩ := hu
  obtain ⟨n, hn⟩ : ∃ n, n = r.length := ⟨_, rfl⟩
  rw [← hn] at HU ⊢
  have HRN := Lib.hid hn
  clear hn
  have HC0 := Lib.hid (show (w.alloc (.cells #[.bool false, .string ⟨#[]⟩] 24)).cell? ⟨w.heap.size, 0, none⟩ = some (.bool false) by simp [go_sem])
  have HC1 := Lib.hid (show (w.alloc (.cells #[.bool false, .string ⟨#[]⟩] 24)).cell? ⟨w.heap.size, 1, none⟩ = some (.string ⟨#[]⟩) by simp [go_sem])
  have HZ0 := Lib.hid (show (w.alloc (.cells #[.bool false, .string ⟨#[]⟩] 24)).frozen? ⟨w.heap.size, 0, none⟩ = false by simp [go_sem])
  have HZ1 := Lib.hid (show (w.alloc (.cells #[.bool false, .string ⟨#[]⟩] 24)).frozen? ⟨w.heap.size, 1, none⟩ = false by simp [go_sem])
  clear h hs hg0
  go_enter Tryz.func12, Tryz.ntmps12
  go_wp2_with fail
  generalize w.alloc (.cells #[.bool false, .string ⟨#[]⟩] 24) = wa at *
  have HA := Lib.hid (show w.heap.size ≤ w.heap.size from Nat.le_refl _)
  obtain ⟨A, hA⟩ : ∃ A, A = w.heap.size := ⟨_, rfl⟩
  rw [← hA] at HC0 HC1 HZ0 HZ1 ⊢
  have HA := Lib.hid (show w.heap.size ≤ A by omega)
  clear hA
  refine (rrow_any R l r _ _ H.out HU.out HS.out.2.2.2.2).mono ?_
  rintro e w1 ⟨b, rfl, hb, g⟩
  have HB := Lib.hid hb
  have c0 := g.keeps HC0.out
  have c1 := g.keeps HC1.out
  have f0 := (Below.frozen g (World.block_lt_of_cell? _ _ HC0.out)).trans HZ0.out
  have f1 := (Below.frozen g (World.block_lt_of_cell? _ _ HC1.out)).trans HZ1.out
  have HG := Lib.hid (HG0.out.trans g)
  have H1 := Lib.hid (H.out.later g)
  have HU1 := Lib.hid (HU.out.later g)
  clear g hb HC0 HC1 HZ0 HZ1
  cases b with
  | false =>
    have HNR := Lib.hid (show ¬ RowOf l r from fun h => by have := HB.out.2 h; simp at this)
    go_wp2_with fail
    refine bodyPost_ret (v := .tuple #[.agg #[.bool false, .string ⟨#[]⟩], .int .i64 2]) (by simp [results, Tryz.results12, go_sem, c0, c1]) rfl ?_
    refine ⟨0, 2, by rw [wv_zero], .inl ⟨HNR.out, rfl, rfl⟩, ?_⟩
    exact (HG.out.setCell (p := ⟨A, 0, none⟩) HA.out _).setCell (p := ⟨A, 1, none⟩) HA.out _
  | true =>
    have HROW := Lib.hid (HB.out.1 (by simp))
    have HC := Lib.hid (show XC w A 0 w1 from ⟨HA.out, by simpa using c0, by rw [show Int.natAbs 0 = 0 from rfl, bstr0]; exact c1, f0, f1⟩)
    clear c0 c1 f0 f1
    go_wp2_with fail
    refine (rwof_any 1 _ ⟨by omega, by omega⟩).mono ?_
    rintro e w2 ⟨rfl, g⟩
    have HC := Lib.hid (HC.out.later g)
    have HG := Lib.hid (HG.out.trans g)
    have H2 := Lib.hid (H1.out.later g)
    have HU2 := Lib.hid (HU1.out.later g)
    clear g
    unfold wv
    go_wp2_with fail
    have HW3 := Lib.hid (((Gr.new w2 (.cells #[.bool false, .string ⟨#[]⟩] 24))).alloc (.cells #[.bool false, .string (bstr 1)] 24))
    have HX3 := Lib.hid (show XC w2 w2.heap.size 0 ((w2.alloc (.cells #[.bool false, .string ⟨#[]⟩] 24)).alloc (.cells #[.bool false, .string (bstr 1)] 24)) from ⟨Nat.le_refl _, by simp [go_sem], by rw [show Int.natAbs 0 = 0 from rfl, bstr0]; simp [go_sem], by simp [go_sem], by simp [go_sem]⟩)
    have HP3 := Lib.hid (show XC w2 (w2.heap.size + 1) 1 ((w2.alloc (.cells #[.bool false, .string ⟨#[]⟩] 24)).alloc (.cells #[.bool false, .string (bstr 1)] 24)) from ⟨by omega, by simp [go_sem], by simp [go_sem], by simp [go_sem], by simp [go_sem]⟩)
    obtain ⟨v, h0, hv⟩ := H2.out
    obtain ⟨-, xa, ca, rfl, -, -, -⟩ := id hv
    have hln : l.length = n := by rw [HRN.out]; exact HROW.out.1.symm
    rw [hln] at hv h0
    have HV := Lib.hid hv
    have H0 := Lib.hid h0
    have HLN := Lib.hid hln
    have hn25 : n ≤ 25 := by rw [← hln]; exact HS.out.2.2.2.2
    clear hv h0 hln
    generalize ((w2.alloc (.cells #[.bool false, .string ⟨#[]⟩] 24)).alloc (.cells #[.bool false, .string (bstr 1)] 24)) = w3 at *
    obtain ⟨XB, hXB⟩ : ∃ XB, XB = w2.heap.size := ⟨_, rfl⟩
    obtain ⟨PB, hPB⟩ : ∃ PB, PB = w2.heap.size + 1 := ⟨_, rfl⟩
    rw [← hPB] at HP3 ⊢
    rw [← hXB] at HX3 ⊢
    have hne : ¬ (XB = PB) := by omega
    have hne' : ¬ (PB = XB) := by omega
    clear hXB hPB
    go_loopw [8] (fun t wr => ∃ (k : Nat) (X : Int), t = .int .i64 k ∧ k ≤ n ∧ RJ l r k X ∧ XC w2 XB X wr ∧ XC w2 PB (Or.pr (l.take k)) wr ∧ Gr w2 wr) (fun t _ => n - (intOf t).toNat)
    case atStart => exact ⟨0, 0, rfl, by omega, RJ.start l r, HX3.out, by rw [List.take_zero]; exact HP3.out, HW3.out⟩
    case round =>
      obtain ⟨k, X, rfl, hk, hrj, hxc, hpc, hgr⟩ := hrel
      have HRJ := Lib.hid hrj
      have HXC := Lib.hid hxc
      have HPC := Lib.hid hpc
      have HGR := Lib.hid hgr
      clear hrj hxc hpc hgr
      by_cases hlt : k < n
      · have hk0 : (0 : Int) ≤ (k : Int) := by omega
        have hk1 : (k : Int) < (n : Int) := by omega
        have hkl : k < l.length := by have := HLN.out; omega
        have h0 := HGR.out.keeps H0.out
        obtain ⟨gx, ox, rfl, hcx⟩ : ∃ gx ox, xa = some ⟨gx, ox, none⟩ ∧ wr.cell? ⟨gx, ox + k, none⟩ = some (.int .u32 (Op.cf l k)) := by
          obtain ⟨_, a, c', e, _, _, h3⟩ := HV.out.later HGR.out
          cases e
          obtain ⟨gx, ox, e, hc⟩ := h3 k hkl
          exact ⟨gx, ox, e, hc⟩
        obtain ⟨gy, oy, rfl, hcy⟩ : ∃ gy oy, xb = some ⟨gy, oy, none⟩ ∧ wr.cell? ⟨gy, oy + k, none⟩ = some (.int .u32 (Op.cf r k)) := by
          obtain ⟨_, a, c', e, _, _, h3⟩ := HU2.out.later HGR.out
          cases e
          obtain ⟨gx, ox, e, hc⟩ := h3 k (by have := HRN.out; omega)
          exact ⟨gx, ox, e, hc⟩
        have hq3 := HS.out.at_ hkl
        have hcop := HS.out.cop hkl
        have hrk := HROW.out.2 k hkl
        obtain ⟨p, hp⟩ : ∃ p, p = Op.cf l k := ⟨_, rfl⟩
        obtain ⟨b, hb⟩ : ∃ b, b = Op.cf r k := ⟨_, rfl⟩
        obtain ⟨P, hP⟩ : ∃ P, P = Or.pr (l.take k) := ⟨_, rfl⟩
        rw [← hp] at hcx hq3 hcop hrk
        rw [← hb] at hcy hrk
        rw [← hP] at HPC hcop
        have HPD := Lib.hid hP
        have HPP := Lib.hid hp
        have HBB := Lib.hid hb
        have HRK := Lib.hid hrk
        have HCOP := Lib.hid hcop
        have HOK := Lib.hid (show okP p from ⟨by omega, by omega⟩)
        have HXR := Lib.hid (HRJ.out.inR HS.out (by omega))
        have HPR := Lib.hid (show InR P by rw [hP]; exact inR_pr (HS.out.1.take k) (by rw [List.length_take]; have := HS.out.2.2.2.2; omega))
        clear hp hb hP hq3 hcop hrk hkl
        have x0 := HXC.out.2.1
        have x1 := HXC.out.2.2.1
        go_wp2_with fail
        refine (rwmodv_any X p _ HXR.out HOK.out).mono ?_
        rintro e w4 ⟨rfl, g⟩
        have hcy := g.keeps hcy
        have HXC := Lib.hid (XC.later HXC.out g)
        have HPC := Lib.hid (XC.later HPC.out g)
        have HGR := Lib.hid (HGR.out.trans g)
        have p0 := HPC.out.2.1
        have p1 := HPC.out.2.2.1
        clear g x0 x1 hcx h0
        obtain ⟨have', hha⟩ : ∃ y, y = X % p := ⟨_, rfl⟩
        have hhb : 0 ≤ have' ∧ have' < p := by rw [hha]; exact ⟨emod_lo X p (by have := HOK.out.1; omega), emod_hi X p (by have := HOK.out.1; omega)⟩
        rw [← hha]
        have HHA := Lib.hid hha
        have HHB := Lib.hid hhb
        clear hha hhb
        go_wp2_with fail
        refine (rwmodv_any P p _ HPR.out HOK.out).mono ?_
        rintro e w5 ⟨rfl, g⟩
        have hcy := g.keeps hcy
        have HXC := Lib.hid (XC.later HXC.out g)
        have HPC := Lib.hid (XC.later HPC.out g)
        have HGR := Lib.hid (HGR.out.trans g)
        clear g p0 p1
        go_wp2_with fail
        refine (rinv_any P p _ HOK.out HCOP.out).mono ?_
        rintro e w6 ⟨inv, rfl, hinv, g⟩
        have hcy := g.keeps hcy
        have HXC := Lib.hid (XC.later HXC.out g)
        have HPC := Lib.hid (XC.later HPC.out g)
        have HGR := Lib.hid (HGR.out.trans g)
        have HINV := Lib.hid hinv
        clear g hinv
        go_wp2_with fail
        refine (rsub_ok b have' p _ HOK.out.1 HOK.out.2 HRK.out.1 HHB.out.1 HRK.out.2 HHB.out.2).mono ?_
        rintro e w7 ⟨rfl, g⟩
        have HXC := Lib.hid (XC.later HXC.out g)
        have HPC := Lib.hid (XC.later HPC.out g)
        have HGR := Lib.hid (HGR.out.trans g)
        clear g hcy
        obtain ⟨miss, hmi⟩ : ∃ y, y = (b + p - have') % p := ⟨_, rfl⟩
        have hmb : 0 ≤ miss ∧ miss < p := by rw [hmi]; exact ⟨emod_lo _ p (by have := HOK.out.1; omega), emod_hi _ p (by have := HOK.out.1; omega)⟩
        rw [← hmi]
        have HMI := Lib.hid hmi
        have HMB := Lib.hid hmb
        clear hmi hmb
        go_wp2_with fail
        refine (rmul_ok miss inv p _ HOK.out.1 HOK.out.2 HMB.out.1 HINV.out.1 HMB.out.2 HINV.out.2.1).mono ?_
        rintro e w8 ⟨rfl, g⟩
        have HXC := Lib.hid (XC.later HXC.out g)
        have HPC := Lib.hid (XC.later HPC.out g)
        have HGR := Lib.hid (HGR.out.trans g)
        clear g
        obtain ⟨many, hma⟩ : ∃ y, y = miss * inv % p := ⟨_, rfl⟩
        have hmb : 0 ≤ many ∧ many < p := by rw [hma]; exact ⟨emod_lo _ p (by have := HOK.out.1; omega), emod_hi _ p (by have := HOK.out.1; omega)⟩
        rw [← hma]
        have HMB2 := Lib.hid hmb
        have HNX := Lib.hid (show RJ l r (k + 1) (X + P * many) from by
          have hc := rj_cong (r := b) (X := X) (P := P) rfl HHA.out HINV.out.2.2 HMI.out hma
          have h := HRJ.out.next (by have := HLN.out; omega) HS.out.1 (many := many) (by rw [← HPP.out]; exact hmb) (by rw [← HPP.out, ← HPD.out, ← HBB.out]; exact hc)
          rw [← HPD.out] at h
          exact h)
        clear hma hmb
        have HNR := Lib.hid (HNX.out.inR HS.out (by have := HLN.out; omega))
        have HPM := Lib.hid (show InR (P * many) from by
          have h1 := HNX.out.2.1
          have h0 := HRJ.out.1
          have h2 := HNR.out
          have h3 : 0 ≤ P * many := Int.mul_nonneg (by rw [HPD.out]; exact Int.le_of_lt (pr_le (HS.out.1.take k)).1) HMB2.out.1
          unfold InR at h2 ⊢
          omega)
        have HPQ := Lib.hid (show InR (P * p) ∧ Or.pr (l.take (k + 1)) = P * p from by
          have h1 := Or.pr_take_succ (l := l) (i := k) (by have := HLN.out; omega)
          rw [at_cf, ← HPP.out, ← HPD.out] at h1
          exact ⟨by rw [← h1]; exact inR_pr (HS.out.1.take (k + 1)) (by rw [List.length_take]; have := HS.out.2.2.2.2; omega), h1⟩)
        have HAW := Lib.hid (show isW many from ⟨by have := HMB2.out; omega, by have := HMB2.out; have := HOK.out.2; omega⟩)
        have HW0 := Lib.hid (show IntKind.i64.wrap many = many from IntWalk.i64_in _ (by have := HAW.out.1; have := HAW.out.2; omega))
        go_wp2_with fail
        refine wp_region_noPanic ?_
        refine rj_more P many PB w8 _ HPC.out.2.1 HPC.out.2.2.1 (Gr.refl _) HW0.out (fun w _ => rwof_any many w HAW.out) (fun w => rwmul_any P many w HPR.out (inR_small HAW.out) HPM.out) _ _ _ _ _ _ _ _ _ _ _ _ _ _ _ _ _ _ _ _ _ _ _ _ _ _ _ _ _ _ _ _ _ _ _ _ _ _ _ _ _ _ _ _ _ _ _ _ _ _ _ _ _ _ _ _ _ _ _ _ _ _ _ _ _ _ _ _ _ _ _ _ _ _ _ _ _ _ _ _ _ _ _ _ _ _ _ _ _ _ _ _ _ _ _ _ _ _ _ _ _ _ _ (fun _ _ _ _ _ h => h) ?_
        intro u1 u2 u3 u4 u5 u6 u7 u8 MB w9 m0 m1 g
        refine NoPanic.normal ?_
        have HXC := Lib.hid (XC.later HXC.out g)
        have HPC := Lib.hid (XC.later HPC.out g)
        have HGR := Lib.hid (HGR.out.trans g)
        have x0 := HXC.out.2.1
        have x1 := HXC.out.2.2.1
        clear g
        go_wp2_with fail
        refine (rwadd_any X (P * many) _ HXR.out HPM.out HNR.out).mono ?_
        rintro e wb ⟨rfl, g⟩
        have HXC := Lib.hid (XC.later HXC.out g)
        have HPC := Lib.hid (XC.later HPC.out g)
        have HGR := Lib.hid (HGR.out.trans g)
        clear g x0 x1 m0 m1
        obtain ⟨X', hX'⟩ : ∃ y, y = X + P * many := ⟨_, rfl⟩
        rw [← hX'] at HNX HNR ⊢
        clear hX'
        have x0 := HXC.out.2.1
        have x1 := HXC.out.2.2.1
        have f0 := HXC.out.2.2.2.1
        have f1 := HXC.out.2.2.2.2
        have HXP := Lib.hid (XC.put HXC.out X')
        have HPO := Lib.hid (XC.other HPC.out hne (.bool (decide (X' < 0))) (.string (bstr X'.natAbs)))
        have HGP := Lib.hid ((HGR.out.setCell (p := ⟨XB, 0, none⟩) HXC.out.1 (.bool (decide (X' < 0)))).setCell (p := ⟨XB, 1, none⟩) HXC.out.1 (.string (bstr X'.natAbs)))
        unfold wv
        go_wp2_with fail
        refine wp_region_noPanic ?_
        refine rj_product P p w2 _ PB XB X' ⟨by have := HOK.out.1; omega, by have := HOK.out.2; omega⟩ HPR.out (inR_small ⟨by have := HOK.out.1; omega, by have := HOK.out.2; omega⟩) HPQ.out.1 HGP.out ⟨HPO.out, HXP.out, hne'⟩ _ _ _ _ _ _ _ _ _ _ _ _ _ _ _ _ _ _ _ _ _ _ _ _ _ _ _ _ _ _ _ _ _ _ _ _ _ _ _ _ _ _ _ _ _ _ _ _ _ _ _ _ _ _ _ _ _ _ _ _ _ _ _ _ _ _ _ _ _ _ _ _ _ _ _ _ _ _ _ _ _ _ _ _ _ _ _ _ _ _ _ _ _ _ _ _ _ _ _ _ _ _ _ (fun _ _ _ _ _ h => h) ?_
        intro u1 u2 u3 u4 u5 u6 u7 u8 wx hx hgx
        refine NoPanic.normal ?_
        have HXN := Lib.hid hx
        have HGN := Lib.hid hgx
        clear hx hgx x0 x1 f0 f1
        go_wp2_with fail
        exact ⟨⟨k + 1, X', by simp, by omega, HNX.out, HXN.out.2.1, by rw [HPQ.out.2]; exact HXN.out.1, HGN.out⟩, by simp [intOf]; omega⟩
      · obtain rfl : k = n := by omega
        have hk1 : ¬ (k : Int) < (k : Int) := by omega
        have hpt : Or.pr (l.take k) = Or.pr l := by rw [show l.take k = l by rw [← HLN.out, List.take_length]]
        have HRL := Lib.hid (show RJ l r l.length X by rw [HLN.out]; exact HRJ.out)
        rw [hpt] at HPC
        have x0 := HXC.out.2.1
        have x1 := HXC.out.2.2.1
        have p0 := HPC.out.2.1
        have p1 := HPC.out.2.2.1
        have HXR := Lib.hid (HRL.out.inR HS.out (Nat.le_refl _))
        have HPR := Lib.hid (inR_pr HS.out.1 HS.out.2.2.2.2)
        clear hpt
        go_wp2_with fail
        refine (rwbalv_any X (Or.pr l) _ HXR.out HPR.out (pr_le HS.out.1).1 (inR_wbal HS.out X)).mono ?_
        rintro e wb ⟨rfl, g⟩
        have HCA := Lib.hid (XC.later (XC.later HC.out HGR.out) g)
        have HGA := Lib.hid ((HG.out.trans HGR.out).trans g)
        obtain ⟨V, hV⟩ : ∃ y, y = wbal X (Or.pr l) := ⟨_, rfl⟩
        have HJV := Lib.hid (show JoinV l r V by rw [hV]; exact HRL.out.join HS.out)
        rw [← hV]
        clear g x0 x1 p0 p1 hV
        have a0 := HCA.out.2.1
        have a1 := HCA.out.2.2.1
        have z0 := HCA.out.2.2.2.1
        have z1 := HCA.out.2.2.2.2
        unfold wv
        go_wp2_with fail
        refine bodyPost_ret (v := .tuple #[wv V, .int .i64 0]) (by simp [results, Tryz.results12, go_sem, a0, a1, wv]) rfl ?_
        refine ⟨V, 0, rfl, .inr ⟨HROW.out, rfl, HJV.out⟩, ?_⟩
        exact (HGA.out.setCell (p := ⟨A, 0, none⟩) HA.out _).setCell (p := ⟨A, 1, none⟩) HA.out _
end Go.Proofs.YtfpdemmdkiohhaaGreat.Mo
