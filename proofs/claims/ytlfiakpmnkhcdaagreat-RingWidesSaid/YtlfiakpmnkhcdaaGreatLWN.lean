import Derived.Test.YtlfiakpmnkhcdaaGreatLWM
import Derived.Test.YtlfiakpmnkhcdaaGreatLWF
namespace Go.Proofs.YtlfiakpmnkhcdaaGreat
open Go.RowKit
set_option linter.unusedVariables false
set_option maxRecDepth 100000 in
set_option maxHeartbeats 4000000 in
theorem rminus_any (l m : List Nat) (u v : Value) (w : World) (hu : HasD w u l) (hv : HasD w v m) (hl : Oh.Dg l) (hm : Oh.Dg m) (N : Nat) (hlN : l.length ≤ N) (hN : N ≤ 100000) (hml : m.length ≤ l.length) (hle : Oh.val m ≤ Oh.val l) :
  Calls Tryz.prog 125 #[u, v] w (WordPost N (Oh.val l - Oh.val m) w) := by
 obtain ⟨-, a, cap, rfl, u1, u2, -⟩ := id hu
 obtain ⟨-, b, cap', rfl, v1, v2, -⟩ := id hv
 have HU := Lib.hid hu
 have HV := Lib.hid hv
 have HL := Lib.hid hl
 have HM := Lib.hid hm
 have HML := Lib.hid hml
 have HLE := Lib.hid hle
 obtain ⟨len, hlen⟩ : ∃ len, len = l.length := ⟨_, rfl⟩
 obtain ⟨len', hlen'⟩ : ∃ len', len' = m.length := ⟨_, rfl⟩
 rw [← hlen] at u1 hlN HU ⊢
 rw [← hlen'] at v1 HV ⊢
 have HLEN := Lib.hid hlen
 have HLEN' := Lib.hid hlen'
 clear hu hv hl hm hlen hlen' hml hle
 go_enter Tryz.func125, Tryz.ntmps125
 go_wp2_with fail
 go_loopw [5, 6, 7] (fun t c i wr => ∃ (k br : Nat) (pre : List Nat) (ar : Option Addr) (capr : Nat), i = .int .i64 k ∧ c = .int .u32 br ∧ t = .slice ar k capr ∧ br ≤ 1 ∧ k ≤ len ∧ Oh.SubI l m k pre br ∧ Own1 wr w.heap.size (.slice ar k capr) pre ∧ Gr w wr) (fun _ _ i _ => len - (intOf i).toNat)
 case atStart => exact ⟨0, 0, [], none, 0, rfl, rfl, rfl, by omega, by omega, Oh.SubI.start _ _, Own1.nil _ _, Gr.refl _⟩
 case round =>
  obtain ⟨wo, rfl⟩ : ∃ wo : World, wo = wr := ⟨_, rfl⟩
  obtain ⟨k, br, pre, ar, capr, rfl, rfl, rfl, hbr, hk, hsub, hown, hgr⟩ := hrel
  have HSUB := Lib.hid hsub
  have HOWN := Lib.hid hown
  have HGR := Lib.hid hgr
  have hsz := hgr.size
  clear hsub hown hgr
  have HPL := Lib.hid HSUB.out.1
  by_cases h1 : k < len
  ·obtain ⟨x, hx⟩ : ∃ x, x = l[k]?.getD 0 := ⟨_, rfl⟩
   obtain ⟨y, hy⟩ : ∃ y, y = m[k]?.getD 0 := ⟨_, rfl⟩
   have hxb : x < 65536 := by rw [hx]; exact Oh.dg_at HL.out k
   have hyb : y < 65536 := by rw [hy]; exact Oh.dg_at HM.out k
   have HX := Lib.hid hx
   have HY := Lib.hid hy
   clear hx hy
   have HKN := Lib.hid (show k < len from h1)
   obtain ⟨ga, oa, rfl, ca⟩ := HU.out.at (i := k) (by rw [← HLEN.out]; omega)
   have ca := HGR.out.keeps ca
   rw [← HX.out] at ca
   have q1 : decide ((k : Int) < (len : Int)) = true := by simp; omega
   have q1' : decide (k < len) = true := by simp; omega
   obtain ⟨tk, htk⟩ : ∃ tk, tk = br + y := ⟨_, rfl⟩
   have HTK := Lib.hid htk
   have htkb : tk ≤ 65536 := by omega
   clear htk
   by_cases h2 : k < len'
   ·obtain ⟨gb, ob, rfl, cb⟩ := HV.out.at (i := k) (by rw [← HLEN'.out]; omega)
    have cb := HGR.out.keeps cb
    rw [← HY.out] at cb
    have q2 : decide ((k : Int) < (len' : Int)) = true := by simp; omega
    have q2' : decide (k < len') = true := by simp; omega
    by_cases h3 : x < tk
    ·have hb3 : x < tk := by omega
     obtain ⟨d, hd⟩ : ∃ d, d = x + 65536 - tk := ⟨_, rfl⟩
     have HD := Lib.hid hd
     have hdb : d < 65536 := by omega
     clear hd
     have HST := Lib.hid (HSUB.out.step HL.out HM.out (d := d) (b' := 1) (by have := HD.out; have := HTK.out; rw [← HX.out, ← HY.out]; omega) hdb (by omega))
     have q3 : decide ((x : Int) < (br : Int) + (y : Int)) = true := by have := HTK.out; simp; omega
     have q3' : decide (x < br + y) = true := by have := HTK.out; simp; omega
     have q4 : (0 : Int) ≤ (x : Int) + 65536 - ((br : Int) + (y : Int)) := by have := HTK.out; omega
     go_wp2_with (at_builtin; refine wpList_app rfl _ _ rfl rfl w.heap.size _ pre rfl (HOWN.out.alloc _) _ [d] rfl (HasD.one _ _ _ (by have := HD.out; have := HTK.out; omega) (by omega)) (by rw [HPL.out]; simp; omega) (by rw [World.size_alloc]; omega) ?_; intro v' w1 hown' hgrow; (have hbl := grown_below HOWN.out hgrow hsz); (obtain ⟨a', cap', rfl⟩ := hown'.slice (n := k + 1) (by rw [List.length_append, HPL.out]; rfl)); have HOWN2 := Lib.hid hown'; have HBL := Lib.hid hbl; clear hown' hgrow hbl)
     exact ⟨⟨k + 1, 1, _, a', cap', by simp, by simp, rfl, by omega, by have := HKN.out; omega, HST.out, HOWN2.out, Below.trans HGR.out HBL.out⟩, by have := HKN.out; simp [intOf]; omega⟩
    ·have hb3 : tk ≤ x := by omega
     obtain ⟨d, hd⟩ : ∃ d, d = x - tk := ⟨_, rfl⟩
     have HD := Lib.hid hd
     have hdb : d < 65536 := by omega
     clear hd
     have HST := Lib.hid (HSUB.out.step HL.out HM.out (d := d) (b' := 0) (by have := HD.out; have := HTK.out; rw [← HX.out, ← HY.out]; omega) hdb (by omega))
     have q3 : decide ((x : Int) < (br : Int) + (y : Int)) = false := by have := HTK.out; simp; omega
     have q3' : decide (x < br + y) = false := by have := HTK.out; simp; omega
     have q4 : (0 : Int) ≤ (x : Int) - ((br : Int) + (y : Int)) := by have := HTK.out; omega
     go_wp2_with (at_builtin; refine wpList_app rfl _ _ rfl rfl w.heap.size _ pre rfl (HOWN.out.alloc _) _ [d] rfl (HasD.one _ _ _ (by have := HD.out; have := HTK.out; omega) (by omega)) (by rw [HPL.out]; simp; omega) (by rw [World.size_alloc]; omega) ?_; intro v' w1 hown' hgrow; (have hbl := grown_below HOWN.out hgrow hsz); (obtain ⟨a', cap', rfl⟩ := hown'.slice (n := k + 1) (by rw [List.length_append, HPL.out]; rfl)); have HOWN2 := Lib.hid hown'; have HBL := Lib.hid hbl; clear hown' hgrow hbl)
     exact ⟨⟨k + 1, 0, _, a', cap', by simp, by simp, rfl, by omega, by have := HKN.out; omega, HST.out, HOWN2.out, Below.trans HGR.out HBL.out⟩, by have := HKN.out; simp [intOf]; omega⟩
   ·have q2 : decide ((k : Int) < (len' : Int)) = false := by simp; omega
    have q2' : decide (k < len') = false := by simp; omega
    by_cases h3 : x < tk
    ·have hb3 : x < tk := by omega
     obtain ⟨d, hd⟩ : ∃ d, d = x + 65536 - tk := ⟨_, rfl⟩
     have HD := Lib.hid hd
     have hdb : d < 65536 := by omega
     clear hd
     have HST := Lib.hid (HSUB.out.step HL.out HM.out (d := d) (b' := 1) (by have := HD.out; have := HTK.out; rw [← HX.out, ← HY.out]; omega) hdb (by omega))
     have HYZ := Lib.hid (show y = 0 by rw [HY.out]; exact none_at (by rw [← HLEN'.out]; omega))
     have q3 : decide ((x : Int) < (br : Int)) = true := by have := HTK.out; have := HYZ.out; simp; omega
     have q3' : decide (x < br) = true := by have := HTK.out; have := HYZ.out; simp; omega
     have q4 : (0 : Int) ≤ (x : Int) + 65536 - (br : Int) := by have := HTK.out; have := HYZ.out; omega
     go_wp2_with (at_builtin; refine wpList_app rfl _ _ rfl rfl w.heap.size _ pre rfl (HOWN.out.alloc _) _ [d] rfl (HasD.one _ _ _ (by have := HD.out; have := HTK.out; have := HYZ.out; omega) (by omega)) (by rw [HPL.out]; simp; omega) (by rw [World.size_alloc]; omega) ?_; intro v' w1 hown' hgrow; (have hbl := grown_below HOWN.out hgrow hsz); (obtain ⟨a', cap', rfl⟩ := hown'.slice (n := k + 1) (by rw [List.length_append, HPL.out]; rfl)); have HOWN2 := Lib.hid hown'; have HBL := Lib.hid hbl; clear hown' hgrow hbl)
     exact ⟨⟨k + 1, 1, _, a', cap', by simp, by simp, rfl, by omega, by have := HKN.out; omega, HST.out, HOWN2.out, Below.trans HGR.out HBL.out⟩, by have := HKN.out; simp [intOf]; omega⟩
    ·have hb3 : tk ≤ x := by omega
     obtain ⟨d, hd⟩ : ∃ d, d = x - tk := ⟨_, rfl⟩
     have HD := Lib.hid hd
     have hdb : d < 65536 := by omega
     clear hd
     have HST := Lib.hid (HSUB.out.step HL.out HM.out (d := d) (b' := 0) (by have := HD.out; have := HTK.out; rw [← HX.out, ← HY.out]; omega) hdb (by omega))
     have HYZ := Lib.hid (show y = 0 by rw [HY.out]; exact none_at (by rw [← HLEN'.out]; omega))
     have q3 : decide ((x : Int) < (br : Int)) = false := by have := HTK.out; have := HYZ.out; simp; omega
     have q3' : decide (x < br) = false := by have := HTK.out; have := HYZ.out; simp; omega
     have q4 : (0 : Int) ≤ (x : Int) - (br : Int) := by have := HTK.out; have := HYZ.out; omega
     go_wp2_with (at_builtin; refine wpList_app rfl _ _ rfl rfl w.heap.size _ pre rfl (HOWN.out.alloc _) _ [d] rfl (HasD.one _ _ _ (by have := HD.out; have := HTK.out; have := HYZ.out; omega) (by omega)) (by rw [HPL.out]; simp; omega) (by rw [World.size_alloc]; omega) ?_; intro v' w1 hown' hgrow; (have hbl := grown_below HOWN.out hgrow hsz); (obtain ⟨a', cap', rfl⟩ := hown'.slice (n := k + 1) (by rw [List.length_append, HPL.out]; rfl)); have HOWN2 := Lib.hid hown'; have HBL := Lib.hid hbl; clear hown' hgrow hbl)
     exact ⟨⟨k + 1, 0, _, a', cap', by simp, by simp, rfl, by omega, by have := HKN.out; omega, HST.out, HOWN2.out, Below.trans HGR.out HBL.out⟩, by have := HKN.out; simp [intOf]; omega⟩
  ·obtain rfl : k = len := by omega
   have q1 : decide ((k : Int) < (k : Int)) = false := by simp
   go_wp2_with fail
   go_ret
   have hs := HSUB.out
   rw [HLEN.out] at hs
   have ha := hs.all HML.out HLE.out
   exact ⟨_, pre, rfl, HOWN.out.hasD, ha.1, ha.2.1, by rw [HPL.out]; exact hlN, HGR.out⟩
theorem HasJ.parts {N : Nat} {W : World} {v : Value} {z : Int} (h : HasJ N W v z) : ∃ (neg : Bool) (a : Option Addr) (n cap : Nat) (l : List Nat), v = .agg #[.bool neg, .slice a n cap] ∧ neg = decide (z < 0) ∧ HasD W (.slice a n cap) l ∧ Oh.Nm l ∧ Oh.val l = z.natAbs ∧ l.length ≤ N := by
 obtain ⟨s, l, rfl, hd, hn, hv, hl⟩ := h
 obtain ⟨-, a, cap, rfl, -⟩ := id hd
 exact ⟨_, a, _, cap, l, rfl, rfl, hd, hn, hv, hl⟩
set_option maxRecDepth 100000 in
set_option maxHeartbeats 1000000 in
theorem rnegative_any (N : Nat) (z : Int) (v : Value) (w : World) (h : HasJ N w v z) (hN : N ≤ 100000) :
  Calls Tryz.prog 152 #[v] w (NumZ N (-z) w) := by
 obtain ⟨neg, a, n, cap, l, rfl, hneg, hd, hn, hv, hl⟩ := h.parts
 have HNEG := Lib.hid hneg
 have HD := Lib.hid hd
 have HN := Lib.hid hn
 have HV := Lib.hid hv
 have HL := Lib.hid hl
 clear hneg hd hn hv hl h
 go_enter Tryz.func152, Tryz.ntmps152
 go_wp2_with fail
 obtain ⟨W, hW⟩ : ∃ W : World, W = ((w.alloc (.cells #[.bool neg, .slice a n cap] 101)).alloc (.cells #[.bool false, .slice none 0 0] 101)) := ⟨_, rfl⟩
 rw [← hW]
 have g1 : Gr w W := by rw [hW]; exact (((Gr.refl _).alloc _).alloc _)
 have x0 : W.cell? ⟨w.heap.size, 0, none⟩ = some (.bool neg) := by rw [hW]; simp [go_sem]
 have x1 : W.cell? ⟨w.heap.size, 1, none⟩ = some (.slice a n cap) := by rw [hW]; simp [go_sem]
 have r0 : W.cell? ⟨w.heap.size + 1, 0, none⟩ = some (.bool false) := by rw [hW]; simp [go_sem]
 have er0 : W.frozen? ⟨w.heap.size + 1, 0, none⟩ = false := by rw [hW]; simp [go_sem]
 have r1 : W.cell? ⟨w.heap.size + 1, 1, none⟩ = some (.slice none 0 0) := by rw [hW]; simp [go_sem]
 have er1 : W.frozen? ⟨w.heap.size + 1, 1, none⟩ = false := by rw [hW]; simp [go_sem]
 have hsz : W.heap.size = w.heap.size + 1 + 1 := by rw [hW]; simp
 have HG := Lib.hid g1
 have HSZ := Lib.hid hsz
 clear hW g1 hsz
 refine (rtrim_any (!neg) l _ _ (HD.out.later HG.out) HN.out.1 (by have := HL.out; omega)).mono ?_
 rintro e w1 ⟨q, rfl, hq, g⟩
 obtain ⟨qn, qa, qk, qc, ql, rfl, q1, q2, q3, q4, q5⟩ := hq.parts
 have Q1 := Lib.hid q1
 have Q2 := Lib.hid q2
 have Q3 := Lib.hid q3
 have Q4 := Lib.hid q4
 have Q5 := Lib.hid q5
 clear q1 q2 q3 q4 q5 hq
 have er0 := g.frozen r0 er0
 have er1 := g.frozen r1 er1
 have r0 := g.keeps r0
 have r1 := g.keeps r1
 have HGG := Lib.hid (HG.out.trans g)
 clear g
 go_wp2_with fail
 refine bodyPost_ret (v := .agg #[.bool qn, .slice qa qk qc]) (by simp [results, Tryz.results152, go_sem, r0, r1]) rfl ?_
 exact numz_stored (by rw [HNEG.out, HV.out]; exact sg_not z) Q1.out Q2.out Q3.out Q4.out (Nat.le_trans Q5.out HL.out) HGG.out (by simp) r0 r1 (by simp) (by simp)
theorem HasD.two (W : World) (E F : Int) (d f : Nat) (hE : E = (d : Int)) (hF : F = (f : Int)) (hd : d < 4294967296) (hf : f < 4294967296) : HasD (W.alloc (.cells #[.int .u32 E, .int .u32 F] 22)) (.slice (some ⟨W.heap.size, 0, none⟩) 2 2) [d, f] := by
 subst hE hF
 refine ⟨fun x hx => by simp at hx; omega, _, 2, rfl, by simp, by omega, fun i hi => ?_⟩
 have : i = 0 ∨ i = 1 := by simp at hi; omega
 rcases this with rfl | rfl
 ·exact ⟨_, 0, rfl, by simp [go_sem]⟩
 ·exact ⟨_, 0, rfl, by simp [go_sem]⟩
set_option maxRecDepth 100000 in
set_option maxHeartbeats 1000000 in
theorem rword_any (n : Nat) (w : World) (hn : n < 4294967296) :
  Calls Tryz.prog 151 #[.int .u32 n] w (NumZ 2 n w) := by
 go_enter Tryz.func151, Tryz.ntmps151
 go_wp2_with fail
 obtain ⟨W, hW⟩ : ∃ W : World, W = (w.alloc (.cells #[.bool false, .slice none 0 0] 101)) := ⟨_, rfl⟩
 rw [← hW]
 have g1 : Gr w W := by rw [hW]; exact ((Gr.refl _).alloc _)
 have r0 : W.cell? ⟨w.heap.size, 0, none⟩ = some (.bool false) := by rw [hW]; simp [go_sem]
 have er0 : W.frozen? ⟨w.heap.size, 0, none⟩ = false := by rw [hW]; simp [go_sem]
 have r1 : W.cell? ⟨w.heap.size, 1, none⟩ = some (.slice none 0 0) := by rw [hW]; simp [go_sem]
 have er1 : W.frozen? ⟨w.heap.size, 1, none⟩ = false := by rw [hW]; simp [go_sem]
 have hsz : W.heap.size = w.heap.size + 1 := by rw [hW]; simp
 have HG := Lib.hid g1
 have HSZ := Lib.hid hsz
 clear hW g1 hsz
 have hdw : HasD (W.alloc (.cells #[.int .u32 ((n : Int) % 65536), .int .u32 ((n : Int) / 65536)] 22)) (.slice (some ⟨W.heap.size, 0, none⟩) 2 2) [n % 65536, n / 65536] := HasD.two W _ _ _ _ (by omega) (by omega) (by omega) (by omega)
 rw [HSZ.out] at hdw
 have HDW := Lib.hid hdw
 clear hdw
 have HDG := Lib.hid (show Oh.Dg [n % 65536, n / 65536] from fun x hx => by simp at hx; omega)
 refine (rtrim_any false [n % 65536, n / 65536] _ _ HDW.out HDG.out (by simp)).mono ?_
 rintro e w1 ⟨q, rfl, hq, g⟩
 have g := (Gr.new W (.cells #[.int .u32 ((n : Int) % 65536), .int .u32 ((n : Int) / 65536)] 22)).trans g
 obtain ⟨qn, qa, qk, qc, ql, rfl, q1, q2, q3, q4, q5⟩ := hq.parts
 have Q1 := Lib.hid q1
 have Q2 := Lib.hid q2
 have Q3 := Lib.hid q3
 have Q4 := Lib.hid q4
 have Q5 := Lib.hid q5
 clear q1 q2 q3 q4 q5 hq
 have er0 := g.frozen r0 er0
 have er1 := g.frozen r1 er1
 have r0 := g.keeps r0
 have r1 := g.keeps r1
 have HGG := Lib.hid (HG.out.trans g)
 clear g
 go_wp2_with fail
 refine bodyPost_ret (v := .agg #[.bool qn, .slice qa qk qc]) (by simp [results, Tryz.results151, go_sem, r0, r1]) rfl ?_
 exact numz_stored (by simp only [sg, Oh.val]; simp; omega) Q1.out Q2.out Q3.out Q4.out Q5.out HGG.out (Nat.le_refl _) r0 r1 (by simp) (by simp)
theorem sg_sum {x y : Int} (h : decide (x < 0) = decide (y < 0)) : sg (decide (x < 0)) (x.natAbs + y.natAbs) = x + y := by
 unfold sg
 by_cases hx : x < 0 <;> by_cases hy : y < 0 <;> simp [hx, hy] at h ⊢ <;> omega
theorem sg_dif {x y : Int} (h : decide (x < 0) ≠ decide (y < 0)) (hle : y.natAbs ≤ x.natAbs) : sg (decide (x < 0)) (x.natAbs - y.natAbs) = x + y := by
 unfold sg
 by_cases hx : x < 0 <;> by_cases hy : y < 0 <;> simp [hx, hy] at h ⊢ <;> omega
theorem HasD.put2 {W : World} {v : Value} {l : List Nat} {B : Nat} {u0 u1 : Value} (h : HasD W v l) (h0 : W.cell? ⟨B, 0, none⟩ = some u0) (h1 : W.cell? ⟨B, 1, none⟩ = some u1) (n0 : ∀ n, u0 ≠ .int .u32 n) (n1 : ∀ n, u1 ≠ .int .u32 n) (a b : Value) :
  HasD ((W.setCell ⟨B, 0, none⟩ a).setCell ⟨B, 1, none⟩ b) v l := (h.setAt h0 n0 a).setAt ((cell_other (by simp) a).trans h1) n1 b
theorem Gr.put2 {a b : World} (h : Gr a b) {B : Nat} (hB : a.heap.size ≤ B) (u v : Value) : Gr a ((b.setCell ⟨B, 0, none⟩ u).setCell ⟨B, 1, none⟩ v) := (h.setCell (p := ⟨B, 0, none⟩) hB u).setCell (p := ⟨B, 1, none⟩) hB v
set_option maxRecDepth 100000 in
set_option maxHeartbeats 8000000 in
theorem radd_any (N : Nat) (x y : Int) (u v : Value) (w : World) (hu : HasJ N w u x) (hv : HasJ N w v y) (hN : N ≤ 90000) :
  Calls Tryz.prog 88 #[u, v] w (NumZ (N + 1) (x + y) w) := by
 obtain ⟨xn, xa, xk, xc, xl, rfl, x1, x2, x3, x4, x5⟩ := hu.parts
 have X1 := Lib.hid x1
 have X2 := Lib.hid x2
 have X3 := Lib.hid x3
 have X4 := Lib.hid x4
 have X5 := Lib.hid x5
 clear x1 x2 x3 x4 x5 hu
 obtain ⟨yn, ya, yk, yc, yl, rfl, y1, y2, y3, y4, y5⟩ := hv.parts
 have Y1 := Lib.hid y1
 have Y2 := Lib.hid y2
 have Y3 := Lib.hid y3
 have Y4 := Lib.hid y4
 have Y5 := Lib.hid y5
 clear y1 y2 y3 y4 y5 hv
 by_cases hs : xn = yn
 ·subst hs
  have HZ := Lib.hid (show sg xn (x.natAbs + y.natAbs) = x + y by rw [X1.out]; exact sg_sum (X1.out.symm.trans Y1.out))
  go_enter Tryz.func88, Tryz.ntmps88
  go_wp2_with fail
  obtain ⟨W, hW⟩ : ∃ W : World, W = (((w.alloc (.cells #[.bool xn, .slice xa xk xc] 101)).alloc (.cells #[.bool xn, .slice ya yk yc] 101)).alloc (.cells #[.bool false, .slice none 0 0] 101)) := ⟨_, rfl⟩
  rw [← hW]
  have g1 : Gr w W := by rw [hW]; exact ((((Gr.refl _).alloc _).alloc _).alloc _)
  have x0 : W.cell? ⟨w.heap.size, 0, none⟩ = some (.bool xn) := by rw [hW]; simp [go_sem]
  have x1 : W.cell? ⟨w.heap.size, 1, none⟩ = some (.slice xa xk xc) := by rw [hW]; simp [go_sem]
  have y0 : W.cell? ⟨w.heap.size + 1, 0, none⟩ = some (.bool xn) := by rw [hW]; simp [go_sem]
  have y1 : W.cell? ⟨w.heap.size + 1, 1, none⟩ = some (.slice ya yk yc) := by rw [hW]; simp [go_sem]
  have r0 : W.cell? ⟨w.heap.size + 1 + 1, 0, none⟩ = some (.bool false) := by rw [hW]; simp [go_sem]
  have er0 : W.frozen? ⟨w.heap.size + 1 + 1, 0, none⟩ = false := by rw [hW]; simp [go_sem]
  have r1 : W.cell? ⟨w.heap.size + 1 + 1, 1, none⟩ = some (.slice none 0 0) := by rw [hW]; simp [go_sem]
  have er1 : W.frozen? ⟨w.heap.size + 1 + 1, 1, none⟩ = false := by rw [hW]; simp [go_sem]
  have hsz : W.heap.size = w.heap.size + 1 + 1 + 1 := by rw [hW]; simp
  have HG := Lib.hid g1
  have HSZ := Lib.hid hsz
  clear hW g1 hsz
  have gd : Gr W W.drew := Below.drew (Gr.refl W)
  have X2 := Lib.hid ((X2.out.later HG.out).later gd)
  have Y2 := Lib.hid ((Y2.out.later HG.out).later gd)
  clear gd
  have hN0 : N ≤ 100000 := by omega
  have XD := Lib.hid X3.out.1
  have YD := Lib.hid Y3.out.1
  have hN1 : N + 1 ≤ 100000 := by omega
  have R0 := Lib.hid r0
  have R1 := Lib.hid r1
  have E0 := Lib.hid er0
  have E1 := Lib.hid er1
  have n1 : ¬ (w.heap.size = w.heap.size + 1 + 1) := by omega
  have n2 : ¬ (w.heap.size + 1 + 1 = w.heap.size) := by omega
  clear r0 r1 er0 er1
  go_region_held3 (fun w' => w'.cell? ⟨w.heap.size, 0, none⟩ = some (.bool xn) ∧ w'.cell? ⟨w.heap.size, 1, none⟩ = some (.slice xa xk xc) ∧ w'.cell? ⟨w.heap.size + 1, 1, none⟩ = some (.slice ya yk yc)) (first | exact ⟨x0, x1, y1⟩ | go_keep)
   (first
    | (go_at_call 123; (with_reducible refine (rplus_any xl yl _ _ _ X2.out Y2.out XD.out YD.out N X5.out Y5.out hN0).mono ?_); rintro e w' ⟨p, pl, rfl, hp, hpd, hpv, hpl, g⟩; have g := Gr.trans (show Gr W W.drew from Below.drew (Gr.refl W)) g; have x0 := g.keeps x0; have x1 := g.keeps x1; have y1 := g.keeps y1; have E0 := Lib.hid (g.frozen R0.out E0.out); have E1 := Lib.hid (g.frozen R1.out E1.out); have R0 := Lib.hid (g.keeps R0.out); have R1 := Lib.hid (g.keeps R1.out); have HG := Lib.hid (HG.out.trans g); have HP := Lib.hid hp; have HPD := Lib.hid hpd; have HPV := Lib.hid hpv; have HPL := Lib.hid hpl; obtain ⟨-, pa, pc, rfl, -⟩ := hp; clear hpd hpv hpl g)
    | (go_at_call 122; (with_reducible refine (rtrim_any xn pl _ _ HP.out HPD.out (Nat.le_trans HPL.out hN1)).mono ?_); rintro e w' ⟨q, rfl, hq, g⟩; have x0 := g.keeps x0; have x1 := g.keeps x1; have y1 := g.keeps y1; have er0 := g.frozen R0.out E0.out; have er1 := g.frozen R1.out E1.out; have r0 := g.keeps R0.out; have r1 := g.keeps R1.out; have HGG := Lib.hid (HG.out.trans g); obtain ⟨qn, qa, qk, qc, ql, rfl, q1, q2, q3, q4, q5⟩ := hq.parts; have Q1 := Lib.hid q1; have Q2 := Lib.hid q2; have Q3 := Lib.hid q3; have Q4 := Lib.hid q4; have Q5 := Lib.hid q5; clear q1 q2 q3 q4 q5 hq g))
  all_goals
   go_wp2_with fail
   refine bodyPost_ret (v := .agg #[.bool qn, .slice qa qk qc]) (by simp [results, Tryz.results88, go_sem, r0, r1]) rfl ?_
   exact numz_stored (by rw [HPV.out, X4.out, Y4.out]; exact HZ.out) Q1.out Q2.out Q3.out Q4.out (Nat.le_trans Q5.out HPL.out) HGG.out (by omega) r0 r1 (by simp) (by simp)
 ·have hne : (xn == yn) = false := by simpa using hs
  have HNE := Lib.hid (show decide (x < 0) ≠ decide (y < 0) by rw [← X1.out, ← Y1.out]; exact hs)
  clear hs
  go_enter Tryz.func88, Tryz.ntmps88
  go_wp2_with fail
  obtain ⟨W, hW⟩ : ∃ W : World, W = (((w.alloc (.cells #[.bool xn, .slice xa xk xc] 101)).alloc (.cells #[.bool yn, .slice ya yk yc] 101)).alloc (.cells #[.bool false, .slice none 0 0] 101)) := ⟨_, rfl⟩
  rw [← hW]
  have g1 : Gr w W := by rw [hW]; exact ((((Gr.refl _).alloc _).alloc _).alloc _)
  have x0 : W.cell? ⟨w.heap.size, 0, none⟩ = some (.bool xn) := by rw [hW]; simp [go_sem]
  have ex0 : W.frozen? ⟨w.heap.size, 0, none⟩ = false := by rw [hW]; simp [go_sem]
  have x1 : W.cell? ⟨w.heap.size, 1, none⟩ = some (.slice xa xk xc) := by rw [hW]; simp [go_sem]
  have ex1 : W.frozen? ⟨w.heap.size, 1, none⟩ = false := by rw [hW]; simp [go_sem]
  have y0 : W.cell? ⟨w.heap.size + 1, 0, none⟩ = some (.bool yn) := by rw [hW]; simp [go_sem]
  have ey0 : W.frozen? ⟨w.heap.size + 1, 0, none⟩ = false := by rw [hW]; simp [go_sem]
  have y1 : W.cell? ⟨w.heap.size + 1, 1, none⟩ = some (.slice ya yk yc) := by rw [hW]; simp [go_sem]
  have ey1 : W.frozen? ⟨w.heap.size + 1, 1, none⟩ = false := by rw [hW]; simp [go_sem]
  have r0 : W.cell? ⟨w.heap.size + 1 + 1, 0, none⟩ = some (.bool false) := by rw [hW]; simp [go_sem]
  have er0 : W.frozen? ⟨w.heap.size + 1 + 1, 0, none⟩ = false := by rw [hW]; simp [go_sem]
  have r1 : W.cell? ⟨w.heap.size + 1 + 1, 1, none⟩ = some (.slice none 0 0) := by rw [hW]; simp [go_sem]
  have er1 : W.frozen? ⟨w.heap.size + 1 + 1, 1, none⟩ = false := by rw [hW]; simp [go_sem]
  have hsz : W.heap.size = w.heap.size + 1 + 1 + 1 := by rw [hW]; simp
  have HG := Lib.hid g1
  have HSZ := Lib.hid hsz
  clear hW g1 hsz
  refine (rorder_any xl yl _ _ _ (X2.out.later HG.out) (Y2.out.later HG.out) X3.out Y3.out).mono ?_
  rintro e w1 ⟨rfl, g⟩
  have ex0 := g.frozen x0 ex0
  have ex1 := g.frozen x1 ex1
  have ey0 := g.frozen y0 ey0
  have ey1 := g.frozen y1 ey1
  have er0 := g.frozen r0 er0
  have er1 := g.frozen r1 er1
  have x0 := g.keeps x0
  have x1 := g.keeps x1
  have y0 := g.keeps y0
  have y1 := g.keeps y1
  have r0 := g.keeps r0
  have r1 := g.keeps r1
  have HG := Lib.hid (HG.out.trans g)
  clear g
  have X2 := Lib.hid (X2.out.later HG.out)
  have Y2 := Lib.hid (Y2.out.later HG.out)
  have n1 : ¬ (w.heap.size = w.heap.size + 1 + 1) := by omega
  have n2 : ¬ (w.heap.size + 1 + 1 = w.heap.size) := by omega
  have n3 : ¬ (w.heap.size = w.heap.size + 1) := by omega
  have n4 : ¬ (w.heap.size + 1 = w.heap.size) := by omega
  have hN0 : N ≤ 100000 := by omega
  have XD := Lib.hid X3.out.1
  have YD := Lib.hid Y3.out.1
  by_cases hlt : Oh.val xl < Oh.val yl
  ·rw [sgn_lt (by omega)]
   have HLE := Lib.hid (Nat.le_of_lt hlt)
   have HLEN := Lib.hid (show xl.length ≤ yl.length from Nat.le_of_not_lt fun h => by have := Oh.val_short Y3.out X3.out h; omega)
   have HZ := Lib.hid (show sg yn (y.natAbs - x.natAbs) = x + y by rw [Y1.out, Int.add_comm]; exact sg_dif (fun e => HNE.out e.symm) (by rw [← X4.out, ← Y4.out]; exact HLE.out))
   clear hlt
   go_wp2_with fail
   obtain ⟨V, hV⟩ : ∃ V : World, V = (((w1.setCell ⟨w.heap.size, 0, none⟩ (.bool yn)).setCell ⟨w.heap.size, 1, none⟩ (.slice ya yk yc)).setCell ⟨w.heap.size + 1, 0, none⟩ (.bool xn)).setCell ⟨w.heap.size + 1, 1, none⟩ (.slice xa xk xc) := ⟨_, rfl⟩
   rw [← hV]
   have a0 : V.cell? ⟨w.heap.size, 0, none⟩ = some (.bool yn) := by rw [hV]; exact keep2 (put2 x0 x1 _ _).1 n3
   have a1 : V.cell? ⟨w.heap.size, 1, none⟩ = some (.slice ya yk yc) := by rw [hV]; exact keep2 (put2 x0 x1 _ _).2 n3
   have b1 : V.cell? ⟨w.heap.size + 1, 1, none⟩ = some (.slice xa xk xc) := by rw [hV]; exact (put2 (keep2 y0 n4) (keep2 y1 n4) _ _).2
   have R0 := Lib.hid (show V.cell? ⟨w.heap.size + 1 + 1, 0, none⟩ = some (.bool false) by rw [hV]; exact keep2 (keep2 r0 n2) (by omega))
   have R1 := Lib.hid (show V.cell? ⟨w.heap.size + 1 + 1, 1, none⟩ = some (.slice none 0 0) by rw [hV]; exact keep2 (keep2 r1 n2) (by omega))
   have E0 := Lib.hid (show V.frozen? ⟨w.heap.size + 1 + 1, 0, none⟩ = false by rw [hV]; simp only [frozen_set]; exact er0)
   have E1 := Lib.hid (show V.frozen? ⟨w.heap.size + 1 + 1, 1, none⟩ = false by rw [hV]; simp only [frozen_set]; exact er1)
   have X2 := Lib.hid (show HasD V.drew _ _ from show HasD V _ _ by rw [hV]; exact (X2.out.put2 x0 x1 (by simp) (by simp) _ _).put2 (keep2 y0 n4) (keep2 y1 n4) (by simp) (by simp) _ _)
   have Y2 := Lib.hid (show HasD V.drew _ _ from show HasD V _ _ by rw [hV]; exact (Y2.out.put2 x0 x1 (by simp) (by simp) _ _).put2 (keep2 y0 n4) (keep2 y1 n4) (by simp) (by simp) _ _)
   have HG := Lib.hid (show Gr w V by rw [hV]; exact (HG.out.put2 (by omega) _ _).put2 (by omega) _ _)
   clear hV x0 x1 y0 y1 r0 r1 ex0 ex1 ey0 ey1 er0 er1
   go_region_held3 (fun w' => w'.cell? ⟨w.heap.size, 0, none⟩ = some (.bool yn) ∧ w'.cell? ⟨w.heap.size, 1, none⟩ = some (.slice ya yk yc) ∧ w'.cell? ⟨w.heap.size + 1, 1, none⟩ = some (.slice xa xk xc)) (first | exact ⟨a0, a1, b1⟩ | go_keep)
    (first
     | (go_at_call 125; (with_reducible refine (rminus_any yl xl _ _ _ Y2.out X2.out YD.out XD.out N Y5.out hN0 HLEN.out HLE.out).mono ?_); rintro e w' ⟨p, pl, rfl, hp, hpd, hpv, hpl, g⟩; have g := Gr.trans (show Gr V V.drew from Below.drew (Gr.refl V)) g; have a0 := g.keeps a0; have a1 := g.keeps a1; have b1 := g.keeps b1; have E0 := Lib.hid (g.frozen R0.out E0.out); have E1 := Lib.hid (g.frozen R1.out E1.out); have R0 := Lib.hid (g.keeps R0.out); have R1 := Lib.hid (g.keeps R1.out); have HG := Lib.hid (HG.out.trans g); have HP := Lib.hid hp; have HPD := Lib.hid hpd; have HPV := Lib.hid hpv; have HPL := Lib.hid hpl; obtain ⟨-, pa, pc, rfl, -⟩ := hp; clear hpd hpv hpl g)
     | (go_at_call 122; (with_reducible refine (rtrim_any yn pl _ _ HP.out HPD.out (Nat.le_trans HPL.out hN0)).mono ?_); rintro e w' ⟨q, rfl, hq, g⟩; have a0 := g.keeps a0; have a1 := g.keeps a1; have b1 := g.keeps b1; have er0 := g.frozen R0.out E0.out; have er1 := g.frozen R1.out E1.out; have r0 := g.keeps R0.out; have r1 := g.keeps R1.out; have HGG := Lib.hid (HG.out.trans g); obtain ⟨qn, qa, qk, qc, ql, rfl, q1, q2, q3, q4, q5⟩ := hq.parts; have Q1 := Lib.hid q1; have Q2 := Lib.hid q2; have Q3 := Lib.hid q3; have Q4 := Lib.hid q4; have Q5 := Lib.hid q5; clear q1 q2 q3 q4 q5 hq g))
   all_goals
    go_wp2_with fail
    refine bodyPost_ret (v := .agg #[.bool qn, .slice qa qk qc]) (by simp [results, Tryz.results88, go_sem, r0, r1]) rfl ?_
    exact numz_stored (by rw [HPV.out, Y4.out, X4.out]; exact HZ.out) Q1.out Q2.out Q3.out Q4.out (Nat.le_trans Q5.out (Nat.le_trans HPL.out (Nat.le_succ _))) HGG.out (by omega) r0 r1 (by simp) (by simp)
  ·have HLE := Lib.hid (show Oh.val yl ≤ Oh.val xl by omega)
   have hc : decide (sgn (Oh.val xl : Int) (Oh.val yl : Int) < 0) = false := by unfold sgn; split <;> (try split) <;> simp <;> omega
   obtain ⟨cc, hcc⟩ : ∃ cc, cc = sgn (Oh.val xl : Int) (Oh.val yl : Int) := ⟨_, rfl⟩
   rw [← hcc] at hc ⊢
   have HLEN := Lib.hid (show yl.length ≤ xl.length from Nat.le_of_not_lt fun h => by have := Oh.val_short X3.out Y3.out h; have := HLE.out; omega)
   have HZ := Lib.hid (show sg xn (x.natAbs - y.natAbs) = x + y by rw [X1.out]; exact sg_dif HNE.out (by rw [← X4.out, ← Y4.out]; exact HLE.out))
   clear hlt hcc
   go_wp2_with fail
   have a0 := x0
   have a1 := x1
   have b1 := y1
   have R0 := Lib.hid r0
   have R1 := Lib.hid r1
   have E0 := Lib.hid er0
   have E1 := Lib.hid er1
   have X2 := Lib.hid (show HasD w1.drew _ _ from X2.out)
   have Y2 := Lib.hid (show HasD w1.drew _ _ from Y2.out)
   clear x0 x1 y0 y1 r0 r1 ex0 ex1 ey0 ey1 er0 er1
   go_region_held3 (fun w' => w'.cell? ⟨w.heap.size, 0, none⟩ = some (.bool xn) ∧ w'.cell? ⟨w.heap.size, 1, none⟩ = some (.slice xa xk xc) ∧ w'.cell? ⟨w.heap.size + 1, 1, none⟩ = some (.slice ya yk yc)) (first | exact ⟨a0, a1, b1⟩ | go_keep)
    (first
     | (go_at_call 125; (with_reducible refine (rminus_any xl yl _ _ _ X2.out Y2.out XD.out YD.out N X5.out hN0 HLEN.out HLE.out).mono ?_); rintro e w' ⟨p, pl, rfl, hp, hpd, hpv, hpl, g⟩; have g := Gr.trans (show Gr w1 w1.drew from Below.drew (Gr.refl w1)) g; have a0 := g.keeps a0; have a1 := g.keeps a1; have b1 := g.keeps b1; have E0 := Lib.hid (g.frozen R0.out E0.out); have E1 := Lib.hid (g.frozen R1.out E1.out); have R0 := Lib.hid (g.keeps R0.out); have R1 := Lib.hid (g.keeps R1.out); have HG := Lib.hid (HG.out.trans g); have HP := Lib.hid hp; have HPD := Lib.hid hpd; have HPV := Lib.hid hpv; have HPL := Lib.hid hpl; obtain ⟨-, pa, pc, rfl, -⟩ := hp; clear hpd hpv hpl g)
     | (go_at_call 122; (with_reducible refine (rtrim_any xn pl _ _ HP.out HPD.out (Nat.le_trans HPL.out hN0)).mono ?_); rintro e w' ⟨q, rfl, hq, g⟩; have a0 := g.keeps a0; have a1 := g.keeps a1; have b1 := g.keeps b1; have er0 := g.frozen R0.out E0.out; have er1 := g.frozen R1.out E1.out; have r0 := g.keeps R0.out; have r1 := g.keeps R1.out; have HGG := Lib.hid (HG.out.trans g); obtain ⟨qn, qa, qk, qc, ql, rfl, q1, q2, q3, q4, q5⟩ := hq.parts; have Q1 := Lib.hid q1; have Q2 := Lib.hid q2; have Q3 := Lib.hid q3; have Q4 := Lib.hid q4; have Q5 := Lib.hid q5; clear q1 q2 q3 q4 q5 hq g))
   all_goals
    go_wp2_with fail
    refine bodyPost_ret (v := .agg #[.bool qn, .slice qa qk qc]) (by simp [results, Tryz.results88, go_sem, r0, r1]) rfl ?_
    exact numz_stored (by rw [HPV.out, X4.out, Y4.out]; exact HZ.out) Q1.out Q2.out Q3.out Q4.out (Nat.le_trans Q5.out (Nat.le_trans HPL.out (Nat.le_succ _))) HGG.out (by omega) r0 r1 (by simp) (by simp)
end Go.Proofs.YtlfiakpmnkhcdaaGreat
namespace Go.Proofs.YtlfiakpmnkhcdaaGreat
open Go.RowKit
set_option linter.unusedVariables false
def MulS (l m : List Nat) (i k c g : Nat) (W wr : World) : Prop := ∃ L, Rw wr g (acells L) ∧ Oh.MulI l m i k L c ∧ Below g W wr
theorem MulS.below {l m : List Nat} {i k c g : Nat} {W wr : World} (h : MulS l m i k c g W wr) : Below g W wr := by obtain ⟨_, _, _, h⟩ := h; exact h
theorem MulS.drewN {l m : List Nat} {i k c g : Nat} {W wr : World} (h : MulS l m i k c g W wr) (n : Nat) : MulS l m i k c g W (wr.drewN n) := by
 obtain ⟨L, h1, h2, h3⟩ := h
 exact ⟨L, h1, h2, below_drewN h3 n⟩
theorem MulS.place {l m : List Nat} {i k c g : Nat} {W wr : World} (h : MulS l m i k c g W wr) (hl : Oh.Dg l) (hm : Oh.Dg m) (hi : i < l.length) (hk : k < m.length) :
  ∃ z : Nat, z < 65536 ∧ wr.cell? ⟨g, i + k, none⟩ = some (.int .u32 (z : Int)) ∧ wr.frozen? ⟨g, i + k, none⟩ = false ∧
   ∀ s, s = c + z + l[i]?.getD 0 * m[k]?.getD 0 → s < 4294967296 ∧ MulS l m i (k + 1) (s / 65536) g W (wr.setCell ⟨g, i + k, none⟩ (.int .u32 ((s % 65536 : Nat) : Int))) := by
 obtain ⟨L, h1, h2, h3⟩ := h
 have hlen : i + k < L.length := by rw [h2.1]; omega
 refine ⟨L[i + k]?.getD 0, Oh.dg_at h2.2.1 _, by rw [h1.cell, acells_at _ _ hlen], h1.frozen _, fun s hs => ?_⟩
 obtain ⟨a, b⟩ := h2.step hl hm hi hk hs
 refine ⟨a, _, ?_, b, h3.setCell (Nat.le_refl _) _⟩
 have := h1.set (i + k) (.int .u32 ((s % 65536 : Nat) : Int))
 rw [acells_set] at this
 exact this
theorem MulS.row {l m : List Nat} {i c g : Nat} {W wr : World} (h : MulS l m i m.length c g W wr) (hl : Oh.Dg l) (hi : i < l.length) :
  (∃ u, wr.cell? ⟨g, i + m.length, none⟩ = some u) ∧ wr.frozen? ⟨g, i + m.length, none⟩ = false ∧ MulS l m (i + 1) 0 0 g W (wr.setCell ⟨g, i + m.length, none⟩ (.int .u32 (c : Int))) := by
 obtain ⟨L, h1, h2, h3⟩ := h
 have hlen : i + m.length < L.length := by rw [h2.1]; omega
 refine ⟨⟨_, by rw [h1.cell, acells_at _ _ hlen]⟩, h1.frozen _, _, ?_, h2.row hl hi, h3.setCell (Nat.le_refl _) _⟩
 have := h1.set (i + m.length) (.int .u32 (c : Int))
 rw [acells_set] at this
 exact this
theorem HasD.blt {W : World} {g o n cap : Nat} {l : List Nat} (h : HasD W (.slice (some ⟨g, o, none⟩) n cap) l) (h0 : 0 < l.length) : g < W.heap.size := by
 obtain ⟨g', o', e, hc⟩ := h.at h0
 have e := Option.some.inj e
 simp only [Addr.mk.injEq] at e
 obtain ⟨rfl, rfl, -⟩ := e
 exact World.block_lt_of_cell? W _ hc
theorem zrow_acells (n : Nat) : zrow n = acells (List.replicate n 0) := by
 apply Array.ext
 ·rw [zrow_size, acells_size, List.length_replicate]
 ·intro j h1 h2
  have hj : j < n := by rw [zrow_size] at h1; exact h1
  have a := zrow_at n j hj
  have b := acells_at (List.replicate n 0) j (by simpa using hj)
  rw [Array.getElem?_eq_getElem h1] at a
  rw [Array.getElem?_eq_getElem h2] at b
  rw [Option.some.inj a, Option.some.inj b, Oh.rep_at]
  rfl
theorem MulS.all {l m : List Nat} {g n : Nat} {W wr : World} (h : MulS l m l.length 0 0 g W wr) (hn : l.length + m.length = n) (hb : n ≤ 100000) : ∃ L, HasD wr (.slice (some ⟨g, 0, none⟩) n n) L ∧ Oh.Dg L ∧ Oh.val L = Oh.val l * Oh.val m ∧ L.length = n := by
 obtain ⟨L, h1, h2, h3⟩ := h
 obtain ⟨a, b, c⟩ := h2.all (k := 0)
 refine ⟨L, ⟨b.wide, _, n, by rw [a, hn], by omega, by omega, fun j hj => ⟨g, 0, rfl, ?_⟩⟩, b, c, by omega⟩
 rw [Nat.zero_add, h1.cell, acells_at _ _ hj]
theorem sg_prod (x y : Int) : sg (decide (x < 0) != decide (y < 0)) (x.natAbs * y.natAbs) = x * y := sg_mul x y
set_option maxRecDepth 100000 in
set_option maxHeartbeats 8000000 in
theorem rmul_any (N M : Nat) (x y : Int) (u v : Value) (w : World) (hu : HasJ N w u x) (hv : HasJ M w v y) (hN : N + M ≤ 90000) :
  Calls Tryz.prog 90 #[u, v] w (NumZ (N + M) (x * y) w) := by
 obtain ⟨xn, xa, xk, xc, xl, rfl, x1, x2, x3, x4, x5⟩ := hu.parts
 have X1 := Lib.hid x1
 have X2 := Lib.hid x2
 have X3 := Lib.hid x3
 have X4 := Lib.hid x4
 have X5 := Lib.hid x5
 clear x1 x2 x3 x4 x5 hu
 obtain ⟨yn, ya, yk, yc, yl, rfl, y1, y2, y3, y4, y5⟩ := hv.parts
 have Y1 := Lib.hid y1
 have Y2 := Lib.hid y2
 have Y3 := Lib.hid y3
 have Y4 := Lib.hid y4
 have Y5 := Lib.hid y5
 clear y1 y2 y3 y4 y5 hv
 have hxk := X2.out.len.1
 have hyk := Y2.out.len.1
 have hxkN : xk ≤ N := by rw [hxk]; exact X5.out
 have hykM : yk ≤ M := by rw [hyk]; exact Y5.out
 obtain ⟨n, hn⟩ : ∃ n, n = xk + yk := ⟨_, rfl⟩
 have hmk := mk_row n ((xk : Int) + (yk : Int)) (by omega) (by omega)
 have HNN := Lib.hid hn
 have HXK := Lib.hid hxk
 have HYK := Lib.hid hyk
 have hnb : n ≤ 90000 := by omega
 clear hxk hyk hn
 go_enter Tryz.func90, Tryz.ntmps90
 go_wp2_with fail
 clear hmk
 obtain ⟨V, hW⟩ : ∃ V : World, V = (((w.alloc (.cells #[.bool xn, .slice xa xk xc] 101)).alloc (.cells #[.bool yn, .slice ya yk yc] 101)).alloc (.cells #[.bool false, .slice none 0 0] 101)) := ⟨_, rfl⟩
 try rw [← hW]
 have g1 : Gr w V := by rw [hW]; exact ((((Gr.refl _).alloc _).alloc _).alloc _)
 have x0 : V.cell? ⟨w.heap.size, 0, none⟩ = some (.bool xn) := by rw [hW]; simp [go_sem]
 have x1 : V.cell? ⟨w.heap.size, 1, none⟩ = some (.slice xa xk xc) := by rw [hW]; simp [go_sem]
 have y0 : V.cell? ⟨w.heap.size + 1, 0, none⟩ = some (.bool yn) := by rw [hW]; simp [go_sem]
 have y1 : V.cell? ⟨w.heap.size + 1, 1, none⟩ = some (.slice ya yk yc) := by rw [hW]; simp [go_sem]
 have r0 : V.cell? ⟨w.heap.size + 1 + 1, 0, none⟩ = some (.bool false) := by rw [hW]; simp [go_sem]
 have er0 : V.frozen? ⟨w.heap.size + 1 + 1, 0, none⟩ = false := by rw [hW]; simp [go_sem]
 have r1 : V.cell? ⟨w.heap.size + 1 + 1, 1, none⟩ = some (.slice none 0 0) := by rw [hW]; simp [go_sem]
 have er1 : V.frozen? ⟨w.heap.size + 1 + 1, 1, none⟩ = false := by rw [hW]; simp [go_sem]
 have hsz : V.heap.size = w.heap.size + 1 + 1 + 1 := by rw [hW]; simp
 have HG := Lib.hid g1
 have HSZ := Lib.hid hsz
 clear hW g1 hsz
 obtain ⟨W, hWW⟩ : ∃ W, W = V.alloc (.cells (zrow n) 22) := ⟨_, rfl⟩
 rw [← hWW]
 have hgV : Gr V W := by rw [hWW]; exact Gr.new _ _
 have hrow : Rw W V.heap.size (acells (List.replicate n 0)) := by rw [hWW, ← zrow_acells]; exact Rw.new _ _
 rw [HSZ.out] at hrow
 have HX0 := Lib.hid (hgV.keeps x0)
 have HX1 := Lib.hid (hgV.keeps x1)
 have HY0 := Lib.hid (hgV.keeps y0)
 have HY1 := Lib.hid (hgV.keeps y1)
 have E0 := Lib.hid (hgV.frozen r0 er0)
 have E1 := Lib.hid (hgV.frozen r1 er1)
 have R0 := Lib.hid (hgV.keeps r0)
 have R1 := Lib.hid (hgV.keeps r1)
 have HG := Lib.hid (HG.out.trans hgV)
 have X20 := X2
 have Y20 := Y2
 have X2 := Lib.hid (X2.out.later HG.out)
 have Y2 := Lib.hid (Y2.out.later HG.out)
 have HST := Lib.hid (show MulS xl yl 0 0 0 (w.heap.size + 1 + 1 + 1) W W from ⟨_, by rw [← HXK.out, ← HYK.out, ← HNN.out]; exact hrow, Oh.MulI.start xl yl, Below.refl _ _⟩)
 have HXD := Lib.hid X3.out.1
 have HYD := Lib.hid Y3.out.1
 clear hWW hgV hrow x0 x1 y0 y1 r0 r1 er0 er1
 go_loopw [6] (fun i wr => ∃ ii : Nat, i = .int .i64 ii ∧ ii ≤ xk ∧ MulS xl yl ii 0 0 (w.heap.size + 1 + 1 + 1) W wr) (fun i _ => xk - (intOf i).toNat)
 case atStart => exact ⟨0, rfl, by omega, HST.out⟩
 case round =>
  obtain ⟨wo, rfl⟩ : ∃ wo : World, wo = wr := ⟨_, rfl⟩
  obtain ⟨ii, rfl, hii, hms⟩ := hrel
  have HMS := Lib.hid hms
  clear hms
  have x1 := below_keeps HMS.out.below (show w.heap.size < w.heap.size + 1 + 1 + 1 by omega) HX1.out
  have y1 := below_keeps HMS.out.below (show w.heap.size + 1 < w.heap.size + 1 + 1 + 1 by omega) HY1.out
  by_cases hlt : ii < xk
  ·have t1 : decide ((ii : Int) < (xk : Int)) = true := by simp; omega
   have t1' : decide (ii < xk) = true := by simp; omega
   have HLT := Lib.hid hlt
   clear hlt
   go_wp2_with fail
   go_loopw [7, 8] (fun cy k wr => ∃ kk c : Nat, k = .int .i64 kk ∧ cy = .int .u32 c ∧ c < 65536 ∧ kk ≤ yk ∧ MulS xl yl ii kk c (w.heap.size + 1 + 1 + 1) W wr) (fun _ k _ => yk - (intOf k).toNat)
   case atStart => exact ⟨0, 0, rfl, rfl, by omega, by omega, HMS.out⟩
   case round =>
    obtain ⟨wo2, rfl⟩ : ∃ wo : World, wo = wr := ⟨_, rfl⟩
    obtain ⟨kk, c, rfl, rfl, hc, hkk, hms⟩ := hrel
    clear x1 y1
    have HM2 := Lib.hid hms
    clear hms
    have x1 := below_keeps HM2.out.below (show w.heap.size < w.heap.size + 1 + 1 + 1 by omega) HX1.out
    have y1 := below_keeps HM2.out.below (show w.heap.size + 1 < w.heap.size + 1 + 1 + 1 by omega) HY1.out
    by_cases hlt2 : kk < yk
    ·have t2 : decide ((kk : Int) < (yk : Int)) = true := by simp; omega
     have t2' : decide (kk < yk) = true := by simp; omega
     have HLT2 := Lib.hid hlt2
     clear hlt2
     obtain ⟨ga, oa, rfl, ca⟩ := X2.out.at (i := ii) (by rw [← HXK.out]; exact HLT.out)
     obtain ⟨gb, ob, rfl, cb⟩ := Y2.out.at (i := kk) (by rw [← HYK.out]; exact HLT2.out)
     have ba := X20.out.blt (Nat.lt_of_le_of_lt (Nat.zero_le ii) (by rw [← HXK.out]; exact HLT.out))
     have bb := Y20.out.blt (Nat.lt_of_le_of_lt (Nat.zero_le kk) (by rw [← HYK.out]; exact HLT2.out))
     have ca := below_keeps HM2.out.below (show ga < w.heap.size + 1 + 1 + 1 from by omega) ca
     have cb := below_keeps HM2.out.below (show gb < w.heap.size + 1 + 1 + 1 from by omega) cb
     have hxb := Oh.dg_at HXD.out ii
     have hyb := Oh.dg_at HYD.out kk
     obtain ⟨z, hz, c3, f3, hst⟩ := HM2.out.place HXD.out HYD.out (by rw [← HXK.out]; exact HLT.out) (by rw [← HYK.out]; exact HLT2.out)
     generalize xl[ii]?.getD 0 = p at *
     generalize yl[kk]?.getD 0 = q at *
     obtain ⟨s, hs⟩ : ∃ s, s = c + z + p * q := ⟨_, rfl⟩
     obtain ⟨hsb, hms2⟩ := hst s hs
     have HMS2 := Lib.hid hms2
     have hs' : (c : Int) + (z : Int) + (p : Int) * (q : Int) = (s : Int) := by rw [hs]; simp
     have hpq : (p : Int) * (q : Int) = ((p * q : Nat) : Int) := by simp
     have hpq1 : p * q ≤ s := by omega
     have i1 : (0 : Int) ≤ (ii : Int) := by omega
     have i2 : (ii : Int) < (xk : Int) := by have := HLT.out; omega
     have i3 : (0 : Int) ≤ (kk : Int) := by omega
     have i4 : (kk : Int) < (yk : Int) := by have := HLT2.out; omega
     have i5 : (0 : Int) ≤ (ii : Int) + (kk : Int) := by omega
     have i6 : (ii : Int) + (kk : Int) < (n : Int) := by have := HLT.out; have := HLT2.out; have := HNN.out; omega
     have w1 : IntKind.u32.wrap ((p : Int) * (q : Int)) = (p : Int) * (q : Int) := IntWalk.u32_in _ (by rw [hpq]; omega)
     have w2 : IntKind.u32.wrap ((c : Int) + (z : Int)) = (c : Int) + (z : Int) := IntWalk.u32_in _ (by omega)
     have w3 : IntKind.u32.wrap ((c : Int) + (z : Int) + (p : Int) * (q : Int)) = (s : Int) := by rw [hs']; exact IntWalk.u32_in _ (by omega)
     have w4 : IntKind.i64.wrap ((ii : Int) + (kk : Int)) = (ii : Int) + (kk : Int) := IntWalk.i64_in _ (by omega)
     have w5 : ((ii : Int) + (kk : Int)).toNat = ii + kk := by omega
     clear hst hms2 hs hpq hs' ba bb
     go_wp2_with fail
     go_quiet (fail)
     go_wp2_with fail
     refine ⟨⟨kk + 1, s / 65536, by simp, by simp, by omega, by have := HLT2.out; omega, ?_⟩, by have := HLT2.out; simp [intOf]; omega⟩
     have h := HMS2.out.drewN nq
     rw [show ((s % 65536 : Nat) : Int) = (s : Int) % 65536 by omega] at h
     exact h
    ·obtain rfl : kk = yk := by omega
     have t2 : decide ((kk : Int) < (kk : Int)) = false := by simp
     have hms := HM2.out
     rw [HYK.out] at hms
     obtain ⟨⟨u3, c3⟩, f3, hms2⟩ := hms.row HXD.out (by rw [← HXK.out]; exact HLT.out)
     rw [← HYK.out] at c3 f3 hms2
     have HMS2 := Lib.hid hms2
     have i5 : (0 : Int) ≤ (ii : Int) + (kk : Int) := by omega
     have i6 : (ii : Int) + (kk : Int) < (n : Int) := by have := HLT.out; have := HNN.out; omega
     have w5 : ((ii : Int) + (kk : Int)).toNat = ii + kk := by omega
     clear hms hms2
     go_wp2_with fail
     exact ⟨⟨ii + 1, by simp, by have := HLT.out; omega, HMS2.out⟩, by have := HLT.out; simp [intOf]; omega⟩
  ·obtain rfl : ii = xk := by omega
   have t1 : decide ((ii : Int) < (ii : Int)) = false := by simp
   have hms := HMS.out
   rw [HXK.out] at hms
   obtain ⟨L, hL, hLd, hLv, hLl⟩ := hms.all (n := n) (by rw [← HXK.out, ← HYK.out]; exact HNN.out.symm) (by omega)
   have HL := Lib.hid hL
   have HLD := Lib.hid hLd
   have HLV := Lib.hid hLv
   have HLL := Lib.hid hLl
   have hb := HMS.out.below
   have x0 := below_keeps hb (show w.heap.size < w.heap.size + 1 + 1 + 1 by omega) HX0.out
   have y0 := below_keeps hb (show w.heap.size + 1 < w.heap.size + 1 + 1 + 1 by omega) HY0.out
   have r0 := below_keeps hb (show w.heap.size + 1 + 1 < w.heap.size + 1 + 1 + 1 by omega) R0.out
   have r1 := below_keeps hb (show w.heap.size + 1 + 1 < w.heap.size + 1 + 1 + 1 by omega) R1.out
   have er0 := below_frozen hb (show w.heap.size + 1 + 1 < w.heap.size + 1 + 1 + 1 by omega) E0.out
   have er1 := below_frozen hb (show w.heap.size + 1 + 1 < w.heap.size + 1 + 1 + 1 by omega) E1.out
   have HG := Lib.hid (show Gr w wo from Below.trans HG.out (hb.mono (by omega)))
   obtain ⟨sn, hsn⟩ : ∃ b, b = (!(xn == yn)) := ⟨_, rfl⟩
   have HSN := Lib.hid hsn
   clear hb hms hL hLd hLv hLl hsn
   go_wp2_with fail
   rw [← HSN.out]
   refine (rtrim_any sn L _ _ HL.out HLD.out (by rw [HLL.out]; omega)).mono ?_
   rintro e w1 ⟨q, rfl, hq, g⟩
   obtain ⟨qn, qa, qk, qc, ql, rfl, q1, q2, q3, q4, q5⟩ := hq.parts
   have Q1 := Lib.hid q1
   have Q2 := Lib.hid q2
   have Q3 := Lib.hid q3
   have Q4 := Lib.hid q4
   have Q5 := Lib.hid q5
   clear q1 q2 q3 q4 q5 hq
   have er0 := g.frozen r0 er0
   have er1 := g.frozen r1 er1
   have r0 := g.keeps r0
   have r1 := g.keeps r1
   have HGG := Lib.hid (HG.out.trans g)
   clear g
   go_wp2_with fail
   refine bodyPost_ret (v := .agg #[.bool qn, .slice qa qk qc]) (by simp [results, Tryz.results90, go_sem, r0, r1]) rfl ?_
   exact numz_stored (by rw [HSN.out, HLV.out, X4.out, Y4.out, X1.out, Y1.out]; exact sg_prod x y) Q1.out Q2.out Q3.out Q4.out (Nat.le_trans Q5.out (by rw [HLL.out, HNN.out]; omega)) HGG.out (by omega) r0 r1 (by simp) (by simp)
end Go.Proofs.YtlfiakpmnkhcdaaGreat
