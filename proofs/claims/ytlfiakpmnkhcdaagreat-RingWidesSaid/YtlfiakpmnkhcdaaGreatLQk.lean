import Derived.Test.YtlfiakpmnkhcdaaGreatLWO
import Derived.Test.YtlfiakpmnkhcdaaGreatLWI
namespace Oh
theorem bit_of (l : List Nat) (i : Nat) (hl : Dg l) : l[i / 16]?.getD 0 / 2 ^ (i % 16) % 2 = val l / 2 ^ i % 2 := by
 rw [← val_digit l (i / 16) hl]
 have e : 2 ^ i = 65536 ^ (i / 16) * 2 ^ (i % 16) := by
  rw [pow32, ← Nat.pow_add]
  congr 1; omega
 rw [e, ← Nat.div_div_eq_div_mul]
 generalize val l / 65536 ^ (i / 16) = x
 have hr : i % 16 < 16 := Nat.mod_lt _ (by omega)
 generalize i % 16 = r at *
 have e2 : (65536 : Nat) = 2 ^ r * (2 * 2 ^ (15 - r)) := by rw [← Nat.pow_succ', ← Nat.pow_add, show r + (15 - r + 1) = 16 by omega]
 rw [e2, Nat.mod_mul_right_div_self, Nat.mod_mul_right_mod]
theorem bit_high (l : List Nat) (i : Nat) (hl : Dg l) (h : l.length ≤ i / 16) : val l / 2 ^ i % 2 = 0 := by
 rw [← bit_of l i hl, List.getElem?_eq_none h]; simp
end Oh
namespace Go.Proofs.YtlfiakpmnkhcdaaGreat
open Go.RowKit
set_option linter.unusedVariables false
theorem HasJ.up {N : Nat} {W : World} {v : Value} {z : Int} (h : HasJ N W v z) : ∃ (neg : Bool) (a : Option Addr) (n cap : Nat) (l : List Nat), v = .agg #[.bool neg, .slice a n cap] ∧ n = l.length ∧ neg = decide (z < 0) ∧ Oh.Nm l ∧ Oh.val l = z.natAbs := by
 obtain ⟨s, l, rfl, hd, hn, hv, hl⟩ := h
 obtain ⟨-, a, cap, rfl, -⟩ := id hd
 exact ⟨_, a, _, cap, l, rfl, rfl, rfl, hn, hv⟩
set_option maxRecDepth 100000 in
set_option maxHeartbeats 2000000 in
theorem rbit_any (l : List Nat) (v : Value) (i : Nat) (w : World) (hv : HasD w v l) (hd : Oh.Dg l) (hi : i ≤ 10000000) :
  Calls Tryz.prog 183 #[v, .int .i64 i] w fun e w' => e = .returned (.int .u32 ((Oh.val l / 2 ^ i % 2 : Nat) : Int)) ∧ w = w' := by
 obtain ⟨-, a, cap, rfl, v1, v2, cv⟩ := hv
 obtain ⟨len, hlen⟩ : ∃ len, len = l.length := ⟨_, rfl⟩
 rw [← hlen] at v1 ⊢
 have HL := Lib.hid hlen
 have HD := Lib.hid hd
 have HCV := Lib.hid cv
 obtain ⟨q, hq⟩ : ∃ q, q = i / 16 := ⟨_, rfl⟩
 obtain ⟨r, hr⟩ : ∃ r, r = i % 16 := ⟨_, rfl⟩
 have hr16 : r < 16 := by omega
 have hq2 : (i : Int) / 16 = (q : Int) := by omega
 have hr2 : (i : Int) % 16 = (r : Int) := by omega
 have hq3 : (i : Int).tdiv 16 = (q : Int) := by rw [Int.tdiv_eq_ediv_of_nonneg (by omega)]; exact hq2
 have hr3 : (i : Int).tmod 16 = (r : Int) := by rw [Int.tmod_eq_emod_of_nonneg (by omega)]; exact hr2
 have HQ := Lib.hid hq
 have HR := Lib.hid hr
 have hqi : q ≤ i := by omega
 clear hlen hd cv hq hr
 by_cases hlt : len ≤ q
 ·have HZ := Lib.hid (Oh.bit_high l i HD.out (by rw [← HL.out, ← HQ.out]; exact hlt))
  have d1 : decide ((q : Int) ≥ (len : Int)) = true := decide_eq_true (by omega)
  have d2 : decide ((len : Int) ≤ (q : Int)) = true := decide_eq_true (by omega)
  go_enter Tryz.func183, Tryz.ntmps183
  go_wp2_with fail
  go_ret
  exact ⟨by rw [HZ.out]; rfl, rfl⟩
 ·have d1 : decide ((q : Int) ≥ (len : Int)) = false := decide_eq_false (by omega)
  have d2 : decide ((len : Int) ≤ (q : Int)) = false := decide_eq_false (by omega)
  have hql : q < len := by omega
  obtain ⟨gb, ob, rfl, c2⟩ := HCV.out q (by rw [← HL.out]; exact hql)
  obtain ⟨x, hx⟩ : ∃ x, x = l[q]?.getD 0 := ⟨_, rfl⟩
  rw [← hx] at c2
  have hx2 := Oh.dg_at HD.out q
  rw [← hx] at hx2
  have HB := Lib.hid (show x / 2 ^ r % 2 = Oh.val l / 2 ^ i % 2 by rw [hx, HQ.out, HR.out]; exact Oh.bit_of l i HD.out)
  clear hx hlt
  have i5 : (q : Int) < (len : Int) := by omega
  have i6 : (0 : Int) ≤ (q : Int) := by omega
  go_enter Tryz.func183, Tryz.ntmps183
  go_wp2_with fail
  go_ret
  refine ⟨?_, rfl⟩
  rw [← HB.out]
  have e1 : (x : Int) / 2 ^ r = ((x / 2 ^ r : Nat) : Int) := by rw [Int.natCast_ediv, Int.natCast_pow]; rfl
  have hx3 : x / 2 ^ r < 4294967296 := Nat.lt_of_le_of_lt (Nat.div_le_self _ _) (by omega)
  have e2 : bits BinOp.and IntKind.u32 ((x / 2 ^ r : Nat) : Int) 1 = ((x / 2 ^ r % 2 : Nat) : Int) := by
   have h := (bits32 (x / 2 ^ r) 1 hx3 (by omega)).1
   rw [Nat.and_one_is_mod] at h
   exact h
  show Ending.returned (.int .u32 (bits BinOp.and IntKind.u32 ((x : Int) / 2 ^ r) 1)) = _
  rw [e1, e2]
set_option maxRecDepth 100000 in
set_option maxHeartbeats 2000000 in
theorem rbits_any (l : List Nat) (v : Value) (k : Nat) (w : World) (hv : HasD w v l) (hd : Oh.Dg l) (hl : l.length ≤ 100000) (hk : Ow.BitLen (Oh.val l) k) :
  Calls Tryz.prog 181 #[v] w fun e w' => e = .returned (.int .i64 (k : Nat)) ∧ w = w' := by
 have HV := Lib.hid hv
 have HD := Lib.hid hd
 have HK := Lib.hid hk
 obtain ⟨-, a, cap, rfl, v1, v2, cv⟩ := hv
 obtain ⟨len, hlen⟩ : ∃ len, len = l.length := ⟨_, rfl⟩
 rw [← hlen] at v1 hl HV ⊢
 have HST := Lib.hid (show Oh.val l < 2 ^ (16 * len) by rw [hlen, ← Oh.pow32]; exact Oh.val_lt l hd)
 clear hd hk cv hlen
 go_enter Tryz.func181, Tryz.ntmps181
 go_wp2_with fail
 go_loop [3] (fun t => ∃ n : Nat, t = .int .i64 n ∧ n ≤ 16 * len ∧ Oh.val l < 2 ^ n) (fun t => (intOf t).toNat)
 case atStart => exact ⟨16 * len, by simp, Nat.le_refl _, HST.out⟩
 case round =>
  obtain ⟨n, rfl, hn, hlt⟩ := hrel
  have HLT := Lib.hid hlt
  clear hlt
  cases n with
  | zero =>
   have HE := Lib.hid (show k = 0 from HK.out.unique (Oh.bitLen_none HLT.out))
   go_wp2_with fail
   go_ret
   exact ⟨by rw [HE.out]; rfl, rfl⟩
  | succ n =>
   have d1 : decide (((n + 1 : Nat) : Int) > 0) = true := decide_eq_true (by omega)
   have d2 : decide ((0 : Int) < ((n + 1 : Nat) : Int)) = true := decide_eq_true (by omega)
   have e1 : ((n + 1 : Nat) : Int) - 1 = (n : Int) := by omega
   go_wp2_with fail
   refine (rbit_any l _ n _ HV.out HD.out (by omega)).mono ?_
   rintro e w' ⟨rfl, rfl⟩
   obtain ⟨b, hb⟩ : ∃ b, b = Oh.val l / 2 ^ n % 2 := ⟨_, rfl⟩
   rw [← hb]
   by_cases h0 : b = 0
   ·have HN := Lib.hid (Oh.bitLen_step HLT.out (by rw [← hb]; exact h0))
    subst h0
    clear hb
    go_wp2_with fail
    go_round
    case rel => exact ⟨n, by go_num, by omega, HN.out⟩
    case measure => simp [intOf]
   ·have HE := Lib.hid (show k = n + 1 from HK.out.unique (Oh.bitLen_stop HLT.out (by rw [← hb]; exact h0)))
    have d3 : ((b : Int) == 0) = false := by simp; omega
    clear hb
    go_wp2_with fail
    go_ret
    exact ⟨by rw [HE.out]; rfl, rfl⟩
theorem Gr.drw {a b : World} (h : Gr a b) : Gr a b.drew := Below.drew h
set_option maxRecDepth 100000 in
set_option maxHeartbeats 4000000 in
theorem rcompare_any (N : Nat) (x y : Int) (u v : Value) (w : World) (hu : HasJ N w u x) (hv : HasJ N w v y) (hN : N ≤ 90000) :
  Calls Tryz.prog 126 #[u, v] w fun e w' => e = .returned (.int .i64 (sgn x y)) ∧ Gr w w' := by
 have HX := Lib.hid hu
 have HY := Lib.hid hv
 obtain ⟨xn, xa, xk, xc, xl, rfl, -⟩ := hu.parts
 obtain ⟨yn, ya, yk, yc, yl, rfl, -⟩ := hv.parts
 clear hu hv
 obtain ⟨sc, hsc⟩ : ∃ sc, sc = sgn x y := ⟨_, rfl⟩
 rw [← hsc]
 have HSC := Lib.hid hsc
 clear hsc
 go_enter Tryz.func126, Tryz.ntmps126
 go_wp2_with fail
 obtain ⟨W, hW⟩ : ∃ W : World, W = ((w.alloc (.cells #[.bool xn, .slice xa xk xc] 101)).alloc (.cells #[.bool yn, .slice ya yk yc] 101)) := ⟨_, rfl⟩
 rw [← hW]
 have g1 : Gr w W := by rw [hW]; exact (((Gr.refl _).alloc _).alloc _)
 have a0 : W.cell? ⟨w.heap.size, 0, none⟩ = some (.bool xn) := by rw [hW]; simp [go_sem]
 have a1 : W.cell? ⟨w.heap.size, 1, none⟩ = some (.slice xa xk xc) := by rw [hW]; simp [go_sem]
 have b0 : W.cell? ⟨w.heap.size + 1, 0, none⟩ = some (.bool yn) := by rw [hW]; simp [go_sem]
 have b1 : W.cell? ⟨w.heap.size + 1, 1, none⟩ = some (.slice ya yk yc) := by rw [hW]; simp [go_sem]
 have hsz : W.heap.size = w.heap.size + 1 + 1 := by rw [hW]; simp
 have HG := Lib.hid g1
 have HSZ := Lib.hid hsz
 clear hW g1 hsz
 have hN2 : N ≤ 100000 := by omega
 have z1 : w.heap.size ≤ W.heap.size := HG.out.size
 have q1 : ¬ (W.heap.size = w.heap.size) := World.new_ne W _ a0
 have q2 : ¬ (W.heap.size = w.heap.size + 1) := World.new_ne W _ b0
 have q3 : ¬ (w.heap.size = W.heap.size) := fun e => q1 e.symm
 have q4 : ¬ (w.heap.size + 1 = W.heap.size) := fun e => q2 e.symm
 have HX0 := Lib.hid (HX.out.later HG.out)
 have HY0 := Lib.hid (HY.out.later HG.out)
 have HX := Lib.hid (HX.out.later (Below.drew HG.out))
 have HY := Lib.hid (HY.out.later (Below.drew HG.out))
 have HG0 := HG
 have HG := Lib.hid (show Gr w W.drew from Below.drew HG.out)
 go_region_held3 (fun w' => w'.cell? ⟨w.heap.size, 0, none⟩ = some (.bool xn) ∧ w'.cell? ⟨w.heap.size, 1, none⟩ = some (.slice xa xk xc) ∧ w'.cell? ⟨w.heap.size + 1, 0, none⟩ = some (.bool yn) ∧ w'.cell? ⟨w.heap.size + 1, 1, none⟩ = some (.slice ya yk yc)) (first | exact ⟨a0, a1, b0, b1⟩ | go_keep)
  (first
   | (go_at_call 152; (with_reducible refine (rnegative_any N y _ _ HY.out hN2).mono ?_); rintro e wn ⟨m, rfl, hm, g⟩; have HM := Lib.hid hm; have HX := Lib.hid (HX.out.later g); have a0 := g.keeps a0; have a1 := g.keeps a1; have b0 := g.keeps b0; have b1 := g.keeps b1; have z2 : w.heap.size ≤ wn.heap.size := Nat.le_trans HG.out.size g.size; have q5 : ¬ (wn.heap.size = w.heap.size) := World.new_ne wn _ a0; have q6 : ¬ (wn.heap.size = w.heap.size + 1) := World.new_ne wn _ b0; have q7 : ¬ (w.heap.size = wn.heap.size) := fun e => q5 e.symm; have q8 : ¬ (w.heap.size + 1 = wn.heap.size) := fun e => q6 e.symm; have HG := Lib.hid (HG.out.trans g); clear hm g)
   | (go_at_call 152; (with_reducible refine (rnegative_any N y _ _ (HY0.out.later (Gr.drw (Gr.new _ _))) hN2).mono ?_); rintro e wn ⟨m, rfl, hm, g⟩; have d0 := g.keeps (p := ⟨W.heap.size, 0, none⟩) (v := .bool false) (by simp [go_sem]); have d1 := g.keeps (p := ⟨W.heap.size, 1, none⟩) (v := .slice none 0 0) (by simp [go_sem]); have fd0 := g.frozen (p := ⟨W.heap.size, 0, none⟩) (v := .bool false) (by simp [go_sem]) (by simp [go_sem]); have fd1 := g.frozen (p := ⟨W.heap.size, 1, none⟩) (v := .slice none 0 0) (by simp [go_sem]) (by simp [go_sem]); have g := (Gr.drw (Gr.new W _)).trans g; have HM := Lib.hid hm; have HX := Lib.hid (HX0.out.later g); have a0 := g.keeps a0; have a1 := g.keeps a1; have b0 := g.keeps b0; have b1 := g.keeps b1; have HG := Lib.hid (HG0.out.trans g); clear hm g)
   | (go_at_call 88; (with_reducible refine (radd_any N x (-y) _ _ _ HX.out HM.out hN).mono ?_); rintro e wa ⟨p, rfl, hp, g⟩; (try (have fd0 := g.frozen d0 fd0; have fd1 := g.frozen d1 fd1; have d0 := g.keeps d0; have d1 := g.keeps d1)); obtain ⟨pn, pa, pk, pc, pl, rfl, hpk, hpn, hpnm, hpv⟩ := hp.up; have HPK := Lib.hid hpk; have HPN := Lib.hid hpn; have HPM := Lib.hid hpnm; have HPV := Lib.hid hpv; have HPC := Lib.hid (hp.parts); have a0 := g.keeps a0; have a1 := g.keeps a1; have b0 := g.keeps b0; have b1 := g.keeps b1; have HG := Lib.hid (HG.out.trans g); clear hp g hpk hpn hpnm hpv)
   | (go_at_call 88; (with_reducible refine (radd_any N x (-y) _ _ _ (HX.out.later (Gr.new _ _)) (HM.out.later (Gr.new _ _)) hN).mono ?_); rintro e wa ⟨p, rfl, hp, g⟩; have d0 := g.keeps (p := ⟨wn.heap.size, 0, none⟩) (v := .bool false) (by simp [go_sem]); have d1 := g.keeps (p := ⟨wn.heap.size, 1, none⟩) (v := .slice none 0 0) (by simp [go_sem]); have fd0 := g.frozen (p := ⟨wn.heap.size, 0, none⟩) (v := .bool false) (by simp [go_sem]) (by simp [go_sem]); have fd1 := g.frozen (p := ⟨wn.heap.size, 1, none⟩) (v := .slice none 0 0) (by simp [go_sem]) (by simp [go_sem]); have g := (Gr.new wn _).trans g; obtain ⟨pn, pa, pk, pc, pl, rfl, hpk, hpn, hpnm, hpv⟩ := hp.up; have HPK := Lib.hid hpk; have HPN := Lib.hid hpn; have HPM := Lib.hid hpnm; have HPV := Lib.hid hpv; have a0 := g.keeps a0; have a1 := g.keeps a1; have b0 := g.keeps b0; have b1 := g.keeps b1; have HG := Lib.hid (HG.out.trans g); clear hp g hpk hpn hpnm hpv))
 all_goals
  have hzero : pk = 0 ↔ x = y := by
   have h1 := Oh.tr_pos HPM.out.1
   rw [HPM.out.2, ← HPK.out, HPV.out] at h1
   omega
  have HZ := Lib.hid hzero
  clear hzero
  cases pn with
  | true =>
   have HE := Lib.hid (show sc = -1 by
    have h := HPN.out
    have h2 : x + -y < 0 := by simpa using h
    rw [HSC.out, sgn_lt (by omega)])
   go_wp2_with fail
   go_ret
   exact ⟨by rw [HE.out]; rfl, by first | exact HG.out.trans (Gr.new _ _) | exact HG.out.put2 (by omega) _ _⟩
  | false =>
   have hge : ¬ (x + -y < 0) := by have h := HPN.out; simpa using h
   have HGE := Lib.hid hge
   clear hge
   by_cases hp : pk = 0
   ·have HE := Lib.hid (show sc = 0 by rw [HSC.out, sgn_eq (HZ.out.1 hp)])
    subst hp
    go_wp2_with fail
    go_ret
    exact ⟨by rw [HE.out]; rfl, by first | exact HG.out.trans (Gr.new _ _) | exact HG.out.put2 (by omega) _ _⟩
   ·have HE := Lib.hid (show sc = 1 by
     have h1 := HGE.out
     have h2 : ¬ x = y := fun e => hp (HZ.out.2 e)
     rw [HSC.out, sgn_gt (by omega)])
    have d9 : decide ((pk : Int) > 0) = true := decide_eq_true (by omega)
    have d8 : decide ((0 : Int) < (pk : Int)) = true := decide_eq_true (by omega)
    go_wp2_with fail
    go_ret
    exact ⟨by rw [HE.out]; rfl, by first | exact HG.out.trans (Gr.new _ _) | exact HG.out.put2 (by omega) _ _⟩
set_option maxRecDepth 100000 in
set_option maxHeartbeats 2000000 in
theorem rcmp_ok (neg : Bool) (s : ByteArray) (neg' : Bool) (s' : ByteArray) (w : World) (h : Form neg s) (h' : Form neg' s') :
  Calls Tryz.prog 91 #[.agg #[.bool neg, .string s], .agg #[.bool neg', .string s']] w (Pair (sgn (zOf neg s) (zOf neg' s'), 0) w) := by
 have hw1 : (s.size + 1) / 2 ≤ 129 := Nat.le_trans (form_small h) (by omega)
 have hw2 : (s'.size + 1) / 2 ≤ 129 := Nat.le_trans (form_small h') (by omega)
 have b129 : 129 ≤ 90000 := by omega
 have HF := Lib.hid h
 have HF' := Lib.hid h'
 have hs : s.size ≤ 256 := by rcases h with ⟨h0, _⟩ | ⟨_, h2, _⟩ <;> omega
 have hs' : s'.size ≤ 256 := by rcases h' with ⟨h0, _⟩ | ⟨_, h2, _⟩ <;> omega
 obtain ⟨sc, hsc⟩ : ∃ sc, sc = sgn (zOf neg s) (zOf neg' s') := ⟨_, rfl⟩
 rw [← hsc]
 have HSC := Lib.hid hsc
 clear h h' hsc
 go_enter Tryz.func91, Tryz.ntmps91
 go_wp2_with fail
 refine (rvalid_any neg s _ (by omega)).mono ?_
 rintro e w1 ⟨r, rfl, hr, g1⟩
 obtain rfl : r = true := hr.2 HF.out
 have g0 : Gr w ((w.alloc (.cells #[.bool neg, .string s] 50)).alloc (.cells #[.bool neg', .string s'] 50)) := (Gr.new w _).alloc _
 have x0 := g1.keeps (p := ⟨w.heap.size, 0, none⟩) (v := .bool neg) (by simp [go_sem])
 have x1 := g1.keeps (p := ⟨w.heap.size, 1, none⟩) (v := .string s) (by simp [go_sem])
 have y0 := g1.keeps (p := ⟨w.heap.size + 1, 0, none⟩) (v := .bool neg') (by simp [go_sem])
 have y1 := g1.keeps (p := ⟨w.heap.size + 1, 1, none⟩) (v := .string s') (by simp [go_sem])
 have HG := Lib.hid (g0.trans g1)
 clear g0 g1 hr
 go_wp2_with fail
 refine (rvalid_any neg' s' _ (by omega)).mono ?_
 rintro e w2 ⟨r, rfl, hr, g⟩
 obtain rfl : r = true := hr.2 HF'.out
 have g : Gr w1 w2.drew := Below.drew g
 have x0 := g.keeps x0
 have x1 := g.keeps x1
 have y0 := g.keeps y0
 have y1 := g.keeps y1
 have HG := Lib.hid (HG.out.trans g)
 clear hr g
 go_wp2_with fail
 go_region_held3 (fun w' => w'.cell? ⟨w.heap.size, 0, none⟩ = some (.bool neg) ∧ w'.cell? ⟨w.heap.size, 1, none⟩ = some (.string s) ∧ w'.cell? ⟨w.heap.size + 1, 0, none⟩ = some (.bool neg') ∧ w'.cell? ⟨w.heap.size + 1, 1, none⟩ = some (.string s')) (first | exact ⟨x0, x1, y0, y1⟩ | go_keep)
  (first
   | (go_at_call 89; (with_reducible refine (rin_any neg s _ HF.out).mono ?_); rintro e w' ⟨u, rfl, hv, g⟩; have x0 := g.keeps x0; have x1 := g.keeps x1; have y0 := g.keeps y0; have y1 := g.keeps y1; have HX := Lib.hid (hv.wider hw1); (try have HY := Lib.hid (HY.out.later g)); have HG := Lib.hid (HG.out.trans g); clear hv g)
   | (go_at_call 89; (with_reducible refine (rin_any neg' s' _ HF'.out).mono ?_); rintro e w' ⟨v, rfl, hv, g⟩; have x0 := g.keeps x0; have x1 := g.keeps x1; have y0 := g.keeps y0; have y1 := g.keeps y1; (try have HX := Lib.hid (HX.out.later g)); have HY := Lib.hid (hv.wider hw2); have HG := Lib.hid (HG.out.trans g); clear hv g)
   | (go_at_call 126; (with_reducible refine (rcompare_any 129 _ _ _ _ _ HX.out HY.out b129).mono ?_); rintro e w' ⟨rfl, g⟩; have x0 := g.keeps x0; have x1 := g.keeps x1; have y0 := g.keeps y0; have y1 := g.keeps y1; rw [← HSC.out]; have HG := Lib.hid (HG.out.trans g); clear g))
 all_goals
  go_wp2_with fail
  go_ret2
  exact ⟨rfl, HG.out⟩
set_option maxRecDepth 100000 in
set_option maxHeartbeats 1000000 in
theorem rabs_bad (neg : Bool) (s : ByteArray) (w : World) (hs : s.size ≤ 9223372036854775807) (h : ¬ Form neg s) :
  Calls Tryz.prog 84 #[.agg #[.bool neg, .string s]] w (Res false ⟨#[]⟩ 2 w) := by
 have HF := Lib.hid h
 clear h
 go_enter Tryz.func84, Tryz.ntmps84
 go_wp2_with fail
 obtain ⟨W, hW⟩ : ∃ W : World, W = ((w.alloc (.cells #[.bool neg, .string s] 50)).alloc (.cells #[.bool false, .string ⟨#[]⟩] 50)) := ⟨_, rfl⟩
 rw [← hW]
 have g1 : Gr w W := by rw [hW]; exact (((Gr.refl _).alloc _).alloc _)
 have x0 : W.cell? ⟨w.heap.size, 0, none⟩ = some (.bool neg) := by rw [hW]; simp [go_sem]
 have x1 : W.cell? ⟨w.heap.size, 1, none⟩ = some (.string s) := by rw [hW]; simp [go_sem]
 have r0 : W.cell? ⟨w.heap.size + 1, 0, none⟩ = some (.bool false) := by rw [hW]; simp [go_sem]
 have er0 : W.frozen? ⟨w.heap.size + 1, 0, none⟩ = false := by rw [hW]; simp [go_sem]
 have r1 : W.cell? ⟨w.heap.size + 1, 1, none⟩ = some (.string ⟨#[]⟩) := by rw [hW]; simp [go_sem]
 have er1 : W.frozen? ⟨w.heap.size + 1, 1, none⟩ = false := by rw [hW]; simp [go_sem]
 have hsz : W.heap.size = w.heap.size + 1 + 1 := by rw [hW]; simp
 have HG := Lib.hid g1
 have HSZ := Lib.hid hsz
 clear hW g1 hsz
 refine (rvalid_any neg s _ hs).mono ?_
 rintro e w1 ⟨r, rfl, hr, g⟩
 obtain rfl : r = false := by cases r; rfl; exact absurd (hr.1 rfl) HF.out
 have er0 := g.frozen r0 er0
 have er1 := g.frozen r1 er1
 have x0 := g.keeps x0
 have x1 := g.keeps x1
 have r0 := g.keeps r0
 have r1 := g.keeps r1
 have HG := Lib.hid (HG.out.trans g)
 clear hr g
 go_wp2_with fail
 refine bodyPost_ret (v := .tuple #[.agg #[.bool false, .string ⟨#[]⟩], .int .i64 2]) (by simp [results, Tryz.results84, go_sem, r0, r1]) rfl ?_
 exact ⟨rfl, HG.out.put2 (by omega) _ _⟩
set_option maxRecDepth 100000 in
set_option maxHeartbeats 1000000 in
theorem rabs_ok (neg : Bool) (s : ByteArray) (w : World) (h : Form neg s) :
  Calls Tryz.prog 84 #[.agg #[.bool neg, .string s]] w (Res false s 0 w) := by
 have HF := Lib.hid h
 have hs := form_le h
 clear h
 go_enter Tryz.func84, Tryz.ntmps84
 go_wp2_with fail
 obtain ⟨W, hW⟩ : ∃ W : World, W = ((w.alloc (.cells #[.bool neg, .string s] 50)).alloc (.cells #[.bool false, .string ⟨#[]⟩] 50)) := ⟨_, rfl⟩
 rw [← hW]
 have g1 : Gr w W := by rw [hW]; exact (((Gr.refl _).alloc _).alloc _)
 have x0 : W.cell? ⟨w.heap.size, 0, none⟩ = some (.bool neg) := by rw [hW]; simp [go_sem]
 have x1 : W.cell? ⟨w.heap.size, 1, none⟩ = some (.string s) := by rw [hW]; simp [go_sem]
 have r0 : W.cell? ⟨w.heap.size + 1, 0, none⟩ = some (.bool false) := by rw [hW]; simp [go_sem]
 have er0 : W.frozen? ⟨w.heap.size + 1, 0, none⟩ = false := by rw [hW]; simp [go_sem]
 have r1 : W.cell? ⟨w.heap.size + 1, 1, none⟩ = some (.string ⟨#[]⟩) := by rw [hW]; simp [go_sem]
 have er1 : W.frozen? ⟨w.heap.size + 1, 1, none⟩ = false := by rw [hW]; simp [go_sem]
 have hsz : W.heap.size = w.heap.size + 1 + 1 := by rw [hW]; simp
 have HG := Lib.hid g1
 have HSZ := Lib.hid hsz
 clear hW g1 hsz
 refine (rvalid_any neg s _ hs).mono ?_
 rintro e w1 ⟨r, rfl, hr, g⟩
 obtain rfl : r = true := hr.2 HF.out
 have er0 := g.frozen r0 er0
 have er1 := g.frozen r1 er1
 have x0 := g.keeps x0
 have x1 := g.keeps x1
 have r0 := g.keeps r0
 have r1 := g.keeps r1
 have HG := Lib.hid (HG.out.trans g)
 clear hr g
 go_wp2_with fail
 refine bodyPost_ret (v := .tuple #[.agg #[.bool false, .string s], .int .i64 0]) (by simp [results, Tryz.results84, go_sem, r0, r1]) rfl ?_
 exact ⟨rfl, HG.out.put2 (by omega) _ _⟩
set_option maxRecDepth 100000 in
set_option maxHeartbeats 1000000 in
theorem rmax_ok (neg : Bool) (s : ByteArray) (neg' : Bool) (s' : ByteArray) (w : World) (h : Form neg s) (h' : Form neg' s') :
  Calls Tryz.prog 85 #[.agg #[.bool neg, .string s], .agg #[.bool neg', .string s']] w (Res (if sgn (zOf neg s) (zOf neg' s') < 0 then neg' else neg) (if sgn (zOf neg s) (zOf neg' s') < 0 then s' else s) 0 w) := by
 have HF := Lib.hid h
 have HF' := Lib.hid h'
 obtain ⟨sc, hsc⟩ : ∃ sc, sc = sgn (zOf neg s) (zOf neg' s') := ⟨_, rfl⟩
 have HC := Lib.hid (show ∀ W, Calls Tryz.prog 91 #[.agg #[.bool neg, .string s], .agg #[.bool neg', .string s']] W (Pair (sc, 0) W) from fun W => by rw [hsc]; exact rcmp_ok neg s neg' s' W h h')
 rw [← hsc]
 clear h h' hsc
 obtain ⟨A, hA⟩ : ∃ A, A = (if sc < 0 then neg' else neg) := ⟨_, rfl⟩
 obtain ⟨S, hS⟩ : ∃ S, S = (if sc < 0 then s' else s) := ⟨_, rfl⟩
 rw [← hA, ← hS]
 have HA := Lib.hid hA
 have HS := Lib.hid hS
 clear hA hS
 go_enter Tryz.func85, Tryz.ntmps85
 go_wp2_with fail
 obtain ⟨W, hW⟩ : ∃ W : World, W = (((w.alloc (.cells #[.bool neg, .string s] 50)).alloc (.cells #[.bool neg', .string s'] 50)).alloc (.cells #[.bool false, .string ⟨#[]⟩] 50)) := ⟨_, rfl⟩
 rw [← hW]
 have g1 : Gr w W := by rw [hW]; exact ((((Gr.refl _).alloc _).alloc _).alloc _)
 have x0 : W.cell? ⟨w.heap.size, 0, none⟩ = some (.bool neg) := by rw [hW]; simp [go_sem]
 have x1 : W.cell? ⟨w.heap.size, 1, none⟩ = some (.string s) := by rw [hW]; simp [go_sem]
 have y0 : W.cell? ⟨w.heap.size + 1, 0, none⟩ = some (.bool neg') := by rw [hW]; simp [go_sem]
 have y1 : W.cell? ⟨w.heap.size + 1, 1, none⟩ = some (.string s') := by rw [hW]; simp [go_sem]
 have r0 : W.cell? ⟨w.heap.size + 1 + 1, 0, none⟩ = some (.bool false) := by rw [hW]; simp [go_sem]
 have er0 : W.frozen? ⟨w.heap.size + 1 + 1, 0, none⟩ = false := by rw [hW]; simp [go_sem]
 have r1 : W.cell? ⟨w.heap.size + 1 + 1, 1, none⟩ = some (.string ⟨#[]⟩) := by rw [hW]; simp [go_sem]
 have er1 : W.frozen? ⟨w.heap.size + 1 + 1, 1, none⟩ = false := by rw [hW]; simp [go_sem]
 have hsz : W.heap.size = w.heap.size + 1 + 1 + 1 := by rw [hW]; simp
 have HG := Lib.hid g1
 have HSZ := Lib.hid hsz
 clear hW g1 hsz
 refine (HC.out _).mono ?_
 rintro e w1 ⟨rfl, g⟩
 have er0 := g.frozen r0 er0
 have er1 := g.frozen r1 er1
 have x0 := g.keeps x0
 have x1 := g.keeps x1
 have y0 := g.keeps y0
 have y1 := g.keeps y1
 have r0 := g.keeps r0
 have r1 := g.keeps r1
 have HG := Lib.hid (HG.out.trans g)
 clear g
 by_cases hs : sc < 0
 ·have d1 : decide (sc < 0) = true := decide_eq_true hs
  have HA := Lib.hid (show A = neg' by rw [HA.out, if_pos hs])
  have HS := Lib.hid (show S = s' by rw [HS.out, if_pos hs])
  go_wp2_with fail
  refine bodyPost_ret (v := .tuple #[.agg #[.bool neg', .string s'], .int .i64 0]) (by simp [results, Tryz.results85, go_sem, r0, r1]) rfl ?_
  exact ⟨by rw [HA.out, HS.out], HG.out.put2 (by omega) _ _⟩
 ·have d1 : decide (sc < 0) = false := decide_eq_false hs
  have HA := Lib.hid (show A = neg by rw [HA.out, if_neg hs])
  have HS := Lib.hid (show S = s by rw [HS.out, if_neg hs])
  go_wp2_with fail
  refine bodyPost_ret (v := .tuple #[.agg #[.bool neg, .string s], .int .i64 0]) (by simp [results, Tryz.results85, go_sem, r0, r1]) rfl ?_
  exact ⟨by rw [HA.out, HS.out], HG.out.put2 (by omega) _ _⟩
end Go.Proofs.YtlfiakpmnkhcdaaGreat
