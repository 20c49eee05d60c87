import Derived.Test.YtfpdemmdkiohhaaGreatLWO
import Derived.Test.YtfpdemmdkiohhaaGreatLWI
import Derived.Test.YtfpdemmdkiohhaaGreatLQa
import Derived.Test.YtfpdemmdkiohhaaGreatLWM
/- The reference: bit, bits, compare; Bits, Cmp, Neg, Abs, Max. -/
namespace Oh
theorem bit_of (l : List Nat) (i : Nat) (hl : Dg l) : l[i / 16]?.getD 0 / 2 ^ (i % 16) % 2 = val l / 2 ^ i % 2 := by
  rw [← val_digit l (i / 16) hl]
  have e : 2 ^ i = 65536 ^ (i / 16) * 2 ^ (i % 16) := by
    rw [pow32, ← Nat.pow_add]
    congr 1; omega
  rw [e, ← Nat.div_div_eq_div_mul]
  generalize val l / 65536 ^ (i / 16) = x
  have hr : i % 16 < 16 := Nat.mod_lt _ (by omega)
  generalize i % 16 = r at *
  have e2 : (65536 : Nat) = 2 ^ r * (2 * 2 ^ (15 - r)) := by rw [← Nat.pow_succ', ← Nat.pow_add, show r + (15 - r + 1) = 16 by omega]
  rw [e2, Nat.mod_mul_right_div_self, Nat.mod_mul_right_mod]
theorem bit_high (l : List Nat) (i : Nat) (hl : Dg l) (h : l.length ≤ i / 16) : val l / 2 ^ i % 2 = 0 := by
  rw [← bit_of l i hl, List.getElem?_eq_none h]; simp
end Oh
namespace Go.Proofs.YtfpdemmdkiohhaaGreat
open Go.RowKit
set_option linter.unusedVariables false

theorem HasJ.up {N : Nat} {W : World} {v : Value} {z : Int} (h : HasJ N W v z) : ∃ (neg : Bool) (a : Option Addr) (n cap : Nat) (l : List Nat), v = .agg #[.bool neg, .slice a n cap] ∧ n = l.length ∧ neg = decide (z < 0) ∧ Oh.Nm l ∧ Oh.val l = z.natAbs := by
  obtain ⟨s, l, rfl, hd, hn, hv, hl⟩ := h
  obtain ⟨-, a, cap, rfl, -⟩ := id hd
  exact ⟨_, a, _, cap, l, rfl, rfl, rfl, hn, hv⟩
set_option maxRecDepth 100000 in
set_option maxHeartbeats 2000000 in
theorem rbit_any (l : List Nat) (v : Value) (i : Nat) (w : World) (hv : HasD w v l) (hd : Oh.Dg l) (hi : i ≤ 10000000) :
    Calls Tryz.prog 114 #[v, .int .i64 i] w fun e w' => e = .returned (.int .u32 ((Oh.val l / 2 ^ i % 2 : Nat) : Int)) ∧ w = w' := by
  obtain ⟨-, a, cap, rfl, v1, v2, cv⟩ := hv
  obtain ⟨len, hlen⟩ : ∃ len, len = l.length := ⟨_, rfl⟩
  rw [← hlen] at v1 ⊢
  have HL := Lib.hid hlen
  have HD := Lib.hid hd
  have HCV := Lib.hid cv
  obtain ⟨q, hq⟩ : ∃ q, q = i / 16 := ⟨_, rfl⟩
  obtain ⟨r, hr⟩ : ∃ r, r = i % 16 := ⟨_, rfl⟩
  have hr16 : r < 16 := by omega
  have hq2 : (i : Int) / 16 = (q : Int) := by omega
  have hr2 : (i : Int) % 16 = (r : Int) := by omega
  have hq3 : (i : Int).tdiv 16 = (q : Int) := by rw [Int.tdiv_eq_ediv_of_nonneg (by omega)]; exact hq2
  have hr3 : (i : Int).tmod 16 = (r : Int) := by rw [Int.tmod_eq_emod_of_nonneg (by omega)]; exact hr2
  have HQ := Lib.hid hq
  have HR := Lib.hid hr
  have hqi : q ≤ i := by omega
  clear hlen hd cv hq hr
  by_cases hlt : len ≤ q
  · have HZ := Lib.hid (Oh.bit_high l i HD.out (by rw [← HL.out, ← HQ.out]; exact hlt))
    have d1 : decide ((q : Int) ≥ (len : Int)) = true := decide_eq_true (by omega)
    have d2 : decide ((len : Int) ≤ (q : Int)) = true := decide_eq_true (by omega)
    go_enter Tryz.func114, Tryz.ntmps114
    go_wp2_with fail
    go_ret
    exact ⟨by rw [HZ.out]; rfl, rfl⟩
  · have d1 : decide ((q : Int) ≥ (len : Int)) = false := decide_eq_false (by omega)
    have d2 : decide ((len : Int) ≤ (q : Int)) = false := decide_eq_false (by omega)
    have hql : q < len := by omega
    obtain ⟨gb, ob, rfl, c2⟩ := HCV.out q (by rw [← HL.out]; exact hql)
    obtain ⟨x, hx⟩ : ∃ x, x = l[q]?.getD 0 := ⟨_, rfl⟩
    rw [← hx] at c2
    have hx2 := Oh.dg_at HD.out q
    rw [← hx] at hx2
    have HB := Lib.hid (show x / 2 ^ r % 2 = Oh.val l / 2 ^ i % 2 by rw [hx, HQ.out, HR.out]; exact Oh.bit_of l i HD.out)
    clear hx hlt
    have i5 : (q : Int) < (len : Int) := by omega
    have i6 : (0 : Int) ≤ (q : Int) := by omega
    go_enter Tryz.func114, Tryz.ntmps114
    go_wp2_with fail
    go_ret
    refine ⟨?_, rfl⟩
    rw [← HB.out]
    have e1 : (x : Int) / 2 ^ r = ((x / 2 ^ r : Nat) : Int) := by rw [Int.natCast_ediv, Int.natCast_pow]; rfl
    have hx3 : x / 2 ^ r < 4294967296 := Nat.lt_of_le_of_lt (Nat.div_le_self _ _) (by omega)
    have e2 : bits BinOp.and IntKind.u32 ((x / 2 ^ r : Nat) : Int) 1 = ((x / 2 ^ r % 2 : Nat) : Int) := by
      have h := (bits32 (x / 2 ^ r) 1 hx3 (by omega)).1
      rw [Nat.and_one_is_mod] at h
      exact h
    show Ending.returned (.int .u32 (bits BinOp.and IntKind.u32 ((x : Int) / 2 ^ r) 1)) = _
    rw [e1, e2]

set_option maxRecDepth 100000 in
set_option maxHeartbeats 2000000 in
theorem rbits_any (l : List Nat) (v : Value) (k : Nat) (w : World) (hv : HasD w v l) (hd : Oh.Dg l) (hl : l.length ≤ 100000) (hk : Ow.BitLen (Oh.val l) k) :
    Calls Tryz.prog 112 #[v] w fun e w' => e = .returned (.int .i64 (k : Nat)) ∧ w = w' := by
  have HV := Lib.hid hv
  have HD := Lib.hid hd
  have HK := Lib.hid hk
  obtain ⟨-, a, cap, rfl, v1, v2, cv⟩ := hv
  obtain ⟨len, hlen⟩ : ∃ len, len = l.length := ⟨_, rfl⟩
  rw [← hlen] at v1 hl HV ⊢
  have HST := Lib.hid (show Oh.val l < 2 ^ (16 * len) by rw [hlen, ← Oh.pow32]; exact Oh.val_lt l hd)
  clear hd hk cv hlen
  go_enter Tryz.func112, Tryz.ntmps112
  go_wp2_with fail
  go_loop [3] (fun t => ∃ n : Nat, t = .int .i64 n ∧ n ≤ 16 * len ∧ Oh.val l < 2 ^ n) (fun t => (intOf t).toNat)
  case atStart => exact ⟨16 * len, by simp, Nat.le_refl _, HST.out⟩
  case round =>
    obtain ⟨n, rfl, hn, hlt⟩ := hrel
    have HLT := Lib.hid hlt
    clear hlt
    cases n with
    | zero =>
      have HE := Lib.hid (show k = 0 from HK.out.unique (Oh.bitLen_none HLT.out))
      go_wp2_with fail
      go_ret
      exact ⟨by rw [HE.out]; rfl, rfl⟩
    | succ n =>
      have d1 : decide (((n + 1 : Nat) : Int) > 0) = true := decide_eq_true (by omega)
      have d2 : decide ((0 : Int) < ((n + 1 : Nat) : Int)) = true := decide_eq_true (by omega)
      have e1 : ((n + 1 : Nat) : Int) - 1 = (n : Int) := by omega
      go_wp2_with fail
      refine (rbit_any l _ n _ HV.out HD.out (by omega)).mono ?_
      rintro e w' ⟨rfl, rfl⟩
      obtain ⟨b, hb⟩ : ∃ b, b = Oh.val l / 2 ^ n % 2 := ⟨_, rfl⟩
      rw [← hb]
      by_cases h0 : b = 0
      · have HN := Lib.hid (Oh.bitLen_step HLT.out (by rw [← hb]; exact h0))
        subst h0
        clear hb
        go_wp2_with fail
        go_round
        case rel => exact ⟨n, by go_num, by omega, HN.out⟩
        case measure => simp [intOf]
      · have HE := Lib.hid (show k = n + 1 from HK.out.unique (Oh.bitLen_stop HLT.out (by rw [← hb]; exact h0)))
        have d3 : ((b : Int) == 0) = false := by simp; omega
        clear hb
        go_wp2_with fail
        go_ret
        exact ⟨by rw [HE.out]; rfl, rfl⟩
theorem Gr.drw {a b : World} (h : Gr a b) : Gr a b.drew := Below.drew h

set_option maxRecDepth 100000 in
set_option maxHeartbeats 4000000 in
theorem rcompare_any (N : Nat) (x y : Int) (u v : Value) (w : World) (hu : HasJ N w u x) (hv : HasJ N w v y) (hN : N ≤ 90000) :
    Calls Tryz.prog 71 #[u, v] w fun e w' => e = .returned (.int .i64 (sgn x y)) ∧ Gr w w' := by
  have HX := Lib.hid hu
  have HY := Lib.hid hv
  obtain ⟨xn, xa, xk, xc, xl, rfl, -⟩ := hu.parts
  obtain ⟨yn, ya, yk, yc, yl, rfl, -⟩ := hv.parts
  clear hu hv
  obtain ⟨sc, hsc⟩ : ∃ sc, sc = sgn x y := ⟨_, rfl⟩
  rw [← hsc]
  have HSC := Lib.hid hsc
  clear hsc
  go_enter Tryz.func71, Tryz.ntmps71
  go_wp2_with fail
  obtain ⟨W, hW⟩ : ∃ W : World, W = ((w.alloc (.cells #[.bool xn, .slice xa xk xc] 94)).alloc (.cells #[.bool yn, .slice ya yk yc] 94)) := ⟨_, rfl⟩
  rw [← hW]
  have g1 : Gr w W := by rw [hW]; exact (((Gr.refl _).alloc _).alloc _)
  have a0 : W.cell? ⟨w.heap.size, 0, none⟩ = some (.bool xn) := by rw [hW]; simp [go_sem]
  have a1 : W.cell? ⟨w.heap.size, 1, none⟩ = some (.slice xa xk xc) := by rw [hW]; simp [go_sem]
  have b0 : W.cell? ⟨w.heap.size + 1, 0, none⟩ = some (.bool yn) := by rw [hW]; simp [go_sem]
  have b1 : W.cell? ⟨w.heap.size + 1, 1, none⟩ = some (.slice ya yk yc) := by rw [hW]; simp [go_sem]
  have hsz : W.heap.size = w.heap.size + 1 + 1 := by rw [hW]; simp
  have HG := Lib.hid g1
  have HSZ := Lib.hid hsz
  clear hW g1 hsz
  have hN2 : N ≤ 100000 := by omega
  have z1 : w.heap.size ≤ W.heap.size := HG.out.size
  have q1 : ¬ (W.heap.size = w.heap.size) := World.new_ne W _ a0
  have q2 : ¬ (W.heap.size = w.heap.size + 1) := World.new_ne W _ b0
  have q3 : ¬ (w.heap.size = W.heap.size) := fun e => q1 e.symm
  have q4 : ¬ (w.heap.size + 1 = W.heap.size) := fun e => q2 e.symm
  have HX0 := Lib.hid (HX.out.later HG.out)
  have HY0 := Lib.hid (HY.out.later HG.out)
  have HX := Lib.hid (HX.out.later (Below.drew HG.out))
  have HY := Lib.hid (HY.out.later (Below.drew HG.out))
  have HG0 := HG
  have HG := Lib.hid (show Gr w W.drew from Below.drew HG.out)
  go_region_held3 (fun w' => w'.cell? ⟨w.heap.size, 0, none⟩ = some (.bool xn) ∧ w'.cell? ⟨w.heap.size, 1, none⟩ = some (.slice xa xk xc) ∧ w'.cell? ⟨w.heap.size + 1, 0, none⟩ = some (.bool yn) ∧ w'.cell? ⟨w.heap.size + 1, 1, none⟩ = some (.slice ya yk yc)) (first | exact ⟨a0, a1, b0, b1⟩ | go_keep)
    (first
      | (go_at_call 73; (with_reducible refine (rnegative_any N y _ _ HY.out hN2).mono ?_); rintro e wn ⟨m, rfl, hm, g⟩; have HM := Lib.hid hm; have HX := Lib.hid (HX.out.later g); have a0 := g.keeps a0; have a1 := g.keeps a1; have b0 := g.keeps b0; have b1 := g.keeps b1; have z2 : w.heap.size ≤ wn.heap.size := Nat.le_trans HG.out.size g.size; have q5 : ¬ (wn.heap.size = w.heap.size) := World.new_ne wn _ a0; have q6 : ¬ (wn.heap.size = w.heap.size + 1) := World.new_ne wn _ b0; have q7 : ¬ (w.heap.size = wn.heap.size) := fun e => q5 e.symm; have q8 : ¬ (w.heap.size + 1 = wn.heap.size) := fun e => q6 e.symm; have HG := Lib.hid (HG.out.trans g); clear hm g)
      | (go_at_call 73; (with_reducible refine (rnegative_any N y _ _ (HY0.out.later (Gr.drw (Gr.new _ _))) hN2).mono ?_); rintro e wn ⟨m, rfl, hm, g⟩; have d0 := g.keeps (p := ⟨W.heap.size, 0, none⟩) (v := .bool false) (by simp [go_sem]); have d1 := g.keeps (p := ⟨W.heap.size, 1, none⟩) (v := .slice none 0 0) (by simp [go_sem]); have fd0 := g.frozen (p := ⟨W.heap.size, 0, none⟩) (v := .bool false) (by simp [go_sem]) (by simp [go_sem]); have fd1 := g.frozen (p := ⟨W.heap.size, 1, none⟩) (v := .slice none 0 0) (by simp [go_sem]) (by simp [go_sem]); have g := (Gr.drw (Gr.new W _)).trans g; have HM := Lib.hid hm; have HX := Lib.hid (HX0.out.later g); have a0 := g.keeps a0; have a1 := g.keeps a1; have b0 := g.keeps b0; have b1 := g.keeps b1; have HG := Lib.hid (HG0.out.trans g); clear hm g)
      | (go_at_call 69; (with_reducible refine (radd_any N x (-y) _ _ _ HX.out HM.out hN).mono ?_); rintro e wa ⟨p, rfl, hp, g⟩; (try (have fd0 := g.frozen d0 fd0; have fd1 := g.frozen d1 fd1; have d0 := g.keeps d0; have d1 := g.keeps d1)); obtain ⟨pn, pa, pk, pc, pl, rfl, hpk, hpn, hpnm, hpv⟩ := hp.up; have HPK := Lib.hid hpk; have HPN := Lib.hid hpn; have HPM := Lib.hid hpnm; have HPV := Lib.hid hpv; have HPC := Lib.hid (hp.parts); have a0 := g.keeps a0; have a1 := g.keeps a1; have b0 := g.keeps b0; have b1 := g.keeps b1; have HG := Lib.hid (HG.out.trans g); clear hp g hpk hpn hpnm hpv)
      | (go_at_call 69; (with_reducible refine (radd_any N x (-y) _ _ _ (HX.out.later (Gr.new _ _)) (HM.out.later (Gr.new _ _)) hN).mono ?_); rintro e wa ⟨p, rfl, hp, g⟩; have d0 := g.keeps (p := ⟨wn.heap.size, 0, none⟩) (v := .bool false) (by simp [go_sem]); have d1 := g.keeps (p := ⟨wn.heap.size, 1, none⟩) (v := .slice none 0 0) (by simp [go_sem]); have fd0 := g.frozen (p := ⟨wn.heap.size, 0, none⟩) (v := .bool false) (by simp [go_sem]) (by simp [go_sem]); have fd1 := g.frozen (p := ⟨wn.heap.size, 1, none⟩) (v := .slice none 0 0) (by simp [go_sem]) (by simp [go_sem]); have g := (Gr.new wn _).trans g; obtain ⟨pn, pa, pk, pc, pl, rfl, hpk, hpn, hpnm, hpv⟩ := hp.up; have HPK := Lib.hid hpk; have HPN := Lib.hid hpn; have HPM := Lib.hid hpnm; have HPV := Lib.hid hpv; have a0 := g.keeps a0; have a1 := g.keeps a1; have b0 := g.keeps b0; have b1 := g.keeps b1; have HG := Lib.hid (HG.out.trans g); clear hp g hpk hpn hpnm hpv))
  all_goals
    have hzero : pk = 0 ↔ x = y := by
      have h1 := Oh.tr_pos HPM.out.1
      rw [HPM.out.2, ← HPK.out, HPV.out] at h1
      omega
    have HZ := Lib.hid hzero
    clear hzero
    cases pn with
    | true =>
      have HE := Lib.hid (show sc = -1 by
        have h := HPN.out
        have h2 : x + -y < 0 := by simpa using h
        rw [HSC.out, sgn_lt (by omega)])
      go_wp2_with fail
      go_ret
      exact ⟨by rw [HE.out]; rfl, by first | exact HG.out.trans (Gr.new _ _) | exact HG.out.put2 (by omega) _ _⟩
    | false =>
      have hge : ¬ (x + -y < 0) := by have h := HPN.out; simpa using h
      have HGE := Lib.hid hge
      clear hge
      by_cases hp : pk = 0
      · have HE := Lib.hid (show sc = 0 by rw [HSC.out, sgn_eq (HZ.out.1 hp)])
        subst hp
        go_wp2_with fail
        go_ret
        exact ⟨by rw [HE.out]; rfl, by first | exact HG.out.trans (Gr.new _ _) | exact HG.out.put2 (by omega) _ _⟩
      · have HE := Lib.hid (show sc = 1 by
          have h1 := HGE.out
          have h2 : ¬ x = y := fun e => hp (HZ.out.2 e)
          rw [HSC.out, sgn_gt (by omega)])
        have d9 : decide ((pk : Int) > 0) = true := decide_eq_true (by omega)
        have d8 : decide ((0 : Int) < (pk : Int)) = true := decide_eq_true (by omega)
        go_wp2_with fail
        go_ret
        exact ⟨by rw [HE.out]; rfl, by first | exact HG.out.trans (Gr.new _ _) | exact HG.out.put2 (by omega) _ _⟩
end Go.Proofs.YtfpdemmdkiohhaaGreat
/- The reference: left by one. -/
namespace Go.Proofs.YtfpdemmdkiohhaaGreat
open Go.RowKit
set_option linter.unusedVariables false

theorem own_zero (w : World) : Own1 (w.alloc (.cells (zrow 0) 42)) w.heap.size (.slice (some ⟨w.heap.size, 0, none⟩) 0 0) [] := by
  refine ⟨Ow.dg_nil, by simp [wcells], .inr ⟨w.heap.size, 0, zrow 0, rfl, Nat.le_refl _, ?_, ?_, ?_, ?_, ?_⟩⟩
  all_goals first
    | rfl
    | (show (w.heap.push _)[w.heap.size]? = _; simp; done)
    | (simp [maxLen]; done)
    | (simp [zrow]; done)
    | (rw [zrow_size])

set_option maxRecDepth 100000 in
set_option maxHeartbeats 4000000 in
theorem rleft_any (l : List Nat) (u : Value) (w : World) (hu : HasD w u l) (hl : Oh.Dg l) (N : Nat) (hlN : l.length ≤ N) (hN : N ≤ 100000) :
    Calls Tryz.prog 113 #[u, .int .i64 1] w (WordPost (N + 1) (2 * Oh.val l) w) := by
  obtain ⟨-, a, cap, rfl, u1, u2, -⟩ := id hu
  have HU := Lib.hid hu
  have HL := Lib.hid hl
  obtain ⟨len, hlen⟩ : ∃ len, len = l.length := ⟨_, rfl⟩
  rw [← hlen] at u1 hlN HU ⊢
  have HLEN := Lib.hid hlen
  have hmk := mk_row 0 0 rfl (by omega)
  have HOZ := Lib.hid (own_zero w)
  have HGZ := Lib.hid (Gr.new w (.cells (zrow 0) 42))
  clear hu hl hlen
  go_enter Tryz.func113, Tryz.ntmps113
  go_wp2_with fail
  clear hmk
  go_loopw [5, 6, 7] (fun t c i wr => ∃ (k cr : Nat) (pre : List Nat) (ar : Option Addr) (capr : Nat), i = .int .i64 k ∧ c = .int .u32 cr ∧ t = .slice ar k capr ∧ cr ≤ 1 ∧ k ≤ len ∧ Oh.LeftI l k pre cr ∧ Own1 wr w.heap.size (.slice ar k capr) pre ∧ Gr w wr) (fun _ _ i _ => len - (intOf i).toNat)
  case atStart => exact ⟨0, 0, [], _, 0, rfl, rfl, rfl, by omega, by omega, Oh.LeftI.start _, HOZ.out, HGZ.out⟩
  case round =>
    obtain ⟨wo, rfl⟩ : ∃ wo : World, wo = wr := ⟨_, rfl⟩
    obtain ⟨k, cr, pre, ar, capr, rfl, rfl, rfl, hcr, hk, hsum, hown, hgr⟩ := hrel
    have HSUM := Lib.hid hsum
    have HOWN := Lib.hid hown
    have HGR := Lib.hid hgr
    have hsz := hgr.size
    clear hsum hown hgr
    have pl : pre.length = k := HSUM.out.1
    have HPL := Lib.hid pl
    clear pl
    by_cases h1 : k < len
    · obtain ⟨x, hx⟩ : ∃ x, x = l[k]?.getD 0 := ⟨_, rfl⟩
      have hxb : x < 65536 := by rw [hx]; exact Oh.dg_at HL.out k
      have HST := Lib.hid (HSUM.out.step HL.out)
      rw [← hx] at HST
      have HX := Lib.hid hx
      clear hx
      obtain ⟨ss, hss⟩ : ∃ ss, ss = cr + 2 * x := ⟨_, rfl⟩
      rw [← hss] at HST
      have HSS := Lib.hid hss
      have hssb : ss ≤ 131071 := by omega
      clear hss
      have HKN := Lib.hid h1
      obtain ⟨ga, oa, rfl, ca⟩ := HU.out.at (i := k) (by rw [← HLEN.out]; exact h1)
      have ca := HGR.out.keeps ca
      rw [← HX.out] at ca
      have q1 : decide ((k : Int) < (len : Int)) = true := decide_eq_true (by omega)
      have q1' : decide (k < len) = true := decide_eq_true h1
      go_wp2_with (at_builtin; refine wpList_app rfl _ _ rfl rfl w.heap.size _ pre rfl (HOWN.out.alloc _) _ [ss % 65536] rfl (HasD.one _ _ _ (by have := HSS.out; omega) (by omega)) (by rw [HPL.out]; simp; omega) (by rw [World.size_alloc]; omega) ?_; intro v' w1 hown' hgrow; (have hbl := grown_below HOWN.out hgrow hsz); (obtain ⟨a', cap', rfl⟩ := hown'.slice (n := k + 1) (by rw [List.length_append, HPL.out]; rfl)); have HOWN2 := Lib.hid hown'; have HBL := Lib.hid hbl; clear hown' hgrow hbl)
      exact ⟨⟨k + 1, ss / 65536, _, a', cap', by simp, by congr 1; have := HSS.out; omega, rfl, by omega, by have := HKN.out; omega, HST.out, HOWN2.out, Below.trans HGR.out HBL.out⟩, by have := HKN.out; simp [intOf]; omega⟩
    · obtain rfl : k = len := by omega
      have q1 : decide ((k : Int) < (k : Int)) = false := decide_eq_false (by omega)
      have HALL := Lib.hid ((HLEN.out ▸ HSUM.out : Oh.LeftI l l.length pre cr).all)
      have HKN := Lib.hid hlN
      go_wp2_with (at_builtin; refine wpList_app rfl _ _ rfl rfl w.heap.size _ pre rfl (HOWN.out.alloc _) _ [cr] rfl (HasD.one _ _ _ rfl (by omega)) (by rw [HPL.out]; simp; omega) (by rw [World.size_alloc]; omega) ?_; intro v' w1 hown' hgrow; (have hbl := grown_below HOWN.out hgrow hsz); (obtain ⟨a', cap', rfl⟩ := hown'.slice (n := k + 1) (by rw [List.length_append, HPL.out]; rfl)); have HOWN2 := Lib.hid hown'; have HBL := Lib.hid hbl; clear hown' hgrow hbl)
      go_ret
      exact ⟨_, pre ++ [cr], rfl, HOWN2.out.hasD, HALL.out.1, HALL.out.2.1, by rw [HALL.out.2.2, ← HLEN.out]; have := HKN.out; omega, Below.trans HGR.out HBL.out⟩
end Go.Proofs.YtfpdemmdkiohhaaGreat
/- The reference: trim, whose answer is its own. -/
namespace Go.Proofs.YtfpdemmdkiohhaaGreat
open Go.RowKit
set_option linter.unusedVariables false

theorem Own1.fresh {W : World} {base : Nat} {v : Value} {l : List Nat} (h : Own1 W base v l) {a : Option Addr} {n c : Nat} (hv : v = .slice a n c) : ∀ p, a = some p → base ≤ p.block := by
  intro p hp
  subst hv hp
  rcases h.2.2 with ⟨e, _⟩ | ⟨g, cap, cur, e, hb, _⟩
  · cases e
  · cases e
    exact hb
/-- A number whose words are the call's own. -/
def NumZF (N : Nat) (z : Int) (w : World) (e : Ending) (w' : World) : Prop := ∃ (b : Bool) (a : Option Addr) (n c : Nat), e = .returned (.agg #[.bool b, .slice a n c]) ∧ HasJ N w' (.agg #[.bool b, .slice a n c]) z ∧ Gr w w' ∧ ∀ p, a = some p → w.heap.size ≤ p.block
def TrimCutF (b : Bool) (l : List Nat) (B : Nat) (w wx : World) : Prop := ∃ a' n' cap', wx.cell? ⟨B, 0, none⟩ = some (.bool b) ∧ wx.cell? ⟨B, 1, none⟩ = some (.slice a' n' cap') ∧ HasD wx (.slice a' n' cap') l ∧ Gr w wx ∧ ∀ p, a' = some p → B ≤ p.block
set_option maxRecDepth 100000 in
set_option maxHeartbeats 8000000 in
theorem trimf_region_true (l : List Nat) (k : Nat) (a : Option Addr) (len cap A B : Nat) (w : World) (W : World)
    (x0 : W.cell? ⟨A, 0, none⟩ = some (.bool true)) (x1 : W.cell? ⟨A, 1, none⟩ = some (.slice a len cap)) (HR0 : Hid (W.cell? ⟨B, 0, none⟩ = some (.bool false))) (HR1 : Hid (W.cell? ⟨B, 1, none⟩ = some (.slice none 0 0)))
    (HE0 : Hid (W.frozen? ⟨B, 0, none⟩ = false)) (HE1 : Hid (W.frozen? ⟨B, 1, none⟩ = false)) (hB : w.heap.size ≤ B) (hBW : B < W.heap.size) (n1 : ¬ (A = B)) (HG : Hid (Gr w W)) (HS : Hid (HasD W (.slice a k cap) (l.take k))) (hk : k ≤ len) (hkc : len ≤ cap) (hlen : len ≤ 100000)
    (v0 v4 v5 v6 v7 v8 v9 v10 v11 v12 v13 v14 v15 v16 v17 v18 v19 v20 v21 v22 v23 v24 v25 v26 v27 v28 v29 v30 v31 v32 : Value) (Q : Exit → Act → World → Prop) (hQ : ∀ (d : Option Tmp) (v : Value) c a w, Q (.panic c) (a.put d v) w → Q (.panic c) a w)
    (hpost : ∀  (u20 u21 u22 u23 u24 u25 u26 u27 u28 u29 u30 u31 u32 : Value) (wx : World), TrimCutF (decide (0 < k)) (l.take k) B w wx → Q .normal { tmps := List.toArray (v0 :: .pointer (some ⟨A, 0, none⟩) :: .pointer (some ⟨B, 0, none⟩) :: .int .i64 k :: v4 :: v5 :: v6 :: v7 :: v8 :: v9 :: v10 :: v11 :: v12 :: v13 :: v14 :: v15 :: v16 :: v17 :: v18 :: v19 :: u20 :: u21 :: u22 :: u23 :: u24 :: u25 :: u26 :: u27 :: u28 :: u29 :: u30 :: u31 :: u32 :: ([] : List Value)), defers := [] } wx) :
    (Code.region 4 #[{ dst := some 20, op := Op.fieldAddr 94 (Operand.tmp 1) 0, type := 0, pos := "ref.go:20", after := #[], guard := none },
      { dst := some 21, op := Op.load 4 (Operand.tmp 20), type := 4, pos := "ref.go:20", after := #[{ on := 0, ground := Ground.data }], guard := none },
      { dst := some 22, op := Op.move (Operand.tmp 21), type := 4, pos := "ref.go:20", after := #[{ on := 1, ground := Ground.data }], guard := none },
      { dst := some 23, op := Op.move (Operand.tmp 3), type := 3, pos := "ref.go:20", after := #[{ on := 2, ground := Ground.guard }], guard := some (2, true) },
      { dst := some 24, op := Op.binOp BinOp.gtr 3 (Operand.tmp 23) (Operand.const (Value.int IntKind.i64 0)) 3, type := 4, pos := "ref.go:20", after := #[{ on := 3, ground := Ground.data }, { on := 2, ground := Ground.guard }], guard := some (2, true) },
      { dst := some 25, op := Op.pick (Operand.tmp 22) (Operand.tmp 24) (Operand.const (Value.bool false)), type := 4, pos := "ref.go:20", after := #[{ on := 2, ground := Ground.data }, { on := 4, ground := Ground.data }], guard := none },
      { dst := some 26, op := Op.buildSlice 22 0 #[], type := 22, pos := "ref.go:20", after := #[], guard := none },
      { dst := some 27, op := Op.fieldAddr 94 (Operand.tmp 1) 1, type := 0, pos := "ref.go:20", after := #[], guard := none },
      { dst := some 28, op := Op.load 22 (Operand.tmp 27), type := 22, pos := "ref.go:20", after := #[{ on := 7, ground := Ground.data }], guard := none },
      { dst := some 29, op := Op.move (Operand.tmp 3), type := 3, pos := "ref.go:20", after := #[], guard := none },
      { dst := some 30, op := Op.slice 22 (Operand.tmp 28) none (some (Operand.tmp 29)) none, type := 22, pos := "ref.go:20", after := #[{ on := 8, ground := Ground.data }, { on := 9, ground := Ground.data }], guard := none },
      { dst := some 31, op := Op.call { callee := Callee.builtin Builtin.append, args := #[Operand.tmp 26, Operand.tmp 30], argTypes := #[22, 22] }, type := 22, pos := "ref.go:20", after := #[{ on := 6, ground := Ground.data }, { on := 10, ground := Ground.data }, { on := 2, ground := Ground.chain }], guard := none },
      { dst := some 32, op := Op.build 94 #[(0, Operand.tmp 25), (1, Operand.tmp 31)], type := 94, pos := "ref.go:20", after := #[{ on := 5, ground := Ground.data }, { on := 11, ground := Ground.data }], guard := none },
      { dst := none, op := Op.store 94 (Operand.tmp 2) (Operand.tmp 32), type := 0, pos := "ref.go:20", after := #[{ on := 12, ground := Ground.data }, { on := 11, ground := Ground.chain }, { on := 0, ground := Ground.phase }, { on := 1, ground := Ground.phase }, { on := 2, ground := Ground.phase }, { on := 3, ground := Ground.phase }, { on := 4, ground := Ground.phase }, { on := 5, ground := Ground.phase }, { on := 6, ground := Ground.phase }, { on := 7, ground := Ground.phase }, { on := 8, ground := Ground.phase }, { on := 9, ground := Ground.phase }, { on := 10, ground := Ground.phase }, { on := 11, ground := Ground.phase }, { on := 12, ground := Ground.phase }], guard := none }] true).wp Tryz.prog Q { tmps := List.toArray (v0 :: .pointer (some ⟨A, 0, none⟩) :: .pointer (some ⟨B, 0, none⟩) :: .int .i64 k :: v4 :: v5 :: v6 :: v7 :: v8 :: v9 :: v10 :: v11 :: v12 :: v13 :: v14 :: v15 :: v16 :: v17 :: v18 :: v19 :: v20 :: v21 :: v22 :: v23 :: v24 :: v25 :: v26 :: v27 :: v28 :: v29 :: v30 :: v31 :: v32 :: ([] : List Value)), defers := [] } W := by
  refine wp_region_held_drew (S := fun wz => wz.cell? ⟨A, 0, none⟩ = some (.bool true) ∧ wz.cell? ⟨A, 1, none⟩ = some (.slice a len cap) ∧ Gr w wz) (by kernel_rfl) ⟨x0, x1, Below.drew HG.out⟩ (fun hHeld => ?_)
  have hkcap : k ≤ cap := by omega
  refine wpAnyH_take (i := 0) (oi := { dst := some 20, op := Op.fieldAddr 94 (Operand.tmp 1) 0, type := 0, pos := "ref.go:20", after := #[], guard := none }) (v := ?_) rfl (by kernel_rfl) (by kernel_rfl) (by kernel_rfl) (hQ _ _) (Or.inl ⟨by rfl, ?_⟩) (by assumption) ?_
  rotate_left
  · intro w hSw; (try dsimp only at hSw); go_simp; try with_reducible rfl
  try simp only [Act.put, List.setIfInBounds_toArray, List.set_cons_zero, List.set_cons_succ]
  refine wpAnyH_take (i := 1) (oi := { dst := some 21, op := Op.load 4 (Operand.tmp 20), type := 4, pos := "ref.go:20", after := #[{ on := 0, ground := Ground.data }], guard := none }) (v := ?_) rfl (by kernel_rfl) (by kernel_rfl) (by kernel_rfl) (hQ _ _) (Or.inl ⟨by rfl, ?_⟩) (by assumption) ?_
  rotate_left
  · intro w hSw; (try dsimp only at hSw); go_simp; try with_reducible rfl
  try simp only [Act.put, List.setIfInBounds_toArray, List.set_cons_zero, List.set_cons_succ]
  refine wpAnyH_take (i := 2) (oi := { dst := some 22, op := Op.move (Operand.tmp 21), type := 4, pos := "ref.go:20", after := #[{ on := 1, ground := Ground.data }], guard := none }) (v := ?_) rfl (by kernel_rfl) (by kernel_rfl) (by kernel_rfl) (hQ _ _) (Or.inl ⟨by rfl, ?_⟩) (by assumption) ?_
  rotate_left
  · intro w hSw; (try dsimp only at hSw); go_simp; try with_reducible rfl
  try simp only [Act.put, List.setIfInBounds_toArray, List.set_cons_zero, List.set_cons_succ]
  refine wpAnyH_take (i := 3) (oi := { dst := some 23, op := Op.move (Operand.tmp 3), type := 3, pos := "ref.go:20", after := #[{ on := 2, ground := Ground.guard }], guard := some (2, true) }) (v := ?_) rfl (by kernel_rfl) (by kernel_rfl) (by kernel_rfl) (hQ _ _) (Or.inl ⟨by rfl, ?_⟩) (by assumption) ?_
  rotate_left
  · intro w hSw; (try dsimp only at hSw); go_simp; try with_reducible rfl
  try simp only [Act.put, List.setIfInBounds_toArray, List.set_cons_zero, List.set_cons_succ]
  refine wpAnyH_take (i := 4) (oi := { dst := some 24, op := Op.binOp BinOp.gtr 3 (Operand.tmp 23) (Operand.const (Value.int IntKind.i64 0)) 3, type := 4, pos := "ref.go:20", after := #[{ on := 3, ground := Ground.data }, { on := 2, ground := Ground.guard }], guard := some (2, true) }) (v := ?_) rfl (by kernel_rfl) (by kernel_rfl) (by kernel_rfl) (hQ _ _) (Or.inl ⟨by rfl, ?_⟩) (by assumption) ?_
  rotate_left
  · intro w hSw; (try dsimp only at hSw); go_simp; try with_reducible rfl
  try simp only [Act.put, List.setIfInBounds_toArray, List.set_cons_zero, List.set_cons_succ]
  refine wpAnyH_take (i := 5) (oi := { dst := some 25, op := Op.pick (Operand.tmp 22) (Operand.tmp 24) (Operand.const (Value.bool false)), type := 4, pos := "ref.go:20", after := #[{ on := 2, ground := Ground.data }, { on := 4, ground := Ground.data }], guard := none }) (v := ?_) rfl (by kernel_rfl) (by kernel_rfl) (by kernel_rfl) (hQ _ _) (Or.inl ⟨by rfl, ?_⟩) (by assumption) ?_
  rotate_left
  · intro w hSw; (try dsimp only at hSw); go_simp; try with_reducible rfl
  try simp only [Act.put, List.setIfInBounds_toArray, List.set_cons_zero, List.set_cons_succ]
  refine wpAnyH_take (i := 7) (oi := { dst := some 27, op := Op.fieldAddr 94 (Operand.tmp 1) 1, type := 0, pos := "ref.go:20", after := #[], guard := none }) (v := ?_) rfl (by kernel_rfl) (by kernel_rfl) (by kernel_rfl) (hQ _ _) (Or.inl ⟨by rfl, ?_⟩) (by assumption) ?_
  rotate_left
  · intro w hSw; (try dsimp only at hSw); go_simp; try with_reducible rfl
  try simp only [Act.put, List.setIfInBounds_toArray, List.set_cons_zero, List.set_cons_succ]
  refine wpAnyH_take (i := 8) (oi := { dst := some 28, op := Op.load 22 (Operand.tmp 27), type := 22, pos := "ref.go:20", after := #[{ on := 7, ground := Ground.data }], guard := none }) (v := ?_) rfl (by kernel_rfl) (by kernel_rfl) (by kernel_rfl) (hQ _ _) (Or.inl ⟨by rfl, ?_⟩) (by assumption) ?_
  rotate_left
  · intro w hSw; (try dsimp only at hSw); go_simp; try with_reducible rfl
  try simp only [Act.put, List.setIfInBounds_toArray, List.set_cons_zero, List.set_cons_succ]
  refine wpAnyH_take (i := 9) (oi := { dst := some 29, op := Op.move (Operand.tmp 3), type := 3, pos := "ref.go:20", after := #[], guard := none }) (v := ?_) rfl (by kernel_rfl) (by kernel_rfl) (by kernel_rfl) (hQ _ _) (Or.inl ⟨by rfl, ?_⟩) (by assumption) ?_
  rotate_left
  · intro w hSw; (try dsimp only at hSw); go_simp; try with_reducible rfl
  try simp only [Act.put, List.setIfInBounds_toArray, List.set_cons_zero, List.set_cons_succ]
  refine wpAnyH_take (i := 10) (oi := { dst := some 30, op := Op.slice 22 (Operand.tmp 28) none (some (Operand.tmp 29)) none, type := 22, pos := "ref.go:20", after := #[{ on := 8, ground := Ground.data }, { on := 9, ground := Ground.data }], guard := none }) (v := ?_) rfl (by kernel_rfl) (by kernel_rfl) (by kernel_rfl) (hQ _ _) (Or.inl ⟨by rfl, ?_⟩) (by assumption) ?_
  rotate_left
  · intro w hSw; (try dsimp only at hSw); go_simp; try with_reducible rfl
  try simp only [Act.put, List.setIfInBounds_toArray, List.set_cons_zero, List.set_cons_succ]
  refine wpAnyH_ready (rs := [6]) (by kernel_rfl) (by simp) ?_
  refine AllReadyH.cons (o := { dst := some 26, op := Op.buildSlice 22 0 #[], type := 22, pos := "ref.go:20", after := #[], guard := none }) rfl (fun K hK => ?_) AllReadyH.nil
  go_simp
  refine hK.out _ _ ⟨(Gr.new _ _).keeps hHeld.1, (Gr.new _ _).keeps hHeld.2.1, hHeld.2.2.alloc _⟩ (fun hHeld => ?_)
  clear hK K
  try simp only [Act.put, List.setIfInBounds_toArray, List.set_cons_zero, List.set_cons_succ]
  refine wpAnyH_ready (rs := [11]) (by kernel_rfl) (by simp) ?_
  refine AllReadyH.cons (o := { dst := some 31, op := Op.call { callee := Callee.builtin Builtin.append, args := #[Operand.tmp 26, Operand.tmp 30], argTypes := #[22, 22] }, type := 22, pos := "ref.go:20", after := #[{ on := 6, ground := Ground.data }, { on := 10, ground := Ground.data }, { on := 2, ground := Ground.chain }], guard := none }) rfl (fun K hK => ?_) AllReadyH.nil
  refine step_app (by rfl) (.tmp 26) (.tmp 30) (by rfl) (by rfl) B _ [] (by rfl) (Own1.start _ _ (show B ≤ W.drew.heap.size by rw [World.size_drew]; omega)) _ (l.take k) (by rfl) (HS.out.later ((show Gr W W.drew from Below.drew (Gr.refl W)).alloc _)) (by rw [List.length_take, List.length_nil]; omega) (show B ≤ (W.drew.alloc _).heap.size by rw [World.size_alloc, World.size_drew]; omega) ?_
  intro v' w1 hown hgrow
  have hgg : Gr W w1 := gr_grown (a := W.drew) (Below.drew (Gr.refl W)) (fun g eg => by simp only [Value.ownBlock, Option.some.injEq] at eg; rw [← eg]; exact Nat.le_refl _) hgrow
  have hdd := hown.hasD
  rw [List.nil_append] at hdd
  obtain ⟨-, a', cap', rfl, -, -, -⟩ := id hdd
  have HFR := Lib.hid (hown.fresh rfl)
  obtain ⟨n', hnn⟩ : ∃ n', n' = (l.take k).length := ⟨_, rfl⟩
  rw [← hnn] at hdd ⊢
  clear hnn
  have HDD := Lib.hid hdd
  have r0 := hgg.keeps HR0.out
  have r1 := hgg.keeps HR1.out
  have e0 := hgg.frozen HR0.out HE0.out
  have e1 := hgg.frozen HR1.out HE1.out
  have HGG := Lib.hid hgg
  clear hown hgrow hgg hdd
  refine hK.out _ _ ⟨HGG.out.keeps x0, HGG.out.keeps x1, HG.out.trans HGG.out⟩ (fun hHeld => ?_)
  clear hK K
  try simp only [Act.put, List.setIfInBounds_toArray, List.set_cons_zero, List.set_cons_succ]
  refine wpAnyH_take (i := 12) (oi := { dst := some 32, op := Op.build 94 #[(0, Operand.tmp 25), (1, Operand.tmp 31)], type := 94, pos := "ref.go:20", after := #[{ on := 5, ground := Ground.data }, { on := 11, ground := Ground.data }], guard := none }) (v := ?_) rfl (by kernel_rfl) (by kernel_rfl) (by kernel_rfl) (hQ _ _) (Or.inl ⟨by rfl, ?_⟩) (by assumption) ?_
  rotate_left
  · intro w hSw; (try dsimp only at hSw); go_simp; try with_reducible rfl
  try simp only [Act.put, List.setIfInBounds_toArray, List.set_cons_zero, List.set_cons_succ]
  refine wpAnyH_ready (rs := [13]) (by kernel_rfl) (by simp) ?_
  refine AllReadyH.cons (o := { dst := none, op := Op.store 94 (Operand.tmp 2) (Operand.tmp 32), type := 0, pos := "ref.go:20", after := #[{ on := 12, ground := Ground.data }, { on := 11, ground := Ground.chain }, { on := 0, ground := Ground.phase }, { on := 1, ground := Ground.phase }, { on := 2, ground := Ground.phase }, { on := 3, ground := Ground.phase }, { on := 4, ground := Ground.phase }, { on := 5, ground := Ground.phase }, { on := 6, ground := Ground.phase }, { on := 7, ground := Ground.phase }, { on := 8, ground := Ground.phase }, { on := 9, ground := Ground.phase }, { on := 10, ground := Ground.phase }, { on := 11, ground := Ground.phase }, { on := 12, ground := Ground.phase }], guard := none }) rfl (fun K hK => ?_) AllReadyH.nil
  go_simp
  refine hK.out _ _ ⟨keep2 hHeld.1 n1, keep2 hHeld.2.1 n1, (hHeld.2.2.setCell (p := ⟨B, 0, none⟩) hB _).setCell (p := ⟨B, 1, none⟩) hB _⟩ (fun hHeld2 => ?_)
  clear hK K
  try simp only [Act.put, List.setIfInBounds_toArray, List.set_cons_zero, List.set_cons_succ]
  refine wpAnyH_done (by kernel_rfl) ?_ _
  refine hpost _ _ _ _ _ _ _ _ _ _ _ _ _ _ ?_
  refine ⟨_, _, _, (put2 r0 r1 _ _).1, (put2 r0 r1 _ _).2, (HDD.out.setAt r0 (by simp) _).setAt ((cell_other (by simp) _).trans r1) (by simp) _, hHeld2.2.2, HFR.out⟩

set_option maxRecDepth 100000 in
set_option maxHeartbeats 8000000 in
theorem trimf_region_false (l : List Nat) (k : Nat) (a : Option Addr) (len cap A B : Nat) (w : World) (W : World)
    (x0 : W.cell? ⟨A, 0, none⟩ = some (.bool false)) (x1 : W.cell? ⟨A, 1, none⟩ = some (.slice a len cap)) (HR0 : Hid (W.cell? ⟨B, 0, none⟩ = some (.bool false))) (HR1 : Hid (W.cell? ⟨B, 1, none⟩ = some (.slice none 0 0)))
    (HE0 : Hid (W.frozen? ⟨B, 0, none⟩ = false)) (HE1 : Hid (W.frozen? ⟨B, 1, none⟩ = false)) (hB : w.heap.size ≤ B) (hBW : B < W.heap.size) (n1 : ¬ (A = B)) (HG : Hid (Gr w W)) (HS : Hid (HasD W (.slice a k cap) (l.take k))) (hk : k ≤ len) (hkc : len ≤ cap) (hlen : len ≤ 100000)
    (v0 v4 v5 v6 v7 v8 v9 v10 v11 v12 v13 v14 v15 v16 v17 v18 v19 v20 v21 v22 v23 v24 v25 v26 v27 v28 v29 v30 v31 v32 : Value) (Q : Exit → Act → World → Prop) (hQ : ∀ (d : Option Tmp) (v : Value) c a w, Q (.panic c) (a.put d v) w → Q (.panic c) a w)
    (hpost : ∀  (u20 u21 u22 u23 u24 u25 u26 u27 u28 u29 u30 u31 u32 : Value) (wx : World), TrimCutF (false) (l.take k) B w wx → Q .normal { tmps := List.toArray (v0 :: .pointer (some ⟨A, 0, none⟩) :: .pointer (some ⟨B, 0, none⟩) :: .int .i64 k :: v4 :: v5 :: v6 :: v7 :: v8 :: v9 :: v10 :: v11 :: v12 :: v13 :: v14 :: v15 :: v16 :: v17 :: v18 :: v19 :: u20 :: u21 :: u22 :: u23 :: u24 :: u25 :: u26 :: u27 :: u28 :: u29 :: u30 :: u31 :: u32 :: ([] : List Value)), defers := [] } wx) :
    (Code.region 4 #[{ dst := some 20, op := Op.fieldAddr 94 (Operand.tmp 1) 0, type := 0, pos := "ref.go:20", after := #[], guard := none },
      { dst := some 21, op := Op.load 4 (Operand.tmp 20), type := 4, pos := "ref.go:20", after := #[{ on := 0, ground := Ground.data }], guard := none },
      { dst := some 22, op := Op.move (Operand.tmp 21), type := 4, pos := "ref.go:20", after := #[{ on := 1, ground := Ground.data }], guard := none },
      { dst := some 23, op := Op.move (Operand.tmp 3), type := 3, pos := "ref.go:20", after := #[{ on := 2, ground := Ground.guard }], guard := some (2, true) },
      { dst := some 24, op := Op.binOp BinOp.gtr 3 (Operand.tmp 23) (Operand.const (Value.int IntKind.i64 0)) 3, type := 4, pos := "ref.go:20", after := #[{ on := 3, ground := Ground.data }, { on := 2, ground := Ground.guard }], guard := some (2, true) },
      { dst := some 25, op := Op.pick (Operand.tmp 22) (Operand.tmp 24) (Operand.const (Value.bool false)), type := 4, pos := "ref.go:20", after := #[{ on := 2, ground := Ground.data }, { on := 4, ground := Ground.data }], guard := none },
      { dst := some 26, op := Op.buildSlice 22 0 #[], type := 22, pos := "ref.go:20", after := #[], guard := none },
      { dst := some 27, op := Op.fieldAddr 94 (Operand.tmp 1) 1, type := 0, pos := "ref.go:20", after := #[], guard := none },
      { dst := some 28, op := Op.load 22 (Operand.tmp 27), type := 22, pos := "ref.go:20", after := #[{ on := 7, ground := Ground.data }], guard := none },
      { dst := some 29, op := Op.move (Operand.tmp 3), type := 3, pos := "ref.go:20", after := #[], guard := none },
      { dst := some 30, op := Op.slice 22 (Operand.tmp 28) none (some (Operand.tmp 29)) none, type := 22, pos := "ref.go:20", after := #[{ on := 8, ground := Ground.data }, { on := 9, ground := Ground.data }], guard := none },
      { dst := some 31, op := Op.call { callee := Callee.builtin Builtin.append, args := #[Operand.tmp 26, Operand.tmp 30], argTypes := #[22, 22] }, type := 22, pos := "ref.go:20", after := #[{ on := 6, ground := Ground.data }, { on := 10, ground := Ground.data }, { on := 2, ground := Ground.chain }], guard := none },
      { dst := some 32, op := Op.build 94 #[(0, Operand.tmp 25), (1, Operand.tmp 31)], type := 94, pos := "ref.go:20", after := #[{ on := 5, ground := Ground.data }, { on := 11, ground := Ground.data }], guard := none },
      { dst := none, op := Op.store 94 (Operand.tmp 2) (Operand.tmp 32), type := 0, pos := "ref.go:20", after := #[{ on := 12, ground := Ground.data }, { on := 11, ground := Ground.chain }, { on := 0, ground := Ground.phase }, { on := 1, ground := Ground.phase }, { on := 2, ground := Ground.phase }, { on := 3, ground := Ground.phase }, { on := 4, ground := Ground.phase }, { on := 5, ground := Ground.phase }, { on := 6, ground := Ground.phase }, { on := 7, ground := Ground.phase }, { on := 8, ground := Ground.phase }, { on := 9, ground := Ground.phase }, { on := 10, ground := Ground.phase }, { on := 11, ground := Ground.phase }, { on := 12, ground := Ground.phase }], guard := none }] true).wp Tryz.prog Q { tmps := List.toArray (v0 :: .pointer (some ⟨A, 0, none⟩) :: .pointer (some ⟨B, 0, none⟩) :: .int .i64 k :: v4 :: v5 :: v6 :: v7 :: v8 :: v9 :: v10 :: v11 :: v12 :: v13 :: v14 :: v15 :: v16 :: v17 :: v18 :: v19 :: v20 :: v21 :: v22 :: v23 :: v24 :: v25 :: v26 :: v27 :: v28 :: v29 :: v30 :: v31 :: v32 :: ([] : List Value)), defers := [] } W := by
  refine wp_region_held_drew (S := fun wz => wz.cell? ⟨A, 0, none⟩ = some (.bool false) ∧ wz.cell? ⟨A, 1, none⟩ = some (.slice a len cap) ∧ Gr w wz) (by kernel_rfl) ⟨x0, x1, Below.drew HG.out⟩ (fun hHeld => ?_)
  have hkcap : k ≤ cap := by omega
  refine wpAnyH_take (i := 0) (oi := { dst := some 20, op := Op.fieldAddr 94 (Operand.tmp 1) 0, type := 0, pos := "ref.go:20", after := #[], guard := none }) (v := ?_) rfl (by kernel_rfl) (by kernel_rfl) (by kernel_rfl) (hQ _ _) (Or.inl ⟨by rfl, ?_⟩) (by assumption) ?_
  rotate_left
  · intro w hSw; (try dsimp only at hSw); go_simp; try with_reducible rfl
  try simp only [Act.put, List.setIfInBounds_toArray, List.set_cons_zero, List.set_cons_succ]
  refine wpAnyH_take (i := 1) (oi := { dst := some 21, op := Op.load 4 (Operand.tmp 20), type := 4, pos := "ref.go:20", after := #[{ on := 0, ground := Ground.data }], guard := none }) (v := ?_) rfl (by kernel_rfl) (by kernel_rfl) (by kernel_rfl) (hQ _ _) (Or.inl ⟨by rfl, ?_⟩) (by assumption) ?_
  rotate_left
  · intro w hSw; (try dsimp only at hSw); go_simp; try with_reducible rfl
  try simp only [Act.put, List.setIfInBounds_toArray, List.set_cons_zero, List.set_cons_succ]
  refine wpAnyH_take (i := 2) (oi := { dst := some 22, op := Op.move (Operand.tmp 21), type := 4, pos := "ref.go:20", after := #[{ on := 1, ground := Ground.data }], guard := none }) (v := ?_) rfl (by kernel_rfl) (by kernel_rfl) (by kernel_rfl) (hQ _ _) (Or.inl ⟨by rfl, ?_⟩) (by assumption) ?_
  rotate_left
  · intro w hSw; (try dsimp only at hSw); go_simp; try with_reducible rfl
  try simp only [Act.put, List.setIfInBounds_toArray, List.set_cons_zero, List.set_cons_succ]
  refine wpAnyH_take (i := 3) (oi := { dst := some 23, op := Op.move (Operand.tmp 3), type := 3, pos := "ref.go:20", after := #[{ on := 2, ground := Ground.guard }], guard := some (2, true) }) (v := undef) rfl (by kernel_rfl) (by kernel_rfl) (by kernel_rfl) (hQ _ _) (Or.inr ⟨by rfl, rfl⟩) (by assumption) ?_
  try simp only [Act.put, List.setIfInBounds_toArray, List.set_cons_zero, List.set_cons_succ]
  refine wpAnyH_take (i := 4) (oi := { dst := some 24, op := Op.binOp BinOp.gtr 3 (Operand.tmp 23) (Operand.const (Value.int IntKind.i64 0)) 3, type := 4, pos := "ref.go:20", after := #[{ on := 3, ground := Ground.data }, { on := 2, ground := Ground.guard }], guard := some (2, true) }) (v := undef) rfl (by kernel_rfl) (by kernel_rfl) (by kernel_rfl) (hQ _ _) (Or.inr ⟨by rfl, rfl⟩) (by assumption) ?_
  try simp only [Act.put, List.setIfInBounds_toArray, List.set_cons_zero, List.set_cons_succ]
  refine wpAnyH_take (i := 5) (oi := { dst := some 25, op := Op.pick (Operand.tmp 22) (Operand.tmp 24) (Operand.const (Value.bool false)), type := 4, pos := "ref.go:20", after := #[{ on := 2, ground := Ground.data }, { on := 4, ground := Ground.data }], guard := none }) (v := ?_) rfl (by kernel_rfl) (by kernel_rfl) (by kernel_rfl) (hQ _ _) (Or.inl ⟨by rfl, ?_⟩) (by assumption) ?_
  rotate_left
  · intro w hSw; (try dsimp only at hSw); go_simp; try with_reducible rfl
  try simp only [Act.put, List.setIfInBounds_toArray, List.set_cons_zero, List.set_cons_succ]
  refine wpAnyH_take (i := 7) (oi := { dst := some 27, op := Op.fieldAddr 94 (Operand.tmp 1) 1, type := 0, pos := "ref.go:20", after := #[], guard := none }) (v := ?_) rfl (by kernel_rfl) (by kernel_rfl) (by kernel_rfl) (hQ _ _) (Or.inl ⟨by rfl, ?_⟩) (by assumption) ?_
  rotate_left
  · intro w hSw; (try dsimp only at hSw); go_simp; try with_reducible rfl
  try simp only [Act.put, List.setIfInBounds_toArray, List.set_cons_zero, List.set_cons_succ]
  refine wpAnyH_take (i := 8) (oi := { dst := some 28, op := Op.load 22 (Operand.tmp 27), type := 22, pos := "ref.go:20", after := #[{ on := 7, ground := Ground.data }], guard := none }) (v := ?_) rfl (by kernel_rfl) (by kernel_rfl) (by kernel_rfl) (hQ _ _) (Or.inl ⟨by rfl, ?_⟩) (by assumption) ?_
  rotate_left
  · intro w hSw; (try dsimp only at hSw); go_simp; try with_reducible rfl
  try simp only [Act.put, List.setIfInBounds_toArray, List.set_cons_zero, List.set_cons_succ]
  refine wpAnyH_take (i := 9) (oi := { dst := some 29, op := Op.move (Operand.tmp 3), type := 3, pos := "ref.go:20", after := #[], guard := none }) (v := ?_) rfl (by kernel_rfl) (by kernel_rfl) (by kernel_rfl) (hQ _ _) (Or.inl ⟨by rfl, ?_⟩) (by assumption) ?_
  rotate_left
  · intro w hSw; (try dsimp only at hSw); go_simp; try with_reducible rfl
  try simp only [Act.put, List.setIfInBounds_toArray, List.set_cons_zero, List.set_cons_succ]
  refine wpAnyH_take (i := 10) (oi := { dst := some 30, op := Op.slice 22 (Operand.tmp 28) none (some (Operand.tmp 29)) none, type := 22, pos := "ref.go:20", after := #[{ on := 8, ground := Ground.data }, { on := 9, ground := Ground.data }], guard := none }) (v := ?_) rfl (by kernel_rfl) (by kernel_rfl) (by kernel_rfl) (hQ _ _) (Or.inl ⟨by rfl, ?_⟩) (by assumption) ?_
  rotate_left
  · intro w hSw; (try dsimp only at hSw); go_simp; try with_reducible rfl
  try simp only [Act.put, List.setIfInBounds_toArray, List.set_cons_zero, List.set_cons_succ]
  refine wpAnyH_ready (rs := [6]) (by kernel_rfl) (by simp) ?_
  refine AllReadyH.cons (o := { dst := some 26, op := Op.buildSlice 22 0 #[], type := 22, pos := "ref.go:20", after := #[], guard := none }) rfl (fun K hK => ?_) AllReadyH.nil
  go_simp
  refine hK.out _ _ ⟨(Gr.new _ _).keeps hHeld.1, (Gr.new _ _).keeps hHeld.2.1, hHeld.2.2.alloc _⟩ (fun hHeld => ?_)
  clear hK K
  try simp only [Act.put, List.setIfInBounds_toArray, List.set_cons_zero, List.set_cons_succ]
  refine wpAnyH_ready (rs := [11]) (by kernel_rfl) (by simp) ?_
  refine AllReadyH.cons (o := { dst := some 31, op := Op.call { callee := Callee.builtin Builtin.append, args := #[Operand.tmp 26, Operand.tmp 30], argTypes := #[22, 22] }, type := 22, pos := "ref.go:20", after := #[{ on := 6, ground := Ground.data }, { on := 10, ground := Ground.data }, { on := 2, ground := Ground.chain }], guard := none }) rfl (fun K hK => ?_) AllReadyH.nil
  refine step_app (by rfl) (.tmp 26) (.tmp 30) (by rfl) (by rfl) B _ [] (by rfl) (Own1.start _ _ (show B ≤ W.drew.heap.size by rw [World.size_drew]; omega)) _ (l.take k) (by rfl) (HS.out.later ((show Gr W W.drew from Below.drew (Gr.refl W)).alloc _)) (by rw [List.length_take, List.length_nil]; omega) (show B ≤ (W.drew.alloc _).heap.size by rw [World.size_alloc, World.size_drew]; omega) ?_
  intro v' w1 hown hgrow
  have hgg : Gr W w1 := gr_grown (a := W.drew) (Below.drew (Gr.refl W)) (fun g eg => by simp only [Value.ownBlock, Option.some.injEq] at eg; rw [← eg]; exact Nat.le_refl _) hgrow
  have hdd := hown.hasD
  rw [List.nil_append] at hdd
  obtain ⟨-, a', cap', rfl, -, -, -⟩ := id hdd
  have HFR := Lib.hid (hown.fresh rfl)
  obtain ⟨n', hnn⟩ : ∃ n', n' = (l.take k).length := ⟨_, rfl⟩
  rw [← hnn] at hdd ⊢
  clear hnn
  have HDD := Lib.hid hdd
  have r0 := hgg.keeps HR0.out
  have r1 := hgg.keeps HR1.out
  have e0 := hgg.frozen HR0.out HE0.out
  have e1 := hgg.frozen HR1.out HE1.out
  have HGG := Lib.hid hgg
  clear hown hgrow hgg hdd
  refine hK.out _ _ ⟨HGG.out.keeps x0, HGG.out.keeps x1, HG.out.trans HGG.out⟩ (fun hHeld => ?_)
  clear hK K
  try simp only [Act.put, List.setIfInBounds_toArray, List.set_cons_zero, List.set_cons_succ]
  refine wpAnyH_take (i := 12) (oi := { dst := some 32, op := Op.build 94 #[(0, Operand.tmp 25), (1, Operand.tmp 31)], type := 94, pos := "ref.go:20", after := #[{ on := 5, ground := Ground.data }, { on := 11, ground := Ground.data }], guard := none }) (v := ?_) rfl (by kernel_rfl) (by kernel_rfl) (by kernel_rfl) (hQ _ _) (Or.inl ⟨by rfl, ?_⟩) (by assumption) ?_
  rotate_left
  · intro w hSw; (try dsimp only at hSw); go_simp; try with_reducible rfl
  try simp only [Act.put, List.setIfInBounds_toArray, List.set_cons_zero, List.set_cons_succ]
  refine wpAnyH_ready (rs := [13]) (by kernel_rfl) (by simp) ?_
  refine AllReadyH.cons (o := { dst := none, op := Op.store 94 (Operand.tmp 2) (Operand.tmp 32), type := 0, pos := "ref.go:20", after := #[{ on := 12, ground := Ground.data }, { on := 11, ground := Ground.chain }, { on := 0, ground := Ground.phase }, { on := 1, ground := Ground.phase }, { on := 2, ground := Ground.phase }, { on := 3, ground := Ground.phase }, { on := 4, ground := Ground.phase }, { on := 5, ground := Ground.phase }, { on := 6, ground := Ground.phase }, { on := 7, ground := Ground.phase }, { on := 8, ground := Ground.phase }, { on := 9, ground := Ground.phase }, { on := 10, ground := Ground.phase }, { on := 11, ground := Ground.phase }, { on := 12, ground := Ground.phase }], guard := none }) rfl (fun K hK => ?_) AllReadyH.nil
  go_simp
  refine hK.out _ _ ⟨keep2 hHeld.1 n1, keep2 hHeld.2.1 n1, (hHeld.2.2.setCell (p := ⟨B, 0, none⟩) hB _).setCell (p := ⟨B, 1, none⟩) hB _⟩ (fun hHeld2 => ?_)
  clear hK K
  try simp only [Act.put, List.setIfInBounds_toArray, List.set_cons_zero, List.set_cons_succ]
  refine wpAnyH_done (by kernel_rfl) ?_ _
  refine hpost _ _ _ _ _ _ _ _ _ _ _ _ _ _ ?_
  refine ⟨_, _, _, (put2 r0 r1 _ _).1, (put2 r0 r1 _ _).2, (HDD.out.setAt r0 (by simp) _).setAt ((cell_other (by simp) _).trans r1) (by simp) _, hHeld2.2.2, HFR.out⟩

set_option maxRecDepth 100000 in
set_option maxHeartbeats 4000000 in
theorem rtrimf_any (neg : Bool) (l : List Nat) (v : Value) (w : World) (h : HasD w v l) (hd : Oh.Dg l) (hl : l.length ≤ 100000) :
    Calls Tryz.prog 92 #[.agg #[.bool neg, v]] w (NumZF l.length (sg neg (Oh.val l)) w) := by
  obtain ⟨hdw, a, cap, rfl, h1, h2, hc⟩ := h
  obtain ⟨len, hlen⟩ : ∃ len, len = l.length := ⟨_, rfl⟩
  have HC := Lib.hid hc
  have HD := Lib.hid hd
  have HWORDS0 : HasD w (.slice a l.length cap) l := ⟨hdw, a, cap, rfl, h1, h2, hc⟩
  rw [← hlen] at h1 hl HWORDS0 ⊢
  have HWW := Lib.hid HWORDS0
  have HLEN := Lib.hid hlen
  clear hc hd hdw hlen HWORDS0
  go_enter Tryz.func92, Tryz.ntmps92
  go_wp2_with fail
  obtain ⟨W, hW⟩ : ∃ W : World, W = (w.alloc (.cells #[.bool neg, .slice a len cap] 94)).alloc (.cells #[.bool false, .slice none 0 0] 94) := ⟨_, rfl⟩
  rw [← hW]
  have g1 : Gr w W := by rw [hW]; exact (Gr.new w _).alloc _
  have x0 : W.cell? ⟨w.heap.size, 0, none⟩ = some (.bool neg) := by rw [hW]; simp [go_sem]
  have x1 : W.cell? ⟨w.heap.size, 1, none⟩ = some (.slice a len cap) := by rw [hW]; simp [go_sem]
  have r0 : W.cell? ⟨w.heap.size + 1, 0, none⟩ = some (.bool false) := by rw [hW]; simp [go_sem]
  have r1 : W.cell? ⟨w.heap.size + 1, 1, none⟩ = some (.slice none 0 0) := by rw [hW]; simp [go_sem]
  have e0 : W.frozen? ⟨w.heap.size + 1, 0, none⟩ = false := by rw [hW]; simp [go_sem]
  have e1 : W.frozen? ⟨w.heap.size + 1, 1, none⟩ = false := by rw [hW]; simp [go_sem]
  have HG := Lib.hid g1
  have HWORDS := Lib.hid (HWW.out.later g1)
  have HE0 := Lib.hid e0
  have HE1 := Lib.hid e1
  have HR0 := Lib.hid r0
  have HR1 := Lib.hid r1
  have n1 : ¬ (w.heap.size = w.heap.size + 1) := by omega
  clear hW g1 e0 e1 r0 r1
  go_loop [3] (fun t => ∃ k : Nat, t = .int .i64 k ∧ k ≤ len ∧ Oh.tr (l.take k) = Oh.tr l) (fun t => (intOf t).toNat)
  case atStart => exact ⟨len, rfl, by omega, by rw [HLEN.out, List.take_length]⟩
  case round =>
    obtain ⟨k, rfl, hk, ht⟩ := hrel
    have HT := Lib.hid ht
    clear ht
    rcases k with _ | j
    · go_wp2_with fail
      have HS := Lib.hid ((HWORDS.out).cut (k := 0) (by rw [← HLEN.out]; omega))
      have HTK := Lib.hid (show l.take 0 = Oh.tr (l.take 0) from rfl)
      cases neg with
      | true =>
        refine wp_region_noPanic ?_
        refine trimf_region_true l 0 _ len cap _ _ w W x0 x1 HR0 HR1 HE0 HE1 (by simp) (by have := World.block_lt_of_cell? W _ HR0.out; simpa using this) n1 HG HS (by omega) h1 hl _ _ _ _ _ _ _ _ _ _ _ _ _ _ _ _ _ _ _ _ _ _ _ _ _ _ _ _ _ _ _ (fun _ _ _ _ _ h => h) ?_
        intro u20 u21 u22 u23 u24 u25 u26 u27 u28 u29 u30 u31 u32 wx ⟨a', n', cap', r0, r1, hdd, hgg, hfr⟩
        refine NoPanic.normal ?_
        have HDD := Lib.hid hdd
        have HGG := Lib.hid hgg
        have HFR := Lib.hid hfr
        clear hdd hgg hfr
        go_wp2_with fail
        refine bodyPost_ret (v := .agg #[.bool (decide (0 < 0)), .slice a' n' cap']) (by simp [results, Tryz.results92, go_sem, r0, r1]) rfl ?_
        have hw := take_nm HT.out HTK.out HD.out
        refine ⟨_, _, _, _, rfl, ⟨_, _, ?_, HDD.out, hw.1, by rw [hw.2, sg_abs], by rw [List.length_take, ← HLEN.out]; omega⟩, HGG.out, fun p hp => Nat.le_trans (by omega) (HFR.out p hp)⟩
        rw [sg_neg, ← hw.2, show decide (0 < Oh.val (l.take 0)) = decide (0 < 0) from ?_]
        · simp
        · have hq := Oh.tr_pos hw.1.1
          rw [hw.1.2, List.length_take, ← HLEN.out] at hq
          exact decide_eq_decide.2 (by omega)
      | false =>
        refine wp_region_noPanic ?_
        refine trimf_region_false l 0 _ len cap _ _ w W x0 x1 HR0 HR1 HE0 HE1 (by simp) (by have := World.block_lt_of_cell? W _ HR0.out; simpa using this) n1 HG HS (by omega) h1 hl _ _ _ _ _ _ _ _ _ _ _ _ _ _ _ _ _ _ _ _ _ _ _ _ _ _ _ _ _ _ _ (fun _ _ _ _ _ h => h) ?_
        intro u20 u21 u22 u23 u24 u25 u26 u27 u28 u29 u30 u31 u32 wx ⟨a', n', cap', r0, r1, hdd, hgg, hfr⟩
        refine NoPanic.normal ?_
        have HDD := Lib.hid hdd
        have HGG := Lib.hid hgg
        have HFR := Lib.hid hfr
        clear hdd hgg hfr
        go_wp2_with fail
        refine bodyPost_ret (v := .agg #[.bool false, .slice a' n' cap']) (by simp [results, Tryz.results92, go_sem, r0, r1]) rfl ?_
        have hw := take_nm HT.out HTK.out HD.out
        refine ⟨_, _, _, _, rfl, ⟨_, _, ?_, HDD.out, hw.1, by rw [hw.2, sg_abs], by rw [List.length_take, ← HLEN.out]; omega⟩, HGG.out, fun p hp => Nat.le_trans (by omega) (HFR.out p hp)⟩
        rw [sg_neg, ← hw.2, show decide (0 < Oh.val (l.take 0)) = decide (0 < 0) from ?_]
        · simp
        · have hq := Oh.tr_pos hw.1.1
          rw [hw.1.2, List.length_take, ← HLEN.out] at hq
          exact decide_eq_decide.2 (by omega)
    · have hjl : j < l.length := by rw [← HLEN.out]; omega
      obtain ⟨g, o, rfl, hcell⟩ := HC.out j hjl
      have hx := HD.out (l[j]?.getD 0) (by rw [List.getElem?_eq_getElem hjl]; exact List.getElem_mem hjl)
      have hcell := HG.out.keeps hcell
      obtain ⟨x, hxe⟩ : ∃ x, x = l[j]?.getD 0 := ⟨_, rfl⟩
      rw [← hxe] at hcell hx
      have HX := Lib.hid hxe
      have HJ := Lib.hid hjl
      clear hxe hjl
      by_cases hz : x = 0
      · have hb : ((x : Int) == 0) = true := by simp; omega
        have HZ := Lib.hid hz
        clear hz
        have i1 : (j : Int) < ((j + 1 : Nat) : Int) := by omega
        go_wp2_with fail
        go_round
        case rel => exact ⟨j, by go_num, by omega, by rw [← Oh.tr_take_zero HJ.out (HX.out.symm.trans HZ.out)]; exact HT.out⟩
        case measure => simp [intOf]
      · have hb : ((x : Int) == 0) = false := by simp; omega
        have HZ := Lib.hid hz
        clear hz
        go_wp2_with fail
        have HS := Lib.hid ((HWORDS.out).cut (k := j + 1) (by rw [← HLEN.out]; omega))
        have HTK := Lib.hid (show l.take (j + 1) = Oh.tr (l.take (j + 1)) from (Oh.tr_take_last HJ.out (by rw [← HX.out]; exact HZ.out)).symm)
        cases neg with
        | true =>
          refine wp_region_noPanic ?_
          refine trimf_region_true l (j + 1) _ len cap _ _ w W x0 x1 HR0 HR1 HE0 HE1 (by simp) (by have := World.block_lt_of_cell? W _ HR0.out; simpa using this) n1 HG HS (by omega) h1 hl _ _ _ _ _ _ _ _ _ _ _ _ _ _ _ _ _ _ _ _ _ _ _ _ _ _ _ _ _ _ _ (fun _ _ _ _ _ h => h) ?_
          intro u20 u21 u22 u23 u24 u25 u26 u27 u28 u29 u30 u31 u32 wx ⟨a', n', cap', r0, r1, hdd, hgg, hfr⟩
          refine NoPanic.normal ?_
          have HDD := Lib.hid hdd
          have HGG := Lib.hid hgg
          have HFR := Lib.hid hfr
          clear hdd hgg hfr
          go_wp2_with fail
          refine bodyPost_ret (v := .agg #[.bool (decide (0 < (j + 1))), .slice a' n' cap']) (by simp [results, Tryz.results92, go_sem, r0, r1]) rfl ?_
          have hw := take_nm HT.out HTK.out HD.out
          refine ⟨_, _, _, _, rfl, ⟨_, _, ?_, HDD.out, hw.1, by rw [hw.2, sg_abs], by rw [List.length_take, ← HLEN.out]; omega⟩, HGG.out, fun p hp => Nat.le_trans (by omega) (HFR.out p hp)⟩
          rw [sg_neg, ← hw.2, show decide (0 < Oh.val (l.take (j + 1))) = decide (0 < (j + 1)) from ?_]
          · simp
          · have hq := Oh.tr_pos hw.1.1
            rw [hw.1.2, List.length_take, ← HLEN.out] at hq
            exact decide_eq_decide.2 (by omega)
        | false =>
          refine wp_region_noPanic ?_
          refine trimf_region_false l (j + 1) _ len cap _ _ w W x0 x1 HR0 HR1 HE0 HE1 (by simp) (by have := World.block_lt_of_cell? W _ HR0.out; simpa using this) n1 HG HS (by omega) h1 hl _ _ _ _ _ _ _ _ _ _ _ _ _ _ _ _ _ _ _ _ _ _ _ _ _ _ _ _ _ _ _ (fun _ _ _ _ _ h => h) ?_
          intro u20 u21 u22 u23 u24 u25 u26 u27 u28 u29 u30 u31 u32 wx ⟨a', n', cap', r0, r1, hdd, hgg, hfr⟩
          refine NoPanic.normal ?_
          have HDD := Lib.hid hdd
          have HGG := Lib.hid hgg
          have HFR := Lib.hid hfr
          clear hdd hgg hfr
          go_wp2_with fail
          refine bodyPost_ret (v := .agg #[.bool false, .slice a' n' cap']) (by simp [results, Tryz.results92, go_sem, r0, r1]) rfl ?_
          have hw := take_nm HT.out HTK.out HD.out
          refine ⟨_, _, _, _, rfl, ⟨_, _, ?_, HDD.out, hw.1, by rw [hw.2, sg_abs], by rw [List.length_take, ← HLEN.out]; omega⟩, HGG.out, fun p hp => Nat.le_trans (by omega) (HFR.out p hp)⟩
          rw [sg_neg, ← hw.2, show decide (0 < Oh.val (l.take (j + 1))) = decide (0 < (j + 1)) from ?_]
          · simp
          · have hq := Oh.tr_pos hw.1.1
            rw [hw.1.2, List.length_take, ← HLEN.out] at hq
            exact decide_eq_decide.2 (by omega)
end Go.Proofs.YtfpdemmdkiohhaaGreat
/- The reference: plus, whose sum is normal. -/
namespace Oh
def SumJ (l m : List Nat) (k : Nat) : Prop := k = 0 ∨ 65536 ^ (k - 1) ≤ val l + val m
theorem nm_ge {l : List Nat} (h : Nm l) {k : Nat} (hk : k < l.length) : 65536 ^ k ≤ val l := by
  have h1 := val_ge l h.2 (by intro e; rw [e] at hk; simp at hk)
  exact Nat.le_trans (Nat.pow_le_pow_right (by omega) (by omega)) h1
theorem sumj {l m : List Nat} {k c : Nat} {pre : List Nat} (h : SumI l m k pre c) (hl : Nm l) (hm : Nm m) (hk : k < l.length ∨ k < m.length ∨ 0 < c) : 65536 ^ (k + 1 - 1) ≤ val l + val m := by
  rw [Nat.add_sub_cancel]
  by_cases h1 : k < l.length
  · have := nm_ge hl h1; omega
  · by_cases h2 : k < m.length
    · have := nm_ge hm h2; omega
    · have h3 : 0 < c := by omega
      have h4 := h.2.2.2
      rw [List.take_of_length_le (by omega), List.take_of_length_le (by omega)] at h4
      have h5 : 1 * 65536 ^ k ≤ c * 65536 ^ k := Nat.mul_le_mul_right _ h3
      omega
end Oh
namespace Go.Proofs.YtfpdemmdkiohhaaGreat
open Go.RowKit
set_option linter.unusedVariables false

def WordPostN (N n : Nat) (w : World) (e : Ending) (w' : World) : Prop := ∃ v l, e = .returned v ∧ HasD w' v l ∧ Oh.Nm l ∧ Oh.val l = n ∧ l.length ≤ N ∧ Gr w w'

set_option maxRecDepth 100000 in
set_option maxHeartbeats 4000000 in
theorem rplusn_any (l m : List Nat) (u v : Value) (w : World) (hu : HasD w u l) (hv : HasD w v m) (hnl : Oh.Nm l) (hnm : Oh.Nm m) (N : Nat) (hlN : l.length ≤ N) (hmN : m.length ≤ N) (hN : N ≤ 100000) :
    Calls Tryz.prog 93 #[u, v] w (WordPostN (N + 1) (Oh.val l + Oh.val m) w) := by
  obtain ⟨-, a, cap, rfl, u1, u2, -⟩ := id hu
  obtain ⟨-, b, cap', rfl, v1, v2, -⟩ := id hv
  have HU := Lib.hid hu
  have HV := Lib.hid hv
  have HL := Lib.hid hnl.1
  have HM := Lib.hid hnm.1
  have HNL := Lib.hid hnl
  have HNM := Lib.hid hnm
  obtain ⟨len, hlen⟩ : ∃ len, len = l.length := ⟨_, rfl⟩
  obtain ⟨len', hlen'⟩ : ∃ len', len' = m.length := ⟨_, rfl⟩
  rw [← hlen] at u1 hlN HU ⊢
  rw [← hlen'] at v1 hmN HV ⊢
  have HLEN := Lib.hid hlen
  have HLEN' := Lib.hid hlen'
  clear hu hv hnl hnm hlen hlen'
  go_enter Tryz.func93, Tryz.ntmps93
  go_wp2_with fail
  go_loopw [5, 6, 7] (fun t c i wr => ∃ (k cr : Nat) (pre : List Nat) (ar : Option Addr) (capr : Nat), i = .int .i64 k ∧ c = .int .u32 cr ∧ t = .slice ar k capr ∧ cr ≤ 1 ∧ k ≤ N + 1 ∧ Oh.SumI l m k pre cr ∧ Oh.SumJ l m k ∧ Own1 wr w.heap.size (.slice ar k capr) pre ∧ Gr w wr) (fun _ _ i _ => N + 1 - (intOf i).toNat)
  case atStart => exact ⟨0, 0, [], none, 0, rfl, rfl, rfl, by omega, by omega, Oh.SumI.start _ _, .inl rfl, Own1.nil _ _, Gr.refl _⟩
  case round =>
    obtain ⟨wo, rfl⟩ : ∃ wo : World, wo = wr := ⟨_, rfl⟩
    obtain ⟨k, cr, pre, ar, capr, rfl, rfl, rfl, hcr, hk, hsum, hsj, hown, hgr⟩ := hrel
    have HSUM := Lib.hid hsum
    have HJJ := Lib.hid hsj
    have HOWN := Lib.hid hown
    have HGR := Lib.hid hgr
    have hsz := hgr.size
    clear hsum hsj hown hgr
    obtain ⟨x, hx⟩ : ∃ x, x = l[k]?.getD 0 := ⟨_, rfl⟩
    obtain ⟨y, hy⟩ : ∃ y, y = m[k]?.getD 0 := ⟨_, rfl⟩
    have hxb : x < 65536 := by rw [hx]; exact Oh.dg_at HL.out k
    have hyb : y < 65536 := by rw [hy]; exact Oh.dg_at HM.out k
    have HST := Lib.hid (HSUM.out.step HL.out HM.out)
    rw [← hx, ← hy] at HST
    have HX := Lib.hid hx
    have HY := Lib.hid hy
    clear hx hy
    obtain ⟨ss, hss⟩ : ∃ ss, ss = x + y + cr := ⟨_, rfl⟩
    rw [← hss] at HST
    have HSS := Lib.hid hss
    have hssb : ss ≤ 131071 := by omega
    clear hss
    have pl : pre.length = k := HSUM.out.1
    have HPL := Lib.hid pl
    clear pl
    by_cases h1 : k < len
    · by_cases h2 : k < len'
      · have HKN := Lib.hid (show k < N + 1 by omega)
        have HSJ := Lib.hid (Oh.sumj HSUM.out HNL.out HNM.out (show k < l.length ∨ k < m.length ∨ 0 < cr by rw [← HLEN.out, ← HLEN'.out]; omega))
        obtain ⟨ga, oa, rfl, ca⟩ := HU.out.at (i := k) (by rw [← HLEN.out]; omega)
        have ca := HGR.out.keeps ca
        rw [← HX.out] at ca
        have q1 : decide ((k : Int) < (len : Int)) = true := by simp; omega
        have q1' : decide (k < len) = true := by simp; omega
        have HXZ := Lib.hid (show (0 : Int) = 0 from rfl)
        obtain ⟨gb, ob, rfl, cb⟩ := HV.out.at (i := k) (by rw [← HLEN'.out]; omega)
        have cb := HGR.out.keeps cb
        rw [← HY.out] at cb
        have q2 : decide ((k : Int) < (len' : Int)) = true := by simp; omega
        have q2' : decide (k < len') = true := by simp; omega
        have HYZ := Lib.hid (show (0 : Int) = 0 from rfl)
        go_wp2_with (at_builtin; refine wpList_app rfl _ _ rfl rfl w.heap.size _ pre rfl (HOWN.out.alloc _) _ [ss % 65536] rfl (HasD.one _ _ _ (by have := HSS.out; have := HXZ.out; have := HYZ.out; omega) (by omega)) (by rw [HPL.out]; simp; omega) (by rw [World.size_alloc]; omega) ?_; intro v' w1 hown' hgrow; (have hbl := grown_below HOWN.out hgrow hsz); (obtain ⟨a', cap', rfl⟩ := hown'.slice (n := k + 1) (by rw [List.length_append, HPL.out]; rfl)); have HOWN2 := Lib.hid hown'; have HBL := Lib.hid hbl; clear hown' hgrow hbl)
        exact ⟨⟨k + 1, ss / 65536, _, a', cap', by simp, by congr 1; have := HSS.out; have := HXZ.out; have := HYZ.out; omega, rfl, by omega, by have := HKN.out; omega, HST.out, .inr HSJ.out, HOWN2.out, Below.trans HGR.out HBL.out⟩, by have := HKN.out; simp [intOf]; omega⟩
      · have HKN := Lib.hid (show k < N + 1 by omega)
        have HSJ := Lib.hid (Oh.sumj HSUM.out HNL.out HNM.out (show k < l.length ∨ k < m.length ∨ 0 < cr by rw [← HLEN.out, ← HLEN'.out]; omega))
        obtain ⟨ga, oa, rfl, ca⟩ := HU.out.at (i := k) (by rw [← HLEN.out]; omega)
        have ca := HGR.out.keeps ca
        rw [← HX.out] at ca
        have q1 : decide ((k : Int) < (len : Int)) = true := by simp; omega
        have q1' : decide (k < len) = true := by simp; omega
        have HXZ := Lib.hid (show (0 : Int) = 0 from rfl)
        have q2 : decide ((k : Int) < (len' : Int)) = false := by simp; omega
        have q2' : decide (k < len') = false := by simp; omega
        have HYZ := Lib.hid (show y = 0 by rw [HY.out]; exact none_at (by rw [← HLEN'.out]; omega))
        go_wp2_with (at_builtin; refine wpList_app rfl _ _ rfl rfl w.heap.size _ pre rfl (HOWN.out.alloc _) _ [ss % 65536] rfl (HasD.one _ _ _ (by have := HSS.out; have := HXZ.out; have := HYZ.out; omega) (by omega)) (by rw [HPL.out]; simp; omega) (by rw [World.size_alloc]; omega) ?_; intro v' w1 hown' hgrow; (have hbl := grown_below HOWN.out hgrow hsz); (obtain ⟨a', cap', rfl⟩ := hown'.slice (n := k + 1) (by rw [List.length_append, HPL.out]; rfl)); have HOWN2 := Lib.hid hown'; have HBL := Lib.hid hbl; clear hown' hgrow hbl)
        exact ⟨⟨k + 1, ss / 65536, _, a', cap', by simp, by congr 1; have := HSS.out; have := HXZ.out; have := HYZ.out; omega, rfl, by omega, by have := HKN.out; omega, HST.out, .inr HSJ.out, HOWN2.out, Below.trans HGR.out HBL.out⟩, by have := HKN.out; simp [intOf]; omega⟩
    · by_cases h2 : k < len'
      · have HKN := Lib.hid (show k < N + 1 by omega)
        have HSJ := Lib.hid (Oh.sumj HSUM.out HNL.out HNM.out (show k < l.length ∨ k < m.length ∨ 0 < cr by rw [← HLEN.out, ← HLEN'.out]; omega))
        have q1 : decide ((k : Int) < (len : Int)) = false := by simp; omega
        have q1' : decide (k < len) = false := by simp; omega
        have HXZ := Lib.hid (show x = 0 by rw [HX.out]; exact none_at (by rw [← HLEN.out]; omega))
        obtain ⟨gb, ob, rfl, cb⟩ := HV.out.at (i := k) (by rw [← HLEN'.out]; omega)
        have cb := HGR.out.keeps cb
        rw [← HY.out] at cb
        have q2 : decide ((k : Int) < (len' : Int)) = true := by simp; omega
        have q2' : decide (k < len') = true := by simp; omega
        have HYZ := Lib.hid (show (0 : Int) = 0 from rfl)
        go_wp2_with (at_builtin; refine wpList_app rfl _ _ rfl rfl w.heap.size _ pre rfl (HOWN.out.alloc _) _ [ss % 65536] rfl (HasD.one _ _ _ (by have := HSS.out; have := HXZ.out; have := HYZ.out; omega) (by omega)) (by rw [HPL.out]; simp; omega) (by rw [World.size_alloc]; omega) ?_; intro v' w1 hown' hgrow; (have hbl := grown_below HOWN.out hgrow hsz); (obtain ⟨a', cap', rfl⟩ := hown'.slice (n := k + 1) (by rw [List.length_append, HPL.out]; rfl)); have HOWN2 := Lib.hid hown'; have HBL := Lib.hid hbl; clear hown' hgrow hbl)
        exact ⟨⟨k + 1, ss / 65536, _, a', cap', by simp, by congr 1; have := HSS.out; have := HXZ.out; have := HYZ.out; omega, rfl, by omega, by have := HKN.out; omega, HST.out, .inr HSJ.out, HOWN2.out, Below.trans HGR.out HBL.out⟩, by have := HKN.out; simp [intOf]; omega⟩
      · by_cases h3 : 0 < cr
        · have hkN := HSUM.out.more HL.out HM.out h3 (M := N) (by rw [← HLEN.out]; exact hlN) (by rw [← HLEN'.out]; exact hmN)
          have HKN := Lib.hid (show k < N + 1 by omega)
          have HSJ := Lib.hid (Oh.sumj HSUM.out HNL.out HNM.out (show k < l.length ∨ k < m.length ∨ 0 < cr by rw [← HLEN.out, ← HLEN'.out]; omega))
          have q3 : decide ((0 : Int) < (cr : Int)) = true := by simp; omega
          have q3' : decide (0 < cr) = true := by simp; omega
          have q1 : decide ((k : Int) < (len : Int)) = false := by simp; omega
          have q1' : decide (k < len) = false := by simp; omega
          have HXZ := Lib.hid (show x = 0 by rw [HX.out]; exact none_at (by rw [← HLEN.out]; omega))
          have q2 : decide ((k : Int) < (len' : Int)) = false := by simp; omega
          have q2' : decide (k < len') = false := by simp; omega
          have HYZ := Lib.hid (show y = 0 by rw [HY.out]; exact none_at (by rw [← HLEN'.out]; omega))
          go_wp2_with (at_builtin; refine wpList_app rfl _ _ rfl rfl w.heap.size _ pre rfl (HOWN.out.alloc _) _ [ss % 65536] rfl (HasD.one _ _ _ (by have := HSS.out; have := HXZ.out; have := HYZ.out; omega) (by omega)) (by rw [HPL.out]; simp; omega) (by rw [World.size_alloc]; omega) ?_; intro v' w1 hown' hgrow; (have hbl := grown_below HOWN.out hgrow hsz); (obtain ⟨a', cap', rfl⟩ := hown'.slice (n := k + 1) (by rw [List.length_append, HPL.out]; rfl)); have HOWN2 := Lib.hid hown'; have HBL := Lib.hid hbl; clear hown' hgrow hbl)
          exact ⟨⟨k + 1, ss / 65536, _, a', cap', by simp, by congr 1; have := HSS.out; have := HXZ.out; have := HYZ.out; omega, rfl, by omega, by have := HKN.out; omega, HST.out, .inr HSJ.out, HOWN2.out, Below.trans HGR.out HBL.out⟩, by have := HKN.out; simp [intOf]; omega⟩
        · obtain rfl : cr = 0 := by omega
          have q1 : decide ((k : Int) < (len : Int)) = false := by simp; omega
          have q1' : decide (k < len) = false := by simp; omega
          have HXZ := Lib.hid (show x = 0 by rw [HX.out]; exact none_at (by rw [← HLEN.out]; omega))
          have q2 : decide ((k : Int) < (len' : Int)) = false := by simp; omega
          have q2' : decide (k < len') = false := by simp; omega
          have HYZ := Lib.hid (show y = 0 by rw [HY.out]; exact none_at (by rw [← HLEN'.out]; omega))
          go_wp2_with fail
          go_ret
          have hval := HSUM.out.done (by rw [← HLEN.out]; omega) (by rw [← HLEN'.out]; omega)
          exact ⟨_, pre, rfl, HOWN.out.hasD, ⟨HSUM.out.2.1, Oh.nm_of HSUM.out.2.1 (by rw [HPL.out, hval]; exact HJJ.out)⟩, HSUM.out.done (by rw [← HLEN.out]; omega) (by rw [← HLEN'.out]; omega), by rw [HPL.out]; exact hk, HGR.out⟩
end Go.Proofs.YtfpdemmdkiohhaaGreat
/- The reference: short, Text. -/
namespace Go.Proofs.YtfpdemmdkiohhaaGreat
open Go.RowKit
set_option linter.unusedVariables false

def ShortPost (N : Nat) (V b : Nat) (w : World) (e : Ending) (w' : World) : Prop := ∃ v q, e = .returned (.tuple #[v, .int .u32 ((V % b : Nat) : Int)]) ∧ HasD w' v q ∧ Oh.Dg q ∧ Oh.val q = V / b ∧ q.length ≤ N ∧ Gr w w'

set_option maxRecDepth 100000 in
set_option maxHeartbeats 2000000 in
theorem rshort_any (l : List Nat) (v : Value) (b : Nat) (w : World) (hv : HasD w v l) (hd : Oh.Dg l) (N : Nat) (hlN : l.length ≤ N) (hN : N ≤ 100000) (hb1 : 1 ≤ b) (hb : b < 65536) :
    Calls Tryz.prog 111 #[v, .int .u32 b] w (ShortPost N (Oh.val l) b w) := by
  obtain ⟨-, a, cap, rfl, v1, v2, cv⟩ := hv
  obtain ⟨len, hlen⟩ : ∃ len, len = l.length := ⟨_, rfl⟩
  rw [← hlen] at v1 hlN ⊢
  have HL := Lib.hid hlen
  have HDV := Lib.hid hd
  have HCV := Lib.hid cv
  have hmk := mk_row len (len : Int) rfl (by omega)
  clear hlen hd cv
  go_enter Tryz.func111, Tryz.ntmps111
  go_wp2_with fail
  clear hmk
  have hrow := Rw.new w (zrow len)
  have g1 : Gr w (w.alloc (.cells (zrow len) 42)) := Gr.new _ _
  have hzs := zrow_size len
  have hz : ∀ k, k < len → (w.alloc (.cells (zrow len) 42)).cell? ⟨w.heap.size, k, none⟩ = some (.int .u32 0) := fun k hk => by
    rw [hrow.cell, zrow_at _ _ hk]
  obtain ⟨W, hW⟩ : ∃ W, W = w.alloc (.cells (zrow len) 42) := ⟨_, rfl⟩
  rw [← hW] at hrow g1 hz ⊢
  clear hW
  have HROW := Lib.hid hrow
  have HZ := Lib.hid hz
  have HG := Lib.hid g1
  have HZS := Lib.hid hzs
  clear hrow hz g1 hzs
  go_loopw [7, 8] (fun t i wr => ∃ k r q, t = .int .u32 (r : Nat) ∧ i = .int .i64 ((k : Nat) - 1) ∧ k ≤ len ∧ Oh.QuoI l b k q r ∧ Upd w.heap.size k q W wr) (fun _ i _ => (intOf i + 1).toNat)
  case atStart => exact ⟨len, 0, [], rfl, rfl, by omega, by rw [HL.out]; exact Oh.QuoI.start l b hb1, Upd.start HROW.out (by rw [HZS.out]; omega)⟩
  case round =>
    obtain ⟨k, r, q, rfl, rfl, hk, hquo, hupd⟩ := hrel
    have hr := hquo.2.2.1
    have HS := Lib.hid hquo
    have HU := Lib.hid hupd
    clear hquo hupd
    rcases k with _ | j
    · rw [show ((0 : Nat) : Int) - 1 = -1 from rfl]
      have hq := HS.out
      obtain ⟨q1, q2, q3, q4⟩ := id hq
      rw [Nat.zero_add] at q1
      rw [List.drop_zero] at q4
      have hd := HU.out.hasD (w := w) (cap := len) q2.wide (by rw [q1, ← HL.out]; omega) (by omega)
      rw [q1, ← HL.out] at hd
      have HD := Lib.hid hd
      have HGG := Lib.hid (HU.out.gr HG.out (Nat.le_refl _))
      have HQ2 := Lib.hid q2
      have HQ1 := Lib.hid q1
      have HQV := Lib.hid (show Oh.val q = Oh.val l / b ∧ r = Oh.val l % b from by
        rw [q4, Nat.mul_comm, Nat.mul_add_div (by omega), Nat.div_eq_of_lt q3, Nat.mul_add_mod, Nat.mod_eq_of_lt q3]
        exact ⟨rfl, rfl⟩)
      clear hd hq q1 q2 q3 q4
      go_wp2_with fail
      go_ret2
      exact ⟨_, q, by rw [← HQV.out.2]; rfl, HD.out, HQ2.out, HQV.out.1, by rw [HQ1.out, ← HL.out]; exact hlN, HGG.out⟩
    · rw [show ((j + 1 : Nat) : Int) - 1 = (j : Int) by omega]
      have hjl : j < len := by omega
      obtain ⟨gb, ob, rfl, c2⟩ := HCV.out j (by rw [← HL.out]; exact hjl)
      have hgb : gb < w.heap.size := World.block_lt_of_cell? w _ c2
      have c2 := HG.out.keeps c2
      have c2 : wr.cell? ⟨gb, ob + j, none⟩ = _ := (HU.out.cell_other (p := ⟨gb, ob + j, none⟩) (fun e => by simp only at e; omega)).trans c2
      have c1 : wr.cell? ⟨w.heap.size, j, none⟩ = some (.int .u32 0) := (HU.out.cell_out (.inl (by omega))).trans (HZ.out j hjl)
      have f1 : wr.frozen? ⟨w.heap.size, j, none⟩ = false := HU.out.frozen _
      have hx := Oh.dg_at HDV.out j
      obtain ⟨p, hpe⟩ : ∃ p, p = r * 65536 + l[j]?.getD 0 := ⟨_, rfl⟩
      have hnx := HS.out.step HDV.out hb hpe
      have hpq := hnx.1
      have HNX := Lib.hid hnx.2
      clear hnx
      obtain ⟨x, hxe⟩ : ∃ x, x = l[j]?.getD 0 := ⟨_, rfl⟩
      rw [← hxe] at c2 hx hpe
      clear hxe
      have i5 : (j : Int) < (len : Int) := by omega
      have i6 : (0 : Int) ≤ (j : Int) := by omega
      have hpb : p ≤ 4294967295 := by omega
      have E0 := Lib.hid (show (r : Int) * 65536 + (x : Int) = (p : Int) by omega)
      have E1 := Lib.hid (show ((p / b : Nat) : Int) = (p : Int) / (b : Int) from Int.natCast_ediv _ _)
      have E3 := Lib.hid (show ((p % b : Nat) : Int) = (p : Int) % (b : Int) from Int.natCast_emod _ _)
      have u1 : (0 : Int) ≤ ((r : Int) * 65536 + (x : Int)) / (b : Int) := Int.ediv_nonneg (by omega) (by omega)
      have u2 : ((r : Int) * 65536 + (x : Int)) / (b : Int) ≤ 4294967295 := by rw [E0.out, ← Int.natCast_ediv]; omega
      have hpm : p % b < b := Nat.mod_lt _ (by omega)
      have u3 : (0 : Int) ≤ ((r : Int) * 65536 + (x : Int)) % (b : Int) := Int.emod_nonneg _ (by omega)
      have u4 : ((r : Int) * 65536 + (x : Int)) % (b : Int) ≤ 4294967295 := by rw [E0.out, ← Int.natCast_emod]; omega
      have hrs : (r : Int) * 65536 + (x : Int) ≤ 4294967295 := by omega
      clear hpe
      go_wp2_with fail
      go_roundw
      case rel => exact ⟨j, p % b, p / b :: q, by rw [E3.out, ← E0.out], rfl, by omega, HNX.out, by have h := HU.out.cons (p / b); rw [E1.out, ← E0.out] at h; exact h⟩
      case measure => simp [intOf]

theorem field_words (b : Bool) (a : Option Addr) (n c : Nat) (W : World) : (Instr.field 94 (.agg #[.bool b, .slice a n c]) 1).run Tryz.prog W = .ok (.slice a n c) W := by
  unfold Instr.field
  rw [Sem.run_bind, run_underlying Tryz.underlying94 W]
  simp [part, isAgg, Sem.run_bind, run_underlying Tryz.underlying22, asAgg]
end Go.Proofs.YtfpdemmdkiohhaaGreat
