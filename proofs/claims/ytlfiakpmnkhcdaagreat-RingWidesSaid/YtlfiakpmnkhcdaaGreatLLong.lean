import Derived.Test.YtlfiakpmnkhcdaaGreatLQk
import Derived.Test.YtlfiakpmnkhcdaaGreatLWO
import Derived.Test.YtlfiakpmnkhcdaaGreatLTrf
import Derived.Test.YtlfiakpmnkhcdaaGreatLPlf
namespace Go.Proofs.YtlfiakpmnkhcdaaGreat
open Go.RowKit
set_option linter.unusedVariables false
theorem own_zero (w : World) : Own1 (w.alloc (.cells (zrow 0) 22)) w.heap.size (.slice (some ⟨w.heap.size, 0, none⟩) 0 0) [] := by
 refine ⟨Ow.dg_nil, by simp [wcells], .inr ⟨w.heap.size, 0, zrow 0, rfl, Nat.le_refl _, ?_, ?_, ?_, ?_, ?_⟩⟩
 all_goals first
  | rfl
  | (show (w.heap.push _)[w.heap.size]? = _; simp; done)
  | (simp [maxLen]; done)
  | (simp [zrow]; done)
  | (rw [zrow_size])
set_option maxRecDepth 100000 in
set_option maxHeartbeats 4000000 in
theorem rleft_any (l : List Nat) (u : Value) (w : World) (hu : HasD w u l) (hl : Oh.Dg l) (N : Nat) (hlN : l.length ≤ N) (hN : N ≤ 100000) :
  Calls Tryz.prog 182 #[u, .int .i64 1] w (WordPost (N + 1) (2 * Oh.val l) w) := by
 obtain ⟨-, a, cap, rfl, u1, u2, -⟩ := id hu
 have HU := Lib.hid hu
 have HL := Lib.hid hl
 obtain ⟨len, hlen⟩ : ∃ len, len = l.length := ⟨_, rfl⟩
 rw [← hlen] at u1 hlN HU ⊢
 have HLEN := Lib.hid hlen
 have hmk := mk_row 0 0 rfl (by omega)
 have HOZ := Lib.hid (own_zero w)
 have HGZ := Lib.hid (Gr.new w (.cells (zrow 0) 22))
 clear hu hl hlen
 go_enter Tryz.func182, Tryz.ntmps182
 go_wp2_with fail
 clear hmk
 go_loopw [5, 6, 7] (fun t c i wr => ∃ (k cr : Nat) (pre : List Nat) (ar : Option Addr) (capr : Nat), i = .int .i64 k ∧ c = .int .u32 cr ∧ t = .slice ar k capr ∧ cr ≤ 1 ∧ k ≤ len ∧ Oh.LeftI l k pre cr ∧ Own1 wr w.heap.size (.slice ar k capr) pre ∧ Gr w wr) (fun _ _ i _ => len - (intOf i).toNat)
 case atStart => exact ⟨0, 0, [], _, 0, rfl, rfl, rfl, by omega, by omega, Oh.LeftI.start _, HOZ.out, HGZ.out⟩
 case round =>
  obtain ⟨wo, rfl⟩ : ∃ wo : World, wo = wr := ⟨_, rfl⟩
  obtain ⟨k, cr, pre, ar, capr, rfl, rfl, rfl, hcr, hk, hsum, hown, hgr⟩ := hrel
  have HSUM := Lib.hid hsum
  have HOWN := Lib.hid hown
  have HGR := Lib.hid hgr
  have hsz := hgr.size
  clear hsum hown hgr
  have pl : pre.length = k := HSUM.out.1
  have HPL := Lib.hid pl
  clear pl
  by_cases h1 : k < len
  ·obtain ⟨x, hx⟩ : ∃ x, x = l[k]?.getD 0 := ⟨_, rfl⟩
   have hxb : x < 65536 := by rw [hx]; exact Oh.dg_at HL.out k
   have HST := Lib.hid (HSUM.out.step HL.out)
   rw [← hx] at HST
   have HX := Lib.hid hx
   clear hx
   obtain ⟨ss, hss⟩ : ∃ ss, ss = cr + 2 * x := ⟨_, rfl⟩
   rw [← hss] at HST
   have HSS := Lib.hid hss
   have hssb : ss ≤ 131071 := by omega
   clear hss
   have HKN := Lib.hid h1
   obtain ⟨ga, oa, rfl, ca⟩ := HU.out.at (i := k) (by rw [← HLEN.out]; exact h1)
   have ca := HGR.out.keeps ca
   rw [← HX.out] at ca
   have q1 : decide ((k : Int) < (len : Int)) = true := decide_eq_true (by omega)
   have q1' : decide (k < len) = true := decide_eq_true h1
   go_wp2_with (at_builtin; refine wpList_app rfl _ _ rfl rfl w.heap.size _ pre rfl (HOWN.out.alloc _) _ [ss % 65536] rfl (HasD.one _ _ _ (by have := HSS.out; omega) (by omega)) (by rw [HPL.out]; simp; omega) (by rw [World.size_alloc]; omega) ?_; intro v' w1 hown' hgrow; (have hbl := grown_below HOWN.out hgrow hsz); (obtain ⟨a', cap', rfl⟩ := hown'.slice (n := k + 1) (by rw [List.length_append, HPL.out]; rfl)); have HOWN2 := Lib.hid hown'; have HBL := Lib.hid hbl; clear hown' hgrow hbl)
   exact ⟨⟨k + 1, ss / 65536, _, a', cap', by simp, by congr 1; have := HSS.out; omega, rfl, by omega, by have := HKN.out; omega, HST.out, HOWN2.out, Below.trans HGR.out HBL.out⟩, by have := HKN.out; simp [intOf]; omega⟩
  ·obtain rfl : k = len := by omega
   have q1 : decide ((k : Int) < (k : Int)) = false := decide_eq_false (by omega)
   have HALL := Lib.hid ((HLEN.out ▸ HSUM.out : Oh.LeftI l l.length pre cr).all)
   have HKN := Lib.hid hlN
   go_wp2_with (at_builtin; refine wpList_app rfl _ _ rfl rfl w.heap.size _ pre rfl (HOWN.out.alloc _) _ [cr] rfl (HasD.one _ _ _ rfl (by omega)) (by rw [HPL.out]; simp; omega) (by rw [World.size_alloc]; omega) ?_; intro v' w1 hown' hgrow; (have hbl := grown_below HOWN.out hgrow hsz); (obtain ⟨a', cap', rfl⟩ := hown'.slice (n := k + 1) (by rw [List.length_append, HPL.out]; rfl)); have HOWN2 := Lib.hid hown'; have HBL := Lib.hid hbl; clear hown' hgrow hbl)
   go_ret
   exact ⟨_, pre ++ [cr], rfl, HOWN2.out.hasD, HALL.out.1, HALL.out.2.1, by rw [HALL.out.2.2, ← HLEN.out]; have := HKN.out; omega, Below.trans HGR.out HBL.out⟩
end Go.Proofs.YtlfiakpmnkhcdaaGreat
namespace Go.Proofs.YtlfiakpmnkhcdaaGreat
open Go.RowKit
set_option linter.unusedVariables false
def ShortPost (N : Nat) (V b : Nat) (w : World) (e : Ending) (w' : World) : Prop := ∃ v q, e = .returned (.tuple #[v, .int .u32 ((V % b : Nat) : Int)]) ∧ HasD w' v q ∧ Oh.Dg q ∧ Oh.val q = V / b ∧ q.length ≤ N ∧ Gr w w'
set_option maxRecDepth 100000 in
set_option maxHeartbeats 2000000 in
theorem rshort_any (l : List Nat) (v : Value) (b : Nat) (w : World) (hv : HasD w v l) (hd : Oh.Dg l) (N : Nat) (hlN : l.length ≤ N) (hN : N ≤ 100000) (hb1 : 1 ≤ b) (hb : b < 65536) :
  Calls Tryz.prog 180 #[v, .int .u32 b] w (ShortPost N (Oh.val l) b w) := by
 obtain ⟨-, a, cap, rfl, v1, v2, cv⟩ := hv
 obtain ⟨len, hlen⟩ : ∃ len, len = l.length := ⟨_, rfl⟩
 rw [← hlen] at v1 hlN ⊢
 have HL := Lib.hid hlen
 have HDV := Lib.hid hd
 have HCV := Lib.hid cv
 have hmk := mk_row len (len : Int) rfl (by omega)
 clear hlen hd cv
 go_enter Tryz.func180, Tryz.ntmps180
 go_wp2_with fail
 clear hmk
 have hrow := Rw.new w (zrow len)
 have g1 : Gr w (w.alloc (.cells (zrow len) 22)) := Gr.new _ _
 have hzs := zrow_size len
 have hz : ∀ k, k < len → (w.alloc (.cells (zrow len) 22)).cell? ⟨w.heap.size, k, none⟩ = some (.int .u32 0) := fun k hk => by
  rw [hrow.cell, zrow_at _ _ hk]
 obtain ⟨W, hW⟩ : ∃ W, W = w.alloc (.cells (zrow len) 22) := ⟨_, rfl⟩
 rw [← hW] at hrow g1 hz ⊢
 clear hW
 have HROW := Lib.hid hrow
 have HZ := Lib.hid hz
 have HG := Lib.hid g1
 have HZS := Lib.hid hzs
 clear hrow hz g1 hzs
 go_loopw [7, 8] (fun t i wr => ∃ k r q, t = .int .u32 (r : Nat) ∧ i = .int .i64 ((k : Nat) - 1) ∧ k ≤ len ∧ Oh.QuoI l b k q r ∧ Upd w.heap.size k q W wr) (fun _ i _ => (intOf i + 1).toNat)
 case atStart => exact ⟨len, 0, [], rfl, rfl, by omega, by rw [HL.out]; exact Oh.QuoI.start l b hb1, Upd.start HROW.out (by rw [HZS.out]; omega)⟩
 case round =>
  obtain ⟨k, r, q, rfl, rfl, hk, hquo, hupd⟩ := hrel
  have hr := hquo.2.2.1
  have HS := Lib.hid hquo
  have HU := Lib.hid hupd
  clear hquo hupd
  rcases k with _ | j
  ·rw [show ((0 : Nat) : Int) - 1 = -1 from rfl]
   have hq := HS.out
   obtain ⟨q1, q2, q3, q4⟩ := id hq
   rw [Nat.zero_add] at q1
   rw [List.drop_zero] at q4
   have hd := HU.out.hasD (w := w) (cap := len) q2.wide (by rw [q1, ← HL.out]; omega) (by omega)
   rw [q1, ← HL.out] at hd
   have HD := Lib.hid hd
   have HGG := Lib.hid (HU.out.gr HG.out (Nat.le_refl _))
   have HQ2 := Lib.hid q2
   have HQ1 := Lib.hid q1
   have HQV := Lib.hid (show Oh.val q = Oh.val l / b ∧ r = Oh.val l % b from by
    rw [q4, Nat.mul_comm, Nat.mul_add_div (by omega), Nat.div_eq_of_lt q3, Nat.mul_add_mod, Nat.mod_eq_of_lt q3]
    exact ⟨rfl, rfl⟩)
   clear hd hq q1 q2 q3 q4
   go_wp2_with fail
   go_ret2
   exact ⟨_, q, by rw [← HQV.out.2]; rfl, HD.out, HQ2.out, HQV.out.1, by rw [HQ1.out, ← HL.out]; exact hlN, HGG.out⟩
  ·rw [show ((j + 1 : Nat) : Int) - 1 = (j : Int) by omega]
   have hjl : j < len := by omega
   obtain ⟨gb, ob, rfl, c2⟩ := HCV.out j (by rw [← HL.out]; exact hjl)
   have hgb : gb < w.heap.size := World.block_lt_of_cell? w _ c2
   have c2 := HG.out.keeps c2
   have c2 : wr.cell? ⟨gb, ob + j, none⟩ = _ := (HU.out.cell_other (p := ⟨gb, ob + j, none⟩) (fun e => by simp only at e; omega)).trans c2
   have c1 : wr.cell? ⟨w.heap.size, j, none⟩ = some (.int .u32 0) := (HU.out.cell_out (.inl (by omega))).trans (HZ.out j hjl)
   have f1 : wr.frozen? ⟨w.heap.size, j, none⟩ = false := HU.out.frozen _
   have hx := Oh.dg_at HDV.out j
   obtain ⟨p, hpe⟩ : ∃ p, p = r * 65536 + l[j]?.getD 0 := ⟨_, rfl⟩
   have hnx := HS.out.step HDV.out hb hpe
   have hpq := hnx.1
   have HNX := Lib.hid hnx.2
   clear hnx
   obtain ⟨x, hxe⟩ : ∃ x, x = l[j]?.getD 0 := ⟨_, rfl⟩
   rw [← hxe] at c2 hx hpe
   clear hxe
   have i5 : (j : Int) < (len : Int) := by omega
   have i6 : (0 : Int) ≤ (j : Int) := by omega
   have hpb : p ≤ 4294967295 := by omega
   have E0 := Lib.hid (show (r : Int) * 65536 + (x : Int) = (p : Int) by omega)
   have E1 := Lib.hid (show ((p / b : Nat) : Int) = (p : Int) / (b : Int) from Int.natCast_ediv _ _)
   have E3 := Lib.hid (show ((p % b : Nat) : Int) = (p : Int) % (b : Int) from Int.natCast_emod _ _)
   have u1 : (0 : Int) ≤ ((r : Int) * 65536 + (x : Int)) / (b : Int) := Int.ediv_nonneg (by omega) (by omega)
   have u2 : ((r : Int) * 65536 + (x : Int)) / (b : Int) ≤ 4294967295 := by rw [E0.out, ← Int.natCast_ediv]; omega
   have hpm : p % b < b := Nat.mod_lt _ (by omega)
   have u3 : (0 : Int) ≤ ((r : Int) * 65536 + (x : Int)) % (b : Int) := Int.emod_nonneg _ (by omega)
   have u4 : ((r : Int) * 65536 + (x : Int)) % (b : Int) ≤ 4294967295 := by rw [E0.out, ← Int.natCast_emod]; omega
   have hrs : (r : Int) * 65536 + (x : Int) ≤ 4294967295 := by omega
   clear hpe
   go_wp2_with fail
   go_roundw
   case rel => exact ⟨j, p % b, p / b :: q, by rw [E3.out, ← E0.out], rfl, by omega, HNX.out, by have h := HU.out.cons (p / b); rw [E1.out, ← E0.out] at h; exact h⟩
   case measure => simp [intOf]
theorem field_words (b : Bool) (a : Option Addr) (n c : Nat) (W : World) : (Instr.field 101 (.agg #[.bool b, .slice a n c]) 1).run Tryz.prog W = .ok (.slice a n c) W := by
 unfold Instr.field
 rw [Sem.run_bind, run_underlying Tryz.underlying101 W]
 simp [part, isAgg, Sem.run_bind, run_underlying Tryz.underlying23, asAgg]
end Go.Proofs.YtlfiakpmnkhcdaaGreat
namespace Oh
theorem bitLen_room {V k n : Nat} (h : Ow.BitLen V k) (hV : V < 65536 ^ n) : k ≤ 16 * n := by
 apply Classical.byContradiction
 intro hn
 have h0 : 0 < V := by
  apply Nat.pos_of_ne_zero
  intro h0
  have := h.2.2 h0
  omega
 have h1 := (h.2.1 h0).2
 have e : (65536 : Nat) ^ n = 2 ^ (16 * n) := by rw [Nat.pow_mul]
 have h2 : 2 ^ (16 * n) ≤ 2 ^ (k - 1) := Nat.pow_le_pow_right (by omega) (by omega)
 omega
theorem nm_pos {l : List Nat} (h : Nm l) (h0 : 0 < l.length) : 0 < val l := by
 have := nm_ge h (k := 0) h0
 simp at this; omega
end Oh
namespace Go.Proofs.YtlfiakpmnkhcdaaGreat
open Go.RowKit
set_option linter.unusedVariables false
def LongPost (N M V B : Nat) (w : World) (e : Ending) (w' : World) : Prop := ∃ (qa : Option Addr) (qk qc : Nat) (ra : Option Addr) (rk rc : Nat) (q r : List Nat), e = .returned (.tuple #[.slice qa qk qc, .slice ra rk rc]) ∧ HasD w' (.slice qa qk qc) q ∧ Oh.Dg q ∧ Oh.val q = V / B ∧ q.length ≤ N ∧ HasD w' (.slice ra rk rc) r ∧ Oh.Dg r ∧ Oh.val r = V % B ∧ r.length ≤ M ∧ Gr w w'
theorem Rw.gr {W W' : World} {g : Nat} {cur : Array Value} (h : Rw W g cur) (k : Gr W W') : Rw W' g cur := by
 show W'.heap[g]? = _
 rw [k.block g (Array.getElem?_eq_some_iff.1 (show W.heap[g]? = _ from h)).1]; exact h
theorem Rw.lt' {W : World} {g : Nat} {cur : Array Value} (h : Rw W g cur) : g < W.heap.size := (Array.getElem?_eq_some_iff.1 (show W.heap[g]? = _ from h)).1
theorem Rw.hasD {W : World} {g n : Nat} {q : List Nat} (h : Rw W g (acells q)) (hq : Oh.Dg q) (hn : q.length = n) (hb : n ≤ 1000000) : HasD W (.slice (some ⟨g, 0, none⟩) n n) q := by
 subst hn
 exact ⟨hq.wide, _, _, rfl, Nat.le_refl _, by omega, fun i hi => ⟨g, 0, rfl, by rw [Nat.zero_add, h.cell, acells_at _ _ hi]⟩⟩
set_option maxRecDepth 100000 in
set_option maxHeartbeats 4000000 in
theorem rlong_one (l : List Nat) (b : Nat) (u v : Value) (w : World) (hu : HasD w u l) (hv : HasD w v [b]) (hl : Oh.Dg l) (hb1 : 1 ≤ b) (hb2 : b < 65536) (N : Nat) (hlN : l.length ≤ N) (hN : N ≤ 90000) :
  Calls Tryz.prog 169 #[u, v] w (LongPost N 1 (Oh.val l) b w) := by
 obtain ⟨-, a, cap, rfl, u1, u2, -⟩ := id hu
 obtain ⟨-, a', cap', rfl, v1, v2, vc⟩ := id hv
 obtain ⟨g, o, rfl, hc⟩ := vc 0 (by simp)
 have HU := Lib.hid hu
 have HL := Lib.hid hl
 have hc2 : w.cell? ⟨g, o, none⟩ = some (.int .u32 (b : Int)) := by simpa using hc
 have hl1 : ([b] : List Nat).length = 1 := rfl
 rw [hl1]
 clear hu hv vc hc hl
 go_enter Tryz.func169, Tryz.ntmps169
 go_wp2_with fail
 refine (rshort_any l _ b _ HU.out HL.out N hlN (by omega) hb1 hb2).mono ?_
 rintro e w1 ⟨vq, q, rfl, h1, h2, h3, h4, hg⟩
 obtain ⟨-, aq, cq, rfl, q1, q2, -⟩ := id h1
 have HQ := Lib.hid h1
 have HQD := Lib.hid h2
 have HQV := Lib.hid h3
 have HQL := Lib.hid h4
 have HG := Lib.hid hg
 have hr : Oh.val l % b < 65536 := by have := Nat.mod_lt (Oh.val l) (show 0 < b by omega); omega
 obtain ⟨r, hre⟩ : ∃ r, r = Oh.val l % b := ⟨_, rfl⟩
 have hreI : (Oh.val l : Int) % (b : Int) = (r : Int) := by rw [hre]; simp
 rw [← hre] at hr ⊢
 have HRE := Lib.hid hre
 have HONE := Lib.hid (show HasD (w1.alloc (.cells #[.int .u32 (r : Int)] 22)) (.slice (some ⟨w1.heap.size, 0, none⟩) 1 1) [r] from HasD.one w1 _ r rfl (by omega))
 have HOD := Lib.hid (show Oh.Dg [r] from fun x hx => by simp at hx; omega)
 clear h1 h2 h3 h4 hg hre
 go_wp2_with fail
 refine (rtrim_any false [r] _ _ HONE.out HOD.out (by simp)).mono ?_
 rintro e w2 ⟨z, rfl, hz, g2⟩
 obtain ⟨zn, za, zk, zc, zl, rfl, z1, z2, z3, z4, z5⟩ := hz.parts
 have HZ := Lib.hid z2
 have HZN := Lib.hid z3
 have HZV := Lib.hid z4
 have HZL := Lib.hid z5
 have HG2 := Lib.hid ((Gr.new w1 _).trans g2)
 have hfd := field_words zn za zk zc w2
 clear z1 z2 z3 z4 z5 hz g2
 go_wp2_with fail
 go_ret2
 exact ⟨aq, _, cq, za, zk, zc, q, zl, rfl, HQ.out.later HG2.out, HQD.out, HQV.out, HQL.out, HZ.out, HZN.out.1, by rw [HZV.out]; simp [sg, Oh.val]; exact HRE.out, by have := HZL.out; simpa using this, HG.out.trans HG2.out⟩
set_option maxRecDepth 100000 in
set_option maxHeartbeats 8000000 in
theorem rlong_many (l m : List Nat) (u v : Value) (w : World) (hu : HasD w u l) (hv : HasD w v m) (hl : Oh.Dg l) (hm : Oh.Nm m) (hm2 : 2 ≤ m.length) (N M : Nat) (hlN : l.length ≤ N) (hN : N ≤ 90000) (hmM : m.length ≤ M) (hM : M ≤ 90000) :
  Calls Tryz.prog 169 #[u, v] w (LongPost N M (Oh.val l) (Oh.val m) w) := by
 obtain ⟨-, a, cap, rfl, u1, u2, -⟩ := id hu
 obtain ⟨-, a', cap', rfl, v1, v2, -⟩ := id hv
 obtain ⟨n, hn⟩ : ∃ n, n = l.length := ⟨_, rfl⟩
 obtain ⟨mm, hmm⟩ : ∃ mm, mm = m.length := ⟨_, rfl⟩
 obtain ⟨V, hV⟩ : ∃ V, V = Oh.val l := ⟨_, rfl⟩
 obtain ⟨B, hB⟩ : ∃ B, B = Oh.val m := ⟨_, rfl⟩
 have hVn : V < 65536 ^ n := by rw [hV, hn]; exact Oh.val_lt l hl
 obtain ⟨k, hk⟩ := bitLen_ex V (16 * n) (by rw [Nat.pow_mul]; exact hVn)
 have hkn : k ≤ 16 * n := Oh.bitLen_room hk hVn
 have hB0 : 0 < B := by rw [hB]; exact Oh.nm_pos hm (by omega)
 have hBM : B < 65536 ^ M := by rw [hB]; exact Nat.lt_of_lt_of_le (Oh.val_lt m hm.1) (Nat.pow_le_pow_right (by omega) hmM)
 have HU := Lib.hid hu
 have HV := Lib.hid hv
 rw [← hn] at hlN u1 HU ⊢
 rw [← hmm] at hmM hm2 v1 HV ⊢
 rw [← hV, ← hB]
 have HLD := Lib.hid hl
 have HMN := Lib.hid hm
 have HN := Lib.hid hn
 have HMM := Lib.hid hmm
 have HVV := Lib.hid hV
 have HBB := Lib.hid hB
 have HB0 := Lib.hid hB0
 have HBM := Lib.hid hBM
 have HBL := Lib.hid hk
 have hmk := mk_row n (n : Int) rfl (by omega)
 have hne1 : ((mm : Int) == 1) = false := by simp; omega
 have hne2 : ¬ ((mm : Int) = 1) := by omega
 have HG1 := Lib.hid (Gr.new w (.cells (zrow n) 22))
 have HQ0 := Lib.hid (show Rw (w.alloc (.cells (zrow n) 22)) w.heap.size (acells (List.replicate n 0)) from by rw [← zrow_acells]; exact Rw.new _ _)
 have HQ0D := Lib.hid (show Oh.Dg (List.replicate n 0) ∧ Oh.val (List.replicate n 0) = 0 from ⟨fun x hx => by rw [List.eq_of_mem_replicate hx]; omega, Oh.val_rep n⟩)
 clear hu hv hl hm hn hmm hV hB hVn hk hB0 hBM
 go_enter Tryz.func169, Tryz.ntmps169
 go_wp2_with fail
 clear hmk
 refine (rbits_any l _ k _ (HU.out.later HG1.out) HLD.out (by rw [← HN.out]; omega) (by rw [← HVV.out]; exact HBL.out)).mono ?_
 rintro e w1 ⟨rfl, rfl⟩
 go_wp2_with fail
 go_loopw [9, 10] (fun s t wr => ∃ (j R Q : Nat) (ar : Option Addr) (nr cr : Nat) (rl ql : List Nat), s = .slice ar nr cr ∧ t = .int .i64 ((j : Nat) - 1 : Int) ∧ j ≤ k ∧ HasD wr (.slice ar nr cr) rl ∧ Oh.Nm rl ∧ Oh.val rl = R ∧ rl.length ≤ M ∧ Rw wr w.heap.size (acells ql) ∧ Oh.Dg ql ∧ Oh.val ql = Q ∧ ql.length = n ∧ Oh.LongI V B j R Q ∧ Gr w wr) (fun _ t _ => (intOf t + 1).toNat)
 case atStart => exact ⟨k, 0, 0, none, 0, 0, [], List.replicate n 0, rfl, rfl, Nat.le_refl _, HasD.nil _, ⟨Oh.dg_nil, rfl⟩, rfl, by simp, HQ0.out, HQ0D.out.1, HQ0D.out.2, by simp, Oh.LongI.start HBL.out.1, HG1.out⟩
 case round =>
  obtain ⟨wo, rfl⟩ : ∃ wo : World, wo = wr := ⟨_, rfl⟩
  obtain ⟨j, R, Q, ar, nr, cr, rl, ql, rfl, rfl, hj, h1, h2, h3, h4, h5, h6, h7, h8, h9, hg⟩ := hrel
  have HR := Lib.hid h1
  have HRN := Lib.hid h2
  have HRV := Lib.hid h3
  have HRL := Lib.hid h4
  have HQR := Lib.hid h5
  have HQD := Lib.hid h6
  have HQV := Lib.hid h7
  have HQL := Lib.hid h8
  have HI := Lib.hid h9
  have HG := Lib.hid hg
  clear h1 h2 h3 h4 h5 h6 h7 h8 h9 hg
  rcases j with _ | j
  ·go_wp2_with fail
   go_ret2
   have h := HI.out.all
   exact ⟨_, _, _, ar, nr, cr, ql, rl, rfl, HQR.out.hasD HQD.out HQL.out (by omega), HQD.out, HQV.out.trans h.2, by rw [HQL.out]; omega, HR.out, HRN.out.1, HRV.out.trans h.1, HRL.out, HG.out⟩
  ·have i2 : ((j + 1 : Nat) : Int) - 1 = (j : Int) := by omega
   have i3 : (0 : Int) ≤ (j : Int) := by omega
   rw [i2]
   clear i2
   go_wp2_with fail
   refine (rleft_any rl _ _ HR.out HRN.out.1 M HRL.out (by omega)).mono ?_
   rintro e w1 ⟨v1, l1, rfl, h1, h2, h3, h4, g1⟩
   obtain ⟨-, a1, c1, rfl, -, -, -⟩ := id h1
   have HL1 := Lib.hid h1
   have HL1D := Lib.hid h2
   have HL1V := Lib.hid h3
   have HL1L := Lib.hid (show l1.length ≤ 100000 from by omega)
   have HG1 := Lib.hid g1
   clear h1 h2 h3 h4 g1
   go_wp2_with fail
   refine (rtrim_any false l1 _ _ HL1.out HL1D.out HL1L.out).mono ?_
   rintro e w2 ⟨z, rfl, hz, g2⟩
   obtain ⟨zn, za, zk, zc, zl, rfl, z1, z2, z3, z4, z5⟩ := hz.parts
   have HZ := Lib.hid z2
   have HZN := Lib.hid z3
   have hzv : Oh.val zl = 2 * R := by rw [z4, HL1V.out, HRV.out]; simp [sg]; omega
   have HZV := Lib.hid hzv
   have HRB := Lib.hid (HI.out.lt HB0.out)
   have HZL := Lib.hid (show zl.length ≤ M + 1 from Oh.nm_len z3 (by
    rw [hzv, Nat.pow_succ]
    have h1 := HBM.out
    have h2 := HRB.out
    omega))
   have HG2 := Lib.hid (HG1.out.trans g2)
   have hfd := field_words zn za zk zc w2
   clear z1 z2 z3 z4 z5 hz g2 hzv
   go_wp2_with fail
   clear hfd
   refine (rbit_any l _ j _ (HU.out.later (HG.out.trans HG2.out)) HLD.out (by omega)).mono ?_
   rintro e w3 ⟨rfl, rfl⟩
   rw [← HVV.out]
   obtain ⟨d, hd⟩ : ∃ d, d = V / 2 ^ j % 2 := ⟨_, rfl⟩
   rw [← hd]
   have HD := Lib.hid hd
   have hd2 : d = 0 ∨ d = 1 := by omega
   clear hd
   rcases hd2 with rfl | rfl
   ·go_wp2_with fail
    have HZG := HG2
    have HZL2 := Lib.hid (show zl.length ≤ M + 2 from by have := HZL.out; omega)
    have hx : Oh.val zl = 2 * R := HZV.out
    have HS3 := Lib.hid (show 2 * R + 0 = 2 * R from by omega)
    obtain ⟨c, hc⟩ : ∃ c, c = sgn (Oh.val zl : Int) (Oh.val m : Int) := ⟨_, rfl⟩
    have HC := Lib.hid hc
    by_cases hge : B ≤ 2 * R
    ·have hc0 : 0 ≤ c := by
      rw [hc, hx, ← HBB.out]
      rcases Nat.eq_or_lt_of_le hge with h | h
      ·rw [sgn_eq (by omega)]; omega
      ·rw [sgn_gt (by omega)]; omega
     have HLM := Lib.hid (show Oh.LongI V B j (2 * R - B) (Q + 2 ^ j) from by
      have h := HI.out.more HB0.out (by rw [← HD.out, HS3.out]; exact hge)
      rw [← HD.out, HS3.out] at h
      exact h)
     have HPUT := Lib.hid (show Oh.Dg (ql.set (j / 16) (ql[j / 16]?.getD 0 + 2 ^ (j % 16))) ∧ Oh.val (ql.set (j / 16) (ql[j / 16]?.getD 0 + 2 ^ (j % 16))) = Q + 2 ^ j from HI.out.put HQD.out HQV.out (by rw [HQL.out]; omega))
     have HROOM := Lib.hid (HI.out.room HQD.out HQV.out)
     have HML := Lib.hid (show m.length ≤ zl.length from Oh.nm_len HMN.out (Nat.lt_of_le_of_lt (by rw [hx, ← HBB.out]; exact hge) (Oh.val_lt zl HZN.out.1)))
     have HLE := Lib.hid (show Oh.val m ≤ Oh.val zl from by rw [hx, ← HBB.out]; exact hge)
     have HX := Lib.hid hx
     have HGE := Lib.hid hge
     clear hc hx hge
     refine (rorder_any zl m _ _ _ HZ.out (HV.out.later (HG.out.trans HZG.out)) HZN.out HMN.out).mono ?_
     rintro e w4 ⟨rfl, g4⟩
     rw [← HC.out]
     have HG4 := Lib.hid (HZG.out.trans g4)
     have HR4 := Lib.hid (HZ.out.later g4)
     clear g4
     go_wp2_with fail
     refine (rminus_any zl m _ _ _ HR4.out (HV.out.later (HG.out.trans HG4.out)) HZN.out.1 HMN.out.1 (M + 2) HZL2.out (by omega) HML.out HLE.out).mono ?_
     rintro e w5 ⟨v5, l5, rfl, h1, h2, h3, h4, g5⟩
     obtain ⟨-, a5, c5, rfl, -, -, -⟩ := id h1
     have HR5 := Lib.hid h1
     have HR5D := Lib.hid h2
     have HR5V := Lib.hid h3
     have HR5L := Lib.hid (show l5.length ≤ 100000 from by omega)
     have HG5 := Lib.hid (HG4.out.trans g5)
     clear h1 h2 h3 h4 g5
     go_wp2_with fail
     refine (rtrimf_any false l5 _ _ HR5.out HR5D.out HR5L.out).mono ?_
     rintro e w6 ⟨b6, a6, n6, c6, rfl, hj6, g6, hf6⟩
     obtain ⟨s6, l6, e6, h1, h2, h3, h4⟩ := hj6
     simp only [Value.agg.injEq, Array.mk.injEq, List.cons.injEq, Value.bool.injEq, and_true] at e6
     obtain ⟨hb6, rfl⟩ := e6
     have h5 : Oh.val l6 = 2 * R - B := by rw [h3, HR5V.out, HX.out, ← HBB.out]; simp [sg]
     have HR6 := Lib.hid h1
     have HR6N := Lib.hid h2
     have HR6V := Lib.hid h5
     have HR6L := Lib.hid (show l6.length ≤ M from Oh.nm_len h2 (by
      rw [h5]
      exact Nat.lt_trans (HLM.out.lt HB0.out) HBM.out))
     have HG6 := Lib.hid (HG5.out.trans g6)
     have HF6 := Lib.hid (show ∀ p, a6 = some p → p.block ≠ w.heap.size from fun p hp => by
      have h6 := hf6 p hp
      have h7 := HQR.out.lt'
      have h8 := HG5.out.size
      omega)
     have hfd := field_words b6 a6 n6 c6 w6
     clear hb6 h1 h2 h3 h4 h5 g6 hf6
     have HQ6 := Lib.hid (HQR.out.gr HG6.out)
     obtain ⟨qq, hqq⟩ : ∃ qq, qq = j / 16 := ⟨_, rfl⟩
     obtain ⟨rr, hrr⟩ : ∃ rr, rr = j % 16 := ⟨_, rfl⟩
     obtain ⟨F, hF⟩ : ∃ F, F = 2 ^ rr := ⟨_, rfl⟩
     obtain ⟨y, hy⟩ : ∃ y, y = ql[qq]?.getD 0 := ⟨_, rfl⟩
     have hqn : qq < n := by omega
     have hcell : w6.cell? ⟨w.heap.size, qq, none⟩ = some (.int .u32 (y : Int)) := by rw [HQ6.out.cell, acells_at _ _ (by rw [HQL.out]; exact hqn), ← hy]
     have hfro : w6.frozen? ⟨w.heap.size, qq, none⟩ = false := HQ6.out.frozen _
     have q1 : (j : Int) / 16 = (qq : Int) := by omega
     have q2 : (j : Int) % 16 = (rr : Int) := by omega
     have q3 : (0 : Int) ≤ (qq : Int) := by omega
     have q4 : (qq : Int) < (n : Int) := by omega
     have q5 : (0 : Int) ≤ (rr : Int) := by omega
     have q6 : (rr : Int) < 32 := by omega
     have hp := HPUT.out
     have hrm := HROOM.out
     rw [← hqq, ← hrr, ← hF, ← hy] at hp hrm
     have hF1 : F ≤ 32768 := by
      rw [hF]
      have : (2 : Nat) ^ rr ≤ 2 ^ 15 := Nat.pow_le_pow_right (by omega) (by omega)
      omega
     have q7 : (2 : Int) ^ rr = (F : Int) := by rw [hF]; simp
     have q8 : (F : Int) % 4294967296 = (F : Int) := by omega
     have q9 : ((y : Int) + (F : Int)) % 4294967296 = (y : Int) + (F : Int) := by omega
     have HP := Lib.hid hp
     have HRW := Lib.hid (show Rw (w6.setCell ⟨w.heap.size, qq, none⟩ (.int .u32 ((y + F : Nat) : Int))) w.heap.size (acells (ql.set qq (y + F))) from by
      have h := HQ6.out.set qq (.int .u32 ((y + F : Nat) : Int))
      rw [acells_set] at h
      exact h)
     have HR7 := Lib.hid (show HasD (w6.setCell ⟨w.heap.size, qq, none⟩ (.int .u32 ((y + F : Nat) : Int))) (.slice a6 n6 c6) l6 from HR6.out.set (fun g hg => by
      cases ha : a6 with
      | none => rw [ha] at hg; simp [Value.ownBlock] at hg
      | some p =>
       rw [ha] at hg
       obtain rfl : p.block = g := by simpa [Value.ownBlock] using hg
       exact HF6.out p ha) _)
     have HG7 := Lib.hid (show Gr w (w6.setCell ⟨w.heap.size, qq, none⟩ (.int .u32 ((y + F : Nat) : Int))) from (HG.out.trans HG6.out).setCell (p := ⟨w.heap.size, qq, none⟩) (Nat.le_refl _) _)
     have HQN := Lib.hid hqn
     clear hqq hrr hF hy hp hqn
     go_wp2_with fail
     clear hfd
     go_region
     go_wp2_with fail
     go_roundw
     case rel =>
      exact ⟨j, 2 * R - B, Q + 2 ^ j, a6, n6, c6, l6, ql.set qq (y + F), rfl, by simp, by omega, HR7.out.later ((Gr.refl _).drw), HR6N.out, HR6V.out, HR6L.out, HRW.out, HP.out.1, HP.out.2, by rw [List.length_set]; exact HQL.out, HLM.out, HG7.out.drw⟩
     case measure => simp [intOf]
    ·have hc0 : ¬ 0 ≤ c := by
      rw [hc, hx, ← HBB.out, sgn_lt (by omega)]; omega
     have HLM := Lib.hid (show Oh.LongI V B j (2 * R) Q from by
      have h := HI.out.less (by rw [← HD.out, HS3.out]; omega)
      rw [← HD.out, HS3.out] at h
      exact h)
     have HLM2 := Lib.hid (show zl.length ≤ M from Oh.nm_len HZN.out (by
      rw [hx]
      have := HBM.out
      omega))
     have HX := Lib.hid hx
     clear hc hx hge
     refine (rorder_any zl m _ _ _ HZ.out (HV.out.later (HG.out.trans HZG.out)) HZN.out HMN.out).mono ?_
     rintro e w4 ⟨rfl, g4⟩
     rw [← HC.out]
     have HG4 := Lib.hid (HZG.out.trans g4)
     have HR4 := Lib.hid (HZ.out.later g4)
     clear g4
     go_wp2_with fail
     go_roundw
     case rel =>
      exact ⟨j, 2 * R, Q, za, zk, zc, zl, ql, rfl, by simp, by omega, HR4.out, HZN.out, HX.out, HLM2.out, HQR.out.gr HG4.out, HQD.out, HQV.out, HQL.out, HLM.out, HG.out.trans HG4.out⟩
     case measure => simp [intOf]
   ·have HONE := Lib.hid (show HasD (w2.alloc (.cells #[.int .u32 1] 22)) (.slice (some ⟨w2.heap.size, 0, none⟩) 1 1) [1] from HasD.one w2 1 1 rfl (by omega))
    have HONN := Lib.hid (show Oh.Nm [1] from ⟨fun x hx => by simp at hx; omega, by decide⟩)
    go_wp2_with fail
    refine (rplusn_any zl [1] _ _ _ (HZ.out.later (Gr.new w2 _)) HONE.out HZN.out HONN.out (M + 1) HZL.out (by simp) (by omega)).mono ?_
    rintro e w3 ⟨v3, l3, rfl, h1, h2, h3, h4, g3⟩
    obtain ⟨-, a3, c3, rfl, -, -, -⟩ := id h1
    have HY := Lib.hid h1
    have HYN := Lib.hid h2
    have HYV := Lib.hid (show Oh.val l3 = 2 * R + 1 from by rw [h3, HZV.out]; simp [Oh.val])
    have HYL := Lib.hid (show l3.length ≤ M + 2 from by omega)
    have HYG := Lib.hid ((HG2.out.trans (Gr.new w2 _)).trans g3)
    clear h1 h2 h3 h4 g3
    go_wp2_with fail
    have hx : Oh.val l3 = 2 * R + 1 := HYV.out
    have HS3 := Lib.hid (show 2 * R + 1 = 2 * R + 1 from by omega)
    obtain ⟨c, hc⟩ : ∃ c, c = sgn (Oh.val l3 : Int) (Oh.val m : Int) := ⟨_, rfl⟩
    have HC := Lib.hid hc
    by_cases hge : B ≤ 2 * R + 1
    ·have hc0 : 0 ≤ c := by
      rw [hc, hx, ← HBB.out]
      rcases Nat.eq_or_lt_of_le hge with h | h
      ·rw [sgn_eq (by omega)]; omega
      ·rw [sgn_gt (by omega)]; omega
     have HLM := Lib.hid (show Oh.LongI V B j (2 * R + 1 - B) (Q + 2 ^ j) from by
      have h := HI.out.more HB0.out (by rw [← HD.out, HS3.out]; exact hge)
      rw [← HD.out, HS3.out] at h
      exact h)
     have HPUT := Lib.hid (show Oh.Dg (ql.set (j / 16) (ql[j / 16]?.getD 0 + 2 ^ (j % 16))) ∧ Oh.val (ql.set (j / 16) (ql[j / 16]?.getD 0 + 2 ^ (j % 16))) = Q + 2 ^ j from HI.out.put HQD.out HQV.out (by rw [HQL.out]; omega))
     have HROOM := Lib.hid (HI.out.room HQD.out HQV.out)
     have HML := Lib.hid (show m.length ≤ l3.length from Oh.nm_len HMN.out (Nat.lt_of_le_of_lt (by rw [hx, ← HBB.out]; exact hge) (Oh.val_lt l3 HYN.out.1)))
     have HLE := Lib.hid (show Oh.val m ≤ Oh.val l3 from by rw [hx, ← HBB.out]; exact hge)
     have HX := Lib.hid hx
     have HGE := Lib.hid hge
     clear hc hx hge
     refine (rorder_any l3 m _ _ _ HY.out (HV.out.later (HG.out.trans HYG.out)) HYN.out HMN.out).mono ?_
     rintro e w4 ⟨rfl, g4⟩
     rw [← HC.out]
     have HG4 := Lib.hid (HYG.out.trans g4)
     have HR4 := Lib.hid (HY.out.later g4)
     clear g4
     go_wp2_with fail
     refine (rminus_any l3 m _ _ _ HR4.out (HV.out.later (HG.out.trans HG4.out)) HYN.out.1 HMN.out.1 (M + 2) HYL.out (by omega) HML.out HLE.out).mono ?_
     rintro e w5 ⟨v5, l5, rfl, h1, h2, h3, h4, g5⟩
     obtain ⟨-, a5, c5, rfl, -, -, -⟩ := id h1
     have HR5 := Lib.hid h1
     have HR5D := Lib.hid h2
     have HR5V := Lib.hid h3
     have HR5L := Lib.hid (show l5.length ≤ 100000 from by omega)
     have HG5 := Lib.hid (HG4.out.trans g5)
     clear h1 h2 h3 h4 g5
     go_wp2_with fail
     refine (rtrimf_any false l5 _ _ HR5.out HR5D.out HR5L.out).mono ?_
     rintro e w6 ⟨b6, a6, n6, c6, rfl, hj6, g6, hf6⟩
     obtain ⟨s6, l6, e6, h1, h2, h3, h4⟩ := hj6
     simp only [Value.agg.injEq, Array.mk.injEq, List.cons.injEq, Value.bool.injEq, and_true] at e6
     obtain ⟨hb6, rfl⟩ := e6
     have h5 : Oh.val l6 = 2 * R + 1 - B := by rw [h3, HR5V.out, HX.out, ← HBB.out]; simp [sg]
     have HR6 := Lib.hid h1
     have HR6N := Lib.hid h2
     have HR6V := Lib.hid h5
     have HR6L := Lib.hid (show l6.length ≤ M from Oh.nm_len h2 (by
      rw [h5]
      exact Nat.lt_trans (HLM.out.lt HB0.out) HBM.out))
     have HG6 := Lib.hid (HG5.out.trans g6)
     have HF6 := Lib.hid (show ∀ p, a6 = some p → p.block ≠ w.heap.size from fun p hp => by
      have h6 := hf6 p hp
      have h7 := HQR.out.lt'
      have h8 := HG5.out.size
      omega)
     have hfd := field_words b6 a6 n6 c6 w6
     clear hb6 h1 h2 h3 h4 h5 g6 hf6
     have HQ6 := Lib.hid (HQR.out.gr HG6.out)
     obtain ⟨qq, hqq⟩ : ∃ qq, qq = j / 16 := ⟨_, rfl⟩
     obtain ⟨rr, hrr⟩ : ∃ rr, rr = j % 16 := ⟨_, rfl⟩
     obtain ⟨F, hF⟩ : ∃ F, F = 2 ^ rr := ⟨_, rfl⟩
     obtain ⟨y, hy⟩ : ∃ y, y = ql[qq]?.getD 0 := ⟨_, rfl⟩
     have hqn : qq < n := by omega
     have hcell : w6.cell? ⟨w.heap.size, qq, none⟩ = some (.int .u32 (y : Int)) := by rw [HQ6.out.cell, acells_at _ _ (by rw [HQL.out]; exact hqn), ← hy]
     have hfro : w6.frozen? ⟨w.heap.size, qq, none⟩ = false := HQ6.out.frozen _
     have q1 : (j : Int) / 16 = (qq : Int) := by omega
     have q2 : (j : Int) % 16 = (rr : Int) := by omega
     have q3 : (0 : Int) ≤ (qq : Int) := by omega
     have q4 : (qq : Int) < (n : Int) := by omega
     have q5 : (0 : Int) ≤ (rr : Int) := by omega
     have q6 : (rr : Int) < 32 := by omega
     have hp := HPUT.out
     have hrm := HROOM.out
     rw [← hqq, ← hrr, ← hF, ← hy] at hp hrm
     have hF1 : F ≤ 32768 := by
      rw [hF]
      have : (2 : Nat) ^ rr ≤ 2 ^ 15 := Nat.pow_le_pow_right (by omega) (by omega)
      omega
     have q7 : (2 : Int) ^ rr = (F : Int) := by rw [hF]; simp
     have q8 : (F : Int) % 4294967296 = (F : Int) := by omega
     have q9 : ((y : Int) + (F : Int)) % 4294967296 = (y : Int) + (F : Int) := by omega
     have HP := Lib.hid hp
     have HRW := Lib.hid (show Rw (w6.setCell ⟨w.heap.size, qq, none⟩ (.int .u32 ((y + F : Nat) : Int))) w.heap.size (acells (ql.set qq (y + F))) from by
      have h := HQ6.out.set qq (.int .u32 ((y + F : Nat) : Int))
      rw [acells_set] at h
      exact h)
     have HR7 := Lib.hid (show HasD (w6.setCell ⟨w.heap.size, qq, none⟩ (.int .u32 ((y + F : Nat) : Int))) (.slice a6 n6 c6) l6 from HR6.out.set (fun g hg => by
      cases ha : a6 with
      | none => rw [ha] at hg; simp [Value.ownBlock] at hg
      | some p =>
       rw [ha] at hg
       obtain rfl : p.block = g := by simpa [Value.ownBlock] using hg
       exact HF6.out p ha) _)
     have HG7 := Lib.hid (show Gr w (w6.setCell ⟨w.heap.size, qq, none⟩ (.int .u32 ((y + F : Nat) : Int))) from (HG.out.trans HG6.out).setCell (p := ⟨w.heap.size, qq, none⟩) (Nat.le_refl _) _)
     have HQN := Lib.hid hqn
     clear hqq hrr hF hy hp hqn
     go_wp2_with fail
     clear hfd
     go_region
     go_wp2_with fail
     go_roundw
     case rel =>
      exact ⟨j, 2 * R + 1 - B, Q + 2 ^ j, a6, n6, c6, l6, ql.set qq (y + F), rfl, by simp, by omega, HR7.out.later ((Gr.refl _).drw), HR6N.out, HR6V.out, HR6L.out, HRW.out, HP.out.1, HP.out.2, by rw [List.length_set]; exact HQL.out, HLM.out, HG7.out.drw⟩
     case measure => simp [intOf]
    ·have hc0 : ¬ 0 ≤ c := by
      rw [hc, hx, ← HBB.out, sgn_lt (by omega)]; omega
     have HLM := Lib.hid (show Oh.LongI V B j (2 * R + 1) Q from by
      have h := HI.out.less (by rw [← HD.out, HS3.out]; omega)
      rw [← HD.out, HS3.out] at h
      exact h)
     have HLM2 := Lib.hid (show l3.length ≤ M from Oh.nm_len HYN.out (by
      rw [hx]
      have := HBM.out
      omega))
     have HX := Lib.hid hx
     clear hc hx hge
     refine (rorder_any l3 m _ _ _ HY.out (HV.out.later (HG.out.trans HYG.out)) HYN.out HMN.out).mono ?_
     rintro e w4 ⟨rfl, g4⟩
     rw [← HC.out]
     have HG4 := Lib.hid (HYG.out.trans g4)
     have HR4 := Lib.hid (HY.out.later g4)
     clear g4
     go_wp2_with fail
     go_roundw
     case rel =>
      exact ⟨j, 2 * R + 1, Q, a3, l3.length, c3, l3, ql, rfl, by simp, by omega, HR4.out, HYN.out, HX.out, HLM2.out, HQR.out.gr HG4.out, HQD.out, HQV.out, HQL.out, HLM.out, HG.out.trans HG4.out⟩
     case measure => simp [intOf]
theorem rlong_any (l m : List Nat) (u v : Value) (w : World) (hu : HasD w u l) (hv : HasD w v m) (hl : Oh.Dg l) (hm : Oh.Nm m) (hm2 : 1 ≤ m.length) (N M : Nat) (hlN : l.length ≤ N) (hN : N ≤ 90000) (hmM : m.length ≤ M) (hM : M ≤ 90000) :
  Calls Tryz.prog 169 #[u, v] w (LongPost N M (Oh.val l) (Oh.val m) w) := by
 by_cases h2 : 2 ≤ m.length
 ·exact rlong_many l m u v w hu hv hl hm h2 N M hlN hN hmM hM
 ·match m, hm, hm2, h2, hv, hmM with
  | [b], hm, _, _, hv, hmM =>
   have hb := Oh.nm_pos hm (by simp)
   have hb2 : b < 65536 := hm.1 b (by simp)
   have e : Oh.val [b] = b := by simp [Oh.val]
   rw [e] at hb ⊢
   refine (rlong_one l b u v w hu hv hl hb hb2 N hlN hN).mono ?_
   rintro e w' ⟨qa, qk, qc, ra, rk, rc, q, r, h1, h3, h4, h5, h6, h7, h8, h9, h10, h11⟩
   exact ⟨qa, qk, qc, ra, rk, rc, q, r, h1, h3, h4, h5, h6, h7, h8, h9, by simp at hmM; omega, h11⟩
  | [], _, hm2, _, _, _ => exact absurd hm2 (by simp)
  | _ :: _ :: _, _, _, h2, _, _ => exact absurd h2 (by simp)
end Go.Proofs.YtlfiakpmnkhcdaaGreat
