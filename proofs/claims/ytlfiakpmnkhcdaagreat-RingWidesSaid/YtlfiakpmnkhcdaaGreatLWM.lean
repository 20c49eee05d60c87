import Derived.Test.YtlfiakpmnkhcdaaGreatLQa
import Derived.Deep.QuietTactic
import Derived.BigQuiet
namespace Go.Proofs.YtlfiakpmnkhcdaaGreat
open Go.RowKit
set_option linter.unusedVariables false
theorem wpList_app {ops : Array Oper} {rest : List Oper} {o : Oper} {a : Act} {w : World} {Q : Exit → Act → World → Prop} (hgd : o.guard = none) (s x : Operand)
  (ho : o.op = .call { callee := .builtin .append, args := #[s, x], argTypes := #[23, 23] }) (hty : o.type = 23)
  (base : Nat) (v : Value) (l0 : List Nat) (hs : a.eval s = v) (hown : Own1 w base v l0) (u : Value) (m : List Nat) (hx : a.eval x = u) (hu : HasD w u m) (hlen : l0.length + m.length ≤ 1000000) (hbase : base ≤ w.heap.size)
  (h : ∀ v' w', Own1 w' base v' (l0 ++ m) → w.grownBy w' v.ownBlock → wpList Tryz.prog ops Q rest (a.put o.dst v') w') : wpList Tryz.prog ops Q (o :: rest) a w := by
 refine wpList_plain hgd fun K hK => ?_
 obtain ⟨v', w', hr, h2, h3⟩ := run_app w base v l0 hown u m hu hlen hbase
 unfold Oper.wp execOp
 simp only [ho, hty, resolve, invoke, builtin, Sem.run_bind, Sem.run_pure, Result.andThen_ok, List.map_toArray, List.map_cons, List.map_nil, hs, hx, hr]
 exact hK _ _ (h v' w' h2 h3)
theorem HasD.one (W : World) (E : Int) (d : Nat) (hE : E = (d : Int)) (hd : d < 4294967296) : HasD (W.alloc (.cells #[.int .u32 E] 22)) (.slice (some ⟨W.heap.size, 0, none⟩) 1 1) [d] := by
 subst hE
 refine ⟨fun x hx => by simp at hx; omega, _, 1, rfl, by simp, by omega, fun i hi => ?_⟩
 have : i = 0 := by simp at hi; exact hi
 subst this
 exact ⟨_, 0, rfl, by simp [go_sem]⟩
theorem Own1.nil (w : World) (base : Nat) : Own1 w base (.slice none 0 0) [] := ⟨Ow.dg_nil, World.ownsRow_nil _ _ _ _⟩
theorem Own1.alloc {w : World} {base : Nat} {v : Value} {l : List Nat} (h : Own1 w base v l) (o : Obj) : Own1 (w.alloc o) base v l := ⟨h.1, h.2.alloc _⟩
theorem Own1.block {W : World} {base : Nat} {v : Value} {l : List Nat} (h : Own1 W base v l) : ∀ g, v.ownBlock = some g → base ≤ g := by
 intro g hg
 rcases h.2.2 with ⟨rfl, _⟩ | ⟨b, cap, cur, rfl, hb, _⟩
 ·simp [Value.ownBlock] at hg
 ·simp only [Value.ownBlock, Option.some.injEq] at hg; omega
theorem grown_below {W W1 : World} {base : Nat} {v : Value} {l : List Nat} {o : Obj} (hown : Own1 W base v l) (hg : (W.alloc o).grownBy W1 v.ownBlock) (hb : base ≤ W.heap.size) : Below base W W1 :=
 Below.grown (Below.alloc (Below.refl _ _) hb o) hg (by rw [World.size_alloc]; omega) hown.block
theorem below_keeps {B : Nat} {a b : World} (h : Below B a b) {p : Addr} {v : Value} (hp : p.block < B) (hv : a.cell? p = some v) : b.cell? p = some v := (h.cell hp).trans hv
theorem below_frozen {B : Nat} {a b : World} (h : Below B a b) {p : Addr} {x : Bool} (hp : p.block < B) (hv : a.frozen? p = x) : b.frozen? p = x := (h.frozen hp).trans hv
theorem form_at {neg : Bool} {s : ByteArray} (h : Form neg s) (j : Nat) (hj : j < s.size) : s[j].toNat = (zOf neg s).natAbs / 256 ^ (s.size - 1 - j) % 256 := by
 have hs := form_str h
 have hl : (Ow.byt (zOf neg s).natAbs).length = s.size := by
  have := bstr_size (zOf neg s).natAbs
  rw [← hs] at this; exact this.symm
 have hb := Ow.byt_at (zOf neg s).natAbs (s.size - 1 - j) (by omega)
 rw [hl, show s.size - 1 - (s.size - 1 - j) = j by omega] at hb
 have hd : s.data.toList = Ow.byt (zOf neg s).natAbs := by
  have := bstr_list (zOf neg s).natAbs
  rw [← hs] at this; exact this
 rw [← hd] at hb
 have hj2 : j < s.data.toList.length := by rw [list_len]; exact hj
 rw [List.getElem?_eq_getElem hj2] at hb
 have hb := Option.some.inj hb
 have e : s[j] = s.data.toList[j] := rfl
 rw [e, hb, UInt8.toNat_ofNat']
 omega
theorem Own1.slice {W : World} {base : Nat} {v : Value} {l : List Nat} (h : Own1 W base v l) {n : Nat} (hn : l.length = n) : ∃ a cap, v = .slice a n cap := by
 obtain ⟨-, a, cap, rfl, -⟩ := h.hasD
 exact ⟨a, cap, by rw [hn]⟩
theorem Own1.setCell {w : World} {base : Nat} {v : Value} {l : List Nat} (h : Own1 w base v l) {p : Addr} (hp : p.block < base) (u : Value) : Own1 (w.setCell p u) base v l := by
 refine ⟨h.1, h.2.1, ?_⟩
 rcases h.2.2 with hh | ⟨g, cap, cur, e, hb, hg, hr⟩
 ·exact .inl hh
 ·exact .inr ⟨g, cap, cur, e, hb, (Below.heap_setCell w p u g (by omega)).trans hg, hr⟩
set_option maxRecDepth 100000 in
set_option maxHeartbeats 2000000 in
theorem rin_any (neg : Bool) (s : ByteArray) (w : World) (h : Form neg s) :
  Calls Tryz.prog 89 #[.agg #[.bool neg, .string s]] w (NumZ ((s.size + 1) / 2) (zOf neg s) w) := by
 obtain ⟨n, hn⟩ : ∃ n, n = s.size := ⟨_, rfl⟩
 have hs : n ≤ 256 := by rw [hn]; rcases h with ⟨h0, _⟩ | ⟨_, h2, _⟩ <;> omega
 obtain ⟨M, hM⟩ : ∃ M, M = (zOf neg s).natAbs := ⟨_, rfl⟩
 have HB := Lib.hid (show ∀ j (hj : j < s.size), s[j].toNat = M / 256 ^ (n - 1 - j) % 256 from fun j hj => by rw [hM, hn]; exact form_at h j hj)
 have HM := Lib.hid hM
 have HN := Lib.hid hn
 have HF := Lib.hid h
 have HLT := Lib.hid (show M < 256 ^ n by
  have := Ow.byt_lt M
  have e := bstr_size M
  rw [← e, hM, ← form_str h, ← hn, ← hM] at this; exact this)
 rw [← hn]
 have i0 : (s.size : Int) = (n : Int) := by omega
 clear h hM hn
 go_enter Tryz.func89, Tryz.ntmps89
 go_wp2_with fail
 obtain ⟨W, hW⟩ : ∃ W : World, W = (((w.alloc (.cells #[.bool neg, .string s] 50)).alloc (.cells #[.bool false, .slice none 0 0] 101)).alloc (.cells #[.bool neg, .slice none 0 0] 101)) := ⟨_, rfl⟩
 rw [← hW]
 have g1 : Gr w W := by rw [hW]; exact ((((Gr.refl _).alloc _).alloc _).alloc _)
 have x0 : W.cell? ⟨w.heap.size, 0, none⟩ = some (.bool neg) := by rw [hW]; simp [go_sem]
 have x1 : W.cell? ⟨w.heap.size, 1, none⟩ = some (.string s) := by rw [hW]; simp [go_sem]
 have r0 : W.cell? ⟨w.heap.size + 1, 0, none⟩ = some (.bool false) := by rw [hW]; simp [go_sem]
 have er0 : W.frozen? ⟨w.heap.size + 1, 0, none⟩ = false := by rw [hW]; simp [go_sem]
 have r1 : W.cell? ⟨w.heap.size + 1, 1, none⟩ = some (.slice none 0 0) := by rw [hW]; simp [go_sem]
 have er1 : W.frozen? ⟨w.heap.size + 1, 1, none⟩ = false := by rw [hW]; simp [go_sem]
 have o0 : W.cell? ⟨w.heap.size + 1 + 1, 0, none⟩ = some (.bool neg) := by rw [hW]; simp [go_sem]
 have eo0 : W.frozen? ⟨w.heap.size + 1 + 1, 0, none⟩ = false := by rw [hW]; simp [go_sem]
 have o1 : W.cell? ⟨w.heap.size + 1 + 1, 1, none⟩ = some (.slice none 0 0) := by rw [hW]; simp [go_sem]
 have eo1 : W.frozen? ⟨w.heap.size + 1 + 1, 1, none⟩ = false := by rw [hW]; simp [go_sem]
 have hsz : W.heap.size = w.heap.size + 1 + 1 + 1 := by rw [hW]; simp
 have HG := Lib.hid g1
 have HSZ := Lib.hid hsz
 clear hW g1 hsz
 have Hx0 := Lib.hid x0
 have Hx1 := Lib.hid x1
 have Hr0 := Lib.hid r0
 have Her0 := Lib.hid er0
 have Hr1 := Lib.hid r1
 have Her1 := Lib.hid er1
 have Ho0 := Lib.hid o0
 have Heo0 := Lib.hid eo0
 have Ho1 := Lib.hid o1
 have Heo1 := Lib.hid eo1
 clear x0 x1 r0 er0 r1 er1 o0 eo0 o1 eo1
 clear Hx0
 go_loopw [4] (fun i wr => ∃ (k : Nat) (a : Option Addr) (cap : Nat), i = .int .i64 ((n : Int) - 1 - 2 * (k : Int)) ∧ 2 * k ≤ n + 1 ∧ wr.cell? ⟨w.heap.size + 1 + 1, 1, none⟩ = some (.slice a k cap) ∧ Own1 wr (w.heap.size + 1 + 1 + 1) (.slice a k cap) (Oh.digs k M) ∧ wr.frozen? ⟨w.heap.size + 1 + 1, 1, none⟩ = false ∧ Below (w.heap.size + 1 + 1) W wr ∧ wr.cell? ⟨w.heap.size + 1 + 1, 0, none⟩ = some (.bool neg) ∧ w.heap.size + 1 + 1 + 1 ≤ wr.heap.size) (fun i _ => (intOf i + 2).toNat)
 case atStart => exact ⟨0, none, 0, by simp, by omega, Ho1.out, Own1.nil _ _, Heo1.out, Below.refl _ _, Ho0.out, by rw [HSZ.out]; omega⟩
 case round =>
  obtain ⟨wo, rfl⟩ : ∃ wo : World, wo = wr := ⟨_, rfl⟩
  obtain ⟨k, a, cap, rfl, hk, hc, hown, hfr, hbel, hc0, hsz⟩ := hrel
  have HOWN := Lib.hid hown
  have HBEL := Lib.hid hbel
  have HC := Lib.hid hc
  have HFR := Lib.hid hfr
  have HC0 := Lib.hid hc0
  clear hown hbel hc hfr hc0
  by_cases hlt : 2 * k < n
  ·obtain ⟨j, hj⟩ : ∃ j, n = j + 1 + 2 * k := ⟨n - 1 - 2 * k, by omega⟩
   have hi : (n : Int) - 1 - 2 * (k : Int) = (j : Int) := by omega
   rw [hi]
   have x1 := below_keeps HBEL.out (p := ⟨w.heap.size, 1, none⟩) (by simp; omega) Hx1.out
   have hc := HC.out
   have hfr := HFR.out
   have HJ := Lib.hid hj
   have HI := Lib.hid hi
   clear hi hj
   rcases j with _ | j'
   ·have hjs : 0 < s.size := by have := HN.out; omega
    have e1 := HB.out 0 hjs
    rw [show n - 1 - 0 = 2 * k by have := HJ.out; omega] at e1
    have hword := Oh.word_one M k (by have := HLT.out; rw [show 2 * k + 1 = n by have := HJ.out; omega]; exact this)
    rw [← e1] at hword
    have HW := Lib.hid hword
    have hb1 : (s[0].toNat : Int) < 256 := by have := s[0].toNat_lt; omega
    have hb0 : (0 : Int) ≤ (s[0].toNat : Int) := by omega
    clear hword e1
    go_wp2_with (at_builtin; refine wpList_app rfl _ _ rfl rfl (w.heap.size + 1 + 1 + 1) _ (Oh.digs k M) rfl (HOWN.out.alloc _) _ [M / 65536 ^ k % 65536] rfl (HasD.one _ _ _ (by have := HW.out; omega) (by omega)) (by rw [Oh.digs_len]; simp; omega) (by rw [World.size_alloc]; omega) ?_; intro v' w1 hown' hgrow; (have hbl := grown_below HOWN.out hgrow hsz); (obtain ⟨a', cap', rfl⟩ := hown'.slice (n := k + 1) (by rw [List.length_append, Oh.digs_len]; rfl)); (have hc1 := below_keeps hbl (by simp) hc); (have hf1 := below_frozen hbl (by simp) hfr); have HOWN2 := Lib.hid hown'; have HBL := Lib.hid hbl; clear hown' hgrow hbl)
    exact ⟨⟨k + 1, a', cap', by have := HI.out; rw [show (n : Int) - 1 - 2 * ((k + 1 : Nat) : Int) = -2 by omega], by omega, World.cell?_setCell_same w1 _ _ hc1, HOWN2.out.setCell (by simp) _, by rw [frozen_set]; exact hf1, (HBEL.out.trans (HBL.out.mono (by omega))).setCell (Nat.le_refl _) _, (cell_other (by simp) _).trans (below_keeps HBL.out (by simp) HC0.out), by have := HBL.out.size; simp; omega⟩, by simp [intOf]⟩
   ·have hjs : j' + 1 < s.size := by have := HJ.out; have := HN.out; omega
    have hjs2 : j' < s.size := by omega
    have e1 := HB.out (j' + 1) hjs
    rw [show n - 1 - (j' + 1) = 2 * k by have := HJ.out; omega] at e1
    have e2 := HB.out j' hjs2
    rw [show n - 1 - j' = 2 * k + 1 by have := HJ.out; omega] at e2
    have hword := Oh.word_two M k
    rw [← e1, ← e2] at hword
    have HW := Lib.hid hword
    have hb1 : (s[j' + 1].toNat : Int) < 256 := by have := s[j' + 1].toNat_lt; omega
    have hb0 : (0 : Int) ≤ (s[j' + 1].toNat : Int) := by omega
    have hb3 : (s[j'].toNat : Int) < 256 := by have := s[j'].toNat_lt; omega
    have hb2 : (0 : Int) ≤ (s[j'].toNat : Int) := by omega
    clear hword e1 e2
    go_wp2_with (at_builtin; refine wpList_app rfl _ _ rfl rfl (w.heap.size + 1 + 1 + 1) _ (Oh.digs k M) rfl (HOWN.out.alloc _) _ [M / 65536 ^ k % 65536] rfl (HasD.one _ _ _ (by have := HW.out; omega) (by omega)) (by rw [Oh.digs_len]; simp; omega) (by rw [World.size_alloc]; omega) ?_; intro v' w1 hown' hgrow; (have hbl := grown_below HOWN.out hgrow hsz); (obtain ⟨a', cap', rfl⟩ := hown'.slice (n := k + 1) (by rw [List.length_append, Oh.digs_len]; rfl)); (have hc1 := below_keeps hbl (by simp) hc); (have hf1 := below_frozen hbl (by simp) hfr); have HOWN2 := Lib.hid hown'; have HBL := Lib.hid hbl; clear hown' hgrow hbl)
    exact ⟨⟨k + 1, a', cap', by have := HI.out; rw [show (n : Int) - 1 - 2 * ((k + 1 : Nat) : Int) = (j' : Int) + 1 - 2 by omega], by omega, World.cell?_setCell_same w1 _ _ hc1, HOWN2.out.setCell (by simp) _, by rw [frozen_set]; exact hf1, (HBEL.out.trans (HBL.out.mono (by omega))).setCell (Nat.le_refl _) _, (cell_other (by simp) _).trans (below_keeps HBL.out (by simp) HC0.out), by have := HBL.out.size; simp; omega⟩, by simp [intOf]; omega⟩
  ·have i1 : (n : Int) - 1 - 2 * (k : Int) < 0 := by omega
   have hc := HC.out
   have hfr := HFR.out
   have hc0 := HC0.out
   have r0 := below_keeps HBEL.out (p := ⟨w.heap.size + 1, 0, none⟩) (by simp) Hr0.out
   have r1 := below_keeps HBEL.out (p := ⟨w.heap.size + 1, 1, none⟩) (by simp) Hr1.out
   have e0 := below_frozen HBEL.out (p := ⟨w.heap.size + 1, 0, none⟩) (by simp) Her0.out
   have e1 := below_frozen HBEL.out (p := ⟨w.heap.size + 1, 1, none⟩) (by simp) Her1.out
   obtain ⟨ng, hng⟩ : ∃ b, b = neg := ⟨_, rfl⟩
   go_wp2_with fail
   refine bodyPost_ret (v := .agg #[.bool neg, .slice a k cap]) (by simp [results, Tryz.results89, go_sem, r0, r1]) rfl ?_
   have hkk : (n + 1) / 2 = k := by omega
   rw [hkk]
   have hM : M < 65536 ^ k := Nat.lt_of_lt_of_le HLT.out (by rw [Oh.pow256]; exact Nat.pow_le_pow_right (by omega) (by omega))
   have hd := HOWN.out.hasD
   refine numz_stored (z' := zOf neg s) rfl (form_neg HF.out) hd (Oh.digs_nm hM ?_) (by rw [Oh.digs_all hM]; exact HM.out) (by rw [Oh.digs_len]; exact Nat.le_refl _) (Below.trans HG.out (HBEL.out.mono (by omega))) (by omega) r0 r1 (by simp) (by simp)
   rcases Nat.eq_zero_or_pos n with h0 | h0
   ·exact .inl (by omega)
   ·right
    have hp := form_pos HF.out (by rw [← HN.out]; exact h0)
    rw [← HM.out, ← HN.out] at hp
    exact Nat.le_trans (by rw [Oh.pow256]; exact Nat.pow_le_pow_right (by omega) (by omega)) hp
end Go.Proofs.YtlfiakpmnkhcdaaGreat
namespace Go.Proofs.YtlfiakpmnkhcdaaGreat
open Go.RowKit
set_option linter.unusedVariables false
set_option maxRecDepth 100000 in
set_option maxHeartbeats 2000000 in
theorem rorder_any (l m : List Nat) (u v : Value) (w : World) (hu : HasD w u l) (hv : HasD w v m) (hl : Oh.Nm l) (hm : Oh.Nm m) :
  Calls Tryz.prog 124 #[u, v] w (CmpPost (sgn (Oh.val l) (Oh.val m)) w) := by
 obtain ⟨du0, a, cap, rfl, u1, u2, uc⟩ := hu
 obtain ⟨dv0, b, cap', rfl, v1, v2, vc⟩ := hv
 have du := hl.1
 have dv := hm.1
 obtain ⟨len, hlen⟩ : ∃ len, len = l.length := ⟨_, rfl⟩
 obtain ⟨len', hlen'⟩ : ∃ len', len' = m.length := ⟨_, rfl⟩
 rw [← hlen] at u1 ⊢
 rw [← hlen'] at v1 ⊢
 have HU := Lib.hid uc
 have HV := Lib.hid vc
 have HDU := Lib.hid du
 have HDV := Lib.hid dv
 have HL := Lib.hid hlen
 have HM := Lib.hid hlen'
 have HNL := Lib.hid hl
 have HNM := Lib.hid hm
 clear uc vc du dv du0 dv0 hlen hlen' hl hm
 by_cases hne : len = len'
 ·have HE := Lib.hid hne
  have hb : ((len : Int) != (len' : Int)) = false := by simp; omega
  clear hne
  go_enter Tryz.func124, Tryz.ntmps124
  go_wp2_with fail
  go_loopw [5] (fun i wr => ∃ k : Nat, i = .int .i64 ((k : Int) - 1) ∧ k ≤ len ∧ l.drop k = m.drop k ∧ Gr w wr) (fun i _ => (intOf i + 1).toNat)
  case atStart => exact ⟨len, rfl, by omega, by rw [HL.out, List.drop_length, ← HL.out, HE.out, HM.out, List.drop_length], Gr.refl _⟩
  case round =>
   obtain ⟨k, rfl, hk, hd, g1⟩ := hrel
   have HDR := Lib.hid hd
   clear hd
   rcases k with _ | j
   ·have HEQ := Lib.hid (show Oh.val l = Oh.val m from by have := HDR.out; simp at this; rw [this])
    have t0 : decide ((0 : Int) ≤ ((0 : Nat) : Int) - 1) = false := by simp
    go_wp2_with fail
    go_ret
    exact ⟨ret_int (by rw [sgn_eq (by have := HEQ.out; omega)]), g1⟩
   ·rw [show ((j + 1 : Nat) : Int) - 1 = (j : Int) by omega]
    have hjl : j < l.length := by rw [← HL.out]; omega
    have hjm : j < m.length := by rw [← HM.out, ← HE.out]; omega
    obtain ⟨ga, oa, rfl, ca⟩ := HU.out j hjl
    obtain ⟨gb, ob, rfl, cb⟩ := HV.out j hjm
    have ca' := g1.keeps ca
    have cb' := g1.keeps cb
    have hx := HDU.out (l[j]?.getD 0) (by rw [List.getElem?_eq_getElem hjl]; exact List.getElem_mem hjl)
    have hy := HDV.out (m[j]?.getD 0) (by rw [List.getElem?_eq_getElem hjm]; exact List.getElem_mem hjm)
    obtain ⟨x, hxe⟩ : ∃ x, x = l[j]?.getD 0 := ⟨_, rfl⟩
    obtain ⟨y, hye⟩ : ∃ y, y = m[j]?.getD 0 := ⟨_, rfl⟩
    rw [← hxe] at ca' hx
    rw [← hye] at cb' hy
    have HX := Lib.hid hxe
    have HY := Lib.hid hye
    have HJL := Lib.hid hjl
    have HJM := Lib.hid hjm
    clear hxe hye hjl hjm ca cb
    have i1 : (j : Int) < (len : Int) := by omega
    have i2 : (j : Int) < (len' : Int) := by have := HE.out; omega
    have i3 : (0 : Int) ≤ (j : Int) := by omega
    by_cases hxy : x = y
    ·have t1 : ((x : Int) != (y : Int)) = false := by simp; omega
     have HXY := Lib.hid hxy
     clear hxy
     go_wp2_with fail
     go_quiet (fail)
     go_wp2_with fail
     go_roundw
     case rel => exact ⟨j, by simp, by omega, Oh.drop_prev HJL.out HJM.out HDR.out (by rw [← HX.out, ← HY.out]; exact HXY.out), g1.drewN _⟩
     case measure => simp [intOf]
    ·have t1 : ((x : Int) != (y : Int)) = true := by simp; omega
     have HS := Lib.hid (show sgn x y = sgn (Oh.val l) (Oh.val m) from by
      rcases Nat.lt_or_gt_of_ne hxy with h | h
      ·have := Oh.val_lt_of HDU.out HDV.out HJL.out HJM.out HDR.out (by rw [← HX.out, ← HY.out]; exact h)
       rw [sgn_lt (by omega), sgn_lt (by omega)]
      ·have := Oh.val_lt_of HDV.out HDU.out HJM.out HJL.out HDR.out.symm (by rw [← HX.out, ← HY.out]; exact h)
       rw [sgn_gt (by omega), sgn_gt (by omega)])
     have hcase : x < y ∨ y < x := by omega
     clear hxy
     go_wp2_with fail
     go_quiet (fail)
     have g2 : Gr w (wr.drewN nq) := g1.drewN _
     have ca2 : (wr.drewN nq).cell? _ = _ := (show Gr wr (wr.drewN nq) from (Gr.refl wr).drewN _).keeps ca'
     have cb2 : (wr.drewN nq).cell? _ = _ := (show Gr wr (wr.drewN nq) from (Gr.refl wr).drewN _).keeps cb'
     clear ca' cb' g1
     generalize wr.drewN nq = w2 at *
     rcases hcase with h | h
     ·have t2 : decide ((x : Int) < (y : Int)) = true := by simp; omega
      have t3 : decide (x < y) = true := by simp; omega
      have HH := Lib.hid h
      clear h
      go_wp2_with fail
      go_quiet (fail)
      go_wp2_with fail
      go_ret
      exact ⟨ret_int (by rw [← HS.out, sgn_lt (by have := HH.out; omega)]), g2.drewN _⟩
     ·have t2 : decide ((x : Int) < (y : Int)) = false := by simp; omega
      have t3 : decide (x < y) = false := by simp; omega
      have HH := Lib.hid h
      clear h
      go_wp2_with fail
      go_quiet (fail)
      go_wp2_with fail
      go_ret
      exact ⟨ret_int (by rw [← HS.out, sgn_gt (by have := HH.out; omega)]), g2.drewN _⟩
 ·have hb : ((len : Int) != (len' : Int)) = true := by simp; omega
  rcases Nat.lt_or_gt_of_ne hne with h | h
  ·have HS := Lib.hid (show sgn (Oh.val l) (Oh.val m) = -1 from by
    have := Oh.val_short HNL.out HNM.out (by rw [← HL.out, ← HM.out]; exact h)
    rw [sgn_lt (by omega)])
   have t2 : decide ((len : Int) < (len' : Int)) = true := by simp; omega
   have t3 : decide (len < len') = true := by simp; omega
   clear h hne
   go_enter Tryz.func124, Tryz.ntmps124
   go_wp2_with fail
   go_ret
   exact ⟨ret_int HS.out.symm, Gr.refl _⟩
  ·have HS := Lib.hid (show sgn (Oh.val l) (Oh.val m) = 1 from by
    have := Oh.val_short HNM.out HNL.out (by rw [← HL.out, ← HM.out]; exact h)
    rw [sgn_gt (by omega)])
   have t2 : decide ((len : Int) < (len' : Int)) = false := by simp; omega
   have t3 : decide (len < len') = false := by simp; omega
   clear h hne
   go_enter Tryz.func124, Tryz.ntmps124
   go_wp2_with fail
   go_ret
   exact ⟨ret_int HS.out.symm, Gr.refl _⟩
def WordPost (N n : Nat) (w : World) (e : Ending) (w' : World) : Prop := ∃ v l, e = .returned v ∧ HasD w' v l ∧ Oh.Dg l ∧ Oh.val l = n ∧ l.length ≤ N ∧ Gr w w'
theorem HasD.at {W : World} {a : Option Addr} {n cap : Nat} {l : List Nat} (h : HasD W (.slice a n cap) l) {i : Nat} (hi : i < l.length) : ∃ g o, a = some ⟨g, o, none⟩ ∧ W.cell? ⟨g, o + i, none⟩ = some (.int .u32 ((l[i]?.getD 0 : Nat) : Int)) := by
 obtain ⟨_, a', cap', e, _, _, hc⟩ := h
 simp only [Value.slice.injEq] at e
 obtain ⟨rfl, -, -⟩ := e
 exact hc i hi
theorem HasD.len {W : World} {a : Option Addr} {n cap : Nat} {l : List Nat} (h : HasD W (.slice a n cap) l) : n = l.length ∧ n ≤ cap ∧ cap ≤ 9223372036854775807 := by
 obtain ⟨_, a', cap', e, h1, h2, _⟩ := h
 simp only [Value.slice.injEq] at e
 obtain ⟨-, rfl, rfl⟩ := e
 exact ⟨rfl, h1, h2⟩
theorem none_at {l : List Nat} {k : Nat} (h : l.length ≤ k) : l[k]?.getD 0 = 0 := by rw [List.getElem?_eq_none h]; rfl
set_option maxRecDepth 100000 in
set_option maxHeartbeats 4000000 in
theorem rplus_any (l m : List Nat) (u v : Value) (w : World) (hu : HasD w u l) (hv : HasD w v m) (hl : Oh.Dg l) (hm : Oh.Dg m) (N : Nat) (hlN : l.length ≤ N) (hmN : m.length ≤ N) (hN : N ≤ 100000) :
  Calls Tryz.prog 123 #[u, v] w (WordPost (N + 1) (Oh.val l + Oh.val m) w) := by
 obtain ⟨-, a, cap, rfl, u1, u2, -⟩ := id hu
 obtain ⟨-, b, cap', rfl, v1, v2, -⟩ := id hv
 have HU := Lib.hid hu
 have HV := Lib.hid hv
 have HL := Lib.hid hl
 have HM := Lib.hid hm
 obtain ⟨len, hlen⟩ : ∃ len, len = l.length := ⟨_, rfl⟩
 obtain ⟨len', hlen'⟩ : ∃ len', len' = m.length := ⟨_, rfl⟩
 rw [← hlen] at u1 hlN HU ⊢
 rw [← hlen'] at v1 hmN HV ⊢
 have HLEN := Lib.hid hlen
 have HLEN' := Lib.hid hlen'
 clear hu hv hl hm hlen hlen'
 go_enter Tryz.func123, Tryz.ntmps123
 go_wp2_with fail
 go_loopw [5, 6, 7] (fun t c i wr => ∃ (k cr : Nat) (pre : List Nat) (ar : Option Addr) (capr : Nat), i = .int .i64 k ∧ c = .int .u32 cr ∧ t = .slice ar k capr ∧ cr ≤ 1 ∧ k ≤ N + 1 ∧ Oh.SumI l m k pre cr ∧ Own1 wr w.heap.size (.slice ar k capr) pre ∧ Gr w wr) (fun _ _ i _ => N + 1 - (intOf i).toNat)
 case atStart => exact ⟨0, 0, [], none, 0, rfl, rfl, rfl, by omega, by omega, Oh.SumI.start _ _, Own1.nil _ _, Gr.refl _⟩
 case round =>
  obtain ⟨wo, rfl⟩ : ∃ wo : World, wo = wr := ⟨_, rfl⟩
  obtain ⟨k, cr, pre, ar, capr, rfl, rfl, rfl, hcr, hk, hsum, hown, hgr⟩ := hrel
  have HSUM := Lib.hid hsum
  have HOWN := Lib.hid hown
  have HGR := Lib.hid hgr
  have hsz := hgr.size
  clear hsum hown hgr
  obtain ⟨x, hx⟩ : ∃ x, x = l[k]?.getD 0 := ⟨_, rfl⟩
  obtain ⟨y, hy⟩ : ∃ y, y = m[k]?.getD 0 := ⟨_, rfl⟩
  have hxb : x < 65536 := by rw [hx]; exact Oh.dg_at HL.out k
  have hyb : y < 65536 := by rw [hy]; exact Oh.dg_at HM.out k
  have HST := Lib.hid (HSUM.out.step HL.out HM.out)
  rw [← hx, ← hy] at HST
  have HX := Lib.hid hx
  have HY := Lib.hid hy
  clear hx hy
  obtain ⟨ss, hss⟩ : ∃ ss, ss = x + y + cr := ⟨_, rfl⟩
  rw [← hss] at HST
  have HSS := Lib.hid hss
  have hssb : ss ≤ 131071 := by omega
  clear hss
  have pl : pre.length = k := HSUM.out.1
  have HPL := Lib.hid pl
  clear pl
  by_cases h1 : k < len
  ·by_cases h2 : k < len'
   ·have HKN := Lib.hid (show k < N + 1 by omega)
    obtain ⟨ga, oa, rfl, ca⟩ := HU.out.at (i := k) (by rw [← HLEN.out]; omega)
    have ca := HGR.out.keeps ca
    rw [← HX.out] at ca
    have q1 : decide ((k : Int) < (len : Int)) = true := by simp; omega
    have q1' : decide (k < len) = true := by simp; omega
    have HXZ := Lib.hid (show (0 : Int) = 0 from rfl)
    obtain ⟨gb, ob, rfl, cb⟩ := HV.out.at (i := k) (by rw [← HLEN'.out]; omega)
    have cb := HGR.out.keeps cb
    rw [← HY.out] at cb
    have q2 : decide ((k : Int) < (len' : Int)) = true := by simp; omega
    have q2' : decide (k < len') = true := by simp; omega
    have HYZ := Lib.hid (show (0 : Int) = 0 from rfl)
    go_wp2_with (at_builtin; refine wpList_app rfl _ _ rfl rfl w.heap.size _ pre rfl (HOWN.out.alloc _) _ [ss % 65536] rfl (HasD.one _ _ _ (by have := HSS.out; have := HXZ.out; have := HYZ.out; omega) (by omega)) (by rw [HPL.out]; simp; omega) (by rw [World.size_alloc]; omega) ?_; intro v' w1 hown' hgrow; (have hbl := grown_below HOWN.out hgrow hsz); (obtain ⟨a', cap', rfl⟩ := hown'.slice (n := k + 1) (by rw [List.length_append, HPL.out]; rfl)); have HOWN2 := Lib.hid hown'; have HBL := Lib.hid hbl; clear hown' hgrow hbl)
    exact ⟨⟨k + 1, ss / 65536, _, a', cap', by simp, by congr 1; have := HSS.out; have := HXZ.out; have := HYZ.out; omega, rfl, by omega, by have := HKN.out; omega, HST.out, HOWN2.out, Below.trans HGR.out HBL.out⟩, by have := HKN.out; simp [intOf]; omega⟩
   ·have HKN := Lib.hid (show k < N + 1 by omega)
    obtain ⟨ga, oa, rfl, ca⟩ := HU.out.at (i := k) (by rw [← HLEN.out]; omega)
    have ca := HGR.out.keeps ca
    rw [← HX.out] at ca
    have q1 : decide ((k : Int) < (len : Int)) = true := by simp; omega
    have q1' : decide (k < len) = true := by simp; omega
    have HXZ := Lib.hid (show (0 : Int) = 0 from rfl)
    have q2 : decide ((k : Int) < (len' : Int)) = false := by simp; omega
    have q2' : decide (k < len') = false := by simp; omega
    have HYZ := Lib.hid (show y = 0 by rw [HY.out]; exact none_at (by rw [← HLEN'.out]; omega))
    go_wp2_with (at_builtin; refine wpList_app rfl _ _ rfl rfl w.heap.size _ pre rfl (HOWN.out.alloc _) _ [ss % 65536] rfl (HasD.one _ _ _ (by have := HSS.out; have := HXZ.out; have := HYZ.out; omega) (by omega)) (by rw [HPL.out]; simp; omega) (by rw [World.size_alloc]; omega) ?_; intro v' w1 hown' hgrow; (have hbl := grown_below HOWN.out hgrow hsz); (obtain ⟨a', cap', rfl⟩ := hown'.slice (n := k + 1) (by rw [List.length_append, HPL.out]; rfl)); have HOWN2 := Lib.hid hown'; have HBL := Lib.hid hbl; clear hown' hgrow hbl)
    exact ⟨⟨k + 1, ss / 65536, _, a', cap', by simp, by congr 1; have := HSS.out; have := HXZ.out; have := HYZ.out; omega, rfl, by omega, by have := HKN.out; omega, HST.out, HOWN2.out, Below.trans HGR.out HBL.out⟩, by have := HKN.out; simp [intOf]; omega⟩
  ·by_cases h2 : k < len'
   ·have HKN := Lib.hid (show k < N + 1 by omega)
    have q1 : decide ((k : Int) < (len : Int)) = false := by simp; omega
    have q1' : decide (k < len) = false := by simp; omega
    have HXZ := Lib.hid (show x = 0 by rw [HX.out]; exact none_at (by rw [← HLEN.out]; omega))
    obtain ⟨gb, ob, rfl, cb⟩ := HV.out.at (i := k) (by rw [← HLEN'.out]; omega)
    have cb := HGR.out.keeps cb
    rw [← HY.out] at cb
    have q2 : decide ((k : Int) < (len' : Int)) = true := by simp; omega
    have q2' : decide (k < len') = true := by simp; omega
    have HYZ := Lib.hid (show (0 : Int) = 0 from rfl)
    go_wp2_with (at_builtin; refine wpList_app rfl _ _ rfl rfl w.heap.size _ pre rfl (HOWN.out.alloc _) _ [ss % 65536] rfl (HasD.one _ _ _ (by have := HSS.out; have := HXZ.out; have := HYZ.out; omega) (by omega)) (by rw [HPL.out]; simp; omega) (by rw [World.size_alloc]; omega) ?_; intro v' w1 hown' hgrow; (have hbl := grown_below HOWN.out hgrow hsz); (obtain ⟨a', cap', rfl⟩ := hown'.slice (n := k + 1) (by rw [List.length_append, HPL.out]; rfl)); have HOWN2 := Lib.hid hown'; have HBL := Lib.hid hbl; clear hown' hgrow hbl)
    exact ⟨⟨k + 1, ss / 65536, _, a', cap', by simp, by congr 1; have := HSS.out; have := HXZ.out; have := HYZ.out; omega, rfl, by omega, by have := HKN.out; omega, HST.out, HOWN2.out, Below.trans HGR.out HBL.out⟩, by have := HKN.out; simp [intOf]; omega⟩
   ·by_cases h3 : 0 < cr
    ·have hkN := HSUM.out.more HL.out HM.out h3 (M := N) (by rw [← HLEN.out]; exact hlN) (by rw [← HLEN'.out]; exact hmN)
     have HKN := Lib.hid (show k < N + 1 by omega)
     have q3 : decide ((0 : Int) < (cr : Int)) = true := by simp; omega
     have q3' : decide (0 < cr) = true := by simp; omega
     have q1 : decide ((k : Int) < (len : Int)) = false := by simp; omega
     have q1' : decide (k < len) = false := by simp; omega
     have HXZ := Lib.hid (show x = 0 by rw [HX.out]; exact none_at (by rw [← HLEN.out]; omega))
     have q2 : decide ((k : Int) < (len' : Int)) = false := by simp; omega
     have q2' : decide (k < len') = false := by simp; omega
     have HYZ := Lib.hid (show y = 0 by rw [HY.out]; exact none_at (by rw [← HLEN'.out]; omega))
     go_wp2_with (at_builtin; refine wpList_app rfl _ _ rfl rfl w.heap.size _ pre rfl (HOWN.out.alloc _) _ [ss % 65536] rfl (HasD.one _ _ _ (by have := HSS.out; have := HXZ.out; have := HYZ.out; omega) (by omega)) (by rw [HPL.out]; simp; omega) (by rw [World.size_alloc]; omega) ?_; intro v' w1 hown' hgrow; (have hbl := grown_below HOWN.out hgrow hsz); (obtain ⟨a', cap', rfl⟩ := hown'.slice (n := k + 1) (by rw [List.length_append, HPL.out]; rfl)); have HOWN2 := Lib.hid hown'; have HBL := Lib.hid hbl; clear hown' hgrow hbl)
     exact ⟨⟨k + 1, ss / 65536, _, a', cap', by simp, by congr 1; have := HSS.out; have := HXZ.out; have := HYZ.out; omega, rfl, by omega, by have := HKN.out; omega, HST.out, HOWN2.out, Below.trans HGR.out HBL.out⟩, by have := HKN.out; simp [intOf]; omega⟩
    ·obtain rfl : cr = 0 := by omega
     have q1 : decide ((k : Int) < (len : Int)) = false := by simp; omega
     have q1' : decide (k < len) = false := by simp; omega
     have HXZ := Lib.hid (show x = 0 by rw [HX.out]; exact none_at (by rw [← HLEN.out]; omega))
     have q2 : decide ((k : Int) < (len' : Int)) = false := by simp; omega
     have q2' : decide (k < len') = false := by simp; omega
     have HYZ := Lib.hid (show y = 0 by rw [HY.out]; exact none_at (by rw [← HLEN'.out]; omega))
     go_wp2_with fail
     go_ret
     exact ⟨_, pre, rfl, HOWN.out.hasD, HSUM.out.2.1, HSUM.out.done (by rw [← HLEN.out]; omega) (by rw [← HLEN'.out]; omega), by rw [HPL.out]; exact hk, HGR.out⟩
end Go.Proofs.YtlfiakpmnkhcdaaGreat
