/- The reference: short, Text. -/
import Derived.Test.YtgalgldnhdiggaaDoorPGo
import Derived.Test.YtgalgldnhdiggaaDoorPGk
namespace Go.Proofs.YtgalgldnhdiggaaDoor
open Go.RowKit
set_option linter.unusedVariables false

def ShortPost (N : Nat) (V b : Nat) (w : World) (e : Ending) (w' : World) : Prop := ∃ v q, e = .returned (.tuple #[v, .int .u32 ((V % b : Nat) : Int)]) ∧ HasD w' v q ∧ Oh.Dg q ∧ Oh.val q = V / b ∧ q.length ≤ N ∧ Gr w w'

set_option maxRecDepth 100000 in
set_option maxHeartbeats 2000000 in
theorem rshort_any (l : List Nat) (v : Value) (b : Nat) (w : World) (hv : HasD w v l) (hd : Oh.Dg l) (N : Nat) (hlN : l.length ≤ N) (hN : N ≤ 100000) (hb1 : 1 ≤ b) (hb : b < 65536) :
    Calls Tryd.prog 45 #[v, .int .u32 b] w (ShortPost N (Oh.val l) b w) := by
  obtain ⟨-, a, cap, rfl, v1, v2, cv⟩ := hv
  obtain ⟨len, hlen⟩ : ∃ len, len = l.length := ⟨_, rfl⟩
  rw [← hlen] at v1 hlN ⊢
  have HL := Lib.hid hlen
  have HDV := Lib.hid hd
  have HCV := Lib.hid cv
  have hmk := mk_row len (len : Int) rfl (by omega)
  clear hlen hd cv
  go_enter Tryd.func45, Tryd.ntmps45
  go_wp2_with fail
  clear hmk
  have hrow := Rw.new w (zrow len)
  have g1 : Gr w (w.alloc (.cells (zrow len) 59)) := Gr.new _ _
  have hzs := zrow_size len
  have hz : ∀ k, k < len → (w.alloc (.cells (zrow len) 59)).cell? ⟨w.heap.size, k, none⟩ = some (.int .u32 0) := fun k hk => by
    rw [hrow.cell, zrow_at _ _ hk]
  obtain ⟨W, hW⟩ : ∃ W, W = w.alloc (.cells (zrow len) 59) := ⟨_, rfl⟩
  rw [← hW] at hrow g1 hz ⊢
  clear hW
  have HROW := Lib.hid hrow
  have HZ := Lib.hid hz
  have HG := Lib.hid g1
  have HZS := Lib.hid hzs
  clear hrow hz g1 hzs
  go_loopw [7, 8] (fun t i wr => ∃ k r q, t = .int .u32 (r : Nat) ∧ i = .int .i64 ((k : Nat) - 1) ∧ k ≤ len ∧ Oh.QuoI l b k q r ∧ Upd w.heap.size k q W wr) (fun _ i _ => (intOf i + 1).toNat)
  case atStart => exact ⟨len, 0, [], rfl, rfl, by omega, by rw [HL.out]; exact Oh.QuoI.start l b hb1, Upd.start HROW.out (by rw [HZS.out]; omega)⟩
  case round =>
    obtain ⟨k, r, q, rfl, rfl, hk, hquo, hupd⟩ := hrel
    have hr := hquo.2.2.1
    have HS := Lib.hid hquo
    have HU := Lib.hid hupd
    clear hquo hupd
    rcases k with _ | j
    · rw [show ((0 : Nat) : Int) - 1 = -1 from rfl]
      have hq := HS.out
      obtain ⟨q1, q2, q3, q4⟩ := id hq
      rw [Nat.zero_add] at q1
      rw [List.drop_zero] at q4
      have hd := HU.out.hasD (w := w) (cap := len) q2.wide (by rw [q1, ← HL.out]; omega) (by omega)
      rw [q1, ← HL.out] at hd
      have HD := Lib.hid hd
      have HGG := Lib.hid (HU.out.gr HG.out (Nat.le_refl _))
      have HQ2 := Lib.hid q2
      have HQ1 := Lib.hid q1
      have HQV := Lib.hid (show Oh.val q = Oh.val l / b ∧ r = Oh.val l % b from by
        rw [q4, Nat.mul_comm, Nat.mul_add_div (by omega), Nat.div_eq_of_lt q3, Nat.mul_add_mod, Nat.mod_eq_of_lt q3]
        exact ⟨rfl, rfl⟩)
      clear hd hq q1 q2 q3 q4
      go_wp2_with fail
      go_ret2
      exact ⟨_, q, by rw [← HQV.out.2]; rfl, HD.out, HQ2.out, HQV.out.1, by rw [HQ1.out, ← HL.out]; exact hlN, HGG.out⟩
    · rw [show ((j + 1 : Nat) : Int) - 1 = (j : Int) by omega]
      have hjl : j < len := by omega
      obtain ⟨gb, ob, rfl, c2⟩ := HCV.out j (by rw [← HL.out]; exact hjl)
      have hgb : gb < w.heap.size := World.block_lt_of_cell? w _ c2
      have c2 := HG.out.keeps c2
      have c2 : wr.cell? ⟨gb, ob + j, none⟩ = _ := (HU.out.cell_other (p := ⟨gb, ob + j, none⟩) (fun e => by simp only at e; omega)).trans c2
      have c1 : wr.cell? ⟨w.heap.size, j, none⟩ = some (.int .u32 0) := (HU.out.cell_out (.inl (by omega))).trans (HZ.out j hjl)
      have f1 : wr.frozen? ⟨w.heap.size, j, none⟩ = false := HU.out.frozen _
      have hx := Oh.dg_at HDV.out j
      obtain ⟨p, hpe⟩ : ∃ p, p = r * 65536 + l[j]?.getD 0 := ⟨_, rfl⟩
      have hnx := HS.out.step HDV.out hb hpe
      have hpq := hnx.1
      have HNX := Lib.hid hnx.2
      clear hnx
      obtain ⟨x, hxe⟩ : ∃ x, x = l[j]?.getD 0 := ⟨_, rfl⟩
      rw [← hxe] at c2 hx hpe
      clear hxe
      have i5 : (j : Int) < (len : Int) := by omega
      have i6 : (0 : Int) ≤ (j : Int) := by omega
      have hpb : p ≤ 4294967295 := by omega
      have E0 := Lib.hid (show (r : Int) * 65536 + (x : Int) = (p : Int) by omega)
      have E1 := Lib.hid (show ((p / b : Nat) : Int) = (p : Int) / (b : Int) from Int.natCast_ediv _ _)
      have E3 := Lib.hid (show ((p % b : Nat) : Int) = (p : Int) % (b : Int) from Int.natCast_emod _ _)
      have u1 : (0 : Int) ≤ ((r : Int) * 65536 + (x : Int)) / (b : Int) := Int.ediv_nonneg (by omega) (by omega)
      have u2 : ((r : Int) * 65536 + (x : Int)) / (b : Int) ≤ 4294967295 := by rw [E0.out, ← Int.natCast_ediv]; omega
      have hpm : p % b < b := Nat.mod_lt _ (by omega)
      have u3 : (0 : Int) ≤ ((r : Int) * 65536 + (x : Int)) % (b : Int) := Int.emod_nonneg _ (by omega)
      have u4 : ((r : Int) * 65536 + (x : Int)) % (b : Int) ≤ 4294967295 := by rw [E0.out, ← Int.natCast_emod]; omega
      have hrs : (r : Int) * 65536 + (x : Int) ≤ 4294967295 := by omega
      clear hpe
      go_wp2_with fail
      go_roundw
      case rel => exact ⟨j, p % b, p / b :: q, by rw [E3.out, ← E0.out], rfl, by omega, HNX.out, by have h := HU.out.cons (p / b); rw [E1.out, ← E0.out] at h; exact h⟩
      case measure => simp [intOf]

theorem TextOk.ten {n m q r : Nat} {t : List UInt8} (h : TextOk n m t) (hm : 0 < m) (hq : q = m / 10) (hr : r = m % 10) : TextOk n q ([UInt8.ofNat (48 + r)] ++ t) := by
  have hd := h.1 hm
  subst hq hr
  refine ⟨fun hq => ?_, fun hq => ?_⟩
  · rw [hd]
    conv => lhs; rw [Lib.decDigits]
    rw [dif_neg (by omega), List.append_assoc]
  · rw [hd]
    conv => lhs; rw [Lib.decDigits]
    rw [dif_pos (by omega), show m % 10 = m by omega]
theorem field_words (b : Bool) (a : Option Addr) (n c : Nat) (W : World) : (Instr.field 61 (.agg #[.bool b, .slice a n c]) 1).run Tryd.prog W = .ok (.slice a n c) W := by
  unfold Instr.field
  rw [Sem.run_bind, run_underlying Tryd.underlying61 W]
  simp [part, isAgg, Sem.run_bind, run_underlying Tryd.underlying54, asAgg]
theorem one_byte (w : World) (r : Nat) (hr : r < 10) (E : Int) (hE : E = 48 + (r : Int)) : (convert 75 9 (.slice (some ⟨w.heap.size, 0, none⟩) 1 1)).run Tryd.prog (w.alloc (.cells #[.int .u8 E] 5)) = .ok (.string ⟨[UInt8.ofNat (48 + r)].toArray⟩) (w.alloc (.cells #[.int .u8 E] 5)) := by
  subst hE
  refine run_convert_bytes_back (P := Tryd.prog) _ 75 9 5 ⟨w.heap.size, 0, none⟩ 1 [UInt8.ofNat (48 + r)] Tryd.underlying75 Tryd.underlying5 Tryd.underlying9 (fun j hj => ?_)
  have : j = 0 := by simp at hj; exact hj
  subst this
  simp [go_sem]
  try omega

def TextRes (T : ByteArray) (c : Int) (w : World) (e : Ending) (w' : World) : Prop := e = .returned (.tuple #[.string T, .int .i64 c]) ∧ Gr w w'

set_option maxRecDepth 100000 in
set_option maxHeartbeats 1000000 in
theorem rtext_bad (neg : Bool) (s : ByteArray) (w : World) (hs : s.size ≤ 9223372036854775807) (h : ¬ Form neg s) :
    Calls Tryd.prog 19 #[.agg #[.bool neg, .string s]] w (TextRes ⟨#[]⟩ 2 w) := by
  have HF := Lib.hid h
  clear h
  go_enter Tryd.func19, Tryd.ntmps19
  go_wp2_with fail
  refine (rvalid_any neg s _ hs).mono ?_
  rintro e w1 ⟨r, rfl, hr, g⟩
  obtain rfl : r = false := by cases r; rfl; exact absurd (hr.1 rfl) HF.out
  have HG := Lib.hid ((Gr.new w (.cells #[.bool neg, .string s] 23)).trans g)
  clear hr g
  go_wp2_with fail
  go_ret2
  exact ⟨rfl, HG.out⟩

set_option maxRecDepth 100000 in
set_option maxHeartbeats 4000000 in
theorem rtext_ok (neg : Bool) (s : ByteArray) (w : World) (h : Form neg s) :
    Calls Tryd.prog 19 #[.agg #[.bool neg, .string s]] w (TextRes ⟨(textOf (zOf neg s)).toArray⟩ 0 w) := by
  have HF := Lib.hid h
  have hs := form_le h
  have HS := Lib.hid (form_small h)
  have HN := Lib.hid (form_neg h)
  obtain ⟨n, hn⟩ : ∃ n, n = (zOf neg s).natAbs := ⟨_, rfl⟩
  have HNV := Lib.hid hn
  have HLEN := Lib.hid (show (Lib.decDigits n).length ≤ 640 from dec_len_pow (m := 64) (by rw [hn]; exact Ow.R_lt (form_range h)) (by omega))
  clear h hn
  go_enter Tryd.func19, Tryd.ntmps19
  go_wp2_with fail
  obtain ⟨W, hW⟩ : ∃ W : World, W = (w.alloc (.cells #[.bool neg, .string s] 23)) := ⟨_, rfl⟩
  rw [← hW]
  have g1 : Gr w W := by rw [hW]; exact ((Gr.refl _).alloc _)
  have x0 : W.cell? ⟨w.heap.size, 0, none⟩ = some (.bool neg) := by rw [hW]; simp [go_sem]
  have x1 : W.cell? ⟨w.heap.size, 1, none⟩ = some (.string s) := by rw [hW]; simp [go_sem]
  have hsz : W.heap.size = w.heap.size + 1 := by rw [hW]; simp
  have HG := Lib.hid g1
  have HSZ := Lib.hid hsz
  clear hW g1 hsz
  refine (rvalid_any neg s _ hs).mono ?_
  rintro e w1 ⟨r, rfl, hr, g⟩
  obtain rfl : r = true := hr.2 HF.out
  have x0 := g.keeps x0
  have x1 := g.keeps x1
  have HG := Lib.hid (HG.out.trans g)
  clear hr g
  go_wp2_with fail
  refine (rin_any neg s _ HF.out).mono ?_
  rintro e w2 ⟨q, rfl, hq, g⟩
  obtain ⟨qn, qa, qk, qc, ql, rfl, q1, q2, q3, q4, q5⟩ := hq.parts
  have Q1 := Lib.hid q1
  have Q2 := Lib.hid q2
  have Q3 := Lib.hid q3
  have Q4 := Lib.hid q4
  have Q5 := Lib.hid q5
  clear q1 q2 q3 q4 q5 hq
  have x0 := g.keeps x0
  have x1 := g.keeps x1
  have HG := Lib.hid (HG.out.trans g)
  have hfd := field_words qn qa qk qc w2
  have HX0 := Lib.hid x0
  clear g x0 x1
  go_wp2_with fail
  clear hfd
  go_loopw [4, 5] (fun u v wr => ∃ (a : Option Addr) (k cap : Nat) (m : List Nat) (ts : List UInt8), u = .slice a k cap ∧ v = .string ⟨ts.toArray⟩ ∧ HasD wr (.slice a k cap) m ∧ Oh.Nm m ∧ m.length ≤ 129 ∧ ((n = 0 ∧ m = [] ∧ ts = []) ∨ (0 < n ∧ TextOk n (Oh.val m) ts)) ∧ Gr w wr ∧ wr.cell? ⟨w.heap.size, 0, none⟩ = some (.bool neg)) (fun _ v _ => 1000 - strLen v)
  case atStart =>
    refine ⟨qa, qk, qc, ql, [], rfl, rfl, Q2.out, Q3.out, Nat.le_trans Q5.out (Nat.le_trans HS.out (by omega)), ?_, HG.out, HX0.out⟩
    rcases Nat.eq_zero_or_pos n with h0 | h0
    · refine .inl ⟨h0, ?_, rfl⟩
      have hv := Q4.out
      rw [← HNV.out, h0] at hv
      have := Oh.tr_pos Q3.out.1
      rw [Q3.out.2, hv] at this
      exact List.length_eq_zero_iff.1 (by omega)
    · exact .inr ⟨h0, fun _ => by rw [Q4.out, ← HNV.out, List.append_nil], fun h => by rw [Q4.out, ← HNV.out] at h; omega⟩
  case round =>
    obtain ⟨wo, rfl⟩ : ∃ wo : World, wo = wr := ⟨_, rfl⟩
    obtain ⟨a, k, cap, m, ts, rfl, rfl, hd, hnm, hm, hcase, hg, hx0⟩ := hrel
    have hk := hd.len.1
    have HD := Lib.hid hd
    have HNM := Lib.hid hnm
    have HM := Lib.hid hm
    have HC := Lib.hid hcase
    have HG := Lib.hid hg
    have HX0 := Lib.hid hx0
    have HK := Lib.hid hk
    have hkb : k ≤ 129 := by omega
    clear hd hnm hm hcase hg hx0 hk
    by_cases hpos : 0 < k
    · have t1 : decide ((0 : Int) < (k : Int)) = true := by simp; omega
      have t1' : decide (0 < k) = true := by simp; omega
      have hvp : 0 < Oh.val m := by
        rw [← Oh.tr_pos HNM.out.1, HNM.out.2, ← HK.out]; exact hpos
      have hT : TextOk n (Oh.val m) ts := by
        rcases HC.out with ⟨_, h, _⟩ | ⟨_, h⟩
        · rw [h] at hvp; simp [Oh.val] at hvp
        · exact h
      have hn0 : 0 < n := by
        rcases HC.out with ⟨_, h, _⟩ | ⟨h, _⟩
        · rw [h] at hvp; simp [Oh.val] at hvp
        · exact h
      have HT := Lib.hid hT
      have HLT := Lib.hid (hT.lt hvp)
      have HVP := Lib.hid hvp
      have HN0 := Lib.hid hn0
      have htl : ts.length ≤ 640 := by have := HLT.out; have := HLEN.out; omega
      clear hvp hT hn0
      go_wp2_with fail
      refine (rshort_any m _ 10 _ HD.out HNM.out.1 129 HM.out (by omega) (by omega) (by omega)).mono ?_
      rintro e w3 ⟨v, q, rfl, hq, hqd, hqv, hql, g⟩
      obtain ⟨r, hr⟩ : ∃ r, r = Oh.val m % 10 := ⟨_, rfl⟩
      rw [← hr]
      have hr10 : r < 10 := by omega
      have HR := Lib.hid hr
      have HQ := Lib.hid hq
      have HQD := Lib.hid hqd
      have HQV := Lib.hid hqv
      have HQL := Lib.hid hql
      obtain ⟨-, va, vc, rfl, -⟩ := id hq
      have HX0 := Lib.hid (g.keeps HX0.out)
      have HG := Lib.hid (HG.out.trans g)
      have hcv := one_byte w3 r hr10 (48 + (r : Int)) rfl
      clear hr hq hqd hqv hql g
      go_wp2_with fail
      clear hcv
      refine (rtrim_any false q _ _ (HQ.out.later (Gr.new _ _)) HQD.out (Nat.le_trans HQL.out (by omega))).mono ?_
      rintro e w4 ⟨p, rfl, hp, g⟩
      have g := (Gr.new w3 (.cells #[.int .u8 (48 + (r : Int))] 5)).trans g
      obtain ⟨pn, pa, pk, pc, pl, rfl, p1, p2, p3, p4, p5⟩ := hp.parts
      have P1 := Lib.hid p1
      have P2 := Lib.hid p2
      have P3 := Lib.hid p3
      have P4 := Lib.hid p4
      have P5 := Lib.hid p5
      clear p1 p2 p3 p4 p5 hp
      have HX0 := Lib.hid (g.keeps HX0.out)
      have HG := Lib.hid (HG.out.trans g)
      have hfd := field_words pn pa pk pc w4
      have HTT := Lib.hid (HT.out.ten HVP.out HQV.out HR.out)
      clear g
      go_wp2_with fail
      have es : (⟨#[48 + UInt8.ofNat r]⟩ : ByteArray) ++ ⟨ts.toArray⟩ = ⟨([UInt8.ofNat (48 + r)] ++ ts).toArray⟩ := by rw [← str_append]; simp
      rw [es]
      exact ⟨⟨pa, pk, pc, pl, _, rfl, rfl, P2.out, P3.out, Nat.le_trans P5.out HQL.out, .inr ⟨HN0.out, by rw [P4.out, sg_abs]; exact HTT.out⟩, HG.out, HX0.out⟩, by simp [strLen, ByteArray.size]; omega⟩
    · obtain rfl : k = 0 := by omega
      have hm0 : m = [] := List.length_eq_zero_iff.1 HK.out.symm
      have hx0 := HX0.out
      rcases HC.out with ⟨h0, -, hts⟩ | ⟨h0, hT⟩
      · subst hts
        have he : (⟨([] : List UInt8).toArray⟩ : ByteArray).toList.isEmpty = true := list_empty []
        have hz : zOf neg s = 0 := by have := HNV.out; omega
        have hng : neg = false := by rw [HN.out, hz]; rfl
        subst hng
        have HZ := Lib.hid (show textOf (zOf false s) = [48] by rw [hz]; unfold textOf; rw [if_neg (by omega)]; simp [Lib.decDigits_one])
        clear hz hm0 h0
        go_wp2_with fail
        go_ret2
        exact ⟨by rw [HZ.out]; rfl, HG.out⟩
      · rw [hm0] at hT
        have hd := hT.2 rfl
        have hne : ts ≠ [] := by rw [← hd]; exact Ow.digits_ne n
        have he : (⟨ts.toArray⟩ : ByteArray).toList.isEmpty = false := by
          rw [list_empty]; cases ts
          · exact absurd rfl hne
          · rfl
        have he2 : ts.isEmpty = false := by
          cases ts
          · exact absurd rfl hne
          · rfl
        have htl : ts.length ≤ 640 := by rw [← hd]; exact HLEN.out
        have HD2 := Lib.hid hd
        clear hd hT hne hm0 h0
        cases neg with
        | false =>
          have HZ := Lib.hid (show textOf (zOf false s) = ts by unfold textOf; rw [if_neg (by have := HN.out; simpa using this), ← HNV.out, HD2.out]; rfl)
          go_wp2_with fail
          go_ret2
          exact ⟨by rw [HZ.out]; rfl, HG.out⟩
        | true =>
          have HZ := Lib.hid (show textOf (zOf true s) = [45] ++ ts by unfold textOf; rw [if_pos (by have := HN.out; simpa using this), ← HNV.out, HD2.out])
          go_wp2_with fail
          go_ret2
          exact ⟨by rw [HZ.out, ← str_append]; rfl, HG.out⟩
end Go.Proofs.YtgalgldnhdiggaaDoor

