/- The reference: Read. -/
import Derived.Test.YtgalgldnhdiggaaDoorPQi
namespace Oh
theorem big_text : 256 ^ 256 ≤ 10 ^ 617 := by decide +kernel
theorem small_text : 10 ^ 617 ≤ 65536 ^ 129 := by decide +kernel
theorem dval_ge {c : UInt8} {t : List UInt8} (hc : 48 ≤ c.toNat) (h : c.toNat ≠ 48) : 10 ^ t.length ≤ Ow.dval (c :: t) := by
  have e := Ow.dval_append t.length [c] t rfl
  have e2 : Ow.dval [c] = c.toNat - 48 := by simp [Ow.dval]
  rw [List.singleton_append, e2] at e
  rw [e]
  have : 1 * 10 ^ t.length ≤ (c.toNat - 48) * 10 ^ t.length := Nat.mul_le_mul_right _ (by omega)
  omega
end Oh
namespace Go.Proofs.YtgalgldnhdiggaaDoor
open Go.RowKit
set_option linter.unusedVariables false

theorem HasJ.tight {N M : Nat} {W : World} {v : Value} {z : Int} (h : HasJ N W v z) (hz : z.natAbs < 65536 ^ M) : HasJ M W v z := by
  obtain ⟨s, l, h1, h2, h3, h4, h5⟩ := h
  exact ⟨s, l, h1, h2, h3, h4, Oh.nm_len h3 (by rw [h4]; exact hz)⟩
theorem zero_pref (c : UInt8) (t : List UInt8) : Lib.hasPrefix (c :: t) [48] = (c == 48) := by
  simp [Lib.hasPrefix, List.isPrefixOf]
  exact Bool.beq_comm
theorem minus_pref (c : UInt8) (t : List UInt8) : Lib.hasPrefix (c :: t) [45] = (c == 45) := by
  simp [Lib.hasPrefix, List.isPrefixOf]
  exact Bool.beq_comm
/-- The loop over the digits: what stands behind k of them. -/
def RdI (B A : Nat) (t : List UInt8) (k : Nat) (wr : World) : Prop := ∃ (sn : Bool) (sa : Option Addr) (sk sc : Nat), wr.cell? ⟨A, 0, none⟩ = some (.bool sn) ∧ wr.cell? ⟨A, 1, none⟩ = some (.slice sa sk sc) ∧ wr.frozen? ⟨A, 0, none⟩ = false ∧ wr.frozen? ⟨A, 1, none⟩ = false ∧
  HasJ 129 wr (.agg #[.bool sn, .slice sa sk sc]) ((Ow.dval (t.take k) : Nat) : Int) ∧ wr.cell? ⟨B, 0, none⟩ = some (.bool false) ∧ wr.cell? ⟨B, 1, none⟩ = some (.string ⟨#[]⟩) ∧ wr.frozen? ⟨B, 0, none⟩ = false ∧ wr.frozen? ⟨B, 1, none⟩ = false
theorem dval_take_lt {t : List UInt8} (h : Ow.Dec t) (k : Nat) (hk : k ≤ 617) : Ow.dval (t.take k) < 65536 ^ 129 := by
  have h1 := Ow.dval_lt (t.take k).length (t.take k) rfl (fun b hb => h b (List.mem_of_mem_take hb))
  have h2 : (t.take k).length ≤ 617 := by rw [List.length_take]; omega
  exact Nat.lt_of_lt_of_le h1 (Nat.le_trans (Nat.pow_le_pow_right (by omega) h2) Oh.small_text)

def NoLead (neg : Bool) (t : List UInt8) : Prop := ¬ (Lib.hasPrefix t [48] = true ∧ (neg = true ∨ 1 < t.length))
theorem good_ge {neg : Bool} {t : List UInt8} (h : Good neg t) (h1 : neg = true ∨ 1 < t.length) : 10 ^ (t.length - 1) ≤ Ow.dval t := by
  obtain ⟨h0, hd, hz⟩ := h
  cases t with
  | nil => exact absurd rfl h0
  | cons c u =>
    have hc : ¬ c = 48 := fun e => hz ⟨by rw [zero_pref, e]; rfl, h1⟩
    simpa using Oh.dval_ge (hd c (by simp)).1 (fun e => hc (UInt8.toNat_inj.1 e))
theorem good_big {neg : Bool} {t : List UInt8} (h : Good neg t) (hl : 617 < t.length) : ¬ (sg neg (Ow.dval t)).natAbs < Ow.R := by
  have h2 := Nat.pow_le_pow_right (show 0 < 10 by omega) (show 617 ≤ t.length - 1 by omega)
  have h1 := good_ge h (.inr (by omega))
  have h3 := Oh.big_text
  rw [sg_abs]
  unfold Ow.R
  exact Nat.not_lt.2 (Nat.le_trans h3 (Nat.le_trans h2 h1))
theorem good_sign {neg : Bool} {t : List UInt8} (h : Good neg t) : decide (sg neg (Ow.dval t) < 0) = neg := by
  rw [sg_neg]
  cases neg with
  | false => rfl
  | true =>
    have h1 := good_ge h (.inl rfl)
    have h2 : 0 < 10 ^ (t.length - 1) := Nat.pow_pos (by omega)
    simp only [Bool.true_and, decide_eq_true_eq]
    omega
theorem dec_at {t : List UInt8} {k : Nat} (h : Ow.Dec t) (hk : k < t.length) : 48 ≤ (t[k]?.getD 0).toNat ∧ (t[k]?.getD 0).toNat ≤ 57 := by
  rw [List.getElem?_eq_getElem hk]; exact h _ (List.getElem_mem hk)
theorem dec_snoc {t : List UInt8} {k : Nat} (h : Ow.Dec (t.take k)) (hk : k < t.length) (h1 : 48 ≤ (t[k]?.getD 0).toNat) (h2 : (t[k]?.getD 0).toNat ≤ 57) : Ow.Dec (t.take (k + 1)) := by
  rw [List.take_succ_eq_append_getElem hk]
  rw [List.getElem?_eq_getElem hk] at h1 h2
  intro b hb
  rcases List.mem_append.1 hb with hb | hb
  · exact h b hb
  · rw [List.mem_singleton.1 hb]; exact ⟨h1, h2⟩
theorem dval_next {t : List UInt8} {k : Nat} (hk : k < t.length) : Ow.dval (t.take (k + 1)) = 10 * Ow.dval (t.take k) + ((t[k]?.getD 0).toNat - 48) := by
  rw [List.take_succ_eq_append_getElem hk, Ow.dval_snoc, List.getElem?_eq_getElem hk]; rfl
theorem HasJ.put2 {N : Nat} {W : World} {v : Value} {z : Int} {B : Nat} {u0 u1 : Value} (h : HasJ N W v z) (h0 : W.cell? ⟨B, 0, none⟩ = some u0) (h1 : W.cell? ⟨B, 1, none⟩ = some u1) (n0 : ∀ n, u0 ≠ .int .u32 n) (n1 : ∀ n, u1 ≠ .int .u32 n) (a b : Value) :
    HasJ N ((W.setCell ⟨B, 0, none⟩ a).setCell ⟨B, 1, none⟩ b) v z := by
  obtain ⟨s, l, e, h2, h3⟩ := h
  exact ⟨s, l, e, h2.put2 h0 h1 n0 n1 a b, h3⟩
theorem RdI.start {B A : Nat} {t : List UInt8} {V : World} (a0 : V.cell? ⟨A, 0, none⟩ = some (.bool false)) (a1 : V.cell? ⟨A, 1, none⟩ = some (.slice none 0 0)) (fa0 : V.frozen? ⟨A, 0, none⟩ = false) (fa1 : V.frozen? ⟨A, 1, none⟩ = false)
    (r0 : V.cell? ⟨B, 0, none⟩ = some (.bool false)) (r1 : V.cell? ⟨B, 1, none⟩ = some (.string ⟨#[]⟩)) (er0 : V.frozen? ⟨B, 0, none⟩ = false) (er1 : V.frozen? ⟨B, 1, none⟩ = false) : RdI B A t 0 V :=
  ⟨false, none, 0, 0, a0, a1, fa0, fa1, ⟨.slice none 0 0, [], by simp [Ow.dval], HasD.nil V, ⟨Oh.dg_nil, rfl⟩, by simp [Ow.dval, Oh.val], by simp⟩, r0, r1, er0, er1⟩
theorem RdI.next {N B A : Nat} {t : List UInt8} {k : Nat} {W : World} {n0 : Bool} {s0 : Option Addr} {s1 s2 : Nat} {pn : Bool} {pa : Option Addr} {pk pc : Nat} {z : Int} (hj : HasJ N W (.agg #[.bool pn, .slice pa pk pc]) z) (hz : z = ((Ow.dval (t.take (k + 1)) : Nat) : Int)) (hlt : Ow.dval (t.take (k + 1)) < 65536 ^ 129)
    (a0 : W.cell? ⟨A, 0, none⟩ = some (.bool n0)) (a1 : W.cell? ⟨A, 1, none⟩ = some (.slice s0 s1 s2)) (fa0 : W.frozen? ⟨A, 0, none⟩ = false) (fa1 : W.frozen? ⟨A, 1, none⟩ = false)
    (r0 : W.cell? ⟨B, 0, none⟩ = some (.bool false)) (r1 : W.cell? ⟨B, 1, none⟩ = some (.string ⟨#[]⟩)) (er0 : W.frozen? ⟨B, 0, none⟩ = false) (er1 : W.frozen? ⟨B, 1, none⟩ = false) (hne : ¬ B = A) :
    RdI B A t (k + 1) ((W.setCell ⟨A, 0, none⟩ (.bool pn)).setCell ⟨A, 1, none⟩ (.slice pa pk pc)) := by
  have hj := (hj.tight (M := 129) (by rw [hz]; exact hlt)).put2 a0 a1 (by simp) (by simp) (.bool pn) (.slice pa pk pc)
  rw [hz] at hj
  have hne2 : ¬ A = B := fun e => hne e.symm
  refine ⟨pn, pa, pk, pc, (put2 a0 a1 _ _).1, (put2 a0 a1 _ _).2, by simp [go_sem, fa0], by simp [go_sem, fa1], hj, ?_, ?_, by simp [go_sem, er0], by simp [go_sem, er1]⟩
  · simp [go_sem, r0]
  · simp [go_sem, r1]
theorem HasJ.flag {W : World} {A : Nat} {sn neg : Bool} {sa : Option Addr} {sk sc : Nat} {D : Nat} (h : HasJ 129 W (.agg #[.bool sn, .slice sa sk sc]) (D : Int)) (a0 : W.cell? ⟨A, 0, none⟩ = some (.bool sn)) (hneg : decide (sg neg D < 0) = neg) :
    HasJ 129 (W.setCell ⟨A, 0, none⟩ (.bool neg)) (.agg #[.bool neg, .slice sa sk sc]) (sg neg D) := by
  obtain ⟨s, l, e, h2, h3, h4, h5⟩ := h
  simp only [Value.agg.injEq, Array.mk.injEq, List.cons.injEq, and_true] at e
  obtain ⟨-, rfl⟩ := e
  exact ⟨_, l, by rw [hneg], h2.setAt a0 (by simp) _, h3, by rw [sg_abs]; simpa using h4, h5⟩
theorem rword_at (x : Int) (n : Nat) (hx : x = (n : Int)) (hn : n < 4294967296) (w : World) : Calls Tryd.prog 41 #[.int .u32 x] w (NumZ 2 n w) := by
  subst hx; exact rword_any n w hn

theorem str_nat (t : List UInt8) (k : Nat) (hk : k < (⟨t.toArray⟩ : ByteArray).size) : ((⟨t.toArray⟩ : ByteArray)[k]).toNat = (t[k]?.getD 0).toNat := by
  have h : k < t.length := by have : (⟨t.toArray⟩ : ByteArray).size = t.length := by simp [ByteArray.size]
                              omega
  rw [List.getElem?_eq_getElem h]
  rfl
set_option maxRecDepth 100000 in
set_option maxHeartbeats 8000000 in
theorem rread_neg (t : List UInt8) (w : World) (hl : t.length ≤ 100000) :
    Calls Tryd.prog 17 #[.string ⟨(45 :: t).toArray⟩] w (ReadRes true t w) := by
  obtain ⟨S, hS⟩ : ∃ S : ByteArray, S = ⟨(45 :: t).toArray⟩ := ⟨_, rfl⟩
  obtain ⟨T, hT⟩ : ∃ T : ByteArray, T = ⟨t.toArray⟩ := ⟨_, rfl⟩
  have hTL : T.size = t.length := by rw [hT]; simp [ByteArray.size]
  have hSL : S.size = t.length + 1 := by rw [hS]; simp [ByteArray.size]
  have p1 : decide ((0 : Int) < (S.size : Int)) = true := by simp; omega
  have p1' : 0 < S.size := by omega
  have p2 : ((S[0].toNat : Int) == 45) = true := by subst hS; rfl
  have p3 : S.extract 1 S.size = T := by
    subst hS hT
    apply ByteArray.ext
    rw [ByteArray.data_extract]
    simp [ByteArray.size]
  have p4 : (1 : Int) ≤ (S.size : Int) := by omega
  rw [← hS]
  have HTL := Lib.hid hTL
  have HTA := Lib.hid (show ∀ k (hk : k < T.size), T[k].toNat = (t[k]?.getD 0).toNat by subst hT; exact str_nat t)
  have HE := Lib.hid (show T.toList.isEmpty = t.isEmpty by rw [hT]; exact list_empty t)
  have hTb : T.size ≤ 100000 := by omega
  have HPF := Lib.hid (show ∀ h : t ≠ [], Lib.hasPrefix t [48] = ((t[0]?.getD 0) == 48) by
    intro h
    cases t with
    | nil => exact absurd rfl h
    | cons c t2 => rw [zero_pref]; rfl)
  clear hS hT hTL hSL hl
  by_cases h0 : t = []
  · have HBAD := Lib.hid (show ¬ Good true t from fun h => h.1 h0)
    have he : T.toList.isEmpty = true := by rw [HE.out, h0]; rfl
    clear h0
    go_enter Tryd.func17, Tryd.ntmps17
    go_wp2_with fail
    refine bodyPost_ret (v := .tuple #[.agg #[.bool false, .string ⟨#[]⟩], .int .i64 6]) (by simp [results, Tryd.results17, go_sem]) rfl ?_
    exact .inr ⟨HBAD.out, rfl, by first | exact Gr.new _ _ | exact (Gr.new _ _).put2 (Nat.le_refl _) _ _⟩
  · have he : T.toList.isEmpty = false := by
      rw [HE.out]; cases t
      · exact absurd rfl h0
      · rfl
    have hT0 : 0 < T.size := by rw [HTL.out]; exact List.length_pos_iff.2 h0
    have HPF := Lib.hid (HPF.out h0)
    have HNE := Lib.hid h0
    clear h0
    go_enter Tryd.func17, Tryd.ntmps17
    by_cases hlead : t[0]?.getD 0 = 48 ∧ (true = true ∨ 1 < T.size)
    · have HBAD := Lib.hid (show ¬ Good true t from fun h => h.2.2 ⟨by rw [HPF.out, hlead.1]; rfl, by rw [← HTL.out]; exact hlead.2⟩)
      have h0 : ((T[0].toNat : Int) == 48) = true := by rw [HTA.out 0 hT0, hlead.1]; rfl
      by_cases h2 : 1 < T.size
      · have q1 : decide ((1 : Int) < (T.size : Int)) = true := by simp; omega
        have q1' : decide (1 < T.size) = true := by simp; omega
        clear hlead
        go_wp2_with fail
        refine bodyPost_ret (v := .tuple #[.agg #[.bool false, .string ⟨#[]⟩], .int .i64 6]) (by simp [results, Tryd.results17, go_sem]) rfl ?_
        exact .inr ⟨HBAD.out, rfl, by first | exact Gr.new _ _ | exact (Gr.new _ _).put2 (Nat.le_refl _) _ _⟩
      · have q1 : decide ((1 : Int) < (T.size : Int)) = false := by simp; omega
        have q1' : decide (1 < T.size) = false := by simp; omega
        clear hlead
        go_wp2_with fail
        refine bodyPost_ret (v := .tuple #[.agg #[.bool false, .string ⟨#[]⟩], .int .i64 6]) (by simp [results, Tryd.results17, go_sem]) rfl ?_
        exact .inr ⟨HBAD.out, rfl, by first | exact Gr.new _ _ | exact (Gr.new _ _).put2 (Nat.le_refl _) _ _⟩
    · have HLEAD := Lib.hid (show NoLead true t from fun h => hlead ⟨by have h1 := h.1; rw [HPF.out] at h1; simpa using h1, by rw [HTL.out]; exact h.2⟩)
      have h0 : ((T[0].toNat : Int) == 48) = false := by
        rw [HTA.out 0 hT0]
        simp only [beq_eq_false_iff_ne, ne_eq]
        intro e
        exact hlead ⟨UInt8.toNat_inj.1 (by have : (48 : UInt8).toNat = 48 := rfl; omega), .inl rfl⟩
      clear hlead
      go_wp2_with fail
      obtain ⟨W, hW⟩ : ∃ W : World, W = (w.alloc (.cells #[.bool false, .string ⟨#[]⟩] 23)) := ⟨_, rfl⟩
      rw [← hW]
      have g1 : Gr w W := by rw [hW]; exact ((Gr.refl _).alloc _)
      have r0 : W.cell? ⟨w.heap.size, 0, none⟩ = some (.bool false) := by rw [hW]; simp [go_sem]
      have er0 : W.frozen? ⟨w.heap.size, 0, none⟩ = false := by rw [hW]; simp [go_sem]
      have r1 : W.cell? ⟨w.heap.size, 1, none⟩ = some (.string ⟨#[]⟩) := by rw [hW]; simp [go_sem]
      have er1 : W.frozen? ⟨w.heap.size, 1, none⟩ = false := by rw [hW]; simp [go_sem]
      have hsz : W.heap.size = w.heap.size + 1 := by rw [hW]; simp
      have HG := Lib.hid g1
      have HSZ := Lib.hid hsz
      clear hW g1 hsz
      have hne1 : ¬ (w.heap.size = w.heap.size + 1) := by omega
      have hne2 : ¬ (w.heap.size + 1 = w.heap.size) := by omega
      go_loop [6] (fun i => ∃ k : Nat, i = .int .i64 k ∧ k ≤ T.size ∧ Ow.Dec (t.take k)) (fun i => T.size - (intOf i).toNat)
      case atStart => exact ⟨0, rfl, Nat.zero_le _, by simp [Ow.Dec]⟩
      case round =>
        obtain ⟨k, rfl, hk, hdec⟩ := hrel
        have HD := Lib.hid hdec
        clear hdec
        by_cases hlt : k < T.size
        · have HTK := Lib.hid (HTA.out k hlt)
          have hltl : k < t.length := by rw [← HTL.out]; exact hlt
          by_cases c1 : T[k].toNat < 48
          · have HBAD := Lib.hid (show ¬ Good true t from fun h => by have := dec_at h.2.1 hltl; rw [← HTK.out] at this; omega)
            have d1 : decide ((T[k].toNat : Int) < 48) = true := by simp; omega
            go_wp2_with fail
            refine bodyPost_ret (v := .tuple #[.agg #[.bool false, .string ⟨#[]⟩], .int .i64 6]) (by simp [results, Tryd.results17, go_sem, r0, r1]) rfl ?_
            exact .inr ⟨HBAD.out, rfl, HG.out.put2 (Nat.le_refl _) _ _⟩
          · by_cases c2 : 57 < T[k].toNat
            · have HBAD := Lib.hid (show ¬ Good true t from fun h => by have := dec_at h.2.1 hltl; rw [← HTK.out] at this; omega)
              have d1 : decide ((T[k].toNat : Int) < 48) = false := by simp; omega
              have d2 : decide ((57 : Int) < (T[k].toNat : Int)) = true := by simp; omega
              go_wp2_with fail
              refine bodyPost_ret (v := .tuple #[.agg #[.bool false, .string ⟨#[]⟩], .int .i64 6]) (by simp [results, Tryd.results17, go_sem, r0, r1]) rfl ?_
              exact .inr ⟨HBAD.out, rfl, HG.out.put2 (Nat.le_refl _) _ _⟩
            · have HDN := Lib.hid (dec_snoc HD.out hltl (by rw [← HTK.out]; omega) (by rw [← HTK.out]; omega))
              have d1 : decide ((T[k].toNat : Int) < 48) = false := by simp; omega
              have d2 : decide ((57 : Int) < (T[k].toNat : Int)) = false := by simp; omega
              go_wp2_with fail
              go_round
              case rel => exact ⟨k + 1, by go_num, by omega, HDN.out⟩
              case measure => simp [intOf]; omega
        · obtain rfl : k = T.size := by omega
          have HGOOD := Lib.hid (show Good true t from ⟨HNE.out, by have h := HD.out; rw [List.take_of_length_le (by rw [← HTL.out]; exact Nat.le_refl _)] at h; exact h, HLEAD.out⟩)
          by_cases hbig : 617 < T.size
          · have HOUT := Lib.hid (good_big HGOOD.out (by rw [← HTL.out]; exact hbig))
            have d1 : decide ((617 : Int) < (T.size : Int)) = true := by simp; omega
            have d2 : ((T.size : Int) > 617) := by omega
            go_wp2_with fail
            refine bodyPost_ret (v := .tuple #[.agg #[.bool false, .string ⟨#[]⟩], .int .i64 7]) (by simp [results, Tryd.results17, go_sem, r0, r1]) rfl ?_
            refine .inl ⟨HGOOD.out, ?_⟩
            rw [fNeg_out HOUT.out, fStr_out HOUT.out, fErr_out HOUT.out]
            exact ⟨rfl, HG.out.put2 (Nat.le_refl _) _ _⟩
          · have d1 : decide ((617 : Int) < (T.size : Int)) = false := by simp; omega
            have hsm : T.size ≤ 617 := by omega
            clear hbig
            go_wp2_with fail
            rw [HSZ.out]
            obtain ⟨V, hV⟩ : ∃ V : World, V = W.alloc (.cells #[.bool false, .slice none 0 0] 61) := ⟨_, rfl⟩
            rw [← hV]
            have a0 : V.cell? ⟨w.heap.size + 1, 0, none⟩ = some (.bool false) := by rw [hV, ← HSZ.out]; simp [go_sem]
            have a1 : V.cell? ⟨w.heap.size + 1, 1, none⟩ = some (.slice none 0 0) := by rw [hV, ← HSZ.out]; simp [go_sem]
            have fa0 : V.frozen? ⟨w.heap.size + 1, 0, none⟩ = false := by rw [hV, ← HSZ.out]; simp [go_sem]
            have fa1 : V.frozen? ⟨w.heap.size + 1, 1, none⟩ = false := by rw [hV, ← HSZ.out]; simp [go_sem]
            have gV : Gr W V := by rw [hV]; exact Gr.new _ _
            have HSTART := Lib.hid (RdI.start (t := t) a0 a1 fa0 fa1 (gV.keeps r0) (gV.keeps r1) (gV.frozen r0 er0) (gV.frozen r1 er1))
            have HG := Lib.hid (HG.out.trans gV)
            have HTS := Lib.hid (show t.take T.size = t from List.take_of_length_le (by rw [← HTL.out]; exact Nat.le_refl _))
            clear gV hV a0 a1 fa0 fa1 r0 r1 er0 er1
            have h10 := rword_at 10 10 rfl (by omega)
            have H10 := Lib.hid h10
            clear h10
            have b131 : 129 + 2 ≤ 90000 := by omega
            have b1311 : 131 ≤ 90000 := by omega
            have b129 : 129 ≤ 100000 := by omega
            have b2 : 2 ≤ 131 := by omega
            go_loopw [8] (fun i wr => ∃ k : Nat, i = .int .i64 k ∧ k ≤ T.size ∧ RdI w.heap.size (w.heap.size + 1) t k wr ∧ Gr w wr) (fun i _ => T.size - (intOf i).toNat)
            case atStart => exact ⟨0, rfl, Nat.zero_le _, HSTART.out, HG.out⟩
            case round =>
              obtain ⟨wo, rfl⟩ : ∃ wo : World, wo = wr := ⟨_, rfl⟩
              obtain ⟨k, rfl, hk, ⟨sn, sa, sk, sc, a0, a1, fa0, fa1, hj, r0, r1, er0, er1⟩, hg⟩ := hrel
              have HJ := Lib.hid hj
              have HG := Lib.hid hg
              clear hj hg
              by_cases hlt : k < T.size
              · have hltl : k < t.length := by rw [← HTL.out]; exact hlt
                have HTK := Lib.hid (HTA.out k hlt)
                have hdd := dec_at HGOOD.out.2.1 hltl
                rw [← HTK.out] at hdd
                have d1 : 48 ≤ T[k].toNat := hdd.1
                have d2 : T[k].toNat ≤ 57 := hdd.2
                clear hdd
                have HDW := Lib.hid (rword_at (IntKind.u32.wrap (IntKind.u8.wrap ((T[k].toNat : Int) - 48))) (T[k].toNat - 48) (by show (((T[k].toNat : Int) - 48) % 256) % 4294967296 = _; omega) (by omega))
                have HDV := Lib.hid (show (Ow.dval (t.take k) : Int) * (10 : Nat) + ((T[k].toNat - 48 : Nat) : Int) = ((Ow.dval (t.take (k + 1)) : Nat) : Int) by rw [dval_next hltl, ← HTK.out]; generalize Ow.dval (t.take k) = y; generalize T[k].toNat - 48 = x; omega)
                have HDL := Lib.hid (dval_take_lt HGOOD.out.2.1 (k + 1) (by omega))
                have R0 := Lib.hid r0
                have R1 := Lib.hid r1
                have F0 := Lib.hid er0
                have F1 := Lib.hid er1
                have FA0 := Lib.hid fa0
                have FA1 := Lib.hid fa1
                clear r0 r1 er0 er1 fa0 fa1
                go_wp2_with fail
                refine wp_region_noPanic ?_
                refine wp_region_held_drew (S := fun _ => True) (by kernel_rfl) trivial (fun hHeld => ?_)
                refine wpAnyH_take (i := 3) (oi := { dst := some 68, op := Op.move (Operand.tmp 4), type := 9, pos := "ref.go:297", after := #[], guard := none }) (v := ?_) rfl (by kernel_rfl) (by kernel_rfl) (by kernel_rfl) (fun _ _ _ h => h) (Or.inl ⟨by rfl, ?_⟩) (by assumption) ?_
                rotate_left
                · intro w hSw; (try dsimp only at hSw); go_simp; try with_reducible rfl
                try simp only [Act.put, List.setIfInBounds_toArray, List.set_cons_zero, List.set_cons_succ]
                refine wpAnyH_take (i := 4) (oi := { dst := some 69, op := Op.move (Operand.tmp 8), type := 3, pos := "ref.go:297", after := #[], guard := none }) (v := ?_) rfl (by kernel_rfl) (by kernel_rfl) (by kernel_rfl) (fun _ _ _ h => h) (Or.inl ⟨by rfl, ?_⟩) (by assumption) ?_
                rotate_left
                · intro w hSw; (try dsimp only at hSw); go_simp; try with_reducible rfl
                try simp only [Act.put, List.setIfInBounds_toArray, List.set_cons_zero, List.set_cons_succ]
                refine wpAnyH_take (i := 5) (oi := { dst := some 70, op := Op.index 9 (Operand.tmp 68) (Operand.tmp 69), type := 5, pos := "ref.go:297", after := #[{ on := 3, ground := Ground.data }, { on := 4, ground := Ground.data }], guard := none }) (v := ?_) rfl (by kernel_rfl) (by kernel_rfl) (by kernel_rfl) (fun _ _ _ h => h) (Or.inl ⟨by rfl, ?_⟩) (by assumption) ?_
                rotate_left
                · intro w hSw; (try dsimp only at hSw); go_simp; try with_reducible rfl
                try simp only [Act.put, List.setIfInBounds_toArray, List.set_cons_zero, List.set_cons_succ]
                refine wpAnyH_take (i := 6) (oi := { dst := some 71, op := Op.binOp BinOp.sub 5 (Operand.tmp 70) (Operand.const (Value.int IntKind.u8 48)) 5, type := 5, pos := "ref.go:297", after := #[{ on := 5, ground := Ground.data }], guard := none }) (v := ?_) rfl (by kernel_rfl) (by kernel_rfl) (by kernel_rfl) (fun _ _ _ h => h) (Or.inl ⟨by rfl, ?_⟩) (by assumption) ?_
                rotate_left
                · intro w hSw; (try dsimp only at hSw); go_simp; try with_reducible rfl
                try simp only [Act.put, List.setIfInBounds_toArray, List.set_cons_zero, List.set_cons_succ]
                refine wpAnyH_take (i := 7) (oi := { dst := some 72, op := Op.convert 5 59 (Operand.tmp 71), type := 59, pos := "ref.go:297", after := #[{ on := 6, ground := Ground.data }], guard := none }) (v := ?_) rfl (by kernel_rfl) (by kernel_rfl) (by kernel_rfl) (fun _ _ _ h => h) (Or.inl ⟨by rfl, ?_⟩) (by assumption) ?_
                rotate_left
                · intro w hSw; (try dsimp only at hSw); go_simp; try with_reducible rfl
                try simp only [Act.put, List.setIfInBounds_toArray, List.set_cons_zero, List.set_cons_succ]
                refine wpAnyH_ready (rs := [0, 1]) (by kernel_rfl) (by simp) ?_
                refine AllReadyH.cons (o := { dst := some 65, op := Op.load 61 (Operand.tmp 7), type := 61, pos := "ref.go:297", after := #[], guard := none }) rfl (fun K hK => ?_) (AllReadyH.cons (o := { dst := some 66, op := Op.call { callee := Callee.value (Operand.func 41), args := #[Operand.const (Value.int IntKind.u32 10)], argTypes := #[59] }, type := 61, pos := "ref.go:297", after := #[], guard := none }) rfl (fun K hK => ?_) AllReadyH.nil)
                · go_simp
                  refine hK.out _ _ trivial (fun hHeld => ?_)
                  clear hK K
                  try simp only [Act.put, List.setIfInBounds_toArray, List.set_cons_zero, List.set_cons_succ]
                  refine wpAnyH_ready (rs := [1]) (by kernel_rfl) (by simp) ?_
                  refine AllReadyH.cons (o := { dst := some 66, op := Op.call { callee := Callee.value (Operand.func 41), args := #[Operand.const (Value.int IntKind.u32 10)], argTypes := #[59] }, type := 61, pos := "ref.go:297", after := #[], guard := none }) rfl (fun K hK => ?_) AllReadyH.nil
                  go_simp
                  go_wp2_with ((go_at_call 41; (with_reducible refine (H10.out _).mono ?_); rintro e w' ⟨u, rfl, hv, g⟩; replace g := Gr.trans (show Gr wo wo.drew from Below.drew (Gr.refl wo)) g; (have HU := Lib.hid hv); (have HJ := Lib.hid (HJ.out.later g)); have FA0 := Lib.hid (g.frozen a0 FA0.out); have FA1 := Lib.hid (g.frozen a1 FA1.out); have a0 := g.keeps a0; have a1 := g.keeps a1; have F0 := Lib.hid (g.frozen R0.out F0.out); have F1 := Lib.hid (g.frozen R1.out F1.out); have R0 := Lib.hid (g.keeps R0.out); have R1 := Lib.hid (g.keeps R1.out); have HG := Lib.hid (HG.out.trans g); clear hv g))
                  refine hK.out _ _ trivial (fun hHeld => ?_)
                  clear hK K
                  try simp only [Act.put, List.setIfInBounds_toArray, List.set_cons_zero, List.set_cons_succ]
                  refine wpAnyH_ready (rs := [2]) (by kernel_rfl) (by simp) ?_
                  refine AllReadyH.cons (o := { dst := some 67, op := Op.call { callee := Callee.value (Operand.func 40), args := #[Operand.tmp 65, Operand.tmp 66], argTypes := #[61, 61] }, type := 61, pos := "ref.go:297", after := #[{ on := 0, ground := Ground.data }, { on := 1, ground := Ground.data }, { on := 1, ground := Ground.chain }], guard := none }) rfl (fun K hK => ?_) AllReadyH.nil
                  go_simp
                  go_wp2_with ((go_at_call 40; (with_reducible refine (rmul_any 129 2 _ _ _ _ _ HJ.out HU.out b131).mono ?_); rintro e w' ⟨m, rfl, hv, g⟩; (have HM := Lib.hid hv); have FA0 := Lib.hid (g.frozen a0 FA0.out); have FA1 := Lib.hid (g.frozen a1 FA1.out); have a0 := g.keeps a0; have a1 := g.keeps a1; have F0 := Lib.hid (g.frozen R0.out F0.out); have F1 := Lib.hid (g.frozen R1.out F1.out); have R0 := Lib.hid (g.keeps R0.out); have R1 := Lib.hid (g.keeps R1.out); have HG := Lib.hid (HG.out.trans g); clear hv g))
                  refine hK.out _ _ trivial (fun hHeld => ?_)
                  clear hK K
                  try simp only [Act.put, List.setIfInBounds_toArray, List.set_cons_zero, List.set_cons_succ]
                  refine wpAnyH_ready (rs := [8]) (by kernel_rfl) (by simp) ?_
                  refine AllReadyH.cons (o := { dst := some 73, op := Op.call { callee := Callee.value (Operand.func 41), args := #[Operand.tmp 72], argTypes := #[59] }, type := 61, pos := "ref.go:297", after := #[{ on := 7, ground := Ground.data }, { on := 2, ground := Ground.chain }], guard := none }) rfl (fun K hK => ?_) AllReadyH.nil
                  go_simp
                  go_wp2_with ((go_at_call 41; (with_reducible refine (HDW.out _).mono ?_); rintro e w' ⟨d, rfl, hv, g⟩; (have HW := Lib.hid (hv.wider b2)); (have HM := Lib.hid (HM.out.later g)); have FA0 := Lib.hid (g.frozen a0 FA0.out); have FA1 := Lib.hid (g.frozen a1 FA1.out); have a0 := g.keeps a0; have a1 := g.keeps a1; have F0 := Lib.hid (g.frozen R0.out F0.out); have F1 := Lib.hid (g.frozen R1.out F1.out); have R0 := Lib.hid (g.keeps R0.out); have R1 := Lib.hid (g.keeps R1.out); have HG := Lib.hid (HG.out.trans g); clear hv g))
                  refine hK.out _ _ trivial (fun hHeld => ?_)
                  clear hK K
                  try simp only [Act.put, List.setIfInBounds_toArray, List.set_cons_zero, List.set_cons_succ]
                  refine wpAnyH_ready (rs := [9]) (by kernel_rfl) (by simp) ?_
                  refine AllReadyH.cons (o := { dst := some 74, op := Op.call { callee := Callee.value (Operand.func 39), args := #[Operand.tmp 67, Operand.tmp 73], argTypes := #[61, 61] }, type := 61, pos := "ref.go:297", after := #[{ on := 2, ground := Ground.data }, { on := 8, ground := Ground.data }, { on := 8, ground := Ground.chain }], guard := none }) rfl (fun K hK => ?_) AllReadyH.nil
                  go_simp
                  go_wp2_with ((go_at_call 39; (with_reducible refine (radd_any 131 _ _ _ _ _ HM.out HW.out b1311).mono ?_); rintro e w' ⟨p, rfl, hv, g⟩; (have HP := Lib.hid hv); obtain ⟨pn, pa, pk, pc, -, rfl, -⟩ := hv.parts; have fa0 := g.frozen a0 FA0.out; have fa1 := g.frozen a1 FA1.out; have FA0 := Lib.hid (g.frozen a0 FA0.out); have FA1 := Lib.hid (g.frozen a1 FA1.out); have a0 := g.keeps a0; have a1 := g.keeps a1; have F0 := Lib.hid (g.frozen R0.out F0.out); have F1 := Lib.hid (g.frozen R1.out F1.out); have R0 := Lib.hid (g.keeps R0.out); have R1 := Lib.hid (g.keeps R1.out); have HG := Lib.hid (HG.out.trans g); clear hv g))
                  refine hK.out _ _ trivial (fun hHeld => ?_)
                  clear hK K
                  try simp only [Act.put, List.setIfInBounds_toArray, List.set_cons_zero, List.set_cons_succ]
                  refine wpAnyH_ready (rs := [10]) (by kernel_rfl) (by simp) ?_
                  refine AllReadyH.cons (o := { dst := none, op := Op.store 61 (Operand.tmp 7) (Operand.tmp 74), type := 0, pos := "ref.go:297", after := #[{ on := 9, ground := Ground.data }, { on := 9, ground := Ground.chain }, { on := 0, ground := Ground.phase }, { on := 1, ground := Ground.phase }, { on := 2, ground := Ground.phase }, { on := 3, ground := Ground.phase }, { on := 4, ground := Ground.phase }, { on := 5, ground := Ground.phase }, { on := 6, ground := Ground.phase }, { on := 7, ground := Ground.phase }, { on := 8, ground := Ground.phase }, { on := 9, ground := Ground.phase }], guard := none }) rfl (fun K hK => ?_) AllReadyH.nil
                  go_simp
                  refine hK.out _ _ trivial (fun hHeld => ?_)
                  clear hK K
                  try simp only [Act.put, List.setIfInBounds_toArray, List.set_cons_zero, List.set_cons_succ]
                  refine wpAnyH_done (by kernel_rfl) ?_ _
                  refine NoPanic.normal ?_
                  go_wp2_with fail
                  go_roundw
                  case rel => exact ⟨k + 1, by go_num, by omega, RdI.next HP.out HDV.out HDL.out a0 a1 fa0 fa1 R0.out R1.out F0.out F1.out hne1, HG.out.put2 (by omega) _ _⟩
                  case measure => simp [intOf]; omega
                · go_simp
                  go_wp2_with ((go_at_call 41; (with_reducible refine (H10.out _).mono ?_); rintro e w' ⟨u, rfl, hv, g⟩; replace g := Gr.trans (show Gr wo wo.drew from Below.drew (Gr.refl wo)) g; (have HU := Lib.hid hv); (have HJ := Lib.hid (HJ.out.later g)); have FA0 := Lib.hid (g.frozen a0 FA0.out); have FA1 := Lib.hid (g.frozen a1 FA1.out); have a0 := g.keeps a0; have a1 := g.keeps a1; have F0 := Lib.hid (g.frozen R0.out F0.out); have F1 := Lib.hid (g.frozen R1.out F1.out); have R0 := Lib.hid (g.keeps R0.out); have R1 := Lib.hid (g.keeps R1.out); have HG := Lib.hid (HG.out.trans g); clear hv g))
                  refine hK.out _ _ trivial (fun hHeld => ?_)
                  clear hK K
                  try simp only [Act.put, List.setIfInBounds_toArray, List.set_cons_zero, List.set_cons_succ]
                  refine wpAnyH_ready (rs := [0]) (by kernel_rfl) (by simp) ?_
                  refine AllReadyH.cons (o := { dst := some 65, op := Op.load 61 (Operand.tmp 7), type := 61, pos := "ref.go:297", after := #[], guard := none }) rfl (fun K hK => ?_) AllReadyH.nil
                  go_simp
                  refine hK.out _ _ trivial (fun hHeld => ?_)
                  clear hK K
                  try simp only [Act.put, List.setIfInBounds_toArray, List.set_cons_zero, List.set_cons_succ]
                  refine wpAnyH_ready (rs := [2]) (by kernel_rfl) (by simp) ?_
                  refine AllReadyH.cons (o := { dst := some 67, op := Op.call { callee := Callee.value (Operand.func 40), args := #[Operand.tmp 65, Operand.tmp 66], argTypes := #[61, 61] }, type := 61, pos := "ref.go:297", after := #[{ on := 0, ground := Ground.data }, { on := 1, ground := Ground.data }, { on := 1, ground := Ground.chain }], guard := none }) rfl (fun K hK => ?_) AllReadyH.nil
                  go_simp
                  go_wp2_with ((go_at_call 40; (with_reducible refine (rmul_any 129 2 _ _ _ _ _ HJ.out HU.out b131).mono ?_); rintro e w' ⟨m, rfl, hv, g⟩; (have HM := Lib.hid hv); have FA0 := Lib.hid (g.frozen a0 FA0.out); have FA1 := Lib.hid (g.frozen a1 FA1.out); have a0 := g.keeps a0; have a1 := g.keeps a1; have F0 := Lib.hid (g.frozen R0.out F0.out); have F1 := Lib.hid (g.frozen R1.out F1.out); have R0 := Lib.hid (g.keeps R0.out); have R1 := Lib.hid (g.keeps R1.out); have HG := Lib.hid (HG.out.trans g); clear hv g))
                  refine hK.out _ _ trivial (fun hHeld => ?_)
                  clear hK K
                  try simp only [Act.put, List.setIfInBounds_toArray, List.set_cons_zero, List.set_cons_succ]
                  refine wpAnyH_ready (rs := [8]) (by kernel_rfl) (by simp) ?_
                  refine AllReadyH.cons (o := { dst := some 73, op := Op.call { callee := Callee.value (Operand.func 41), args := #[Operand.tmp 72], argTypes := #[59] }, type := 61, pos := "ref.go:297", after := #[{ on := 7, ground := Ground.data }, { on := 2, ground := Ground.chain }], guard := none }) rfl (fun K hK => ?_) AllReadyH.nil
                  go_simp
                  go_wp2_with ((go_at_call 41; (with_reducible refine (HDW.out _).mono ?_); rintro e w' ⟨d, rfl, hv, g⟩; (have HW := Lib.hid (hv.wider b2)); (have HM := Lib.hid (HM.out.later g)); have FA0 := Lib.hid (g.frozen a0 FA0.out); have FA1 := Lib.hid (g.frozen a1 FA1.out); have a0 := g.keeps a0; have a1 := g.keeps a1; have F0 := Lib.hid (g.frozen R0.out F0.out); have F1 := Lib.hid (g.frozen R1.out F1.out); have R0 := Lib.hid (g.keeps R0.out); have R1 := Lib.hid (g.keeps R1.out); have HG := Lib.hid (HG.out.trans g); clear hv g))
                  refine hK.out _ _ trivial (fun hHeld => ?_)
                  clear hK K
                  try simp only [Act.put, List.setIfInBounds_toArray, List.set_cons_zero, List.set_cons_succ]
                  refine wpAnyH_ready (rs := [9]) (by kernel_rfl) (by simp) ?_
                  refine AllReadyH.cons (o := { dst := some 74, op := Op.call { callee := Callee.value (Operand.func 39), args := #[Operand.tmp 67, Operand.tmp 73], argTypes := #[61, 61] }, type := 61, pos := "ref.go:297", after := #[{ on := 2, ground := Ground.data }, { on := 8, ground := Ground.data }, { on := 8, ground := Ground.chain }], guard := none }) rfl (fun K hK => ?_) AllReadyH.nil
                  go_simp
                  go_wp2_with ((go_at_call 39; (with_reducible refine (radd_any 131 _ _ _ _ _ HM.out HW.out b1311).mono ?_); rintro e w' ⟨p, rfl, hv, g⟩; (have HP := Lib.hid hv); obtain ⟨pn, pa, pk, pc, -, rfl, -⟩ := hv.parts; have fa0 := g.frozen a0 FA0.out; have fa1 := g.frozen a1 FA1.out; have FA0 := Lib.hid (g.frozen a0 FA0.out); have FA1 := Lib.hid (g.frozen a1 FA1.out); have a0 := g.keeps a0; have a1 := g.keeps a1; have F0 := Lib.hid (g.frozen R0.out F0.out); have F1 := Lib.hid (g.frozen R1.out F1.out); have R0 := Lib.hid (g.keeps R0.out); have R1 := Lib.hid (g.keeps R1.out); have HG := Lib.hid (HG.out.trans g); clear hv g))
                  refine hK.out _ _ trivial (fun hHeld => ?_)
                  clear hK K
                  try simp only [Act.put, List.setIfInBounds_toArray, List.set_cons_zero, List.set_cons_succ]
                  refine wpAnyH_ready (rs := [10]) (by kernel_rfl) (by simp) ?_
                  refine AllReadyH.cons (o := { dst := none, op := Op.store 61 (Operand.tmp 7) (Operand.tmp 74), type := 0, pos := "ref.go:297", after := #[{ on := 9, ground := Ground.data }, { on := 9, ground := Ground.chain }, { on := 0, ground := Ground.phase }, { on := 1, ground := Ground.phase }, { on := 2, ground := Ground.phase }, { on := 3, ground := Ground.phase }, { on := 4, ground := Ground.phase }, { on := 5, ground := Ground.phase }, { on := 6, ground := Ground.phase }, { on := 7, ground := Ground.phase }, { on := 8, ground := Ground.phase }, { on := 9, ground := Ground.phase }], guard := none }) rfl (fun K hK => ?_) AllReadyH.nil
                  go_simp
                  refine hK.out _ _ trivial (fun hHeld => ?_)
                  clear hK K
                  try simp only [Act.put, List.setIfInBounds_toArray, List.set_cons_zero, List.set_cons_succ]
                  refine wpAnyH_done (by kernel_rfl) ?_ _
                  refine NoPanic.normal ?_
                  go_wp2_with fail
                  go_roundw
                  case rel => exact ⟨k + 1, by go_num, by omega, RdI.next HP.out HDV.out HDL.out a0 a1 fa0 fa1 R0.out R1.out F0.out F1.out hne1, HG.out.put2 (by omega) _ _⟩
                  case measure => simp [intOf]; omega
              · obtain rfl : k = T.size := by omega
                rw [HTS.out] at HJ
                have HJ := Lib.hid (HJ.out.flag a0 (good_sign HGOOD.out))
                obtain ⟨z, hz⟩ : ∃ z, z = sg true (Ow.dval t) := ⟨_, rfl⟩
                rw [← hz] at HJ
                have HZ := Lib.hid hz
                clear hz
                have g := HG.out.setCell (p := ⟨w.heap.size + 1, 0, none⟩) (by simp) (.bool true)
                have r0' : (wo.setCell ⟨w.heap.size + 1, 0, none⟩ (.bool true)).cell? ⟨w.heap.size, 0, none⟩ = some (.bool false) := by simp [go_sem, r0]
                have r1' : (wo.setCell ⟨w.heap.size + 1, 0, none⟩ (.bool true)).cell? ⟨w.heap.size, 1, none⟩ = some (.string ⟨#[]⟩) := by simp [go_sem, r1]
                have er0' : (wo.setCell ⟨w.heap.size + 1, 0, none⟩ (.bool true)).frozen? ⟨w.heap.size, 0, none⟩ = false := by simp [go_sem, er0]
                have er1' : (wo.setCell ⟨w.heap.size + 1, 0, none⟩ (.bool true)).frozen? ⟨w.heap.size, 1, none⟩ = false := by simp [go_sem, er1]
                have HG := Lib.hid g
                have R0 := Lib.hid r0'
                have R1 := Lib.hid r1'
                have F0 := Lib.hid er0'
                have F1 := Lib.hid er1'
                clear g r0 r1 er0 er1 r0' r1' er0' er1'
                go_wp2_with fail
                refine (rout_any 129 z _ _ HJ.out b129).mono ?_
                rintro e w5 ⟨rfl, g⟩
                have r0 := g.keeps R0.out
                have r1 := g.keeps R1.out
                have er0 := g.frozen R0.out F0.out
                have er1 := g.frozen R1.out F1.out
                have HG := Lib.hid (HG.out.trans g)
                clear g
                go_wp2_with fail
                refine bodyPost_ret (v := .tuple #[.agg #[.bool (fNeg z), .string (fStr z)], .int .i64 (fErr z)]) (by simp [results, Tryd.results17, go_sem, r0, r1]) rfl ?_
                refine .inl ⟨HGOOD.out, ?_⟩
                rw [← HZ.out]
                exact ⟨rfl, HG.out.put2 (Nat.le_refl _) _ _⟩
set_option maxRecDepth 100000 in
set_option maxHeartbeats 8000000 in
theorem rread_pos (t : List UInt8) (w : World) (hl : t.length ≤ 100000) (hf : Lib.hasPrefix t [45] = false) :
    Calls Tryd.prog 17 #[.string ⟨t.toArray⟩] w (ReadRes false t w) := by
  obtain ⟨T, hT⟩ : ∃ T : ByteArray, T = ⟨t.toArray⟩ := ⟨_, rfl⟩
  have hTL : T.size = t.length := by rw [hT]; simp [ByteArray.size]
  rw [← hT]
  have HTL := Lib.hid hTL
  have HTA := Lib.hid (show ∀ k (hk : k < T.size), T[k].toNat = (t[k]?.getD 0).toNat by subst hT; exact str_nat t)
  have HE := Lib.hid (show T.toList.isEmpty = t.isEmpty by rw [hT]; exact list_empty t)
  have hTb : T.size ≤ 100000 := by omega
  have HPF := Lib.hid (show ∀ h : t ≠ [], Lib.hasPrefix t [48] = ((t[0]?.getD 0) == 48) by
    intro h
    cases t with
    | nil => exact absurd rfl h
    | cons c t2 => rw [zero_pref]; rfl)
  have HF := Lib.hid (show ∀ h : t ≠ [], ¬ (t[0]?.getD 0) = 45 by
    intro h
    cases t with
    | nil => exact absurd rfl h
    | cons c t2 => rw [minus_pref] at hf; simpa using hf)
  clear hT hTL hl hf
  by_cases h0 : t = []
  · have HBAD := Lib.hid (show ¬ Good false t from fun h => h.1 h0)
    have he : T.toList.isEmpty = true := by rw [HE.out, h0]; rfl
    have p0 : T.size = 0 := by rw [HTL.out, h0]; rfl
    have p1 : decide ((0 : Int) < (T.size : Int)) = false := decide_eq_false (by omega)
    have p1' : ¬ 0 < T.size := by omega
    clear h0 p0
    go_enter Tryd.func17, Tryd.ntmps17
    go_wp2_with fail
    refine bodyPost_ret (v := .tuple #[.agg #[.bool false, .string ⟨#[]⟩], .int .i64 6]) (by simp [results, Tryd.results17, go_sem]) rfl ?_
    exact .inr ⟨HBAD.out, rfl, by first | exact Gr.new _ _ | exact (Gr.new _ _).put2 (Nat.le_refl _) _ _⟩
  · have he : T.toList.isEmpty = false := by
      rw [HE.out]; cases t
      · exact absurd rfl h0
      · rfl
    have hT0 : 0 < T.size := by rw [HTL.out]; exact List.length_pos_iff.2 h0
    have p1 : decide ((0 : Int) < (T.size : Int)) = true := by simp; omega
    have p2 : ((T[0].toNat : Int) == 45) = false := by
      rw [HTA.out 0 hT0]
      simp only [beq_eq_false_iff_ne, ne_eq]
      intro e
      exact HF.out h0 (UInt8.toNat_inj.1 (by have : (45 : UInt8).toNat = 45 := rfl; omega))
    have HPF := Lib.hid (HPF.out h0)
    have HNE := Lib.hid h0
    clear h0
    go_enter Tryd.func17, Tryd.ntmps17
    by_cases hlead : t[0]?.getD 0 = 48 ∧ (false = true ∨ 1 < T.size)
    · have HBAD := Lib.hid (show ¬ Good false t from fun h => h.2.2 ⟨by rw [HPF.out, hlead.1]; rfl, by rw [← HTL.out]; exact hlead.2⟩)
      have h0 : ((T[0].toNat : Int) == 48) = true := by rw [HTA.out 0 hT0, hlead.1]; rfl
      have h2 : 1 < T.size := by simpa using hlead.2
      have q1 : decide ((1 : Int) < (T.size : Int)) = true := by simp; omega
      have q1' : decide (1 < T.size) = true := by simp; omega
      clear hlead
      go_wp2_with fail
      refine bodyPost_ret (v := .tuple #[.agg #[.bool false, .string ⟨#[]⟩], .int .i64 6]) (by simp [results, Tryd.results17, go_sem]) rfl ?_
      exact .inr ⟨HBAD.out, rfl, by first | exact Gr.new _ _ | exact (Gr.new _ _).put2 (Nat.le_refl _) _ _⟩
    · have HLEAD := Lib.hid (show NoLead false t from fun h => hlead ⟨by have h1 := h.1; rw [HPF.out] at h1; simpa using h1, by rw [HTL.out]; exact h.2⟩)
      by_cases hc : t[0]?.getD 0 = 48
      · have h0 : ((T[0].toNat : Int) == 48) = true := by rw [HTA.out 0 hT0, hc]; rfl
        have h2 : ¬ 1 < T.size := fun h => hlead ⟨hc, .inr h⟩
        have q1 : decide ((1 : Int) < (T.size : Int)) = false := by simp; omega
        have q1' : decide (1 < T.size) = false := by simp; omega
        clear hlead hc
        go_wp2_with fail
        obtain ⟨W, hW⟩ : ∃ W : World, W = (w.alloc (.cells #[.bool false, .string ⟨#[]⟩] 23)) := ⟨_, rfl⟩
        rw [← hW]
        have g1 : Gr w W := by rw [hW]; exact ((Gr.refl _).alloc _)
        have r0 : W.cell? ⟨w.heap.size, 0, none⟩ = some (.bool false) := by rw [hW]; simp [go_sem]
        have er0 : W.frozen? ⟨w.heap.size, 0, none⟩ = false := by rw [hW]; simp [go_sem]
        have r1 : W.cell? ⟨w.heap.size, 1, none⟩ = some (.string ⟨#[]⟩) := by rw [hW]; simp [go_sem]
        have er1 : W.frozen? ⟨w.heap.size, 1, none⟩ = false := by rw [hW]; simp [go_sem]
        have hsz : W.heap.size = w.heap.size + 1 := by rw [hW]; simp
        have HG := Lib.hid g1
        have HSZ := Lib.hid hsz
        clear hW g1 hsz
        have hne1 : ¬ (w.heap.size = w.heap.size + 1) := by omega
        have hne2 : ¬ (w.heap.size + 1 = w.heap.size) := by omega
        go_loop [6] (fun i => ∃ k : Nat, i = .int .i64 k ∧ k ≤ T.size ∧ Ow.Dec (t.take k)) (fun i => T.size - (intOf i).toNat)
        case atStart => exact ⟨0, rfl, Nat.zero_le _, by simp [Ow.Dec]⟩
        case round =>
          obtain ⟨k, rfl, hk, hdec⟩ := hrel
          have HD := Lib.hid hdec
          clear hdec
          by_cases hlt : k < T.size
          · have HTK := Lib.hid (HTA.out k hlt)
            have hltl : k < t.length := by rw [← HTL.out]; exact hlt
            by_cases c1 : T[k].toNat < 48
            · have HBAD := Lib.hid (show ¬ Good false t from fun h => by have := dec_at h.2.1 hltl; rw [← HTK.out] at this; omega)
              have d1 : decide ((T[k].toNat : Int) < 48) = true := by simp; omega
              go_wp2_with fail
              refine bodyPost_ret (v := .tuple #[.agg #[.bool false, .string ⟨#[]⟩], .int .i64 6]) (by simp [results, Tryd.results17, go_sem, r0, r1]) rfl ?_
              exact .inr ⟨HBAD.out, rfl, HG.out.put2 (Nat.le_refl _) _ _⟩
            · by_cases c2 : 57 < T[k].toNat
              · have HBAD := Lib.hid (show ¬ Good false t from fun h => by have := dec_at h.2.1 hltl; rw [← HTK.out] at this; omega)
                have d1 : decide ((T[k].toNat : Int) < 48) = false := by simp; omega
                have d2 : decide ((57 : Int) < (T[k].toNat : Int)) = true := by simp; omega
                go_wp2_with fail
                refine bodyPost_ret (v := .tuple #[.agg #[.bool false, .string ⟨#[]⟩], .int .i64 6]) (by simp [results, Tryd.results17, go_sem, r0, r1]) rfl ?_
                exact .inr ⟨HBAD.out, rfl, HG.out.put2 (Nat.le_refl _) _ _⟩
              · have HDN := Lib.hid (dec_snoc HD.out hltl (by rw [← HTK.out]; omega) (by rw [← HTK.out]; omega))
                have d1 : decide ((T[k].toNat : Int) < 48) = false := by simp; omega
                have d2 : decide ((57 : Int) < (T[k].toNat : Int)) = false := by simp; omega
                go_wp2_with fail
                go_round
                case rel => exact ⟨k + 1, by go_num, by omega, HDN.out⟩
                case measure => simp [intOf]; omega
          · obtain rfl : k = T.size := by omega
            have HGOOD := Lib.hid (show Good false t from ⟨HNE.out, by have h := HD.out; rw [List.take_of_length_le (by rw [← HTL.out]; exact Nat.le_refl _)] at h; exact h, HLEAD.out⟩)
            by_cases hbig : 617 < T.size
            · exact absurd hbig (by omega)
            · have d1 : decide ((617 : Int) < (T.size : Int)) = false := by simp; omega
              have hsm : T.size ≤ 617 := by omega
              clear hbig
              go_wp2_with fail
              rw [HSZ.out]
              obtain ⟨V, hV⟩ : ∃ V : World, V = W.alloc (.cells #[.bool false, .slice none 0 0] 61) := ⟨_, rfl⟩
              rw [← hV]
              have a0 : V.cell? ⟨w.heap.size + 1, 0, none⟩ = some (.bool false) := by rw [hV, ← HSZ.out]; simp [go_sem]
              have a1 : V.cell? ⟨w.heap.size + 1, 1, none⟩ = some (.slice none 0 0) := by rw [hV, ← HSZ.out]; simp [go_sem]
              have fa0 : V.frozen? ⟨w.heap.size + 1, 0, none⟩ = false := by rw [hV, ← HSZ.out]; simp [go_sem]
              have fa1 : V.frozen? ⟨w.heap.size + 1, 1, none⟩ = false := by rw [hV, ← HSZ.out]; simp [go_sem]
              have gV : Gr W V := by rw [hV]; exact Gr.new _ _
              have HSTART := Lib.hid (RdI.start (t := t) a0 a1 fa0 fa1 (gV.keeps r0) (gV.keeps r1) (gV.frozen r0 er0) (gV.frozen r1 er1))
              have HG := Lib.hid (HG.out.trans gV)
              have HTS := Lib.hid (show t.take T.size = t from List.take_of_length_le (by rw [← HTL.out]; exact Nat.le_refl _))
              clear gV hV a0 a1 fa0 fa1 r0 r1 er0 er1
              have h10 := rword_at 10 10 rfl (by omega)
              have H10 := Lib.hid h10
              clear h10
              have b131 : 129 + 2 ≤ 90000 := by omega
              have b1311 : 131 ≤ 90000 := by omega
              have b129 : 129 ≤ 100000 := by omega
              have b2 : 2 ≤ 131 := by omega
              go_loopw [8] (fun i wr => ∃ k : Nat, i = .int .i64 k ∧ k ≤ T.size ∧ RdI w.heap.size (w.heap.size + 1) t k wr ∧ Gr w wr) (fun i _ => T.size - (intOf i).toNat)
              case atStart => exact ⟨0, rfl, Nat.zero_le _, HSTART.out, HG.out⟩
              case round =>
                obtain ⟨wo, rfl⟩ : ∃ wo : World, wo = wr := ⟨_, rfl⟩
                obtain ⟨k, rfl, hk, ⟨sn, sa, sk, sc, a0, a1, fa0, fa1, hj, r0, r1, er0, er1⟩, hg⟩ := hrel
                have HJ := Lib.hid hj
                have HG := Lib.hid hg
                clear hj hg
                by_cases hlt : k < T.size
                · have hltl : k < t.length := by rw [← HTL.out]; exact hlt
                  have HTK := Lib.hid (HTA.out k hlt)
                  have hdd := dec_at HGOOD.out.2.1 hltl
                  rw [← HTK.out] at hdd
                  have d1 : 48 ≤ T[k].toNat := hdd.1
                  have d2 : T[k].toNat ≤ 57 := hdd.2
                  clear hdd
                  have HDW := Lib.hid (rword_at (IntKind.u32.wrap (IntKind.u8.wrap ((T[k].toNat : Int) - 48))) (T[k].toNat - 48) (by show (((T[k].toNat : Int) - 48) % 256) % 4294967296 = _; omega) (by omega))
                  have HDV := Lib.hid (show (Ow.dval (t.take k) : Int) * (10 : Nat) + ((T[k].toNat - 48 : Nat) : Int) = ((Ow.dval (t.take (k + 1)) : Nat) : Int) by rw [dval_next hltl, ← HTK.out]; generalize Ow.dval (t.take k) = y; generalize T[k].toNat - 48 = x; omega)
                  have HDL := Lib.hid (dval_take_lt HGOOD.out.2.1 (k + 1) (by omega))
                  have R0 := Lib.hid r0
                  have R1 := Lib.hid r1
                  have F0 := Lib.hid er0
                  have F1 := Lib.hid er1
                  have FA0 := Lib.hid fa0
                  have FA1 := Lib.hid fa1
                  clear r0 r1 er0 er1 fa0 fa1
                  go_wp2_with fail
                  refine wp_region_noPanic ?_
                  refine wp_region_held_drew (S := fun _ => True) (by kernel_rfl) trivial (fun hHeld => ?_)
                  refine wpAnyH_take (i := 3) (oi := { dst := some 68, op := Op.move (Operand.tmp 4), type := 9, pos := "ref.go:297", after := #[], guard := none }) (v := ?_) rfl (by kernel_rfl) (by kernel_rfl) (by kernel_rfl) (fun _ _ _ h => h) (Or.inl ⟨by rfl, ?_⟩) (by assumption) ?_
                  rotate_left
                  · intro w hSw; (try dsimp only at hSw); go_simp; try with_reducible rfl
                  try simp only [Act.put, List.setIfInBounds_toArray, List.set_cons_zero, List.set_cons_succ]
                  refine wpAnyH_take (i := 4) (oi := { dst := some 69, op := Op.move (Operand.tmp 8), type := 3, pos := "ref.go:297", after := #[], guard := none }) (v := ?_) rfl (by kernel_rfl) (by kernel_rfl) (by kernel_rfl) (fun _ _ _ h => h) (Or.inl ⟨by rfl, ?_⟩) (by assumption) ?_
                  rotate_left
                  · intro w hSw; (try dsimp only at hSw); go_simp; try with_reducible rfl
                  try simp only [Act.put, List.setIfInBounds_toArray, List.set_cons_zero, List.set_cons_succ]
                  refine wpAnyH_take (i := 5) (oi := { dst := some 70, op := Op.index 9 (Operand.tmp 68) (Operand.tmp 69), type := 5, pos := "ref.go:297", after := #[{ on := 3, ground := Ground.data }, { on := 4, ground := Ground.data }], guard := none }) (v := ?_) rfl (by kernel_rfl) (by kernel_rfl) (by kernel_rfl) (fun _ _ _ h => h) (Or.inl ⟨by rfl, ?_⟩) (by assumption) ?_
                  rotate_left
                  · intro w hSw; (try dsimp only at hSw); go_simp; try with_reducible rfl
                  try simp only [Act.put, List.setIfInBounds_toArray, List.set_cons_zero, List.set_cons_succ]
                  refine wpAnyH_take (i := 6) (oi := { dst := some 71, op := Op.binOp BinOp.sub 5 (Operand.tmp 70) (Operand.const (Value.int IntKind.u8 48)) 5, type := 5, pos := "ref.go:297", after := #[{ on := 5, ground := Ground.data }], guard := none }) (v := ?_) rfl (by kernel_rfl) (by kernel_rfl) (by kernel_rfl) (fun _ _ _ h => h) (Or.inl ⟨by rfl, ?_⟩) (by assumption) ?_
                  rotate_left
                  · intro w hSw; (try dsimp only at hSw); go_simp; try with_reducible rfl
                  try simp only [Act.put, List.setIfInBounds_toArray, List.set_cons_zero, List.set_cons_succ]
                  refine wpAnyH_take (i := 7) (oi := { dst := some 72, op := Op.convert 5 59 (Operand.tmp 71), type := 59, pos := "ref.go:297", after := #[{ on := 6, ground := Ground.data }], guard := none }) (v := ?_) rfl (by kernel_rfl) (by kernel_rfl) (by kernel_rfl) (fun _ _ _ h => h) (Or.inl ⟨by rfl, ?_⟩) (by assumption) ?_
                  rotate_left
                  · intro w hSw; (try dsimp only at hSw); go_simp; try with_reducible rfl
                  try simp only [Act.put, List.setIfInBounds_toArray, List.set_cons_zero, List.set_cons_succ]
                  refine wpAnyH_ready (rs := [0, 1]) (by kernel_rfl) (by simp) ?_
                  refine AllReadyH.cons (o := { dst := some 65, op := Op.load 61 (Operand.tmp 7), type := 61, pos := "ref.go:297", after := #[], guard := none }) rfl (fun K hK => ?_) (AllReadyH.cons (o := { dst := some 66, op := Op.call { callee := Callee.value (Operand.func 41), args := #[Operand.const (Value.int IntKind.u32 10)], argTypes := #[59] }, type := 61, pos := "ref.go:297", after := #[], guard := none }) rfl (fun K hK => ?_) AllReadyH.nil)
                  · go_simp
                    refine hK.out _ _ trivial (fun hHeld => ?_)
                    clear hK K
                    try simp only [Act.put, List.setIfInBounds_toArray, List.set_cons_zero, List.set_cons_succ]
                    refine wpAnyH_ready (rs := [1]) (by kernel_rfl) (by simp) ?_
                    refine AllReadyH.cons (o := { dst := some 66, op := Op.call { callee := Callee.value (Operand.func 41), args := #[Operand.const (Value.int IntKind.u32 10)], argTypes := #[59] }, type := 61, pos := "ref.go:297", after := #[], guard := none }) rfl (fun K hK => ?_) AllReadyH.nil
                    go_simp
                    go_wp2_with ((go_at_call 41; (with_reducible refine (H10.out _).mono ?_); rintro e w' ⟨u, rfl, hv, g⟩; replace g := Gr.trans (show Gr wo wo.drew from Below.drew (Gr.refl wo)) g; (have HU := Lib.hid hv); (have HJ := Lib.hid (HJ.out.later g)); have FA0 := Lib.hid (g.frozen a0 FA0.out); have FA1 := Lib.hid (g.frozen a1 FA1.out); have a0 := g.keeps a0; have a1 := g.keeps a1; have F0 := Lib.hid (g.frozen R0.out F0.out); have F1 := Lib.hid (g.frozen R1.out F1.out); have R0 := Lib.hid (g.keeps R0.out); have R1 := Lib.hid (g.keeps R1.out); have HG := Lib.hid (HG.out.trans g); clear hv g))
                    refine hK.out _ _ trivial (fun hHeld => ?_)
                    clear hK K
                    try simp only [Act.put, List.setIfInBounds_toArray, List.set_cons_zero, List.set_cons_succ]
                    refine wpAnyH_ready (rs := [2]) (by kernel_rfl) (by simp) ?_
                    refine AllReadyH.cons (o := { dst := some 67, op := Op.call { callee := Callee.value (Operand.func 40), args := #[Operand.tmp 65, Operand.tmp 66], argTypes := #[61, 61] }, type := 61, pos := "ref.go:297", after := #[{ on := 0, ground := Ground.data }, { on := 1, ground := Ground.data }, { on := 1, ground := Ground.chain }], guard := none }) rfl (fun K hK => ?_) AllReadyH.nil
                    go_simp
                    go_wp2_with ((go_at_call 40; (with_reducible refine (rmul_any 129 2 _ _ _ _ _ HJ.out HU.out b131).mono ?_); rintro e w' ⟨m, rfl, hv, g⟩; (have HM := Lib.hid hv); have FA0 := Lib.hid (g.frozen a0 FA0.out); have FA1 := Lib.hid (g.frozen a1 FA1.out); have a0 := g.keeps a0; have a1 := g.keeps a1; have F0 := Lib.hid (g.frozen R0.out F0.out); have F1 := Lib.hid (g.frozen R1.out F1.out); have R0 := Lib.hid (g.keeps R0.out); have R1 := Lib.hid (g.keeps R1.out); have HG := Lib.hid (HG.out.trans g); clear hv g))
                    refine hK.out _ _ trivial (fun hHeld => ?_)
                    clear hK K
                    try simp only [Act.put, List.setIfInBounds_toArray, List.set_cons_zero, List.set_cons_succ]
                    refine wpAnyH_ready (rs := [8]) (by kernel_rfl) (by simp) ?_
                    refine AllReadyH.cons (o := { dst := some 73, op := Op.call { callee := Callee.value (Operand.func 41), args := #[Operand.tmp 72], argTypes := #[59] }, type := 61, pos := "ref.go:297", after := #[{ on := 7, ground := Ground.data }, { on := 2, ground := Ground.chain }], guard := none }) rfl (fun K hK => ?_) AllReadyH.nil
                    go_simp
                    go_wp2_with ((go_at_call 41; (with_reducible refine (HDW.out _).mono ?_); rintro e w' ⟨d, rfl, hv, g⟩; (have HW := Lib.hid (hv.wider b2)); (have HM := Lib.hid (HM.out.later g)); have FA0 := Lib.hid (g.frozen a0 FA0.out); have FA1 := Lib.hid (g.frozen a1 FA1.out); have a0 := g.keeps a0; have a1 := g.keeps a1; have F0 := Lib.hid (g.frozen R0.out F0.out); have F1 := Lib.hid (g.frozen R1.out F1.out); have R0 := Lib.hid (g.keeps R0.out); have R1 := Lib.hid (g.keeps R1.out); have HG := Lib.hid (HG.out.trans g); clear hv g))
                    refine hK.out _ _ trivial (fun hHeld => ?_)
                    clear hK K
                    try simp only [Act.put, List.setIfInBounds_toArray, List.set_cons_zero, List.set_cons_succ]
                    refine wpAnyH_ready (rs := [9]) (by kernel_rfl) (by simp) ?_
                    refine AllReadyH.cons (o := { dst := some 74, op := Op.call { callee := Callee.value (Operand.func 39), args := #[Operand.tmp 67, Operand.tmp 73], argTypes := #[61, 61] }, type := 61, pos := "ref.go:297", after := #[{ on := 2, ground := Ground.data }, { on := 8, ground := Ground.data }, { on := 8, ground := Ground.chain }], guard := none }) rfl (fun K hK => ?_) AllReadyH.nil
                    go_simp
                    go_wp2_with ((go_at_call 39; (with_reducible refine (radd_any 131 _ _ _ _ _ HM.out HW.out b1311).mono ?_); rintro e w' ⟨p, rfl, hv, g⟩; (have HP := Lib.hid hv); obtain ⟨pn, pa, pk, pc, -, rfl, -⟩ := hv.parts; have fa0 := g.frozen a0 FA0.out; have fa1 := g.frozen a1 FA1.out; have FA0 := Lib.hid (g.frozen a0 FA0.out); have FA1 := Lib.hid (g.frozen a1 FA1.out); have a0 := g.keeps a0; have a1 := g.keeps a1; have F0 := Lib.hid (g.frozen R0.out F0.out); have F1 := Lib.hid (g.frozen R1.out F1.out); have R0 := Lib.hid (g.keeps R0.out); have R1 := Lib.hid (g.keeps R1.out); have HG := Lib.hid (HG.out.trans g); clear hv g))
                    refine hK.out _ _ trivial (fun hHeld => ?_)
                    clear hK K
                    try simp only [Act.put, List.setIfInBounds_toArray, List.set_cons_zero, List.set_cons_succ]
                    refine wpAnyH_ready (rs := [10]) (by kernel_rfl) (by simp) ?_
                    refine AllReadyH.cons (o := { dst := none, op := Op.store 61 (Operand.tmp 7) (Operand.tmp 74), type := 0, pos := "ref.go:297", after := #[{ on := 9, ground := Ground.data }, { on := 9, ground := Ground.chain }, { on := 0, ground := Ground.phase }, { on := 1, ground := Ground.phase }, { on := 2, ground := Ground.phase }, { on := 3, ground := Ground.phase }, { on := 4, ground := Ground.phase }, { on := 5, ground := Ground.phase }, { on := 6, ground := Ground.phase }, { on := 7, ground := Ground.phase }, { on := 8, ground := Ground.phase }, { on := 9, ground := Ground.phase }], guard := none }) rfl (fun K hK => ?_) AllReadyH.nil
                    go_simp
                    refine hK.out _ _ trivial (fun hHeld => ?_)
                    clear hK K
                    try simp only [Act.put, List.setIfInBounds_toArray, List.set_cons_zero, List.set_cons_succ]
                    refine wpAnyH_done (by kernel_rfl) ?_ _
                    refine NoPanic.normal ?_
                    go_wp2_with fail
                    go_roundw
                    case rel => exact ⟨k + 1, by go_num, by omega, RdI.next HP.out HDV.out HDL.out a0 a1 fa0 fa1 R0.out R1.out F0.out F1.out hne1, HG.out.put2 (by omega) _ _⟩
                    case measure => simp [intOf]; omega
                  · go_simp
                    go_wp2_with ((go_at_call 41; (with_reducible refine (H10.out _).mono ?_); rintro e w' ⟨u, rfl, hv, g⟩; replace g := Gr.trans (show Gr wo wo.drew from Below.drew (Gr.refl wo)) g; (have HU := Lib.hid hv); (have HJ := Lib.hid (HJ.out.later g)); have FA0 := Lib.hid (g.frozen a0 FA0.out); have FA1 := Lib.hid (g.frozen a1 FA1.out); have a0 := g.keeps a0; have a1 := g.keeps a1; have F0 := Lib.hid (g.frozen R0.out F0.out); have F1 := Lib.hid (g.frozen R1.out F1.out); have R0 := Lib.hid (g.keeps R0.out); have R1 := Lib.hid (g.keeps R1.out); have HG := Lib.hid (HG.out.trans g); clear hv g))
                    refine hK.out _ _ trivial (fun hHeld => ?_)
                    clear hK K
                    try simp only [Act.put, List.setIfInBounds_toArray, List.set_cons_zero, List.set_cons_succ]
                    refine wpAnyH_ready (rs := [0]) (by kernel_rfl) (by simp) ?_
                    refine AllReadyH.cons (o := { dst := some 65, op := Op.load 61 (Operand.tmp 7), type := 61, pos := "ref.go:297", after := #[], guard := none }) rfl (fun K hK => ?_) AllReadyH.nil
                    go_simp
                    refine hK.out _ _ trivial (fun hHeld => ?_)
                    clear hK K
                    try simp only [Act.put, List.setIfInBounds_toArray, List.set_cons_zero, List.set_cons_succ]
                    refine wpAnyH_ready (rs := [2]) (by kernel_rfl) (by simp) ?_
                    refine AllReadyH.cons (o := { dst := some 67, op := Op.call { callee := Callee.value (Operand.func 40), args := #[Operand.tmp 65, Operand.tmp 66], argTypes := #[61, 61] }, type := 61, pos := "ref.go:297", after := #[{ on := 0, ground := Ground.data }, { on := 1, ground := Ground.data }, { on := 1, ground := Ground.chain }], guard := none }) rfl (fun K hK => ?_) AllReadyH.nil
                    go_simp
                    go_wp2_with ((go_at_call 40; (with_reducible refine (rmul_any 129 2 _ _ _ _ _ HJ.out HU.out b131).mono ?_); rintro e w' ⟨m, rfl, hv, g⟩; (have HM := Lib.hid hv); have FA0 := Lib.hid (g.frozen a0 FA0.out); have FA1 := Lib.hid (g.frozen a1 FA1.out); have a0 := g.keeps a0; have a1 := g.keeps a1; have F0 := Lib.hid (g.frozen R0.out F0.out); have F1 := Lib.hid (g.frozen R1.out F1.out); have R0 := Lib.hid (g.keeps R0.out); have R1 := Lib.hid (g.keeps R1.out); have HG := Lib.hid (HG.out.trans g); clear hv g))
                    refine hK.out _ _ trivial (fun hHeld => ?_)
                    clear hK K
                    try simp only [Act.put, List.setIfInBounds_toArray, List.set_cons_zero, List.set_cons_succ]
                    refine wpAnyH_ready (rs := [8]) (by kernel_rfl) (by simp) ?_
                    refine AllReadyH.cons (o := { dst := some 73, op := Op.call { callee := Callee.value (Operand.func 41), args := #[Operand.tmp 72], argTypes := #[59] }, type := 61, pos := "ref.go:297", after := #[{ on := 7, ground := Ground.data }, { on := 2, ground := Ground.chain }], guard := none }) rfl (fun K hK => ?_) AllReadyH.nil
                    go_simp
                    go_wp2_with ((go_at_call 41; (with_reducible refine (HDW.out _).mono ?_); rintro e w' ⟨d, rfl, hv, g⟩; (have HW := Lib.hid (hv.wider b2)); (have HM := Lib.hid (HM.out.later g)); have FA0 := Lib.hid (g.frozen a0 FA0.out); have FA1 := Lib.hid (g.frozen a1 FA1.out); have a0 := g.keeps a0; have a1 := g.keeps a1; have F0 := Lib.hid (g.frozen R0.out F0.out); have F1 := Lib.hid (g.frozen R1.out F1.out); have R0 := Lib.hid (g.keeps R0.out); have R1 := Lib.hid (g.keeps R1.out); have HG := Lib.hid (HG.out.trans g); clear hv g))
                    refine hK.out _ _ trivial (fun hHeld => ?_)
                    clear hK K
                    try simp only [Act.put, List.setIfInBounds_toArray, List.set_cons_zero, List.set_cons_succ]
                    refine wpAnyH_ready (rs := [9]) (by kernel_rfl) (by simp) ?_
                    refine AllReadyH.cons (o := { dst := some 74, op := Op.call { callee := Callee.value (Operand.func 39), args := #[Operand.tmp 67, Operand.tmp 73], argTypes := #[61, 61] }, type := 61, pos := "ref.go:297", after := #[{ on := 2, ground := Ground.data }, { on := 8, ground := Ground.data }, { on := 8, ground := Ground.chain }], guard := none }) rfl (fun K hK => ?_) AllReadyH.nil
                    go_simp
                    go_wp2_with ((go_at_call 39; (with_reducible refine (radd_any 131 _ _ _ _ _ HM.out HW.out b1311).mono ?_); rintro e w' ⟨p, rfl, hv, g⟩; (have HP := Lib.hid hv); obtain ⟨pn, pa, pk, pc, -, rfl, -⟩ := hv.parts; have fa0 := g.frozen a0 FA0.out; have fa1 := g.frozen a1 FA1.out; have FA0 := Lib.hid (g.frozen a0 FA0.out); have FA1 := Lib.hid (g.frozen a1 FA1.out); have a0 := g.keeps a0; have a1 := g.keeps a1; have F0 := Lib.hid (g.frozen R0.out F0.out); have F1 := Lib.hid (g.frozen R1.out F1.out); have R0 := Lib.hid (g.keeps R0.out); have R1 := Lib.hid (g.keeps R1.out); have HG := Lib.hid (HG.out.trans g); clear hv g))
                    refine hK.out _ _ trivial (fun hHeld => ?_)
                    clear hK K
                    try simp only [Act.put, List.setIfInBounds_toArray, List.set_cons_zero, List.set_cons_succ]
                    refine wpAnyH_ready (rs := [10]) (by kernel_rfl) (by simp) ?_
                    refine AllReadyH.cons (o := { dst := none, op := Op.store 61 (Operand.tmp 7) (Operand.tmp 74), type := 0, pos := "ref.go:297", after := #[{ on := 9, ground := Ground.data }, { on := 9, ground := Ground.chain }, { on := 0, ground := Ground.phase }, { on := 1, ground := Ground.phase }, { on := 2, ground := Ground.phase }, { on := 3, ground := Ground.phase }, { on := 4, ground := Ground.phase }, { on := 5, ground := Ground.phase }, { on := 6, ground := Ground.phase }, { on := 7, ground := Ground.phase }, { on := 8, ground := Ground.phase }, { on := 9, ground := Ground.phase }], guard := none }) rfl (fun K hK => ?_) AllReadyH.nil
                    go_simp
                    refine hK.out _ _ trivial (fun hHeld => ?_)
                    clear hK K
                    try simp only [Act.put, List.setIfInBounds_toArray, List.set_cons_zero, List.set_cons_succ]
                    refine wpAnyH_done (by kernel_rfl) ?_ _
                    refine NoPanic.normal ?_
                    go_wp2_with fail
                    go_roundw
                    case rel => exact ⟨k + 1, by go_num, by omega, RdI.next HP.out HDV.out HDL.out a0 a1 fa0 fa1 R0.out R1.out F0.out F1.out hne1, HG.out.put2 (by omega) _ _⟩
                    case measure => simp [intOf]; omega
                · obtain rfl : k = T.size := by omega
                  rw [HTS.out] at HJ
                  have HJ := Lib.hid (HJ.out.flag a0 (good_sign HGOOD.out))
                  obtain ⟨z, hz⟩ : ∃ z, z = sg false (Ow.dval t) := ⟨_, rfl⟩
                  rw [← hz] at HJ
                  have HZ := Lib.hid hz
                  clear hz
                  have g := HG.out.setCell (p := ⟨w.heap.size + 1, 0, none⟩) (by simp) (.bool false)
                  have r0' : (wo.setCell ⟨w.heap.size + 1, 0, none⟩ (.bool false)).cell? ⟨w.heap.size, 0, none⟩ = some (.bool false) := by simp [go_sem, r0]
                  have r1' : (wo.setCell ⟨w.heap.size + 1, 0, none⟩ (.bool false)).cell? ⟨w.heap.size, 1, none⟩ = some (.string ⟨#[]⟩) := by simp [go_sem, r1]
                  have er0' : (wo.setCell ⟨w.heap.size + 1, 0, none⟩ (.bool false)).frozen? ⟨w.heap.size, 0, none⟩ = false := by simp [go_sem, er0]
                  have er1' : (wo.setCell ⟨w.heap.size + 1, 0, none⟩ (.bool false)).frozen? ⟨w.heap.size, 1, none⟩ = false := by simp [go_sem, er1]
                  have HG := Lib.hid g
                  have R0 := Lib.hid r0'
                  have R1 := Lib.hid r1'
                  have F0 := Lib.hid er0'
                  have F1 := Lib.hid er1'
                  clear g r0 r1 er0 er1 r0' r1' er0' er1'
                  go_wp2_with fail
                  refine (rout_any 129 z _ _ HJ.out b129).mono ?_
                  rintro e w5 ⟨rfl, g⟩
                  have r0 := g.keeps R0.out
                  have r1 := g.keeps R1.out
                  have er0 := g.frozen R0.out F0.out
                  have er1 := g.frozen R1.out F1.out
                  have HG := Lib.hid (HG.out.trans g)
                  clear g
                  go_wp2_with fail
                  refine bodyPost_ret (v := .tuple #[.agg #[.bool (fNeg z), .string (fStr z)], .int .i64 (fErr z)]) (by simp [results, Tryd.results17, go_sem, r0, r1]) rfl ?_
                  refine .inl ⟨HGOOD.out, ?_⟩
                  rw [← HZ.out]
                  exact ⟨rfl, HG.out.put2 (Nat.le_refl _) _ _⟩
      · have h0 : ((T[0].toNat : Int) == 48) = false := by
          rw [HTA.out 0 hT0]
          simp only [beq_eq_false_iff_ne, ne_eq]
          intro e
          exact hc (UInt8.toNat_inj.1 (by have : (48 : UInt8).toNat = 48 := rfl; omega))
        clear hlead hc
        go_wp2_with fail
        obtain ⟨W, hW⟩ : ∃ W : World, W = (w.alloc (.cells #[.bool false, .string ⟨#[]⟩] 23)) := ⟨_, rfl⟩
        rw [← hW]
        have g1 : Gr w W := by rw [hW]; exact ((Gr.refl _).alloc _)
        have r0 : W.cell? ⟨w.heap.size, 0, none⟩ = some (.bool false) := by rw [hW]; simp [go_sem]
        have er0 : W.frozen? ⟨w.heap.size, 0, none⟩ = false := by rw [hW]; simp [go_sem]
        have r1 : W.cell? ⟨w.heap.size, 1, none⟩ = some (.string ⟨#[]⟩) := by rw [hW]; simp [go_sem]
        have er1 : W.frozen? ⟨w.heap.size, 1, none⟩ = false := by rw [hW]; simp [go_sem]
        have hsz : W.heap.size = w.heap.size + 1 := by rw [hW]; simp
        have HG := Lib.hid g1
        have HSZ := Lib.hid hsz
        clear hW g1 hsz
        have hne1 : ¬ (w.heap.size = w.heap.size + 1) := by omega
        have hne2 : ¬ (w.heap.size + 1 = w.heap.size) := by omega
        go_loop [6] (fun i => ∃ k : Nat, i = .int .i64 k ∧ k ≤ T.size ∧ Ow.Dec (t.take k)) (fun i => T.size - (intOf i).toNat)
        case atStart => exact ⟨0, rfl, Nat.zero_le _, by simp [Ow.Dec]⟩
        case round =>
          obtain ⟨k, rfl, hk, hdec⟩ := hrel
          have HD := Lib.hid hdec
          clear hdec
          by_cases hlt : k < T.size
          · have HTK := Lib.hid (HTA.out k hlt)
            have hltl : k < t.length := by rw [← HTL.out]; exact hlt
            by_cases c1 : T[k].toNat < 48
            · have HBAD := Lib.hid (show ¬ Good false t from fun h => by have := dec_at h.2.1 hltl; rw [← HTK.out] at this; omega)
              have d1 : decide ((T[k].toNat : Int) < 48) = true := by simp; omega
              go_wp2_with fail
              refine bodyPost_ret (v := .tuple #[.agg #[.bool false, .string ⟨#[]⟩], .int .i64 6]) (by simp [results, Tryd.results17, go_sem, r0, r1]) rfl ?_
              exact .inr ⟨HBAD.out, rfl, HG.out.put2 (Nat.le_refl _) _ _⟩
            · by_cases c2 : 57 < T[k].toNat
              · have HBAD := Lib.hid (show ¬ Good false t from fun h => by have := dec_at h.2.1 hltl; rw [← HTK.out] at this; omega)
                have d1 : decide ((T[k].toNat : Int) < 48) = false := by simp; omega
                have d2 : decide ((57 : Int) < (T[k].toNat : Int)) = true := by simp; omega
                go_wp2_with fail
                refine bodyPost_ret (v := .tuple #[.agg #[.bool false, .string ⟨#[]⟩], .int .i64 6]) (by simp [results, Tryd.results17, go_sem, r0, r1]) rfl ?_
                exact .inr ⟨HBAD.out, rfl, HG.out.put2 (Nat.le_refl _) _ _⟩
              · have HDN := Lib.hid (dec_snoc HD.out hltl (by rw [← HTK.out]; omega) (by rw [← HTK.out]; omega))
                have d1 : decide ((T[k].toNat : Int) < 48) = false := by simp; omega
                have d2 : decide ((57 : Int) < (T[k].toNat : Int)) = false := by simp; omega
                go_wp2_with fail
                go_round
                case rel => exact ⟨k + 1, by go_num, by omega, HDN.out⟩
                case measure => simp [intOf]; omega
          · obtain rfl : k = T.size := by omega
            have HGOOD := Lib.hid (show Good false t from ⟨HNE.out, by have h := HD.out; rw [List.take_of_length_le (by rw [← HTL.out]; exact Nat.le_refl _)] at h; exact h, HLEAD.out⟩)
            by_cases hbig : 617 < T.size
            · have HOUT := Lib.hid (good_big HGOOD.out (by rw [← HTL.out]; exact hbig))
              have d1 : decide ((617 : Int) < (T.size : Int)) = true := by simp; omega
              have d2 : ((T.size : Int) > 617) := by omega
              go_wp2_with fail
              refine bodyPost_ret (v := .tuple #[.agg #[.bool false, .string ⟨#[]⟩], .int .i64 7]) (by simp [results, Tryd.results17, go_sem, r0, r1]) rfl ?_
              refine .inl ⟨HGOOD.out, ?_⟩
              rw [fNeg_out HOUT.out, fStr_out HOUT.out, fErr_out HOUT.out]
              exact ⟨rfl, HG.out.put2 (Nat.le_refl _) _ _⟩
            · have d1 : decide ((617 : Int) < (T.size : Int)) = false := by simp; omega
              have hsm : T.size ≤ 617 := by omega
              clear hbig
              go_wp2_with fail
              rw [HSZ.out]
              obtain ⟨V, hV⟩ : ∃ V : World, V = W.alloc (.cells #[.bool false, .slice none 0 0] 61) := ⟨_, rfl⟩
              rw [← hV]
              have a0 : V.cell? ⟨w.heap.size + 1, 0, none⟩ = some (.bool false) := by rw [hV, ← HSZ.out]; simp [go_sem]
              have a1 : V.cell? ⟨w.heap.size + 1, 1, none⟩ = some (.slice none 0 0) := by rw [hV, ← HSZ.out]; simp [go_sem]
              have fa0 : V.frozen? ⟨w.heap.size + 1, 0, none⟩ = false := by rw [hV, ← HSZ.out]; simp [go_sem]
              have fa1 : V.frozen? ⟨w.heap.size + 1, 1, none⟩ = false := by rw [hV, ← HSZ.out]; simp [go_sem]
              have gV : Gr W V := by rw [hV]; exact Gr.new _ _
              have HSTART := Lib.hid (RdI.start (t := t) a0 a1 fa0 fa1 (gV.keeps r0) (gV.keeps r1) (gV.frozen r0 er0) (gV.frozen r1 er1))
              have HG := Lib.hid (HG.out.trans gV)
              have HTS := Lib.hid (show t.take T.size = t from List.take_of_length_le (by rw [← HTL.out]; exact Nat.le_refl _))
              clear gV hV a0 a1 fa0 fa1 r0 r1 er0 er1
              have h10 := rword_at 10 10 rfl (by omega)
              have H10 := Lib.hid h10
              clear h10
              have b131 : 129 + 2 ≤ 90000 := by omega
              have b1311 : 131 ≤ 90000 := by omega
              have b129 : 129 ≤ 100000 := by omega
              have b2 : 2 ≤ 131 := by omega
              go_loopw [8] (fun i wr => ∃ k : Nat, i = .int .i64 k ∧ k ≤ T.size ∧ RdI w.heap.size (w.heap.size + 1) t k wr ∧ Gr w wr) (fun i _ => T.size - (intOf i).toNat)
              case atStart => exact ⟨0, rfl, Nat.zero_le _, HSTART.out, HG.out⟩
              case round =>
                obtain ⟨wo, rfl⟩ : ∃ wo : World, wo = wr := ⟨_, rfl⟩
                obtain ⟨k, rfl, hk, ⟨sn, sa, sk, sc, a0, a1, fa0, fa1, hj, r0, r1, er0, er1⟩, hg⟩ := hrel
                have HJ := Lib.hid hj
                have HG := Lib.hid hg
                clear hj hg
                by_cases hlt : k < T.size
                · have hltl : k < t.length := by rw [← HTL.out]; exact hlt
                  have HTK := Lib.hid (HTA.out k hlt)
                  have hdd := dec_at HGOOD.out.2.1 hltl
                  rw [← HTK.out] at hdd
                  have d1 : 48 ≤ T[k].toNat := hdd.1
                  have d2 : T[k].toNat ≤ 57 := hdd.2
                  clear hdd
                  have HDW := Lib.hid (rword_at (IntKind.u32.wrap (IntKind.u8.wrap ((T[k].toNat : Int) - 48))) (T[k].toNat - 48) (by show (((T[k].toNat : Int) - 48) % 256) % 4294967296 = _; omega) (by omega))
                  have HDV := Lib.hid (show (Ow.dval (t.take k) : Int) * (10 : Nat) + ((T[k].toNat - 48 : Nat) : Int) = ((Ow.dval (t.take (k + 1)) : Nat) : Int) by rw [dval_next hltl, ← HTK.out]; generalize Ow.dval (t.take k) = y; generalize T[k].toNat - 48 = x; omega)
                  have HDL := Lib.hid (dval_take_lt HGOOD.out.2.1 (k + 1) (by omega))
                  have R0 := Lib.hid r0
                  have R1 := Lib.hid r1
                  have F0 := Lib.hid er0
                  have F1 := Lib.hid er1
                  have FA0 := Lib.hid fa0
                  have FA1 := Lib.hid fa1
                  clear r0 r1 er0 er1 fa0 fa1
                  go_wp2_with fail
                  refine wp_region_noPanic ?_
                  refine wp_region_held_drew (S := fun _ => True) (by kernel_rfl) trivial (fun hHeld => ?_)
                  refine wpAnyH_take (i := 3) (oi := { dst := some 68, op := Op.move (Operand.tmp 4), type := 9, pos := "ref.go:297", after := #[], guard := none }) (v := ?_) rfl (by kernel_rfl) (by kernel_rfl) (by kernel_rfl) (fun _ _ _ h => h) (Or.inl ⟨by rfl, ?_⟩) (by assumption) ?_
                  rotate_left
                  · intro w hSw; (try dsimp only at hSw); go_simp; try with_reducible rfl
                  try simp only [Act.put, List.setIfInBounds_toArray, List.set_cons_zero, List.set_cons_succ]
                  refine wpAnyH_take (i := 4) (oi := { dst := some 69, op := Op.move (Operand.tmp 8), type := 3, pos := "ref.go:297", after := #[], guard := none }) (v := ?_) rfl (by kernel_rfl) (by kernel_rfl) (by kernel_rfl) (fun _ _ _ h => h) (Or.inl ⟨by rfl, ?_⟩) (by assumption) ?_
                  rotate_left
                  · intro w hSw; (try dsimp only at hSw); go_simp; try with_reducible rfl
                  try simp only [Act.put, List.setIfInBounds_toArray, List.set_cons_zero, List.set_cons_succ]
                  refine wpAnyH_take (i := 5) (oi := { dst := some 70, op := Op.index 9 (Operand.tmp 68) (Operand.tmp 69), type := 5, pos := "ref.go:297", after := #[{ on := 3, ground := Ground.data }, { on := 4, ground := Ground.data }], guard := none }) (v := ?_) rfl (by kernel_rfl) (by kernel_rfl) (by kernel_rfl) (fun _ _ _ h => h) (Or.inl ⟨by rfl, ?_⟩) (by assumption) ?_
                  rotate_left
                  · intro w hSw; (try dsimp only at hSw); go_simp; try with_reducible rfl
                  try simp only [Act.put, List.setIfInBounds_toArray, List.set_cons_zero, List.set_cons_succ]
                  refine wpAnyH_take (i := 6) (oi := { dst := some 71, op := Op.binOp BinOp.sub 5 (Operand.tmp 70) (Operand.const (Value.int IntKind.u8 48)) 5, type := 5, pos := "ref.go:297", after := #[{ on := 5, ground := Ground.data }], guard := none }) (v := ?_) rfl (by kernel_rfl) (by kernel_rfl) (by kernel_rfl) (fun _ _ _ h => h) (Or.inl ⟨by rfl, ?_⟩) (by assumption) ?_
                  rotate_left
                  · intro w hSw; (try dsimp only at hSw); go_simp; try with_reducible rfl
                  try simp only [Act.put, List.setIfInBounds_toArray, List.set_cons_zero, List.set_cons_succ]
                  refine wpAnyH_take (i := 7) (oi := { dst := some 72, op := Op.convert 5 59 (Operand.tmp 71), type := 59, pos := "ref.go:297", after := #[{ on := 6, ground := Ground.data }], guard := none }) (v := ?_) rfl (by kernel_rfl) (by kernel_rfl) (by kernel_rfl) (fun _ _ _ h => h) (Or.inl ⟨by rfl, ?_⟩) (by assumption) ?_
                  rotate_left
                  · intro w hSw; (try dsimp only at hSw); go_simp; try with_reducible rfl
                  try simp only [Act.put, List.setIfInBounds_toArray, List.set_cons_zero, List.set_cons_succ]
                  refine wpAnyH_ready (rs := [0, 1]) (by kernel_rfl) (by simp) ?_
                  refine AllReadyH.cons (o := { dst := some 65, op := Op.load 61 (Operand.tmp 7), type := 61, pos := "ref.go:297", after := #[], guard := none }) rfl (fun K hK => ?_) (AllReadyH.cons (o := { dst := some 66, op := Op.call { callee := Callee.value (Operand.func 41), args := #[Operand.const (Value.int IntKind.u32 10)], argTypes := #[59] }, type := 61, pos := "ref.go:297", after := #[], guard := none }) rfl (fun K hK => ?_) AllReadyH.nil)
                  · go_simp
                    refine hK.out _ _ trivial (fun hHeld => ?_)
                    clear hK K
                    try simp only [Act.put, List.setIfInBounds_toArray, List.set_cons_zero, List.set_cons_succ]
                    refine wpAnyH_ready (rs := [1]) (by kernel_rfl) (by simp) ?_
                    refine AllReadyH.cons (o := { dst := some 66, op := Op.call { callee := Callee.value (Operand.func 41), args := #[Operand.const (Value.int IntKind.u32 10)], argTypes := #[59] }, type := 61, pos := "ref.go:297", after := #[], guard := none }) rfl (fun K hK => ?_) AllReadyH.nil
                    go_simp
                    go_wp2_with ((go_at_call 41; (with_reducible refine (H10.out _).mono ?_); rintro e w' ⟨u, rfl, hv, g⟩; replace g := Gr.trans (show Gr wo wo.drew from Below.drew (Gr.refl wo)) g; (have HU := Lib.hid hv); (have HJ := Lib.hid (HJ.out.later g)); have FA0 := Lib.hid (g.frozen a0 FA0.out); have FA1 := Lib.hid (g.frozen a1 FA1.out); have a0 := g.keeps a0; have a1 := g.keeps a1; have F0 := Lib.hid (g.frozen R0.out F0.out); have F1 := Lib.hid (g.frozen R1.out F1.out); have R0 := Lib.hid (g.keeps R0.out); have R1 := Lib.hid (g.keeps R1.out); have HG := Lib.hid (HG.out.trans g); clear hv g))
                    refine hK.out _ _ trivial (fun hHeld => ?_)
                    clear hK K
                    try simp only [Act.put, List.setIfInBounds_toArray, List.set_cons_zero, List.set_cons_succ]
                    refine wpAnyH_ready (rs := [2]) (by kernel_rfl) (by simp) ?_
                    refine AllReadyH.cons (o := { dst := some 67, op := Op.call { callee := Callee.value (Operand.func 40), args := #[Operand.tmp 65, Operand.tmp 66], argTypes := #[61, 61] }, type := 61, pos := "ref.go:297", after := #[{ on := 0, ground := Ground.data }, { on := 1, ground := Ground.data }, { on := 1, ground := Ground.chain }], guard := none }) rfl (fun K hK => ?_) AllReadyH.nil
                    go_simp
                    go_wp2_with ((go_at_call 40; (with_reducible refine (rmul_any 129 2 _ _ _ _ _ HJ.out HU.out b131).mono ?_); rintro e w' ⟨m, rfl, hv, g⟩; (have HM := Lib.hid hv); have FA0 := Lib.hid (g.frozen a0 FA0.out); have FA1 := Lib.hid (g.frozen a1 FA1.out); have a0 := g.keeps a0; have a1 := g.keeps a1; have F0 := Lib.hid (g.frozen R0.out F0.out); have F1 := Lib.hid (g.frozen R1.out F1.out); have R0 := Lib.hid (g.keeps R0.out); have R1 := Lib.hid (g.keeps R1.out); have HG := Lib.hid (HG.out.trans g); clear hv g))
                    refine hK.out _ _ trivial (fun hHeld => ?_)
                    clear hK K
                    try simp only [Act.put, List.setIfInBounds_toArray, List.set_cons_zero, List.set_cons_succ]
                    refine wpAnyH_ready (rs := [8]) (by kernel_rfl) (by simp) ?_
                    refine AllReadyH.cons (o := { dst := some 73, op := Op.call { callee := Callee.value (Operand.func 41), args := #[Operand.tmp 72], argTypes := #[59] }, type := 61, pos := "ref.go:297", after := #[{ on := 7, ground := Ground.data }, { on := 2, ground := Ground.chain }], guard := none }) rfl (fun K hK => ?_) AllReadyH.nil
                    go_simp
                    go_wp2_with ((go_at_call 41; (with_reducible refine (HDW.out _).mono ?_); rintro e w' ⟨d, rfl, hv, g⟩; (have HW := Lib.hid (hv.wider b2)); (have HM := Lib.hid (HM.out.later g)); have FA0 := Lib.hid (g.frozen a0 FA0.out); have FA1 := Lib.hid (g.frozen a1 FA1.out); have a0 := g.keeps a0; have a1 := g.keeps a1; have F0 := Lib.hid (g.frozen R0.out F0.out); have F1 := Lib.hid (g.frozen R1.out F1.out); have R0 := Lib.hid (g.keeps R0.out); have R1 := Lib.hid (g.keeps R1.out); have HG := Lib.hid (HG.out.trans g); clear hv g))
                    refine hK.out _ _ trivial (fun hHeld => ?_)
                    clear hK K
                    try simp only [Act.put, List.setIfInBounds_toArray, List.set_cons_zero, List.set_cons_succ]
                    refine wpAnyH_ready (rs := [9]) (by kernel_rfl) (by simp) ?_
                    refine AllReadyH.cons (o := { dst := some 74, op := Op.call { callee := Callee.value (Operand.func 39), args := #[Operand.tmp 67, Operand.tmp 73], argTypes := #[61, 61] }, type := 61, pos := "ref.go:297", after := #[{ on := 2, ground := Ground.data }, { on := 8, ground := Ground.data }, { on := 8, ground := Ground.chain }], guard := none }) rfl (fun K hK => ?_) AllReadyH.nil
                    go_simp
                    go_wp2_with ((go_at_call 39; (with_reducible refine (radd_any 131 _ _ _ _ _ HM.out HW.out b1311).mono ?_); rintro e w' ⟨p, rfl, hv, g⟩; (have HP := Lib.hid hv); obtain ⟨pn, pa, pk, pc, -, rfl, -⟩ := hv.parts; have fa0 := g.frozen a0 FA0.out; have fa1 := g.frozen a1 FA1.out; have FA0 := Lib.hid (g.frozen a0 FA0.out); have FA1 := Lib.hid (g.frozen a1 FA1.out); have a0 := g.keeps a0; have a1 := g.keeps a1; have F0 := Lib.hid (g.frozen R0.out F0.out); have F1 := Lib.hid (g.frozen R1.out F1.out); have R0 := Lib.hid (g.keeps R0.out); have R1 := Lib.hid (g.keeps R1.out); have HG := Lib.hid (HG.out.trans g); clear hv g))
                    refine hK.out _ _ trivial (fun hHeld => ?_)
                    clear hK K
                    try simp only [Act.put, List.setIfInBounds_toArray, List.set_cons_zero, List.set_cons_succ]
                    refine wpAnyH_ready (rs := [10]) (by kernel_rfl) (by simp) ?_
                    refine AllReadyH.cons (o := { dst := none, op := Op.store 61 (Operand.tmp 7) (Operand.tmp 74), type := 0, pos := "ref.go:297", after := #[{ on := 9, ground := Ground.data }, { on := 9, ground := Ground.chain }, { on := 0, ground := Ground.phase }, { on := 1, ground := Ground.phase }, { on := 2, ground := Ground.phase }, { on := 3, ground := Ground.phase }, { on := 4, ground := Ground.phase }, { on := 5, ground := Ground.phase }, { on := 6, ground := Ground.phase }, { on := 7, ground := Ground.phase }, { on := 8, ground := Ground.phase }, { on := 9, ground := Ground.phase }], guard := none }) rfl (fun K hK => ?_) AllReadyH.nil
                    go_simp
                    refine hK.out _ _ trivial (fun hHeld => ?_)
                    clear hK K
                    try simp only [Act.put, List.setIfInBounds_toArray, List.set_cons_zero, List.set_cons_succ]
                    refine wpAnyH_done (by kernel_rfl) ?_ _
                    refine NoPanic.normal ?_
                    go_wp2_with fail
                    go_roundw
                    case rel => exact ⟨k + 1, by go_num, by omega, RdI.next HP.out HDV.out HDL.out a0 a1 fa0 fa1 R0.out R1.out F0.out F1.out hne1, HG.out.put2 (by omega) _ _⟩
                    case measure => simp [intOf]; omega
                  · go_simp
                    go_wp2_with ((go_at_call 41; (with_reducible refine (H10.out _).mono ?_); rintro e w' ⟨u, rfl, hv, g⟩; replace g := Gr.trans (show Gr wo wo.drew from Below.drew (Gr.refl wo)) g; (have HU := Lib.hid hv); (have HJ := Lib.hid (HJ.out.later g)); have FA0 := Lib.hid (g.frozen a0 FA0.out); have FA1 := Lib.hid (g.frozen a1 FA1.out); have a0 := g.keeps a0; have a1 := g.keeps a1; have F0 := Lib.hid (g.frozen R0.out F0.out); have F1 := Lib.hid (g.frozen R1.out F1.out); have R0 := Lib.hid (g.keeps R0.out); have R1 := Lib.hid (g.keeps R1.out); have HG := Lib.hid (HG.out.trans g); clear hv g))
                    refine hK.out _ _ trivial (fun hHeld => ?_)
                    clear hK K
                    try simp only [Act.put, List.setIfInBounds_toArray, List.set_cons_zero, List.set_cons_succ]
                    refine wpAnyH_ready (rs := [0]) (by kernel_rfl) (by simp) ?_
                    refine AllReadyH.cons (o := { dst := some 65, op := Op.load 61 (Operand.tmp 7), type := 61, pos := "ref.go:297", after := #[], guard := none }) rfl (fun K hK => ?_) AllReadyH.nil
                    go_simp
                    refine hK.out _ _ trivial (fun hHeld => ?_)
                    clear hK K
                    try simp only [Act.put, List.setIfInBounds_toArray, List.set_cons_zero, List.set_cons_succ]
                    refine wpAnyH_ready (rs := [2]) (by kernel_rfl) (by simp) ?_
                    refine AllReadyH.cons (o := { dst := some 67, op := Op.call { callee := Callee.value (Operand.func 40), args := #[Operand.tmp 65, Operand.tmp 66], argTypes := #[61, 61] }, type := 61, pos := "ref.go:297", after := #[{ on := 0, ground := Ground.data }, { on := 1, ground := Ground.data }, { on := 1, ground := Ground.chain }], guard := none }) rfl (fun K hK => ?_) AllReadyH.nil
                    go_simp
                    go_wp2_with ((go_at_call 40; (with_reducible refine (rmul_any 129 2 _ _ _ _ _ HJ.out HU.out b131).mono ?_); rintro e w' ⟨m, rfl, hv, g⟩; (have HM := Lib.hid hv); have FA0 := Lib.hid (g.frozen a0 FA0.out); have FA1 := Lib.hid (g.frozen a1 FA1.out); have a0 := g.keeps a0; have a1 := g.keeps a1; have F0 := Lib.hid (g.frozen R0.out F0.out); have F1 := Lib.hid (g.frozen R1.out F1.out); have R0 := Lib.hid (g.keeps R0.out); have R1 := Lib.hid (g.keeps R1.out); have HG := Lib.hid (HG.out.trans g); clear hv g))
                    refine hK.out _ _ trivial (fun hHeld => ?_)
                    clear hK K
                    try simp only [Act.put, List.setIfInBounds_toArray, List.set_cons_zero, List.set_cons_succ]
                    refine wpAnyH_ready (rs := [8]) (by kernel_rfl) (by simp) ?_
                    refine AllReadyH.cons (o := { dst := some 73, op := Op.call { callee := Callee.value (Operand.func 41), args := #[Operand.tmp 72], argTypes := #[59] }, type := 61, pos := "ref.go:297", after := #[{ on := 7, ground := Ground.data }, { on := 2, ground := Ground.chain }], guard := none }) rfl (fun K hK => ?_) AllReadyH.nil
                    go_simp
                    go_wp2_with ((go_at_call 41; (with_reducible refine (HDW.out _).mono ?_); rintro e w' ⟨d, rfl, hv, g⟩; (have HW := Lib.hid (hv.wider b2)); (have HM := Lib.hid (HM.out.later g)); have FA0 := Lib.hid (g.frozen a0 FA0.out); have FA1 := Lib.hid (g.frozen a1 FA1.out); have a0 := g.keeps a0; have a1 := g.keeps a1; have F0 := Lib.hid (g.frozen R0.out F0.out); have F1 := Lib.hid (g.frozen R1.out F1.out); have R0 := Lib.hid (g.keeps R0.out); have R1 := Lib.hid (g.keeps R1.out); have HG := Lib.hid (HG.out.trans g); clear hv g))
                    refine hK.out _ _ trivial (fun hHeld => ?_)
                    clear hK K
                    try simp only [Act.put, List.setIfInBounds_toArray, List.set_cons_zero, List.set_cons_succ]
                    refine wpAnyH_ready (rs := [9]) (by kernel_rfl) (by simp) ?_
                    refine AllReadyH.cons (o := { dst := some 74, op := Op.call { callee := Callee.value (Operand.func 39), args := #[Operand.tmp 67, Operand.tmp 73], argTypes := #[61, 61] }, type := 61, pos := "ref.go:297", after := #[{ on := 2, ground := Ground.data }, { on := 8, ground := Ground.data }, { on := 8, ground := Ground.chain }], guard := none }) rfl (fun K hK => ?_) AllReadyH.nil
                    go_simp
                    go_wp2_with ((go_at_call 39; (with_reducible refine (radd_any 131 _ _ _ _ _ HM.out HW.out b1311).mono ?_); rintro e w' ⟨p, rfl, hv, g⟩; (have HP := Lib.hid hv); obtain ⟨pn, pa, pk, pc, -, rfl, -⟩ := hv.parts; have fa0 := g.frozen a0 FA0.out; have fa1 := g.frozen a1 FA1.out; have FA0 := Lib.hid (g.frozen a0 FA0.out); have FA1 := Lib.hid (g.frozen a1 FA1.out); have a0 := g.keeps a0; have a1 := g.keeps a1; have F0 := Lib.hid (g.frozen R0.out F0.out); have F1 := Lib.hid (g.frozen R1.out F1.out); have R0 := Lib.hid (g.keeps R0.out); have R1 := Lib.hid (g.keeps R1.out); have HG := Lib.hid (HG.out.trans g); clear hv g))
                    refine hK.out _ _ trivial (fun hHeld => ?_)
                    clear hK K
                    try simp only [Act.put, List.setIfInBounds_toArray, List.set_cons_zero, List.set_cons_succ]
                    refine wpAnyH_ready (rs := [10]) (by kernel_rfl) (by simp) ?_
                    refine AllReadyH.cons (o := { dst := none, op := Op.store 61 (Operand.tmp 7) (Operand.tmp 74), type := 0, pos := "ref.go:297", after := #[{ on := 9, ground := Ground.data }, { on := 9, ground := Ground.chain }, { on := 0, ground := Ground.phase }, { on := 1, ground := Ground.phase }, { on := 2, ground := Ground.phase }, { on := 3, ground := Ground.phase }, { on := 4, ground := Ground.phase }, { on := 5, ground := Ground.phase }, { on := 6, ground := Ground.phase }, { on := 7, ground := Ground.phase }, { on := 8, ground := Ground.phase }, { on := 9, ground := Ground.phase }], guard := none }) rfl (fun K hK => ?_) AllReadyH.nil
                    go_simp
                    refine hK.out _ _ trivial (fun hHeld => ?_)
                    clear hK K
                    try simp only [Act.put, List.setIfInBounds_toArray, List.set_cons_zero, List.set_cons_succ]
                    refine wpAnyH_done (by kernel_rfl) ?_ _
                    refine NoPanic.normal ?_
                    go_wp2_with fail
                    go_roundw
                    case rel => exact ⟨k + 1, by go_num, by omega, RdI.next HP.out HDV.out HDL.out a0 a1 fa0 fa1 R0.out R1.out F0.out F1.out hne1, HG.out.put2 (by omega) _ _⟩
                    case measure => simp [intOf]; omega
                · obtain rfl : k = T.size := by omega
                  rw [HTS.out] at HJ
                  have HJ := Lib.hid (HJ.out.flag a0 (good_sign HGOOD.out))
                  obtain ⟨z, hz⟩ : ∃ z, z = sg false (Ow.dval t) := ⟨_, rfl⟩
                  rw [← hz] at HJ
                  have HZ := Lib.hid hz
                  clear hz
                  have g := HG.out.setCell (p := ⟨w.heap.size + 1, 0, none⟩) (by simp) (.bool false)
                  have r0' : (wo.setCell ⟨w.heap.size + 1, 0, none⟩ (.bool false)).cell? ⟨w.heap.size, 0, none⟩ = some (.bool false) := by simp [go_sem, r0]
                  have r1' : (wo.setCell ⟨w.heap.size + 1, 0, none⟩ (.bool false)).cell? ⟨w.heap.size, 1, none⟩ = some (.string ⟨#[]⟩) := by simp [go_sem, r1]
                  have er0' : (wo.setCell ⟨w.heap.size + 1, 0, none⟩ (.bool false)).frozen? ⟨w.heap.size, 0, none⟩ = false := by simp [go_sem, er0]
                  have er1' : (wo.setCell ⟨w.heap.size + 1, 0, none⟩ (.bool false)).frozen? ⟨w.heap.size, 1, none⟩ = false := by simp [go_sem, er1]
                  have HG := Lib.hid g
                  have R0 := Lib.hid r0'
                  have R1 := Lib.hid r1'
                  have F0 := Lib.hid er0'
                  have F1 := Lib.hid er1'
                  clear g r0 r1 er0 er1 r0' r1' er0' er1'
                  go_wp2_with fail
                  refine (rout_any 129 z _ _ HJ.out b129).mono ?_
                  rintro e w5 ⟨rfl, g⟩
                  have r0 := g.keeps R0.out
                  have r1 := g.keeps R1.out
                  have er0 := g.frozen R0.out F0.out
                  have er1 := g.frozen R1.out F1.out
                  have HG := Lib.hid (HG.out.trans g)
                  clear g
                  go_wp2_with fail
                  refine bodyPost_ret (v := .tuple #[.agg #[.bool (fNeg z), .string (fStr z)], .int .i64 (fErr z)]) (by simp [results, Tryd.results17, go_sem, r0, r1]) rfl ?_
                  refine .inl ⟨HGOOD.out, ?_⟩
                  rw [← HZ.out]
                  exact ⟨rfl, HG.out.put2 (Nat.le_refl _) _ _⟩
theorem rread_any (l : List UInt8) (w : World) (hl : l.length ≤ 100000) :
    Calls Tryd.prog 17 #[.string ⟨l.toArray⟩] w (ReadRes (Lib.hasPrefix l [45]) (Lib.trimPrefix l [45]) w) := by
  cases h : Lib.hasPrefix l [45] with
  | false =>
    rw [show Lib.trimPrefix l [45] = l by unfold Lib.trimPrefix; rw [h]; rfl]
    exact rread_pos l w hl h
  | true =>
    cases l with
    | nil => simp [Lib.hasPrefix] at h
    | cons c t =>
      rw [minus_pref] at h
      obtain rfl : c = 45 := by simpa using h
      rw [show Lib.trimPrefix (45 :: t) [45] = t by unfold Lib.trimPrefix; rw [minus_pref]; rfl]
      exact rread_neg t w (by simp at hl; omega)
end Go.Proofs.YtgalgldnhdiggaaDoor

