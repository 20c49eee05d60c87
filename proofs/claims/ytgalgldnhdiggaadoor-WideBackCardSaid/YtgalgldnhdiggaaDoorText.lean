/- writeDigits, Text. -/
import Derived.Test.YtgalgldnhdiggaaDoorFmt
namespace Ow
set_option linter.unusedVariables false
open Go.Lib
/-- The decimal digits of a number, padded to nine. -/
def pad9 (n : Nat) : List UInt8 := List.replicate (9 - (decDigits n).length) 48 ++ decDigits n
theorem dec_len_le : ∀ (k n : Nat), n < 10 ^ (k + 1) → nDigits n ≤ k + 1
  | 0, n, hn => by rw [nDigits_small (by simpa using hn)]; omega
  | k + 1, n, hn => by
    by_cases hs : n < 10
    · rw [nDigits_small hs]; omega
    · rw [nDigits_big hs]
      have := dec_len_le k (n / 10) (by rw [Nat.div_lt_iff_lt_mul (by omega), ← Nat.pow_succ]; exact hn)
      omega
theorem dec_len_val {l : List Nat} (h : Dg l) (h0 : 0 < l.length) : (decDigits (val l)).length ≤ 10 * l.length := by
  rw [decDigits_length]
  obtain ⟨k, hk⟩ : ∃ k, 10 * l.length = k + 1 := ⟨10 * l.length - 1, by omega⟩
  rw [hk]
  apply dec_len_le
  rw [← hk, Nat.pow_mul]
  exact Nat.lt_of_lt_of_le (val_lt l h) (Nat.pow_le_pow_left (by omega) _)
theorem dec_len9 {n : Nat} (h : n < 1000000000) : (decDigits n).length ≤ 9 := by
  rw [decDigits_length]
  rcases Nat.lt_or_ge (nDigits n) 10 with h1 | h1
  · omega
  · exfalso
    have : ∀ k n, n < 10 ^ (k + 1) → nDigits n ≤ k + 1 := by
      intro k
      induction k with
      | zero => intro n hn; rw [nDigits_small (by simpa using hn)]; omega
      | succ k ih =>
        intro n hn
        by_cases hs : n < 10
        · rw [nDigits_small hs]; omega
        · rw [nDigits_big hs]
          have := ih (n / 10) (by rw [Nat.div_lt_iff_lt_mul (by omega), ← Nat.pow_succ]; exact hn)
          omega
    have := this 8 n (by simpa using h)
    omega
/-- Nine digits more. -/
theorem dec_group : ∀ (k q r : Nat), 0 < q → r < 10 ^ k → decDigits (q * 10 ^ k + r) = decDigits q ++ (List.range k).map (fun t => dg r (k - 1 - t))
  | 0, q, r, hq, hr => by simp at hr; simp [hr]
  | k + 1, q, r, hq, hr => by
    have h1 : 10 ≤ q * 10 ^ (k + 1) := by
      rw [Nat.pow_succ]
      have : 1 ≤ 10 ^ k := Nat.pow_pos (by omega)
      have : 1 * 1 ≤ q * 10 ^ k := Nat.mul_le_mul hq this
      rw [← Nat.mul_assoc]; omega
    rw [decDigits, dif_neg (by omega)]
    have e1 : (q * 10 ^ (k + 1) + r) / 10 = q * 10 ^ k + r / 10 := by
      rw [Nat.pow_succ, ← Nat.mul_assoc]; omega
    have e2 : (q * 10 ^ (k + 1) + r) % 10 = r % 10 := by
      rw [Nat.pow_succ, ← Nat.mul_assoc]; omega
    rw [e1, e2, dec_group k q (r / 10) hq (by rw [Nat.pow_succ] at hr; omega), List.range_succ, List.map_append, List.append_assoc]
    congr 1
    congr 1
    · apply List.map_congr_left
      intro t ht
      have ht := List.mem_range.1 ht
      unfold dg
      rw [show k + 1 - 1 - t = (k - 1 - t) + 1 by omega, Nat.pow_succ, Nat.mul_comm, Nat.div_div_eq_div_mul]
    · simp [dg]
theorem pad9_eq {r : Nat} (h : r < 1000000000) : pad9 r = (List.range 9).map (fun t => dg r (9 - 1 - t)) := by
  have hl := dec_len9 h
  unfold pad9
  rw [decDigits_length] at hl ⊢
  apply List.ext_getElem
  · simp [decDigits_length]; omega
  · intro i h1 h2
    simp only [List.length_map, List.length_range] at h2
    rw [List.getElem_map, List.getElem_range]
    by_cases hi : i < 9 - nDigits r
    · rw [List.getElem_append_left (by simpa using hi), List.getElem_replicate]
      have hz : r / 10 ^ (9 - 1 - i) = 0 := by
        apply Nat.div_eq_of_lt
        exact Nat.lt_of_lt_of_le (lt_pow_nDigits r) (Nat.pow_le_pow_right (by omega) (by omega))
      unfold dg
      rw [hz]; rfl
    · rw [List.getElem_append_right (by simpa using hi)]
      simp only [List.length_replicate]
      have := decDigits_eq r
      have hj : i - (9 - nDigits r) < nDigits r := by omega
      have e : (decDigits r)[i - (9 - nDigits r)]? = some (dg r (nDigits r - 1 - (i - (9 - nDigits r)))) := by
        rw [this, List.getElem?_map, List.getElem?_range hj]; rfl
      rw [List.getElem?_eq_getElem (by rw [decDigits_length]; exact hj)] at e
      rw [Option.some.inj e]
      congr 1; omega
theorem dec_nine {q r : Nat} (hq : 0 < q) (hr : r < 1000000000) : decDigits (q * 1000000000 + r) = decDigits q ++ pad9 r := by
  rw [pad9_eq hr]
  exact dec_group 9 q r hq (by simpa using hr)
end Ow
namespace Go.Proofs.YtgalgldnhdiggaaDoor
open Go.RowKit
set_option linter.unusedVariables false

theorem str_append (A B : List UInt8) : (⟨A.toArray⟩ : ByteArray) ++ ⟨B.toArray⟩ = ⟨(A ++ B).toArray⟩ := by
  apply ByteArray.ext
  simp
def strLen (v : Value) : Nat := match v with | .string s => s.size | _ => 0
/-- What is written of a number behind its groups: the rest, then the text. -/
def TextOk (n m : Nat) (t : List UInt8) : Prop := (0 < m → Lib.decDigits n = Lib.decDigits m ++ t) ∧ (m = 0 → Lib.decDigits n = t)
theorem TextOk.le {n m : Nat} {t : List UInt8} (h : TextOk n m t) : t.length ≤ (Lib.decDigits n).length := by
  rcases Nat.eq_zero_or_pos m with h0 | h0
  · rw [h.2 h0]; exact Nat.le_refl _
  · rw [h.1 h0]; simp
theorem TextOk.lt {n m : Nat} {t : List UInt8} (h : TextOk n m t) (hm : 0 < m) : t.length < (Lib.decDigits n).length := by
  rw [h.1 hm]
  have : (Lib.decDigits m).length ≠ 0 := fun e => Ow.digits_ne m (List.length_eq_zero_iff.1 e)
  simp; omega
theorem TextOk.len {n m k : Nat} {t : List UInt8} (h : TextOk n m t) (hk : (Lib.decDigits n).length ≤ 10 * k) (h1 : k ≤ 1000) : t.length ≤ 10000 := by
  have := h.le; omega
theorem TextOk.next {n m q r : Nat} {t : List UInt8} (h : TextOk n m t) (hm : 0 < m) (e : 1000000000 * q + r = m) (hr : r < 1000000000) (hq : 0 < q) : TextOk n q (Ow.pad9 r ++ t) := by
  refine ⟨fun _ => ?_, fun h0 => by omega⟩
  rw [h.1 hm, ← e, Nat.mul_comm, Ow.dec_nine hq hr, List.append_assoc]
theorem TextOk.last {n m r : Nat} {t : List UInt8} (h : TextOk n m t) (hm : 0 < m) (e : r = m) : TextOk n 0 (Lib.decDigits r ++ t) :=
  ⟨fun h0 => by omega, fun _ => by rw [h.1 hm, e]⟩
theorem rep48 : ∀ k, Lib.repeatL [48] k = List.replicate k 48
  | 0 => rfl
  | k + 1 => by
    have := rep48 k
    simp [Lib.repeatL, List.replicate_succ] at this ⊢
    try exact this
theorem pad_nine (r : Nat) (hr : r < 1000000000) : (⟨(Lib.repeatL [48] (9 - (Lib.decDigits r).length)).toArray⟩ : ByteArray) ++ ⟨(Lib.decDigits r).toArray⟩ = ⟨(Ow.pad9 r).toArray⟩ := by
  rw [str_append, rep48]; rfl
theorem strLen_list (l : List UInt8) : strLen (.string ⟨l.toArray⟩) = l.length := by simp [strLen, ByteArray.size]


set_option maxRecDepth 100000 in
set_option maxHeartbeats 2000000 in
theorem writeDigits_any (l : List Nat) (v : Value) (w : World) (hv : HasD w v l) (hn : Ow.Nm l) (hl : l.length ≤ 1000) (htab : Tab w) :
    Calls Tryd.prog 42 #[v] w (Str (Lib.decDigits (Ow.val l)) w) := by
  have HV := Lib.hid hv
  have HN := Lib.hid hn
  have HT := Lib.hid htab
  obtain ⟨-, a, cap, rfl, -, -, -⟩ := hv
  clear hn htab
  by_cases h0 : l.length = 0
  · have hz := List.length_eq_zero_iff.1 h0
    subst hz
    go_enter Tryd.func42, Tryd.ntmps42
    go_wp2_with fail
    go_ret
    refine ⟨?_, Gr.refl _⟩
    rw [show Ow.val [] = 0 from rfl, Lib.decDigits_one (by omega)]; rfl
  · have i0 : ((l.length : Int) == 0) = false := by rw [beq_eq_false_iff_ne]; omega
    have hpos : 0 < Ow.val l := (Ow.tr_pos HN.out.1).1 (by rw [HN.out.2]; omega)
    have HP := Lib.hid hpos
    have htot := Ow.dec_len_val HN.out.1 (by omega : 0 < l.length)
    clear h0 hpos
    go_enter Tryd.func42, Tryd.ntmps42
    go_wp2_with fail
    go_loopw [0, 3] (fun u s wr => ∃ v' m ts, u = v' ∧ s = .string ⟨List.toArray ts⟩ ∧ HasD wr v' m ∧ Ow.Nm m ∧ m.length ≤ l.length ∧ TextOk (Ow.val l) (Ow.val m) ts ∧ Gr w wr) (fun _ s _ => (Lib.decDigits (Ow.val l)).length - strLen s)
    case atStart => exact ⟨_, l, [], rfl, rfl, HV.out, HN.out, Nat.le_refl _, ⟨fun _ => by simp, fun h => by have := HP.out; omega⟩, Gr.refl _⟩
    case round =>
      obtain ⟨v', m, ts, rfl, rfl, hd, hnm, hml, hok, hg⟩ := hrel
      have HD := Lib.hid hd
      have HNM := Lib.hid hnm
      have HOK := Lib.hid hok
      have hts : ts.length ≤ 10000 := hok.len htot hl
      have HG := Lib.hid hg
      obtain ⟨-, a2, cap2, rfl, -, -, -⟩ := hd
      clear hnm hok hg
      by_cases hm : 0 < m.length
      · have t1 : decide ((0 : Int) < (m.length : Int)) = true := decide_eq_true (by omega)
        have t2 : decide (0 < m.length) = true := decide_eq_true hm
        have hmp : 0 < Ow.val m := (Ow.tr_pos HNM.out.1).1 (by rw [HNM.out.2]; exact hm)
        have HMP := Lib.hid hmp
        have hm5 : m.length ≤ 100000 := by omega
        clear hmp
        go_wp2_with fail
        refine (splitDigit_any m _ 1000000000 _ HD.out hm5 (by omega) (by omega)).mono ?_
        rintro e w1 ⟨vq, q, rfl, hdq, hnq, hvq, g1⟩
        have hr : Ow.val m % 1000000000 < 1000000000 := Nat.mod_lt _ (by omega)
        have HVQ := Lib.hid hvq
        have HDM := Lib.hid (Nat.div_add_mod (Ow.val m) 1000000000)
        obtain ⟨r, hre⟩ : ∃ r, r = Ow.val m % 1000000000 := ⟨_, rfl⟩
        rw [← hre] at hr
        have HRE := Lib.hid hre
        rw [← hre]
        have hql : q.length ≤ l.length := by
          refine Nat.le_trans (Ow.nm_len hnq (N := m.length) ?_) hml
          rw [hvq]
          exact Nat.lt_of_le_of_lt (Nat.div_le_self _ _) (Ow.val_lt m HNM.out.1)
        have HQD := Lib.hid hdq
        have HNQ := Lib.hid hnq
        obtain ⟨-, a3, cap3, rfl, -, -, -⟩ := hdq
        have HG := Lib.hid (HG.out.trans g1)
        clear hvq hre hnq g1
        go_wp2_with fail
        refine (fmt_any r (by omega) _ (HT.out.later HG.out)).mono ?_
        rintro e w2 ⟨rfl, g2⟩
        have HQD := Lib.hid (HQD.out.later g2)
        have HG := Lib.hid (HG.out.trans g2)
        have hl9 := Ow.dec_len9 hr
        clear g2
        by_cases hq : 0 < q.length
        · have t3 : decide ((0 : Int) < (q.length : Int)) = true := decide_eq_true (by omega)
          have t4 : decide (0 < q.length) = true := decide_eq_true hq
          have hnn : ((9 - (Lib.decDigits r).length : Nat) : Int) = 9 - ((Lib.decDigits r).length : Int) := by omega
          have HNN := Lib.hid hnn
          have HPN := Lib.hid (pad_nine r hr)
          have hpl : (Ow.pad9 r).length ≤ 9 := by unfold Ow.pad9; simp; omega
          have hqv : 0 < Ow.val q := (Ow.tr_pos HNQ.out.1).1 (by rw [HNQ.out.2]; exact hq)
          have HNX := Lib.hid (HOK.out.next HMP.out (q := Ow.val q) (r := r) (by rw [HVQ.out, HRE.out]; exact HDM.out) hr hqv)
          have HOKL := Lib.hid (HOK.out.lt HMP.out)
          clear hnn hqv
          go_wp2_with fail
          rw [← HNN.out]
          refine (Tryd.strings_Repeat ⟨[48].toArray⟩ (9 - (Lib.decDigits r).length) _ (by omega) (by show 1 * _ ≤ _; omega)).mono ?_
          rintro e w3 ⟨rfl, g3⟩
          have HQD := Lib.hid (HQD.out.later g3)
          have HG := Lib.hid (HG.out.trans g3)
          have hrl : (Lib.repeatL [48] (9 - (Lib.decDigits r).length)).length ≤ 9 := by rw [rep48, List.length_replicate]; omega
          have hpp : 1 ≤ (Ow.pad9 r).length := by
            have : (Lib.decDigits r).length ≠ 0 := fun e => Ow.digits_ne r (List.length_eq_zero_iff.1 e)
            unfold Ow.pad9; simp; omega
          clear g3
          go_wp2_with fail
          rw [HPN.out, str_append, strLen_list, strLen_list]
          refine ⟨⟨_, q, Ow.pad9 r ++ ts, rfl, rfl, HQD.out, HNQ.out, hql, HNX.out, HG.out⟩, ?_⟩
          have := HOKL.out
          rw [List.length_append]; omega
        · have t3 : decide ((0 : Int) < (q.length : Int)) = false := decide_eq_false (by omega)
          have t4 : decide (0 < q.length) = false := decide_eq_false hq
          have hz : q.length = 0 := by omega
          have hq0 : Ow.val q = 0 := by rw [List.length_eq_zero_iff.1 hz]; rfl
          have HQ0 := Lib.hid hq0
          have HRM := Lib.hid (show r = Ow.val m by
            have h1 := HDM.out
            rw [← HVQ.out, hq0, ← HRE.out] at h1
            omega)
          have HOKL := Lib.hid (HOK.out.lt HMP.out)
          have hpp : 1 ≤ (Lib.decDigits r).length := by
            have : (Lib.decDigits r).length ≠ 0 := fun e => Ow.digits_ne r (List.length_eq_zero_iff.1 e)
            omega
          clear hz hq0
          go_wp2_with fail
          rw [str_append, strLen_list, strLen_list]
          refine ⟨⟨_, q, Lib.decDigits r ++ ts, rfl, rfl, HQD.out, HNQ.out, hql, by rw [HQ0.out]; exact HOK.out.last HMP.out HRM.out, HG.out⟩, ?_⟩
          have := HOKL.out
          rw [List.length_append]; omega
      · have t1 : decide ((0 : Int) < (m.length : Int)) = false := decide_eq_false (by omega)
        have t2 : decide (0 < m.length) = false := decide_eq_false hm
        have hz : m.length = 0 := by omega
        have HFIN := Lib.hid (show Lib.decDigits (Ow.val l) = ts from HOK.out.2 (by rw [List.length_eq_zero_iff.1 hz]; rfl))
        clear hz
        go_wp2_with fail
        go_ret
        exact ⟨by rw [HFIN.out]; rfl, HG.out⟩

set_option maxRecDepth 100000 in
set_option maxHeartbeats 2000000 in
theorem text_bad (neg : Bool) (s : ByteArray) (w : World) (hs : s.size ≤ 9223372036854775807) (h : ¬ Form neg s) :
    Calls Tryd.prog 18 #[.agg #[.bool neg, .string s]] w fun e w' => e = .returned (.tuple #[.string ⟨#[]⟩, .int .i64 2]) ∧ Gr w w' := by
  have HF := Lib.hid h
  clear h
  go_enter Tryd.func18, Tryd.ntmps18
  go_wp2_with fail
  refine (valid_any neg s _ hs).mono ?_
  rintro e w1 ⟨r, rfl, hr, g1⟩
  obtain rfl : r = false := by cases r; rfl; exact absurd (hr.1 rfl) HF.out
  have HG := Lib.hid ((Gr.new w _).trans g1)
  clear hr g1
  go_wp2_with fail
  go_ret2
  exact ⟨rfl, HG.out⟩
theorem field_digits (b : Bool) (a : Option Addr) (n c : Nat) (W : World) : (Instr.field 56 (.agg #[.bool b, .slice a n c]) 1).run Tryd.prog W = .ok (.slice a n c) W := by
  unfold Instr.field
  rw [Sem.run_bind, run_underlying Tryd.underlying56 W]
  simp [part, isAgg, Sem.run_bind, run_underlying Tryd.underlying54, asAgg]
/-- The text of an integer. -/
def textOf (z : Int) : List UInt8 := (if z < 0 then [45] else []) ++ Lib.decDigits z.natAbs

set_option maxRecDepth 100000 in
set_option maxHeartbeats 2000000 in
theorem text_ok (neg : Bool) (s : ByteArray) (w : World) (h : Form neg s) (htab : Tab w) :
    Calls Tryd.prog 18 #[.agg #[.bool neg, .string s]] w fun e w' => e = .returned (.tuple #[.string ⟨(textOf (zOf neg s)).toArray⟩, .int .i64 0]) ∧ Gr w w' := by
  have HF := Lib.hid h
  have hs : s.size ≤ 256 := by rcases h with ⟨h0, _⟩ | ⟨_, h2, _⟩ <;> omega
  have HN := Lib.hid (form_neg h)
  have HT := Lib.hid htab
  clear h htab
  go_enter Tryd.func18, Tryd.ntmps18
  go_wp2_with fail
  refine (valid_any neg s _ (by omega)).mono ?_
  rintro e w1 ⟨r, rfl, hr, g1⟩
  obtain rfl : r = true := hr.2 HF.out
  have x0 := g1.keeps (p := ⟨w.heap.size, 0, none⟩) (v := .bool neg) (by simp [go_sem])
  have x1 := g1.keeps (p := ⟨w.heap.size, 1, none⟩) (v := .string s) (by simp [go_sem])
  have HG := Lib.hid ((Gr.new w _).trans g1)
  clear hr g1
  go_wp2_with fail
  refine (integerOf_form neg s _ HF.out).mono ?_
  rintro e w2 ⟨v, rfl, ⟨sv, l, rfl, hd, hnm, hval, hl⟩, g2⟩
  have x0 := g2.keeps x0
  have HG := Lib.hid (HG.out.trans g2)
  have HD := Lib.hid hd
  have HNM := Lib.hid hnm
  have HV := Lib.hid hval
  obtain ⟨nz, hnz⟩ : ∃ b, b = decide (zOf neg s < 0) := ⟨_, rfl⟩
  rw [← hnz]
  obtain ⟨-, a, cap, rfl, -, -, -⟩ := id hd
  have hfd := field_digits nz a l.length cap w2
  clear hd hnm hval g2 hnz
  go_wp2_with fail
  refine (writeDigits_any l _ _ HD.out HNM.out (by omega) (HT.out.later HG.out)).mono ?_
  rintro e w3 ⟨rfl, g3⟩
  rw [HV.out]
  have x0 := g3.keeps x0
  have HG := Lib.hid (HG.out.trans g3)
  have hdl : (Lib.decDigits (zOf neg s).natAbs).length ≤ 641 := by
    rw [← HV.out]
    rcases Nat.eq_zero_or_pos l.length with h0 | h0
    · rw [List.length_eq_zero_iff.1 h0, show Ow.val [] = 0 from rfl, Lib.decDigits_one (by omega)]; decide
    · have := Ow.dec_len_val HNM.out.1 h0; omega
  clear g3
  cases neg with
  | true =>
    go_wp2_with fail
    go_ret2
    refine ⟨?_, HG.out⟩
    have hz : zOf true s < 0 := by have := HN.out; simp at this; omega
    have e : (⟨#[45]⟩ : ByteArray) ++ ⟨(Lib.decDigits (zOf true s).natAbs).toArray⟩ = ⟨(textOf (zOf true s)).toArray⟩ := by
      unfold textOf; rw [if_pos hz]; exact str_append [45] _
    rw [← e]; rfl
  | false =>
    go_wp2_with fail
    go_ret2
    refine ⟨?_, HG.out⟩
    have hz : ¬ zOf false s < 0 := by have := HN.out; simpa using this.symm
    unfold textOf; rw [if_neg hz]; rfl
end Go.Proofs.YtgalgldnhdiggaaDoor
