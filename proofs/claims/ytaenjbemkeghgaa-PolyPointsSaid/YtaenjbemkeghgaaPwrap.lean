/- wrapped. -/
import Derived.Test.YtaenjbemkeghgaaPapp
namespace Go.Proofs.Ytaenjbemkeghgaa
open Go.RowKit
set_option linter.unusedVariables false

/-- n residues that are what is left of a modulo x^n + 1. -/
def WrapP (m : Int) (n : Nat) (a : List Int) (w : World) (e : Ending) (w' : World) : Prop :=
  ∃ x k c l, e = .returned (.slice x k c) ∧ HasP w' (.slice x k c) l ∧ l.length = n ∧ Op.Rs m l ∧ Op.Wr m n a l ∧ (∀ p, x = some p → w.heap.size ≤ p.block) ∧ Gr w w'

theorem own_block_slice (x : Option Addr) (n c n' c' : Nat) : (Value.slice x n c).ownBlock = (Value.slice x n' c').ownBlock := by cases x <;> rfl
set_option maxRecDepth 100000 in
set_option maxHeartbeats 2000000 in
theorem wrapped_any (m : Int) (n : Nat) (a : List Int) (v : Value) (w : World) (hm : 2 ≤ m ∧ m ≤ 4294967295) (hn : 1 ≤ n ∧ n ≤ 100000) (hv : HasP w v a) :
    Calls Try.prog 59 #[.int .u32 m, v, .int .i64 n] w (WrapP m n a w) := by
  have HM := Lib.hid hm
  have HV := Lib.hid hv
  obtain ⟨da, ad, cap, rfl, a1, a2, -⟩ := hv
  obtain ⟨la, hla⟩ : ∃ la, la = a.length := ⟨_, rfl⟩
  rw [← hla] at a1 HV ⊢
  obtain ⟨hn1, hn2⟩ := hn
  have hmk := mk_row n (n : Int) rfl (by omega)
  have HLA := Lib.hid hla
  obtain ⟨hm1, hm2⟩ := hm
  clear hla da
  go_enter Try.func59, Try.ntmps59
  go_wp2_with fail
  clear hmk
  go_loopw [1, 8] (fun s t wr => ∃ x k c sg rest acc, s = .slice x k c ∧ t = .int .u32 sg ∧ HasP w (.slice x k c) rest ∧ 1 ≤ sg ∧ sg ≤ m - 1 ∧ k ≤ la ∧ c ≤ 9223372036854775807 ∧ Row wr w.heap.size acc ∧ acc.length = n ∧ Op.Rs m acc ∧ Op.Wr m n a (Op.add acc (Op.sc sg rest)) ∧ Gr w wr) (fun s _ _ => match s with | .slice _ k _ => k | _ => 0)
  case atStart =>
    exact ⟨ad, la, cap, 1, a, List.replicate n 0, rfl, rfl, HV.out, by omega, by omega, by omega, by omega, Row.zeros w n, by simp, fun x hx => by rw [List.eq_of_mem_replicate hx]; omega, ((Op.Wr.start m n a 1 rfl).cg (Op.Cg.of (fun i => by rw [Op.cf_add, Op.cf_add, cf_rep, Op.cf_nil]))), Gr.new w _⟩
  case round =>
    obtain ⟨x, k, c, sg, rest, acc, rfl, rfl, hrest, hsg1, hsg2, hk, hc, hrow, hal, hrs, hwr, hg⟩ := hrel
    have hlen := hrest.len
    have hkc := hlen.2
    have HREST := Lib.hid hrest
    have HRL := Lib.hid hlen.1
    have HROW := Lib.hid hrow
    have HAL := Lib.hid hal
    have HRS := Lib.hid hrs
    have HWR := Lib.hid hwr
    have HG := Lib.hid hg
    clear hrest hlen hrow hal hrs hwr hg
    rcases Nat.eq_zero_or_pos k with hk0 | hk0
    · obtain rfl := hk0
      have hP := HROW.out.hasP (cap := n) (by rw [HAL.out]; omega) (by omega)
      rw [HAL.out] at hP
      have HP := Lib.hid hP
      clear hP
      go_wp2_with fail
      go_ret
      refine ⟨_, _, _, acc, rfl, HP.out, HAL.out, HRS.out, HWR.out.cg (Op.Cg.of (fun i => ?_)), fun p hp => by cases hp; exact Nat.le_refl _, HG.out⟩
      rw [Op.cf_add, Op.cf_sc, Op.cf_out (l := rest) (by rw [← HRL.out]; omega)]; omega
    · have h0 : (0 : Int) < (k : Int) := by omega
      obtain ⟨j, hj⟩ : ∃ j, j = min n k := ⟨_, rfl⟩
      have hj1 : j ≤ k := by omega
      have hj2 : j ≤ n := by omega
      have hj3 : 1 ≤ j := by omega
      have HJ := Lib.hid hj
      have hfr := from_eq x k c j hj1
      have HF := Lib.hid (HREST.out.from_ hj1)
      have HT := Lib.hid (show HasP wr (.slice x j c) (rest.take j) from (HREST.out.take (by rw [← HRL.out]; exact hj1)).later HG.out)
      obtain ⟨y, hy⟩ : ∃ y, y = (if c = j then x else x.map (·.add j)) := ⟨_, rfl⟩
      rw [← hy] at hfr HF
      clear hj hy
      have HC : (k : Int) < (n : Int) ∨ ¬ (k : Int) < (n : Int) := Classical.em _
      have HFR := Lib.hid hfr
      clear hfr
      rcases HC with hc' | hc'
      case' inl =>
        have e1 : j = k := by have := HJ.out; omega
      case' inr =>
        have e1 : j = n := by have := HJ.out; omega
      all_goals
        have hfr := HFR.out
        rw [e1] at hfr
        have hT := HT.out
        rw [e1] at hT
        have HT2 := Lib.hid hT
        have HF2 := HF.out
        rw [e1] at HF2
        have HF3 := Lib.hid HF2
        have HE := Lib.hid e1
        clear hT HF2 e1
        go_wp2_with (fail)
        refine (add_any w.heap.size 0 n n m sg acc (rest.take j) _ _ (by omega) (by omega) ?_ HROW.out.1 ?_ (Nat.le_refl _) (by omega) (by rw [HE.out]; exact HT2.out) ?_ ?_).mono ?_
        · obtain ⟨_, cur, h1, h2, _⟩ := HROW.out
          exact ⟨cur, h1, by rw [HAL.out] at h2; omega⟩
        · intro i hi
          rw [Nat.zero_add]
          exact HROW.out.cell (by rw [HAL.out]; exact hi)
        · intro h0 e
          obtain ⟨bb, e2, hb3⟩ := HREST.out.block (by rw [← HRL.out]; exact hk0)
          have e3 := (own_block_slice x _ c k c).symm.trans e
          rw [e3] at e2
          have := Option.some.inj e2
          omega
        · rw [List.length_take]; have := HE.out; omega
        rintro e w3 ⟨pre, rfl, hp1, hp2, hp3, hup⟩
        have hpl : pre.length = j := by rw [hp1, List.length_take, ← HRL.out]; omega
        have hfit : 0 + pre.length ≤ acc.length := by rw [hpl, HAL.out]; omega
        have HR3 := Lib.hid (show Row w3 w.heap.size (put acc 0 pre) from HROW.out.upd hup hp3 hfit)
        have HL3 := Lib.hid (show (put acc 0 pre).length = n from by rw [put_len hfit]; exact HAL.out)
        have HRS3 := Lib.hid (show Op.Rs m (put acc 0 pre) from Op.rs_put HRS.out (Op.rs_mod (by omega) (fun i hi => hp2 i (by omega))))
        have hcg : Op.Cg m (Op.add acc (Op.sc sg (rest.take j))) (put acc 0 pre) := fun i => by
          rw [cf_put hfit, hpl, Op.cf_add, Op.cf_sc]
          by_cases h1 : i < j
          · rw [if_pos (by omega), Nat.sub_zero, hp2 i (by rw [← hp1, hpl]; exact h1)]
            have h2 := Op.dvd_mod m (Op.cf acc i + sg * Op.cf (rest.take j) i)
            have e : Op.cf acc i + sg * Op.cf (rest.take j) i - (Op.cf acc i + sg * Op.cf (rest.take j) i) % m = -((Op.cf acc i + sg * Op.cf (rest.take j) i) % m - (Op.cf acc i + sg * Op.cf (rest.take j) i)) := by omega
            rw [e]; exact Int.dvd_neg.2 h2
          · rw [if_neg (by omega), Op.cf_take, if_neg h1, Int.mul_zero, Int.add_zero, Int.sub_self]
            exact ⟨0, (Int.mul_zero m).symm⟩
        have hnext := HWR.out.next (t := m - sg) (by rw [show sg + (m - sg) = m from by omega]; exact Int.dvd_refl m)
        have htn : rest.take n = rest.take j := by
          have := HJ.out
          by_cases h : n ≤ k
          · rw [show j = n from by omega]
          · rw [show j = k from by omega, List.take_of_length_le (by rw [← HRL.out]; omega), List.take_of_length_le (by rw [← HRL.out]; omega)]
        have hdn : rest.drop n = rest.drop j := by
          have := HJ.out
          by_cases h : n ≤ k
          · rw [show j = n from by omega]
          · rw [show j = k from by omega, List.drop_of_length_le (by rw [← HRL.out]; omega), List.drop_of_length_le (by rw [← HRL.out]; omega)]
        rw [htn, hdn] at hnext
        have HWR3 := Lib.hid (show Op.Wr m n a (Op.add (put acc 0 pre) (Op.sc (m - sg) (rest.drop j))) from hnext.cg (hcg.add (Op.Cg.refl m _)))
        have HG3 := Lib.hid (show Gr w w3 from hup.gr HG.out (Nat.le_refl _))
        clear hpl hfit hcg hnext htn hdn hp1 hp2 hp3 hup
        go_wp2_with fail
        go_roundw
        case rel => exact ⟨y, _, _, m - sg, rest.drop j, put acc 0 pre, rfl, by go_num, by rw [HE.out]; first | exact HF3.out | (have h := HF3.out; rw [Nat.sub_self] at h; exact h), by omega, by omega, by have := HE.out; omega, by omega, HR3.out, HL3.out, HRS3.out, HWR3.out, HG3.out⟩
        case measure => have := HE.out; simp; omega
end Go.Proofs.Ytaenjbemkeghgaa
