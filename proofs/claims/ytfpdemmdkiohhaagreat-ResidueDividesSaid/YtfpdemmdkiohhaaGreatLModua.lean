import Derived.Test.YtfpdemmdkiohhaaGreatLWH
import Derived.Test.YtfpdemmdkiohhaaGreatLWG
/- Mod of the program. -/
namespace Go.Proofs.YtfpdemmdkiohhaaGreat
open Go.RowKit
set_option linter.unusedVariables false

theorem HasI.cutM {N : Nat} {W : World} {v : Value} {z : Int} (h : HasI N W v z) : ∃ (neg : Bool) (a : Option Addr) (n c : Nat) (l : List Nat), v = .agg #[.bool neg, .slice a n c] ∧ neg = decide (z < 0) ∧ HasD W (.slice a n c) l ∧ Ow.Nm l ∧ Ow.val l = z.natAbs ∧ l.length ≤ N := by
  obtain ⟨s, l, rfl, hd, hn, hv, hl⟩ := h
  obtain ⟨-, a, cap, rfl, -⟩ := id hd
  exact ⟨_, a, _, cap, l, rfl, rfl, hd, hn, hv, hl⟩
theorem field_intM (b : Bool) (a : Option Addr) (n c : Nat) (W : World) : (Instr.field 79 (.agg #[.bool b, .slice a n c]) 1).run Tryz.prog W = .ok (.slice a n c) W := by
  unfold Instr.field
  rw [Sem.run_bind, run_underlying Tryz.underlying79 W]
  simp [part, isAgg, Sem.run_bind, run_underlying Tryz.underlying22, asAgg]
def PairU (p q : Int) (w : World) (e : Ending) (w' : World) : Prop := e = .returned (.tuple #[.int .u32 p, .int .i64 q]) ∧ Gr w w'
/-- The residue. -/
def resU (neg : Bool) (V n : Nat) : Nat := if neg = true ∧ 0 < V % n then n - V % n else V % n

set_option maxRecDepth 100000 in
set_option maxHeartbeats 2000000 in
theorem mod_ok (neg : Bool) (s : ByteArray) (n : Nat) (w : World) (h : Form neg s) (hn : n < 4294967296) (h0 : n ≠ 0) :
    Calls Tryz.prog 28 #[.agg #[.bool neg, .string s], .int .u32 n] w (PairU ((resU neg (zOf neg s).natAbs n : Nat) : Int) 0 w) := by
  have HF := Lib.hid h
  have hs : s.size ≤ 256 := by rcases h with ⟨h0, _⟩ | ⟨_, h2, _⟩ <;> omega
  have d0 : ((n : Int) == 0) = false := by simp; omega
  have hn1 : 1 ≤ n := by omega
  obtain ⟨m, hm⟩ : ∃ m, m = resU neg (zOf neg s).natAbs n := ⟨_, rfl⟩
  rw [← hm]
  have HM := Lib.hid hm
  clear h h0 hm
  go_enter Tryz.func28, Tryz.ntmps28
  go_wp2_with fail
  refine (valid_any neg s _ (by omega)).mono ?_
  rintro e w1 ⟨r, rfl, hr, g⟩
  obtain rfl : r = true := hr.2 HF.out
  have x0 := g.keeps (p := ⟨w.heap.size, 0, none⟩) (v := .bool neg) (by simp [go_sem])
  have x1 := g.keeps (p := ⟨w.heap.size, 1, none⟩) (v := .string s) (by simp [go_sem])
  have HG := Lib.hid ((Gr.new w (.cells #[.bool neg, .string s] 24)).trans g)
  clear hr g
  go_wp2_with fail
  refine (integerOf_form neg s _ HF.out).mono ?_
  rintro e w2 ⟨v, rfl, hv, g⟩
  obtain ⟨xn, xa, xk, xc, xl, rfl, y1, y2, y3, y4, y5⟩ := hv.cutM
  have x0 := g.keeps x0
  have HG := Lib.hid (HG.out.trans g)
  have HD := Lib.hid y2
  have HV := Lib.hid y4
  have HL := Lib.hid y5
  have hfd := field_intM xn xa xk xc w2
  clear hv g y1 y2 y3 y4 y5 x1
  go_wp2_with fail
  clear hfd
  refine (splitDigit_any xl _ n _ HD.out (Nat.le_trans HL.out (by omega)) hn1 hn).mono ?_
  rintro e w3 ⟨v, q, rfl, -, -, -, g⟩
  have x0 := g.keeps x0
  have HG := Lib.hid (HG.out.trans g)
  rw [HV.out]
  obtain ⟨x, hx⟩ : ∃ x, x = (zOf neg s).natAbs % n := ⟨_, rfl⟩
  have hxb : x < n := by rw [hx]; exact Nat.mod_lt _ (by omega)
  rw [← hx]
  have HRES := Lib.hid (show m = (if neg = true ∧ 0 < x then n - x else x) by rw [HM.out]; unfold resU; rw [← hx])
  clear hx g
  cases neg with
  | false =>
    have HRES := Lib.hid (show m = x by rw [HRES.out, if_neg (by simp)])
    go_wp2_with fail
    go_ret2
    exact ⟨by rw [HRES.out]; rfl, HG.out⟩
  | true =>
    by_cases hp : 0 < x
    · have HRES2 := Lib.hid (show (m : Int) = (n : Int) - (x : Int) by rw [HRES.out, if_pos ⟨rfl, hp⟩]; omega)
      have d1 : decide ((x : Int) > 0) = true := decide_eq_true (by omega)
      have d2 : decide ((0 : Int) < (x : Int)) = true := decide_eq_true (by omega)
      go_wp2_with fail
      go_ret2
      exact ⟨by rw [HRES2.out]; rfl, HG.out⟩
    · obtain rfl : x = 0 := by omega
      have HRES := Lib.hid (show m = 0 by rw [HRES.out, if_neg (by simp)])
      go_wp2_with fail
      go_ret2
      exact ⟨by rw [HRES.out]; rfl, HG.out⟩

end Go.Proofs.YtfpdemmdkiohhaaGreat
