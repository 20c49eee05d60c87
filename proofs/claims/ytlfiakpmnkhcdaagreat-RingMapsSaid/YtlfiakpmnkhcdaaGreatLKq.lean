import Derived.Test.YtlfiakpmnkhcdaaGreatLKj
import Derived.Test.YtlfiakpmnkhcdaaGreatLKh
/- The law's spoil. (made by mkkl.py) -/
namespace Go.Proofs.YtlfiakpmnkhcdaaGreat.Mo
open Go.RowKit Go.Shelf
set_option linter.unusedVariables false
set_option linter.unusedSimpArgs false

theorem Ov.trans {lo hi : Nat} {W W1 W2 : World} (h : Ov lo hi W W1) (h2 : Ov lo hi W1 W2) : Ov lo hi W W2 := by
  induction h2 with
  | refl => exact h
  | gr _ hg ih => exact ih.gr hg
  | set _ h3 h4 x ih => exact ih.set h3 h4 x
theorem SpR.at_ {W : World} {lo hi : Nat} {a : Option Addr} {n cap : Nat} {ls : List (List Int)} (h : SpR W lo hi (.slice a n cap) ls) {i : Nat} (hij : i < ls.length) : ∃ g o x m c, a = some ⟨g, o, none⟩ ∧
    W.cell? ⟨g, o + i, none⟩ = some (.slice x m c) ∧ m = (rw_ ls i).length ∧ (0 < m → ∃ b cs, x = some ⟨b, 0, none⟩ ∧ lo ≤ b ∧ b < hi ∧ b ≠ g ∧ Blk W b 22 cs ∧ ∀ j, j < m → ∃ z, cs[j]? = some (.int .u32 z)) := by
  obtain ⟨a', cap', e, h1, h2, h3⟩ := h
  cases e
  obtain ⟨g, o, x, c, e, _, _, k1, k2⟩ := h3 i hij
  exact ⟨g, o, x, _, c, e, k1, rfl, k2⟩
theorem SpR.len {W : World} {lo hi : Nat} {a : Option Addr} {n cap : Nat} {ls : List (List Int)} (h : SpR W lo hi (.slice a n cap) ls) : n = ls.length ∧ n ≤ 9223372036854775807 := by
  obtain ⟨a', cap', e, h1, h2, _⟩ := h
  cases e
  exact ⟨rfl, by omega⟩

set_option maxRecDepth 100000 in
set_option maxHeartbeats 4000000 in
theorem spoil_any (lv : Int) (sp : Bool) (u : Value) (rA : List (List Int)) (lo hi : Nat) (w : World) (hS : SpR w lo hi u rA) (hh : hi ≤ w.heap.size) (hm : ∀ i, i < rA.length → (rw_ rA i).length ≤ 1000) :
    Calls Tryz.prog 21 #[.agg #[.int .i64 lv, .bool sp, u]] w (fun e w' => e = .returned (.tuple #[]) ∧ Ov lo hi w w') := by
  obtain ⟨xA, cA, rfl⟩ := hS.form
  generalize hnA : rA.length = nA at *
  obtain ⟨W1, hW1⟩ : ∃ W1, W1 = w.alloc (.cells #[.int .i64 lv, .bool sp, .slice xA nA cA] 28) := ⟨_, rfl⟩
  have HG := Lib.hid (show Gr w W1 by rw [hW1]; exact Gr.new w _)
  have HBA := Lib.hid (show Blk W1 w.heap.size 28 #[.int .i64 lv, .bool sp, .slice xA nA cA] by rw [hW1]; exact Blk.new w _ _)
  have HSP := Lib.hid (hS.gr HG.out)
  have HNA := Lib.hid hnA
  have HM := Lib.hid hm
  have hnl : nA ≤ 9223372036854775807 := hS.len.2
  clear hS hnA hm
  go_enter Tryz.func21, Tryz.ntmps21
  go_wp2_with fail
  rw [← hW1]
  clear hW1
  go_loopw [2, 3] (fun i _ wr => ∃ (k : Nat), i = .int .i64 k ∧ k ≤ nA ∧ SpR wr lo hi (.slice xA nA cA) rA ∧ Ov lo hi W1 wr) (fun i _ _ => nA - (intOf i).toNat)
  case atStart => exact ⟨0, rfl, by omega, HSP.out, Ov.refl _⟩
  case round =>
    obtain ⟨k, rfl, hk, hsp, hov⟩ := hrel
    have HS := Lib.hid hsp
    have HO := Lib.hid hov
    obtain ⟨a0, a1, a2⟩ := (hov.blk HBA.out (.inr hh)).p3
    clear hsp hov
    by_cases hlt : k < nA
    · have i1 : (k : Int) < (nA : Int) := by omega
      have i0 : (0 : Int) ≤ (k : Int) := by omega
      have HKN := Lib.hid (show k < rA.length by rw [HNA.out]; exact hlt)
      obtain ⟨m, hme⟩ : ∃ m, m = (rw_ rA k).length := ⟨_, rfl⟩
      have hm1 : m ≤ 1000 := by rw [hme]; exact HM.out k hlt
      have HME := Lib.hid hme
      clear hme
      go_wp2_with fail
      clear a0 a1 a2
      go_loopw [3] (fun j wi => ∃ (t : Nat), j = .int .i64 t ∧ t ≤ m ∧ SpR wi lo hi (.slice xA nA cA) rA ∧ Ov lo hi W1 wi) (fun j _ => m - (intOf j).toNat)
      case atStart => exact ⟨0, rfl, by omega, HS.out, HO.out⟩
      case round =>
        obtain ⟨t, rfl, ht, hsp, hov⟩ := hrel
        have HS2 := Lib.hid hsp
        have HO2 := Lib.hid hov
        obtain ⟨a0, a1, a2⟩ := (hov.blk HBA.out (.inr hh)).p3
        obtain ⟨gA, oA, sx, sn, sc, rfl, hcA, hs1, hrow⟩ := SpR.at_ hsp HKN.out
        have hsn : sn = m := by rw [hs1, HME.out]
        clear hsp hov hs1
        subst hsn
        by_cases hjt : t < sn
        · have i2 : (t : Int) < (sn : Int) := by omega
          have i3 : (0 : Int) ≤ (t : Int) := by omega
          obtain ⟨b, cs, rfl, hb1, hb2, hb3, hblk, hz⟩ := hrow (by omega)
          obtain ⟨z, hz⟩ := hz t hjt
          have hc := hblk.cell t
          rw [hz] at hc
          have hf := hblk.frozen t
          have HB1 := Lib.hid hb1
          have HB2 := Lib.hid hb2
          have HB3 := Lib.hid hb3
          clear hb1 hb2 hb3 hblk hz hrow
          go_wp2_with fail
          go_roundw
          case rel => exact ⟨t + 1, by go_num, by omega, HS2.out.put (fun p hp => by cases hp; exact HB3.out) _, HO2.out.set HB1.out HB2.out _⟩
          case measure => simp [intOf]; omega
        · obtain rfl : t = sn := by omega
          have i2 : ¬ (t : Int) < (t : Int) := by omega
          clear hrow
          go_wp2_with fail
          go_roundw
          case rel => exact ⟨k + 1, by go_num, by omega, HS2.out, HO2.out⟩
          case measure => simp [intOf]; omega
    · obtain rfl : k = nA := by omega
      have i1 : ¬ (k : Int) < (k : Int) := by omega
      go_wp2_with fail
      refine bodyPost_end (results_none rfl _ _ _) rfl ?_
      exact ⟨rfl, ((Ov.refl w).gr HG.out).trans HO.out⟩
end Go.Proofs.YtlfiakpmnkhcdaaGreat.Mo
/- Sums and products of elements, pure. -/
namespace Go.Proofs.YtlfiakpmnkhcdaaGreat.Mo
open Go.RowKit Go.Shelf
set_option linter.unusedVariables false

end Go.Proofs.YtlfiakpmnkhcdaaGreat.Mo
/- The law RingLaws. (made by mkjz.py) -/
namespace Go.Proofs.YtlfiakpmnkhcdaaGreat.Mo
open Go.RowKit Go.Shelf
set_option linter.unusedVariables false

end Go.Proofs.YtlfiakpmnkhcdaaGreat.Mo
/- What the laws RingSums and RingMaps share. (made by mkmaps.py) -/
namespace Go.Proofs.YtlfiakpmnkhcdaaGreat.Mo
open Go.RowKit Go.Shelf
set_option linter.unusedVariables false
set_option linter.unusedSimpArgs false

/-- A load of a whole Case as a law of the walk. -/
theorem wpList_loadCase {ops : Array Oper} {rest : List Oper} {o : Oper} {a : Act} {w : World} {Q : Exit → Act → World → Prop} (hgd : o.guard = none) (x : Operand) (ho : o.op = .load 31 x) (b : Nat) (hx : a.eval x = .pointer (some ⟨b, 0, none⟩)) (cs : Array Value) (hb : Blk w b 31 cs) (hn : cs.size = 18) (h : wpList Tryz.prog ops Q rest (a.put o.dst (.agg cs)) w) : wpList Tryz.prog ops Q (o :: rest) a w :=
  wpList_plain hgd fun K hK => by
    have hr : (Instr.loadAt 31 (.pointer (some ⟨b, 0, none⟩))).run Tryz.prog w = .ok (.agg cs) w := by
      simp only [Instr.loadAt, Instr.sureAddr, Sem.run_bind, Sem.run_pure, Result.andThen]
      exact run_loadVar_row w b _ _ cs (0, 0) _ hb Tryz.underlying31 rfl (by rw [hn]; kernel_rfl)
    unfold Oper.wp execOp
    simp only [ho, hx, Sem.run_bind, hr, Result.andThen_ok]
    exact hK _ _ h
theorem SpR.later {W W' : World} {lo hi : Nat} {v : Value} {ls : List (List Int)} (h : SpR W lo hi v ls) (hg : Gr W W') : SpR W' lo hi v ls := h.gr hg
/-- A copy of rows whose number is n. -/
def LentN (lv : Int) (sp : Bool) (n : Nat) (rA : List (List Int)) (w : World) (e : Ending) (w' : World) : Prop := ∃ x c, e = .returned (.agg #[.int .i64 lv, .bool sp, .slice x n c]) ∧ HasB w' w.heap.size w'.heap.size (.slice x n c) rA ∧ SpR w' w.heap.size w'.heap.size (.slice x n c) rA ∧ Gr w w'
theorem sm_up {ls : List (List Int)} (h : Sm 100 ls) : Sm 1000 ls := ⟨Nat.le_trans h.1 (by omega), fun i hi => Nat.le_trans (h.2 i hi) (by omega)⟩
theorem lentN {lv : Int} {sp : Bool} {xA : Option Addr} {nA cA : Nat} {rA : List (List Int)} {V : World} (hA : HasR V (.slice xA nA cA) rA) (hs : Sm 100 rA) (hn : rA.length = nA) : Calls Tryz.prog 13 #[.agg #[.int .i64 lv, .bool sp, .slice xA nA cA]] V (LentN lv sp nA rA V) := by
  subst hn
  exact lent_any lv sp _ rA V hA (sm_up hs)
def lvF (c lv : Int) : Int := if c = 0 then lv else 0
def spF (c : Int) (sp : Bool) : Bool := if c = 0 then sp else false
def lsF (c : Int) (ls : List (List Int)) : List (List Int) := if c = 0 then ls else []
/-- An element and an error; the rows lie from B on. -/
def PairP (c lv : Int) (sp : Bool) (ls : List (List Int)) (B : Nat) (w : World) (e : Ending) (w' : World) : Prop := ∃ x n cx, e = .returned (.tuple #[.agg #[.int .i64 lv, .bool sp, .slice x n cx], .int .i64 c]) ∧ HasB w' B w'.heap.size (.slice x n cx) ls ∧ Gr w w'
theorem pairP {c lv : Int} {sp : Bool} {ls : List (List Int)} {w w' : World} {e : Ending} {B : Nat} (h : ResE c lv sp ls w e w') (hB : B ≤ w.heap.size) : PairP c (lvF c lv) (spF c sp) (lsF c ls) B w e w' := by
  obtain ⟨lv', sp', ls', u, rfl, h1, h2, h3⟩ := h
  obtain ⟨x, cx, rfl⟩ := h2.form
  rcases h1 with ⟨rfl, rfl, rfl, rfl⟩ | ⟨rfl, rfl, rfl, rfl⟩
  · exact ⟨x, _, cx, rfl, h2.mono hB (Nat.le_refl _), h3⟩
  · exact ⟨x, _, cx, rfl, h2.mono hB (Nat.le_refl _), h3⟩
theorem opP {P : Program} {f : FuncId} {args : Array Value} {w : World} {c0 lv : Int} {sp : Bool} {ls : List (List Int)} {c LV : Int} {SP : Bool} {L : List (List Int)} {B : Nat} (h : Calls P f args w (ResE c0 lv sp ls w)) (hc : c = c0) (hl : LV = lvF c0 lv) (hs : SP = spF c0 sp) (hL : L = lsF c0 ls) (hB : B ≤ w.heap.size) : Calls P f args w (PairP c LV SP L B w) := by
  subst hc hl hs hL
  exact h.mono fun e w' h => pairP h hB

end Go.Proofs.YtlfiakpmnkhcdaaGreat.Mo
