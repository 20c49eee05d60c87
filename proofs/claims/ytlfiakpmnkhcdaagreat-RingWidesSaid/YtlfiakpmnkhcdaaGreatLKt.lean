import Derived.Test.YtlfiakpmnkhcdaaGreatLJs
import Derived.Test.YtlfiakpmnkhcdaaGreatLSwb
import Derived.Test.YtlfiakpmnkhcdaaGreatLKc
import Derived.Test.YtlfiakpmnkhcdaaGreatLSb
import Derived.Test.YtlfiakpmnkhcdaaGreatLTc
namespace Go.Proofs.YtlfiakpmnkhcdaaGreat.Mo
open Go.RowKit Go.Shelf
set_option linter.unusedVariables false
def zcells : List Int → List Value
 | [] => []
 | z :: l => .bool (decide (z < 0)) :: .string (bstr z.natAbs) :: zcells l
theorem zcells_append : ∀ a b, zcells (a ++ b) = zcells a ++ zcells b
 | [], b => rfl
 | z :: a, b => by simp [zcells, zcells_append a b]
theorem zcells_at : ∀ (l : List Int) (i : Nat), i < l.length → (zcells l)[i * 2]? = some (.bool (decide (Op.cf l i < 0))) ∧ (zcells l)[i * 2 + 1]? = some (.string (bstr (Op.cf l i).natAbs))
 | [], i, h => by simp at h
 | z :: l, 0, h => ⟨rfl, rfl⟩
 | z :: l, i + 1, h => by
  obtain ⟨h1, h2⟩ := zcells_at l i (by simpa using h)
  have e1 : (i + 1) * 2 = i * 2 + 1 + 1 := by omega
  have e2 : (i + 1) * 2 + 1 = i * 2 + 1 + 1 + 1 := by omega
  rw [e2, e1]
  simp only [zcells, List.getElem?_cons_succ]
  exact ⟨h1, h2⟩
def OwnW (W : World) (base : Nat) (v : Value) (zs : List Int) : Prop := W.ownsRow base 50 2 v zs.length (zcells zs)
theorem OwnW.nil (W : World) (base : Nat) : OwnW W base (.slice none 0 0) [] := World.ownsRow_nil _ _ _ _
theorem OwnW.form {W : World} {base : Nat} {v : Value} {zs : List Int} (h : OwnW W base v zs) : ∃ a c, v = .slice a zs.length c ∧ zs.length ≤ c ∧ c ≤ 9223372036854775807 := by
 rcases h.2 with ⟨rfl, h0⟩ | ⟨g, cap, cur, rfl, _, _, k1, k2, _⟩
 ·exact ⟨none, 0, by rw [h0], by omega, by omega⟩
 ·exact ⟨_, cap, rfl, k1, by unfold maxLen at k2; omega⟩
theorem OwnW.lt {W : World} {base : Nat} {v : Value} {zs : List Int} (h : OwnW W base v zs) : ∀ k, v.ownBlock = some k → base ≤ k ∧ k < W.heap.size := World.ownsRow.lt h
theorem OwnW.gr {W W' : World} {base : Nat} {v : Value} {zs : List Int} (h : OwnW W base v zs) (hg : Gr W W') : OwnW W' base v zs :=
 World.ownsRow.kept h (row := none) ⟨hg.os, hg.tape, hg.output, hg.size, fun k hk _ => hg.block k hk⟩ (by cases v.ownBlock <;> simp)
theorem OwnW.hasW {W : World} {base : Nat} {v : Value} {zs : List Int} (h : OwnW W base v zs) : HasW W v zs := by
 obtain ⟨a, c, e, h1, h2⟩ := h.form
 subst e
 refine ⟨a, c, rfl, h1, h2, fun i hi => ?_⟩
 rcases h.2 with ⟨_, h0⟩ | ⟨g, cap, cur, e2, _⟩
 ·omega
 ·cases e2
  obtain ⟨k1, k2⟩ := zcells_at zs i hi
  have c1 := World.ownsRow.cells h (g := g) rfl _ _ k1
  have c2 := World.ownsRow.cells h (g := g) rfl _ _ k2
  have e3 : ∀ j, (⟨g, 0, none⟩ : Addr).add j = ⟨g, 0 + j, none⟩ := fun j => addr_add rfl _ rfl
  rw [e3, Nat.zero_add] at c1 c2
  exact ⟨g, rfl, c1, c2⟩
theorem OwnW.grown {w a b : World} {base : Nat} {v : Value} {zs : List Int} (ho : OwnW a base v zs) (h : Gr w a) (hg : a.grownBy b v.ownBlock) (hb : w.heap.size ≤ base) : Gr w b :=
 Below.grown h hg h.size (fun j ej => by have := (ho.lt j ej).1; omega)
theorem run_appW (w : World) (base : Nat) (v : Value) (zs : List Int) (hown : OwnW w base v zs) (z : Int) (g : Nat) (h0 : w.cell? ⟨g, 0, none⟩ = some (.bool (decide (z < 0)))) (h1 : w.cell? ⟨g, 1, none⟩ = some (.string (bstr z.natAbs))) (hlen : zs.length ≤ 1000000) (hbase : base ≤ w.heap.size) :
  ∃ v' w', (Builtin.append_ #[46, 46] 46 #[v, .slice (some ⟨g, 0, none⟩) 1 1]).run Tryz.prog w = .ok v' w' ∧ OwnW w' base v' (zs ++ [z]) ∧ w.grownBy w' v.ownBlock := by
 obtain ⟨i0, hi, hz0, hz1, hz2⟩ := info_parts infoWd
 have hnews : ∀ j x, [Value.bool (decide (z < 0)), .string (bstr z.natAbs)][j]? = some x → w.cell? ((⟨g, 0, none⟩ : Addr).add j) = some x := by
  intro j x hx
  have e2 : (⟨g, 0, none⟩ : Addr).add j = ⟨g, 0 + j, none⟩ := addr_add rfl _ rfl
  rw [e2, Nat.zero_add]
  rcases j with _ | _ | j
  ·simp at hx; subst hx; exact h0
  ·simp at hx; subst hx; exact h1
  ·simp at hx
 obtain ⟨v', w', hr, h5, h6, -⟩ := run_append_own (P := Tryz.prog) w base 46 46 50 i0 (.agg #[.bool false, .string ⟨#[]⟩]) 2 24 Tryz.underlying46 hi hz0 hz1 hz2 rfl (by decide) v zs.length (zcells zs) hown ⟨g, 0, none⟩ 1 1 [.bool (decide (z < 0)), .string (bstr z.natAbs)] rfl hnews (by simp [Value.oneCell']) (by unfold maxLen; omega) (by omega) hbase
 exact ⟨v', w', hr, by unfold OwnW; rw [zcells_append, List.length_append]; exact h5, h6⟩
theorem wp_appW {o : Oper} {a : Act} {w : World} {K : Act → World → Prop} {Q : Exit → Act → World → Prop} (s x : Operand)
  (ho : o.op = .call { callee := .builtin .append, args := #[s, x], argTypes := #[46, 46] }) (hty : o.type = 46)
  (base : Nat) (v : Value) (zs : List Int) (hs : a.eval s = v) (hown : OwnW w base v zs) (z : Int) (g : Nat) (hx : a.eval x = .slice (some ⟨g, 0, none⟩) 1 1) (h0 : w.cell? ⟨g, 0, none⟩ = some (.bool (decide (z < 0)))) (h1 : w.cell? ⟨g, 1, none⟩ = some (.string (bstr z.natAbs))) (hlen : zs.length ≤ 1000000) (hbase : base ≤ w.heap.size)
  (h : ∀ v' w', OwnW w' base v' (zs ++ [z]) → w.grownBy w' v.ownBlock → K (a.put o.dst v') w') : Oper.wp Tryz.prog o a w K Q := by
 obtain ⟨v', w', hr, h2, h3⟩ := run_appW w base v zs hown z g h0 h1 hlen hbase
 unfold Oper.wp execOp
 simp only [ho, hty, resolve, invoke, builtin, Sem.run_bind, Sem.run_pure, Result.andThen_ok, List.map_toArray, List.map_cons, List.map_nil, hs, hx, hr]
 exact h v' w' h2 h3
theorem wpList_appW {ops : Array Oper} {rest : List Oper} {o : Oper} {a : Act} {w : World} {Q : Exit → Act → World → Prop} (hgd : o.guard = none) (s x : Operand)
  (ho : o.op = .call { callee := .builtin .append, args := #[s, x], argTypes := #[46, 46] }) (hty : o.type = 46)
  (base : Nat) (v : Value) (zs : List Int) (hs : a.eval s = v) (hown : OwnW w base v zs) (z : Int) (g : Nat) (hx : a.eval x = .slice (some ⟨g, 0, none⟩) 1 1) (h0 : w.cell? ⟨g, 0, none⟩ = some (.bool (decide (z < 0)))) (h1 : w.cell? ⟨g, 1, none⟩ = some (.string (bstr z.natAbs))) (hlen : zs.length ≤ 1000000) (hbase : base ≤ w.heap.size)
  (h : ∀ v' w', OwnW w' base v' (zs ++ [z]) → w.grownBy w' v.ownBlock → wpList Tryz.prog ops Q rest (a.put o.dst v') w') : wpList Tryz.prog ops Q (o :: rest) a w :=
 wpList_plain hgd fun _ hK => wp_appW s x ho hty base v zs hs hown z g hx h0 h1 hlen hbase fun v' w' h2 h3 => hK _ _ (h v' w' h2 h3)
end Go.Proofs.YtlfiakpmnkhcdaaGreat.Mo
namespace Go.Proofs.YtlfiakpmnkhcdaaGreat.Mo
open Go.RowKit Go.Shelf
set_option linter.unusedVariables false
def WdA (N : Int) (ch : List Int) (S : Int) (lv : Int) (sp : Bool) (rows : List (List Int)) (c : Int) (zs : List Int) : Prop := (WdOK N ch S lv sp rows ∧ c = 0 ∧ WdZ N (Oj.mods ch S lv.toNat sp) rows zs) ∨ (¬ WdOK N ch S lv sp rows ∧ c = 2 ∧ zs = [])
theorem wdZ_unique {N : Int} {M : List Int} {rows : List (List Int)} {za zb : List Int} (hs : Sys M) (a : WdZ N M rows za) (b : WdZ N M rows zb) : zb = za := by
 have hl : zb.length = za.length := by have := a.1; have := b.1; omega
 refine Op.ext_cf hl fun i => ?_
 by_cases hi : i < za.length
 ·exact ((b.2 i (by omega)).unique hs (a.2 i hi))
 ·rw [Op.cf_out (by omega), Op.cf_out (by omega)]
theorem WdA.unique {N : Int} {ch : List Int} {S : Int} {lv : Int} {sp : Bool} {rows : List (List Int)} {c c' : Int} {zs zs' : List Int} (a : WdA N ch S lv sp rows c zs) (b : WdA N ch S lv sp rows c' zs') : c' = c ∧ zs' = zs := by
 rcases a with ⟨h, rfl, hz⟩ | ⟨h, rfl, rfl⟩
 ·rcases b with ⟨_, rfl, hz'⟩ | ⟨h', _⟩
  ·exact ⟨rfl, wdZ_unique h.2.sys hz hz'⟩
  ·exact absurd h h'
 ·rcases b with ⟨h', _⟩ | ⟨_, rfl, rfl⟩
  ·exact absurd h' h
  ·exact ⟨rfl, rfl⟩
theorem wdP_of {N : Int} {ch : List Int} {S : Int} {lv : Int} {sp : Bool} {rows : List (List Int)} {w w' : World} {e : Ending} (h : WdP N ch S lv sp rows w e w') : ∃ x n cx zs c, e = .returned (.tuple #[.slice x n cx, .int .i64 c]) ∧ n = zs.length ∧ Gr w w' ∧ HasW w' (.slice x n cx) zs ∧ WdA N ch S lv sp rows c zs := by
 obtain ⟨v, zs, c, rfl, h1, h2, h3⟩ := h
 obtain ⟨a, cz, rfl, -⟩ := id h2
 exact ⟨a, zs.length, cz, zs, c, rfl, rfl, h1, h2, h3⟩
def NmA (N : Int) (ch : List Int) (S : Int) (lv : Int) (sp : Bool) (rows : List (List Int)) (c : Int) (X : Int) : Prop := ∃ zs, WdA N ch S lv sp rows c zs ∧ X = nrm zs
theorem NmA.unique {N : Int} {ch : List Int} {S : Int} {lv : Int} {sp : Bool} {rows : List (List Int)} {c c' : Int} {X X' : Int} (a : NmA N ch S lv sp rows c X) (b : NmA N ch S lv sp rows c' X') : c' = c ∧ X' = X := by
 obtain ⟨zs, a1, rfl⟩ := a
 obtain ⟨zs', b1, rfl⟩ := b
 obtain ⟨rfl, rfl⟩ := a1.unique b1
 exact ⟨rfl, rfl⟩
def NmQ (N : Int) (ch : List Int) (S : Int) (lv : Int) (sp : Bool) (rows : List (List Int)) (w : World) (e : Ending) (w' : World) : Prop := ∃ X c, e = .returned (.tuple #[wv X, .int .i64 c]) ∧ Gr w w' ∧ NmA N ch S lv sp rows c X
theorem nmP_of {N : Int} {ch : List Int} {S : Int} {lv : Int} {sp : Bool} {rows : List (List Int)} {w w' : World} {e : Ending} (h : NmP N ch S lv sp rows w e w') : NmQ N ch S lv sp rows w e w' := by
 obtain ⟨X, c, rfl, h1, h3⟩ := h
 refine ⟨X, c, rfl, h1, ?_⟩
 rcases h3 with ⟨h, rfl, zs, hz, rfl⟩ | ⟨h, rfl, rfl⟩
 ·exact ⟨zs, .inl ⟨h, rfl, hz⟩, rfl⟩
 ·exact ⟨[], .inr ⟨h, rfl, rfl⟩, by simp [nrm]⟩
theorem bstr00 : bstr 0 = ⟨#[]⟩ := by unfold bstr; rw [Ow.byt_zero]
theorem rwmax_any (x y : Int) (w : World) (hx : InR x) (hy : InR y) : Calls Tryz.prog 85 #[wv x, wv y] w (fun e w' => e = .returned (.tuple #[wv (if x < y then y else x), .int .i64 0]) ∧ Gr w w') := by
 refine (Go.Proofs.YtlfiakpmnkhcdaaGreat.rmax_ok _ _ _ _ w (form_bstr x hx) (form_bstr y hy)).mono ?_
 rintro e w' ⟨rfl, hg⟩
 refine ⟨?_, hg⟩
 rw [zOf_bstr, zOf_bstr]
 by_cases h : x < y
 ·have h2 : sgn x y < 0 := by unfold sgn; rw [if_pos h]; omega
  rw [if_pos h2, if_pos h2, if_pos h]; rfl
 ·have h2 : ¬ sgn x y < 0 := by unfold sgn; rw [if_neg h]; split <;> omega
  rw [if_neg h2, if_neg h2, if_neg h]; rfl
theorem f5Prime_any (q : Nat) (w : World) (hq : q ≤ 4294967295) : Calls Tryz.prog 81 #[.int .u32 q] w (BoolPost (Prm q) w) := by
 have HC := Lib.hid (rprime_any q w hq)
 go_enter Tryz.func81, Tryz.ntmps81
 go_wp2_with fail
 refine HC.out.mono ?_
 rintro e w1 ⟨b, rfl, hb, hg⟩
 have HB := Lib.hid (hb.trans (prm_iff q).symm)
 have HG := Lib.hid hg
 clear hb hg
 go_wp2_with fail
 go_ret
 exact ⟨b, rfl, HB.out, HG.out⟩
end Go.Proofs.YtlfiakpmnkhcdaaGreat.Mo
namespace Go.Proofs.YtlfiakpmnkhcdaaGreat.Mo
open Go.RowKit Go.Shelf
set_option linter.unusedVariables false
theorem wdP_no {N : Int} {ch : List Int} {S : Int} {lv : Int} {sp : Bool} {rows : List (List Int)} {w w' : World} (h : ¬ WdOK N ch S lv sp rows) (hg : Gr w w') : WdP N ch S lv sp rows w (.returned (.tuple #[.slice none 0 0, .int .i64 2])) w' :=
 ⟨.slice none 0 0, [], 2, rfl, hg, ⟨none, 0, rfl, by simp, by omega, fun i hi => by simp at hi⟩, .inr ⟨h, rfl, rfl⟩⟩
structure WL (w0 : World) (M : List Int) (rows : List (List Int)) (j : Nat) (v : Value) (zs : List Int) (W : World) : Prop where
 own : OwnW W w0.heap.size v zs
 len : zs.length = j
 at_ : ∀ i, i < j → JoinV M (colR rows i) (Op.cf zs i)
 gr : Gr w0 W
theorem WL.start (w0 : World) (M : List Int) (rows : List (List Int)) : WL w0 M rows 0 (.slice none 0 0) [] w0 := ⟨OwnW.nil _ _, rfl, fun i hi => by omega, Gr.refl _⟩
theorem WL.snoc {w0 : World} {X : Int} {M : List Int} {rows : List (List Int)} {j : Nat} {v v' : Value} {zs : List Int} {W W' Wn : World} (h : WL w0 M rows j v zs W) (hg : Gr W W') (hown : OwnW Wn w0.heap.size v' (zs ++ [X])) (hgrow : W'.grownBy Wn v.ownBlock) (hX : JoinV M (colR rows j) X) : WL w0 M rows (j + 1) v' (zs ++ [X]) Wn := by
 refine ⟨hown, by rw [List.length_append, h.len]; rfl, fun i hi => ?_, (h.own.gr hg).grown (h.gr.trans hg) hgrow (Nat.le_refl _)⟩
 rw [Op.cf_append, h.len]
 by_cases e : i < j
 ·rw [if_pos e]; exact h.at_ i e
 ·obtain rfl : i = j := by omega
  rw [if_neg e, Nat.sub_self]; exact hX
set_option maxRecDepth 100000 in
set_option maxHeartbeats 8000000 in
theorem fWides_any (N p1 p2 : Int) (xC : Option Addr) (nC cC : Nat) (S p5 p6 : Int) (lv : Int) (sp : Bool) (ch : List Int) (uA : Value) (rows : List (List Int)) (w : World) (h3 : ch.length ≤ 1000) (hC : HasP w (.slice xC nC cC) ch) (hS : 0 ≤ S ∧ S < 4294967296) (hA : HasR w uA rows) :
  Calls Tryz.prog 37 #[.agg #[.int .i64 N, .int .u32 p1, .int .i64 p2, .slice xC nC cC, .int .u32 S, .int .i64 p5, .int .u32 p6], .agg #[.int .i64 lv, .bool sp, uA]] w (WdP N ch S lv sp rows w) := by
 obtain ⟨xA, cA, rfl⟩ := hA.form
 generalize hnA : rows.length = nA at *
 obtain ⟨W0, hW0⟩ : ∃ W0, W0 = (w.alloc (.cells #[.int .i64 N, .int .u32 p1, .int .i64 p2, .slice xC nC cC, .int .u32 S, .int .i64 p5, .int .u32 p6] 25)).alloc (.cells #[.int .i64 lv, .bool sp, .slice xA nA cA] 28) := ⟨_, rfl⟩
 have HG0 := Lib.hid (show Gr w W0 by rw [hW0]; exact (Gr.new w _).alloc _)
 have HBP := Lib.hid (show Blk W0 w.heap.size 25 #[.int .i64 N, .int .u32 p1, .int .i64 p2, .slice xC nC cC, .int .u32 S, .int .i64 p5, .int .u32 p6] by rw [hW0]; exact (Blk.new w _ _).gr (Gr.new _ _))
 have HBE := Lib.hid (show Blk W0 (w.heap.size + 1) 28 #[.int .i64 lv, .bool sp, .slice xA nA cA] by rw [hW0]; exact Blk.newk _ _ (by simp))
 have HC := Lib.hid hC
 have HA := Lib.hid hA
 have HS := Lib.hid hS
 have HNA := Lib.hid hnA
 clear hC hA hS hnA
 go_enter Tryz.func37, Tryz.ntmps37
 go_wp2_with fail
 rw [← hW0]
 refine (fCheck_any N p1 p2 xC nC cC S p5 p6 lv sp ch _ rows _ h3 (HC.out.later HG0.out) HS.out (HA.out.later HG0.out)).mono ?_
 rintro e w1 ⟨rfl, hg1⟩
 have HG1 := Lib.hid (HG0.out.trans hg1)
 have HBP1 := Lib.hid (HBP.out.gr hg1)
 have HBE1 := Lib.hid (HBE.out.gr hg1)
 obtain ⟨q0, q1, q2, q3, q4, q5, q6⟩ := HBP1.out.p7
 obtain ⟨k0, k1, k2⟩ := HBE1.out.p3
 clear hg1 hW0
 by_cases hok : VP N ch S ∧ EV N ch S lv sp rows
 ·obtain ⟨l, rfl⟩ := Int.eq_ofNat_of_zero_le (show 0 ≤ lv by have := hok.2.1.1; omega)
  have hE0 : chkE N ch S l sp rows = 0 := if_pos hok
  have HOK := Lib.hid hok
  have HL2 := Lib.hid (show l ≤ ch.length by have := hok.2.1.2.1; omega)
  rw [hE0]
  clear hok hE0
  go_wp2_with fail
  refine (fModuli_any N p1 p2 xC nC cC S p5 p6 l sp ch _ HL2.out h3 (HC.out.later HG1.out) HS.out).mono ?_
  rintro e w4 ⟨xm, nm, cm, rfl, hm, -, hg4⟩
  obtain ⟨M, hM⟩ : ∃ M, M = Oj.mods ch S l sp := ⟨_, rfl⟩
  have HME := Lib.hid hM
  rw [← hM] at hm
  have HM := Lib.hid hm
  have HG4 := Lib.hid (HG1.out.trans hg4)
  have HBP4 := Lib.hid (HBP1.out.gr hg4)
  have HBE4 := Lib.hid (HBE1.out.gr hg4)
  have HNM := Lib.hid hm.len.1
  have HMO := Lib.hid (show ∀ i, i < M.length → okM' (Op.cf M i) by intro i hi; rw [hM] at hi ⊢; exact mods_ok HOK.out.1 HOK.out.2.1 hi)
  have hnm : nm ≤ 1001 := by
   have h5 := Oj.mods_len (S := S) (sp := sp) HL2.out
   rw [← hM] at h5
   have := hm.len.1
   have := HL2.out
   cases sp <;> simp at h5 <;> omega
  have HNN := Lib.hid (show nA = nm by
   have h1 := HOK.out.2.2.1
   simp only [Int.toNat_natCast] at h1
   rw [← hM, HNA.out] at h1
   have := hm.len.1
   omega)
  clear hm hM hg4 q0 q1 q2 q3 q4 q5 q6 k0 k1 k2
  go_wp2_with fail
  go_loopw [7] (fun t wr => ∃ k : Nat, t = .int .i64 k ∧ k ≤ nm ∧ (∀ i, i < k → Prm (Op.cf M i).toNat) ∧ Gr w4 wr) (fun t _ => nm - (intOf t).toNat)
  case atStart => exact ⟨0, rfl, by omega, fun i hi => by omega, Gr.refl _⟩
  case round =>
   obtain ⟨k, rfl, hk, hpr, hg⟩ := hrel
   have HPR := Lib.hid hpr
   have HGK := Lib.hid hg
   clear hpr hg
   by_cases hlt : k < nm
   ·have i1 : (k : Int) < (nm : Int) := by omega
    have i0 : (0 : Int) ≤ (k : Int) := by omega
    have HKM := Lib.hid (show k < M.length by rw [← HNM.out]; exact hlt)
    obtain ⟨gM, oM, rfl, hcM⟩ := (HM.out.later HGK.out).at_ (i := k) HKM.out
    have hMk := HMO.out k HKM.out
    obtain ⟨q, hq⟩ : ∃ q : Nat, (q : Int) = Op.cf M k := ⟨(Op.cf M k).toNat, Int.toNat_of_nonneg (by have := hMk.1; omega)⟩
    rw [← hq] at hcM hMk
    have HQ := Lib.hid (show (Op.cf M k).toNat = q by omega)
    have hq2 : q ≤ 4294967295 := by have := hMk.2; omega
    clear hq hMk
    go_wp2_with fail
    refine (f5Prime_any q _ hq2).mono ?_
    rintro e w5 ⟨b, rfl, hb, hg5⟩
    have HB := Lib.hid hb
    have HG5 := Lib.hid (HGK.out.trans hg5)
    clear hb hg5 hcM
    cases b with
    | false =>
     have HNO := Lib.hid (show ¬ WdOK N ch S l sp rows from fun h => by
      have h1 := h.2
      simp only [Int.toNat_natCast] at h1
      rw [← HME.out] at h1
      have h2 := (h1.2.2 k HKM.out).2.2.1
      rw [HQ.out] at h2
      have h4 := HB.out.2 h2
      exact absurd h4 (by decide))
     go_wp2_with fail
     go_ret2
     exact wdP_no HNO.out (HG4.out.trans HG5.out)
    | true =>
     have HP := Lib.hid (HB.out.1 rfl)
     go_wp2_with fail
     go_roundw
     case rel => exact ⟨k + 1, by go_num, by omega, fun i hi => (by
      by_cases e : i < k
      ·exact HPR.out i e
      ·obtain rfl : i = k := by omega
       rw [HQ.out]; exact HP.out), HG5.out⟩
     case measure => simp [intOf]; omega
   ·obtain rfl : k = nm := by omega
    have i1 : ¬ (k : Int) < (k : Int) := by omega
    go_wp2_with fail
    refine (rnew_any M _ _ (HM.out.later HGK.out)).mono ?_
    rintro e w6 ⟨hg6, hr⟩
    have HG6 := Lib.hid ((HG4.out.trans HGK.out).trans hg6)
    have HG46 := Lib.hid (HGK.out.trans hg6)
    clear hg6
    rcases hr with ⟨hd, R, rfl, hsys⟩ | ⟨hd, rfl⟩
    ·have HD := Lib.hid hd
     have HT := Lib.hid (show RefPr w6 R M from by obtain ⟨-, v, h1, h2, -⟩ := hsys; exact ⟨v, h1, h2⟩)
     have HBP6 := Lib.hid (HBP4.out.gr HG46.out)
     have HBE6 := Lib.hid (HBE4.out.gr HG46.out)
     have HA6 := Lib.hid (HA.out.later HG6.out)
     have HM6 := Lib.hid (HM.out.later HG46.out)
     obtain ⟨n, hn⟩ := Int.eq_ofNat_of_zero_le (show 0 ≤ N by have := HOK.out.1.1; unfold DimI at this; omega)
     subst hn
     have hn32 : n ≤ 32 := by have := HOK.out.1.1; unfold DimI at this; omega
     obtain ⟨q0, -, -, -, -, -, -⟩ := HBP6.out.p7
     clear hd hsys
     go_wp2_with fail
     clear q0
     go_loopw [10, 11, 12, 13, 14, 15] (fun o t _ _ _ _ wr => ∃ (j : Nat) (x : Option Addr) (c : Nat) (zs : List Int), t = .int .i64 j ∧ o = .slice x j c ∧ j ≤ n ∧ WL w6 M rows j (.slice x j c) zs wr) (fun _ t _ _ _ _ _ => n - (intOf t).toNat)
     case atStart => exact ⟨0, none, 0, [], rfl, rfl, by omega, WL.start _ _ _⟩
     case round =>
      obtain ⟨j, vx, vc, zs, rfl, rfl, hj, hwl⟩ := hrel
      have HWL := Lib.hid hwl
      obtain ⟨wo, rfl⟩ : ∃ wo : World, wo = wr := ⟨_, rfl⟩
      have HBEo := Lib.hid (HBE6.out.gr hwl.gr)
      have HAo := Lib.hid (HA6.out.later hwl.gr)
      obtain ⟨q0, -, -, -, -, -, -⟩ := (HBP6.out.gr hwl.gr).p7
      clear hwl
      by_cases hlt : j < n
      ·have j1 : (j : Int) < (n : Int) := by omega
       have j0 : (0 : Int) ≤ (j : Int) := by omega
       go_wp2_with fail
       clear q0
       go_loopw [12, 13] (fun r t wi => ∃ (i : Nat) (x' : Option Addr) (c' : Nat) (l' : List Int), t = .int .i64 i ∧ r = .slice x' i c' ∧ i ≤ k ∧ RP wo (fun q => Op.cf (rw_ rows q) j) i (.slice x' i c') l' wi) (fun _ t _ => k - (intOf t).toNat)
       case atStart => exact ⟨0, none, 0, [], rfl, rfl, by omega, RP.start _ _⟩
       case round =>
        obtain ⟨i, rx, rc, l', rfl, rfl, hi, hrp⟩ := hrel
        have HR := Lib.hid hrp
        obtain ⟨-, -, k2⟩ := (HBEo.out.gr hrp.gr).p3
        clear hrp
        by_cases hil : i < k
        ·have i2 : (i : Int) < (k : Int) := by omega
         have i3 : (0 : Int) ≤ (i : Int) := by omega
         have hir : i < rows.length := by rw [HNA.out, HNN.out]; exact hil
         have hrow : ((rw_ rows i).length : Int) = n := by
          have h1 := HOK.out.2.2
          exact (h1.2 i (by rw [← h1.1]; exact hir)).1
         obtain ⟨g, o, x, m, c, rfl, c1, hm, hp⟩ := HasB.at_ (HAo.out.later HR.out.gr) (i := i) hir
         obtain ⟨g3, o3, rfl, c4⟩ := hp.at_ (i := j) (by omega)
         have hu := hp.1.at_ j
         obtain ⟨y, hy⟩ : ∃ y, y = Op.cf (rw_ rows i) j := ⟨_, rfl⟩
         rw [← hy] at c4 hu
         have HY := Lib.hid (show y = (fun q => Op.cf (rw_ rows q) j) i from hy)
         have HYU := Lib.hid hu
         have hm' : (j : Int) < (m : Int) := by omega
         have hil2 : (i : Int) < (nA : Int) := by have := HNN.out; omega
         have HPL := Lib.hid (show l'.length + [y].length ≤ 1000000 from by rw [HR.out.len]; simp; omega)
         have HSB := Lib.hid HR.out.gr.size
         have HLZ := Lib.hid (show (l' ++ [y]).length = i + 1 by rw [List.length_append, HR.out.len]; rfl)
         clear hy hp hrow hir hm hu
         go_wp2_with (at_builtin; refine wpList_app rfl (.tmp 58) (.tmp 67) rfl rfl wo.heap.size (.slice rx i rc) l' rfl (HR.out.own.alloc _) (.slice (some ⟨wr.heap.size, 0, none⟩) 1 1) [y] rfl (one_hasP' _ _ _ rfl HYU.out) HPL.out (Nat.le_trans HSB.out (by simp)) ?_; intro v' wA hown hgrow; obtain ⟨va5, vc5, hv5, -, -⟩ := hown.form; rw [HLZ.out] at hv5; subst hv5; have HO5 := Lib.hid hown; have HG5 := Lib.hid (show Gr wo wA from grown_own (Gr.alloc HR.out.gr _) (HR.out.own.alloc _) hgrow (Nat.le_refl _)); clear hown hgrow)
         go_roundw
         case rel => exact ⟨i + 1, va5, vc5, l' ++ [y], by go_num, rfl, by omega, RP.snoc HO5.out HR.out.len HR.out.at_ HY.out HG5.out⟩
         case measure => simp [intOf]; omega
        ·obtain rfl : i = k := by omega
         have i2 : ¬ (i : Int) < (i : Int) := by omega
         have HROW := Lib.hid (show l' = colR rows j by rw [HR.out.done]; unfold colR; rw [HNA.out, HNN.out])
         have HPC := Lib.hid HR.out.own.hasP
         have HRO := Lib.hid (show RowOf M (colR rows j) by
          have h1 := HOK.out.2.2
          simp only [Int.toNat_natCast] at h1
          rw [← HME.out] at h1
          exact colR_rowOf h1 HA.out j1)
         have HGI := Lib.hid (HWL.out.gr.trans HR.out.gr)
         rw [HROW.out] at HPC
         go_wp2_with fail
         refine (rjoin_any R M (colR rows j) _ _ (HT.out.later HGI.out) HD.out.sys HPC.out).mono ?_
         rintro e w8 ⟨X, c, rfl, hjr, hg8⟩
         rcases hjr with ⟨hno, -, -⟩ | ⟨-, rfl, hX⟩
         ·exact absurd HRO.out hno
         have HX := Lib.hid hX
         have HG8 := Lib.hid (HR.out.gr.trans hg8)
         obtain ⟨C, hC⟩ : ∃ C : Array Value, C = #[.bool (decide (X < 0)), .string (bstr X.natAbs)] := ⟨_, rfl⟩
         clear hX hg8
         rw [show wv X = .agg #[.bool (decide (X < 0)), .string (bstr X.natAbs)] from rfl]
         have HLEN := Lib.hid (show zs.length ≤ 1000000 by rw [HWL.out.len]; omega)
         have HLL := Lib.hid (show (zs ++ [X]).length = j + 1 by rw [List.length_append, HWL.out.len]; rfl)
         have hgz := (Gr.new w8 (.cells #[.bool (decide (X < 0)), .string (bstr X.natAbs)] 50))
         have HGZ := Lib.hid (HG8.out.trans (hgz.alloc (.cells #[.bool (decide (X < 0)), .string (bstr X.natAbs)] 50)))
         clear hgz hC
         have HSZ := Lib.hid (Nat.le_trans HWL.out.gr.size HGZ.out.size)
         go_wp2_with (at_builtin; refine wpList_appW rfl (.tmp 78) (.tmp 80) rfl rfl w6.heap.size (.slice vx j vc) zs rfl (HWL.out.own.gr HGZ.out) X (w8.heap.size + 1) rfl (by simp [go_sem]) (by simp [go_sem]) HLEN.out HSZ.out ?_; intro v' wn hown hgrow; obtain ⟨va5, vc5, hv5, -, -⟩ := hown.form; rw [HLL.out] at hv5; subst hv5; have HW5 := Lib.hid (HWL.out.snoc HGZ.out hown hgrow HX.out); clear hown hgrow)
         go_roundw
         case rel => exact ⟨j + 1, va5, vc5, zs ++ [X], by go_num, rfl, by omega, HW5.out⟩
         case measure => simp [intOf]; omega
      ·obtain rfl : j = n := by omega
       have j1 : ¬ (j : Int) < (j : Int) := by omega
       go_wp2_with fail
       go_ret2
       exact ⟨.slice vx j vc, zs, 0, rfl, HG6.out.trans HWL.out.gr, HWL.out.own.hasW, .inl ⟨⟨HOK.out, by rw [Int.toNat_natCast, ← HME.out]; exact HD.out⟩, rfl, by rw [HWL.out.len], fun i hi => by rw [Int.toNat_natCast, ← HME.out]; exact HWL.out.at_ i (by have := HWL.out.len; omega)⟩⟩
    ·have HNO := Lib.hid (show ¬ WdOK N ch S l sp rows from fun h => hd (by
      have h1 := h.2
      simp only [Int.toNat_natCast] at h1
      rw [← HME.out] at h1
      exact h1))
     clear hd
     go_wp2_with fail
     go_ret2
     exact wdP_no HNO.out HG6.out
 ·have hE0 : chkE N ch S lv sp rows = 2 := if_neg hok
  have HE0 := Lib.hid (show ¬ WdOK N ch S lv sp rows from fun h => hok h.1)
  rw [hE0]
  clear hok hE0
  go_wp2_with fail
  go_ret2
  exact wdP_no HE0.out HG1.out
end Go.Proofs.YtlfiakpmnkhcdaaGreat.Mo
