import Derived.Test.YtlfiakpmnkhcdaaLWN
namespace Go.Proofs.Ytlfiakpmnkhcdaa
open Go.RowKit
set_option linter.unusedVariables false
def bcells (l : List UInt8) : List Value := l.map (fun b => .int .u8 (b.toNat : Int))
def OwnB (W : World) (base : Nat) (v : Value) (l : List UInt8) : Prop := W.ownsRow base 5 1 v l.length (bcells l)
theorem OwnB.nil (w : World) (base : Nat) : OwnB w base (.slice none 0 0) [] := World.ownsRow_nil _ _ _ _
theorem OwnB.alloc {w : World} {base : Nat} {v : Value} {l : List UInt8} (h : OwnB w base v l) (o : Obj) : OwnB (w.alloc o) base v l := World.ownsRow.alloc h _
theorem OwnB.block {W : World} {base : Nat} {v : Value} {l : List UInt8} (h : OwnB W base v l) : ∀ g, v.ownBlock = some g → base ≤ g := by
  intro g hg
  rcases h.2 with ⟨rfl, _⟩ | ⟨b, cap, cur, rfl, hb, _⟩
  · simp [Value.ownBlock] at hg
  · simp only [Value.ownBlock, Option.some.injEq] at hg; omega
theorem OwnB.slice {W : World} {base : Nat} {v : Value} {l : List UInt8} (h : OwnB W base v l) {n : Nat} (hn : l.length = n) : ∃ a cap, v = .slice a n cap := by
  rcases h.2 with ⟨rfl, h0⟩ | ⟨b, cap, cur, rfl, _⟩
  · exact ⟨none, 0, by rw [← hn, h0]⟩
  · exact ⟨_, cap, by rw [hn]⟩
theorem grownB_below {W W1 : World} {base : Nat} {v : Value} {l : List UInt8} {o : Obj} (hown : OwnB W base v l) (hg : (W.alloc o).grownBy W1 v.ownBlock) (hb : base ≤ W.heap.size) : Below base W W1 :=
  Below.grown (Below.alloc (Below.refl _ _) hb o) hg (by rw [World.size_alloc]; omega) hown.block
theorem wpList_appb {ops : Array Oper} {rest : List Oper} {o : Oper} {a : Act} {w0 : World} {Q : Exit → Act → World → Prop} (hgd : o.guard = none) (s x : Operand)
    (ho : o.op = .call { callee := .builtin .append, args := #[s, x], argTypes := #[84, 84] }) (hty : o.type = 84)
    (base : Nat) (v : Value) (l : List UInt8) (hs : a.eval s = v) (hown : OwnB w0 base v l) (E : Int) (b : UInt8) (hE : E = (b.toNat : Int)) (g : Nat) (hg : w0.heap.size = g) (hx : a.eval x = .slice (some ⟨g, 0, none⟩) 1 1) (hlen : l.length ≤ 1000000) (hbase : base ≤ w0.heap.size)
    (h : ∀ v' w', OwnB w' base v' (l ++ [b]) → (w0.alloc (.cells #[.int .u8 E] 5)).grownBy w' v.ownBlock → wpList Try.prog ops Q rest (a.put o.dst v') w') : wpList Try.prog ops Q (o :: rest) a (w0.alloc (.cells #[.int .u8 E] 5)) := by
  refine wpList_plain hgd fun K hK => ?_
  obtain ⟨i0, hi, hz0, hz1, hz2⟩ := info_parts infoU8
  subst hE hg
  have hnews : ∀ j x, (bcells [b])[j]? = some x → (w0.alloc (.cells #[.int .u8 (b.toNat : Int)] 5)).cell? ((⟨w0.heap.size, 0, none⟩ : Addr).add j) = some x := by
    intro j x hx
    have hj : j = 0 := by
      have := (List.getElem?_eq_some_iff.1 hx).1
      simp [bcells] at this; exact this
    subst hj
    simp [bcells] at hx
    subst hx
    simp [go_sem]
  obtain ⟨v', w', hr, h2, h3, _⟩ := run_append_own (P := Try.prog) (w0.alloc (.cells #[.int .u8 (b.toNat : Int)] 5)) base 84 84 5 i0 (.int .u8 0) 1 1 Try.underlying84 hi hz0 hz1 hz2 rfl (by decide) v l.length (bcells l) (hown.alloc _) ⟨w0.heap.size, 0, none⟩ 1 1 (bcells [b]) rfl hnews (by simp [bcells, Value.oneCell']) (by unfold maxLen; omega) (by omega) (by rw [World.size_alloc]; omega)
  unfold Oper.wp execOp
  simp only [ho, hty, resolve, invoke, builtin, Sem.run_bind, Sem.run_pure, Result.andThen_ok, List.map_toArray, List.map_cons, List.map_nil, hs, hx, hr]
  exact hK _ _ (h v' w' (by unfold OwnB; rw [List.length_append, show bcells (l ++ [b]) = bcells l ++ bcells [b] by simp [bcells]]; exact h2) h3)
theorem OwnB.conv0 {W : World} {base : Nat} {a : Option Addr} {n cap : Nat} {l : List UInt8} (h : OwnB W base (.slice a n cap) l) : (convert 84 9 (.slice a n cap)).run Try.prog W = .ok (.string ⟨l.toArray⟩) W := by
  rcases h.2 with ⟨e, h0⟩ | ⟨g, cap', cur, e, hb, hh, h1, h2, h3, h4⟩
  · simp only [Value.slice.injEq] at e
    obtain ⟨rfl, rfl, rfl⟩ := e
    have hl := List.length_eq_zero_iff.1 h0
    subst hl
    rw [run_convert_bytes_string W _ _ 5 none _ 0 Try.underlying84 Try.underlying5 Try.underlying9]
    simp [Conv.bytesToString]
    rfl
  · simp only [Value.slice.injEq] at e
    obtain ⟨rfl, rfl, rfl⟩ := e
    refine run_convert_bytes_back (P := Try.prog) W 84 9 5 ⟨g, 0, none⟩ cap l Try.underlying84 Try.underlying5 Try.underlying9 (fun j hj => ?_)
    have e2 : (⟨g, 0, none⟩ : Addr).add j = ⟨g, j, none⟩ := by unfold Addr.add; split <;> simp_all
    rw [e2, cell_of_row W g j cur _ _ hh]
    have hj2 : j < (bcells l).length := by simp [bcells]; exact hj
    have : (cur.toList.take (l.length * 1))[j]? = (bcells l)[j]? := by rw [h4]
    rw [List.getElem?_take_of_lt (by omega)] at this
    rw [← Array.getElem?_toList, this]
    simp [bcells, hj]
theorem OwnB.conv' {W : World} {base : Nat} {a : Option Addr} {n cap : Nat} {l : List UInt8} (h : OwnB W base (.slice a n cap) l) (hn : n = l.length) : (convert 84 9 (.slice a n cap)).run Try.prog W = .ok (.string ⟨l.toArray⟩) W := h.conv0
set_option maxRecDepth 100000 in
set_option maxHeartbeats 8000000 in
theorem rout_any (N : Nat) (z : Int) (v : Value) (w : World) (h : HasJ N w v z) (hN : N ≤ 100000) :
    Calls Try.prog 24 #[v] w (Res (fNeg z) (fStr z) (fErr z) w) := by
  obtain ⟨xn, xa, xk, xc, xl, rfl, x1, x2, x3, x4, x5⟩ := h.parts
  have X1 := Lib.hid x1
  have X2 := Lib.hid x2
  have X3 := Lib.hid x3
  have X4 := Lib.hid x4
  have X5 := Lib.hid x5
  clear x1 x2 x3 x4 x5 h
  go_enter Try.func24, Try.ntmps24
  go_wp2_with fail
  obtain ⟨W, hW⟩ : ∃ W : World, W = ((w.alloc (.cells #[.bool xn, .slice xa xk xc] 64)).alloc (.cells #[.bool false, .string ⟨#[]⟩] 42)) := ⟨_, rfl⟩
  rw [← hW]
  have g1 : Gr w W := by rw [hW]; exact (((Gr.refl _).alloc _).alloc _)
  have x0 : W.cell? ⟨w.heap.size, 0, none⟩ = some (.bool xn) := by rw [hW]; simp [go_sem]
  have ex0 : W.frozen? ⟨w.heap.size, 0, none⟩ = false := by rw [hW]; simp [go_sem]
  have x1 : W.cell? ⟨w.heap.size, 1, none⟩ = some (.slice xa xk xc) := by rw [hW]; simp [go_sem]
  have ex1 : W.frozen? ⟨w.heap.size, 1, none⟩ = false := by rw [hW]; simp [go_sem]
  have r0 : W.cell? ⟨w.heap.size + 1, 0, none⟩ = some (.bool false) := by rw [hW]; simp [go_sem]
  have er0 : W.frozen? ⟨w.heap.size + 1, 0, none⟩ = false := by rw [hW]; simp [go_sem]
  have r1 : W.cell? ⟨w.heap.size + 1, 1, none⟩ = some (.string ⟨#[]⟩) := by rw [hW]; simp [go_sem]
  have er1 : W.frozen? ⟨w.heap.size + 1, 1, none⟩ = false := by rw [hW]; simp [go_sem]
  have hsz : W.heap.size = w.heap.size + 1 + 1 := by rw [hW]; simp
  have HG := Lib.hid g1
  have HSZ := Lib.hid hsz
  clear hW g1 hsz
  refine (rtrim_any xn xl _ _ (X2.out.later HG.out) X3.out.1 (Nat.le_trans X5.out hN)).mono ?_
  rintro e w1 ⟨q, rfl, hq, g⟩
  obtain ⟨qn, qa, qk, qc, ql, rfl, q1, q2, q3, q4, q5⟩ := hq.parts
  have Q1 := Lib.hid q1
  have Q2 := Lib.hid q2
  have Q3 := Lib.hid q3
  have Q4 := Lib.hid q4
  have Q5 := Lib.hid q5
  clear q1 q2 q3 q4 q5 hq
  have ex0 := g.frozen x0 ex0
  have ex1 := g.frozen x1 ex1
  have er0 := g.frozen r0 er0
  have er1 := g.frozen r1 er1
  have x0 := g.keeps x0
  have x1 := g.keeps x1
  have r0 := g.keeps r0
  have r1 := g.keeps r1
  have HG := Lib.hid (HG.out.trans g)
  have n1 : ¬ (w.heap.size = w.heap.size + 1) := by omega
  have n2 : ¬ (w.heap.size + 1 = w.heap.size) := by omega
  have HZ := Lib.hid (show sg xn (Oh.val xl) = z by rw [X1.out, X4.out]; exact sg_self z)
  have hqk := Q2.out.len.1
  have hqN : qk ≤ N := by rw [hqk]; exact Nat.le_trans Q5.out X5.out
  have HQK := Lib.hid hqk
  have HQV := Lib.hid (show Oh.val ql = z.natAbs by rw [Q4.out, HZ.out])
  have HQN := Lib.hid (show qn = decide (z < 0) by rw [Q1.out, HZ.out])
  clear g hqk
  go_wp2_with fail
  obtain ⟨V, hV⟩ : ∃ V : World, V = (w1.setCell ⟨w.heap.size, 0, none⟩ (.bool qn)).setCell ⟨w.heap.size, 1, none⟩ (.slice qa qk qc) := ⟨_, rfl⟩
  rw [← hV]
  have HA0 := Lib.hid (show V.cell? ⟨w.heap.size, 0, none⟩ = some (.bool qn) by rw [hV]; exact (put2 x0 x1 _ _).1)
  have HA1 := Lib.hid (show V.cell? ⟨w.heap.size, 1, none⟩ = some (.slice qa qk qc) by rw [hV]; exact (put2 x0 x1 _ _).2)
  have R0 := Lib.hid (show V.cell? ⟨w.heap.size + 1, 0, none⟩ = some (.bool false) by rw [hV]; exact keep2 r0 n2)
  have R1 := Lib.hid (show V.cell? ⟨w.heap.size + 1, 1, none⟩ = some (.string ⟨#[]⟩) by rw [hV]; exact keep2 r1 n2)
  have E0 := Lib.hid (show V.frozen? ⟨w.heap.size + 1, 0, none⟩ = false by rw [hV]; simp only [frozen_set]; exact er0)
  have E1 := Lib.hid (show V.frozen? ⟨w.heap.size + 1, 1, none⟩ = false by rw [hV]; simp only [frozen_set]; exact er1)
  have HQ2 := Lib.hid (show HasD V (.slice qa qk qc) ql by rw [hV]; exact Q2.out.put2 x0 x1 (by simp) (by simp) _ _)
  have HG := Lib.hid (show Gr w V by rw [hV]; exact HG.out.put2 (Nat.le_refl _) _ _)
  clear hV x0 x1 r0 r1 ex0 ex1 er0 er1
  go_loopw [4, 5] (fun b i wr => ∃ (k : Nat) (l : List UInt8) (a : Option Addr) (cap : Nat), i = .int .i64 ((k : Int) - 1) ∧ b = .slice a l.length cap ∧ k ≤ qk ∧ Oh.Out ql k l ∧ OwnB wr V.heap.size (.slice a l.length cap) l ∧ Gr V wr) (fun _ i _ => (intOf i + 1).toNat)
  case atStart => exact ⟨qk, [], none, 0, rfl, rfl, Nat.le_refl _, by rw [HQK.out]; exact Oh.Out.start ql, OwnB.nil _ _, Gr.refl _⟩
  case round =>
    obtain ⟨wo, rfl⟩ : ∃ wo : World, wo = wr := ⟨_, rfl⟩
    obtain ⟨k, l, a, cap, rfl, rfl, hk, hout, hown, hgr⟩ := hrel
    have hll := hout.len Q3.out.1
    rw [← HQK.out] at hll
    have HOUT := Lib.hid hout
    have HOWN := Lib.hid hown
    have HGR := Lib.hid hgr
    have hsz := hgr.size
    obtain ⟨ln, hln⟩ : ∃ ln, ln = l.length := ⟨_, rfl⟩
    rw [← hln] at hll HOWN ⊢
    have HLN := Lib.hid hln
    clear hout hown hgr hln
    rcases k with _ | j
    · have t0 : decide ((0 : Int) ≤ ((0 : Nat) : Int) - 1) = false := by simp
      have hb := HOUT.out.all
      rw [HQV.out] at hb
      have HB := Lib.hid hb
      have r0 := HGR.out.keeps R0.out
      have r1 := HGR.out.keeps R1.out
      have e0 := HGR.out.frozen R0.out E0.out
      have e1 := HGR.out.frozen R1.out E1.out
      have a0 := HGR.out.keeps HA0.out
      have a1 := HGR.out.keeps HA1.out
      have HGG := Lib.hid (show Gr w wo from Below.trans HG.out (HGR.out.mono HG.out.size))
      clear hb
      by_cases hz : z.natAbs < Ow.R
      · have hlen : ln ≤ 256 := by
          rw [HLN.out, HB.out]
          exact Ow.byt_len.1 hz
        have t1 : decide ((256 : Int) < (ln : Int)) = false := by simp; omega
        have t1' : decide (256 < ln) = false := by simp; omega
        have hcv := HOWN.out.conv' HLN.out
        rw [show (⟨l.toArray⟩ : ByteArray) = bstr z.natAbs by unfold bstr; rw [HB.out]] at hcv
        have HZZ := Lib.hid hz
        clear hz
        go_wp2_with fail
        refine bodyPost_ret (v := .tuple #[.agg #[.bool qn, .string (bstr z.natAbs)], .int .i64 0]) (by simp [results, Try.results24, go_sem, r0, r1]) rfl ?_
        exact ⟨by rw [fNeg_in HZZ.out, fStr_in HZZ.out, fErr_in HZZ.out, ← HQN.out], HGG.out.put2 (by omega) _ _⟩
      · have hlen : 256 < ln := by
          rw [HLN.out, HB.out]
          exact Nat.lt_of_not_le fun hh => hz (Ow.byt_len.2 hh)
        have t1 : decide ((256 : Int) < (ln : Int)) = true := by simp; omega
        have t1' : decide (256 < ln) = true := by simp; omega
        have HZZ := Lib.hid hz
        clear hz
        go_wp2_with fail
        refine bodyPost_ret (v := .tuple #[.agg #[.bool false, .string ⟨#[]⟩], .int .i64 7]) (by simp [results, Try.results24, go_sem, r0, r1]) rfl ?_
        exact ⟨by rw [fNeg_out HZZ.out, fStr_out HZZ.out, fErr_out HZZ.out], HGG.out.put2 (by omega) _ _⟩
    · rw [show ((j + 1 : Nat) : Int) - 1 = (j : Int) by omega]
      have hjl : j < ql.length := by rw [← HQK.out]; omega
      obtain ⟨ga, oa, rfl, ca⟩ := HQ2.out.at (i := j) hjl
      have CA := Lib.hid ca
      have ca := HGR.out.keeps ca
      have a1 := HGR.out.keeps HA1.out
      have hxb := Oh.dg_at Q3.out.1 j
      obtain ⟨x, hx⟩ : ∃ x, x = ql[j]?.getD 0 := ⟨_, rfl⟩
      rw [← hx] at ca hxb CA
      have HX := Lib.hid hx
      have i1 : (j : Int) < (qk : Int) := by omega
      have i3 : (0 : Int) ≤ (j : Int) := by omega
      clear hx
      have d1 : (0 : Int) ≤ (x : Int) / 256 := by omega
      have d2 : (x : Int) / 256 ≤ 255 := by omega
      have d3 : (0 : Int) ≤ (x : Int) % 256 := by omega
      have d4 : (x : Int) % 256 ≤ 255 := by omega
      by_cases hc : 256 ≤ x ∨ 0 < ln
      · have HST := Lib.hid (HOUT.out.two Q3.out.1 (by rw [← HX.out, ← HLN.out]; exact hc))
        rw [← HX.out] at HST
        have key : (decide ((256 : Int) ≤ (x : Int)) = true) ∨ (decide ((256 : Int) ≤ (x : Int)) = false ∧ decide (256 ≤ x) = false ∧ decide ((0 : Int) < (ln : Int)) = true ∧ decide (0 < ln) = true) := by
          by_cases h : 256 ≤ x
          · exact .inl (by simp; omega)
          · exact .inr ⟨by simp; omega, by simp; omega, by simp; omega, by simp; omega⟩
        clear hc
        rcases key with t1 | ⟨t1, t2, t3, t4⟩
        all_goals
          go_wp2_with (first
            | (at_builtin; refine wpList_appb rfl _ _ rfl rfl V.heap.size _ (l ++ [UInt8.ofNat (x / 256)]) rfl HOWN2.out _ (UInt8.ofNat (x % 256)) (by rw [UInt8.toNat_ofNat']; omega) _ rfl rfl (by have := HLN.out; simp; omega) HS2.out ?_; intro v2 w2 hown2 hgrow2; (have hbl2 := grownB_below HOWN2.out hgrow2 HS2.out); (obtain ⟨a2, cap2, rfl⟩ := hown2.slice (n := (l ++ [UInt8.ofNat (x / 256)] ++ [UInt8.ofNat (x % 256)]).length) rfl); have HOWN3 := Lib.hid hown2; have HBL2 := Lib.hid hbl2; clear hown2 hgrow2 hbl2)
            | (at_builtin; refine wpList_appb rfl _ _ rfl rfl V.heap.size _ l rfl HOWN.out _ (UInt8.ofNat (x / 256)) (by rw [UInt8.toNat_ofNat']; omega) _ rfl rfl (by have := HLN.out; omega) hsz ?_; intro v1 w1 hown1 hgrow1; (have hbl := grownB_below HOWN.out hgrow1 hsz); (have hs2 := Nat.le_trans hsz hbl.size); (have a1 := Gr.keeps (show Gr V w1 from Below.trans HGR.out hbl) HA1.out); (have ca := (show Gr V w1 from Below.trans HGR.out hbl).keeps CA.out); have HOWN2 := Lib.hid hown1; have HBL := Lib.hid hbl; have HS2 := Lib.hid hs2; clear hown1 hgrow1 hbl hs2))
          exact ⟨⟨j, _, a2, cap2, rfl, by simp, by omega, HST.out, HOWN3.out, Below.trans HGR.out (Below.trans HBL.out HBL2.out)⟩, by simp [intOf]⟩
      · have HST := Lib.hid (HOUT.out.one Q3.out (by rw [← HX.out]; omega) (by rw [← HLN.out]; omega))
        rw [← HX.out] at HST
        have t1 : decide ((256 : Int) ≤ (x : Int)) = false := by simp; omega
        have t2 : decide (256 ≤ x) = false := by simp; omega
        have t3 : decide ((0 : Int) < (ln : Int)) = false := by simp; omega
        have t4 : decide (0 < ln) = false := by simp; omega
        clear hc
        go_wp2_with (at_builtin; refine wpList_appb rfl _ _ rfl rfl V.heap.size _ l rfl HOWN.out _ (UInt8.ofNat (x % 256)) (by rw [UInt8.toNat_ofNat']; omega) _ rfl rfl (by have := HLN.out; omega) hsz ?_; intro v2 w2 hown2 hgrow2; (have hbl2 := grownB_below HOWN.out hgrow2 hsz); (obtain ⟨a2, cap2, rfl⟩ := hown2.slice (n := (l ++ [UInt8.ofNat (x % 256)]).length) rfl); have HOWN3 := Lib.hid hown2; have HBL2 := Lib.hid hbl2; clear hown2 hgrow2 hbl2)
        exact ⟨⟨j, _, a2, cap2, rfl, by simp, by omega, HST.out, HOWN3.out, Below.trans HGR.out HBL2.out⟩, by simp [intOf]⟩
end Go.Proofs.Ytlfiakpmnkhcdaa
namespace Go.Proofs.Ytlfiakpmnkhcdaa
open Go.RowKit
set_option linter.unusedVariables false
end Go.Proofs.Ytlfiakpmnkhcdaa
namespace Oh
theorem of_more {M k : Nat} (h : M / 65536 ^ k ≠ 0) (h2 : M < 18446744073709551616) : k < 4 := by
  apply Classical.byContradiction; intro hn
  apply h
  apply Nat.div_eq_of_lt
  have e : (65536 : Nat) ^ 4 = 18446744073709551616 := by decide
  have h4 : (65536 : Nat) ^ 4 ≤ 65536 ^ k := Nat.pow_le_pow_right (by omega) (by omega)
  omega
theorem of_next {M k : Nat} (h : M / 65536 ^ k ≠ 0) : 65536 ^ k ≤ M := Nat.le_of_not_lt fun hh => h (Nat.div_eq_of_lt hh)
theorem of_done {M k : Nat} (h : M / 65536 ^ k = 0) : M < 65536 ^ k := by
  apply Classical.byContradiction; intro hn
  have := (Nat.one_le_div_iff (Nat.pow_pos (n := k) (show 0 < 65536 by omega))).2 (Nat.le_of_not_lt hn)
  omega
end Oh
namespace Go.Proofs.Ytlfiakpmnkhcdaa
open Go.RowKit
set_option linter.unusedVariables false
set_option maxRecDepth 100000 in
set_option maxHeartbeats 4000000 in
theorem rof_any (n : Int) (w : World) (h1 : -9223372036854775808 ≤ n) (h2 : n ≤ 9223372036854775807) :
    Calls Try.prog 9 #[.int .i64 n] w (One (decide (n < 0)) (bstr n.natAbs) w) := by
  have HR := Lib.hid (small_R h1 h2)
  obtain ⟨M, hM⟩ : ∃ M : Nat, M = n.natAbs := ⟨_, rfl⟩
  have hM2 : M < 18446744073709551616 := by omega
  have key : (decide (n < 0) = true ∧ IntKind.u64.wrap (-IntKind.u64.wrap n) = (M : Int)) ∨ (decide (n < 0) = false ∧ IntKind.u64.wrap n = (M : Int)) := by
    by_cases hn : n < 0
    · left
      refine ⟨by simp [hn], ?_⟩
      rw [wrap_u64, wrap_u64]; omega
    · right
      refine ⟨by simp [hn], ?_⟩
      rw [wrap_u64]; omega
  have HM := Lib.hid hM
  have HM2 := Lib.hid hM2
  rw [← hM]
  clear hM hM2
  rcases key with ⟨t1, hw⟩ | ⟨t1, hw⟩
  · have HT1 := Lib.hid t1
    rw [t1]
    go_enter Try.func9, Try.ntmps9
    go_wp2_with fail
    clear hw t1
    obtain ⟨W, hW⟩ : ∃ W : World, W = ((w.alloc (.cells #[.bool false, .string ⟨#[]⟩] 42)).alloc (.cells #[.bool true, .slice none 0 0] 64)) := ⟨_, rfl⟩
    rw [← hW]
    have g1 : Gr w W := by rw [hW]; exact (((Gr.refl _).alloc _).alloc _)
    have r0 : W.cell? ⟨w.heap.size, 0, none⟩ = some (.bool false) := by rw [hW]; simp [go_sem]
    have er0 : W.frozen? ⟨w.heap.size, 0, none⟩ = false := by rw [hW]; simp [go_sem]
    have r1 : W.cell? ⟨w.heap.size, 1, none⟩ = some (.string ⟨#[]⟩) := by rw [hW]; simp [go_sem]
    have er1 : W.frozen? ⟨w.heap.size, 1, none⟩ = false := by rw [hW]; simp [go_sem]
    have a0 : W.cell? ⟨w.heap.size + 1, 0, none⟩ = some (.bool true) := by rw [hW]; simp [go_sem]
    have ea0 : W.frozen? ⟨w.heap.size + 1, 0, none⟩ = false := by rw [hW]; simp [go_sem]
    have a1 : W.cell? ⟨w.heap.size + 1, 1, none⟩ = some (.slice none 0 0) := by rw [hW]; simp [go_sem]
    have ea1 : W.frozen? ⟨w.heap.size + 1, 1, none⟩ = false := by rw [hW]; simp [go_sem]
    have hsz : W.heap.size = w.heap.size + 1 + 1 := by rw [hW]; simp
    have HG := Lib.hid g1
    have HSZ := Lib.hid hsz
    clear hW g1 hsz
    have Hr0 := Lib.hid r0
    have Her0 := Lib.hid er0
    have Hr1 := Lib.hid r1
    have Her1 := Lib.hid er1
    have Ha0 := Lib.hid a0
    have Hea0 := Lib.hid ea0
    have Ha1 := Lib.hid a1
    have Hea1 := Lib.hid ea1
    clear r0 er0 r1 er1 a0 ea0 a1 ea1
    go_loopw [4] (fun x wr => ∃ (k : Nat) (a : Option Addr) (cap : Nat), x = .int .u64 ((M / 65536 ^ k : Nat) : Int) ∧ k ≤ 4 ∧ (k = 0 ∨ 65536 ^ (k - 1) ≤ M) ∧ wr.cell? ⟨w.heap.size + 1, 1, none⟩ = some (.slice a k cap) ∧ Own1 wr (w.heap.size + 1 + 1) (.slice a k cap) (Oh.digs k M) ∧ wr.frozen? ⟨w.heap.size + 1, 1, none⟩ = false ∧ Below (w.heap.size + 1) W wr ∧ wr.cell? ⟨w.heap.size + 1, 0, none⟩ = some (.bool true) ∧ w.heap.size + 1 + 1 ≤ wr.heap.size) (fun x _ => (intOf x).toNat)
    case atStart => exact ⟨0, none, 0, by simp, by omega, .inl rfl, Ha1.out, Own1.nil _ _, Hea1.out, Below.refl _ _, Ha0.out, by rw [HSZ.out]; omega⟩
    case round =>
      obtain ⟨wo, rfl⟩ : ∃ wo : World, wo = wr := ⟨_, rfl⟩
      obtain ⟨k, a, cap, rfl, hk, hkM, hc, hown, hfr, hbel, hc0, hsz⟩ := hrel
      have HKM := Lib.hid hkM
      have HOWN := Lib.hid hown
      have HBEL := Lib.hid hbel
      have HC0 := Lib.hid hc0
      obtain ⟨X, hX⟩ : ∃ X, X = M / 65536 ^ k := ⟨_, rfl⟩
      rw [← hX]
      have hXb : X < 18446744073709551616 := by rw [hX]; exact Nat.lt_of_le_of_lt (Nat.div_le_self _ _) HM2.out
      have HX := Lib.hid hX
      clear hkM hown hbel hc0 hX
      by_cases hpos : 0 < X
      · have hk4 := Oh.of_more (M := M) (k := k) (by rw [← HX.out]; omega) HM2.out
        have hnx := Lib.hid (Oh.of_next (M := M) (k := k) (by rw [← HX.out]; omega))
        have HDV := Lib.hid (show X / 65536 = M / 65536 ^ (k + 1) by rw [HX.out, Nat.div_div_eq_div_mul, Nat.pow_succ])
        have HMD := Lib.hid (show X % 65536 = M / 65536 ^ k % 65536 by rw [HX.out])
        have t2 : decide ((0 : Int) < (X : Int)) = true := by simp; omega
        have t2' : decide (0 < X) = true := by simp; omega
        go_wp2_with (at_builtin; refine wpList_app rfl _ _ rfl rfl (w.heap.size + 1 + 1) _ (Oh.digs k M) rfl (HOWN.out.alloc _) _ [X % 65536] rfl (HasD.one _ _ _ (by omega) (by omega)) (by rw [Oh.digs_len]; simp; omega) (by rw [World.size_alloc]; omega) ?_; intro v' w1 hown' hgrow; (have hbl := grown_below HOWN.out hgrow hsz); (obtain ⟨a', cap', rfl⟩ := hown'.slice (n := k + 1) (by rw [List.length_append, Oh.digs_len]; rfl)); (have hc1 := below_keeps hbl (show w.heap.size + 1 < w.heap.size + 1 + 1 by omega) hc); (have hf1 := below_frozen hbl (show w.heap.size + 1 < w.heap.size + 1 + 1 by omega) hfr); have HOWN2 := Lib.hid hown'; have HBL := Lib.hid hbl; clear hown' hgrow hbl)
        refine ⟨⟨k + 1, a', cap', by rw [← HDV.out]; simp, by omega, .inr hnx.out, World.cell?_setCell_same w1 _ _ hc1, ?_, by rw [frozen_set]; exact hf1, (HBEL.out.trans (HBL.out.mono (by omega))).setCell (Nat.le_refl _) _, (cell_other (by simp) _).trans (below_keeps HBL.out (show w.heap.size + 1 < w.heap.size + 1 + 1 by omega) HC0.out), by have := HBL.out.size; simp; omega⟩, by simp [intOf]; omega⟩
        have h := HOWN2.out.setCell (p := ⟨w.heap.size + 1, 1, none⟩) (show w.heap.size + 1 < w.heap.size + 1 + 1 by omega) (.slice a' (k + 1) cap')
        rw [HMD.out] at h
        exact h
      · obtain rfl : X = 0 := by omega
        have hMk := Oh.of_done HX.out.symm
        have hJ : HasJ 4 wo (.agg #[.bool true, .slice a k cap]) n := ⟨_, Oh.digs k M, by rw [HT1.out], HOWN.out.hasD, Oh.digs_nm hMk HKM.out, by rw [Oh.digs_all hMk, HM.out], by rw [Oh.digs_len]; exact hk⟩
        have HJ := Lib.hid hJ
        have R0 := Lib.hid (below_keeps HBEL.out (show w.heap.size < w.heap.size + 1 by omega) Hr0.out)
        have R1 := Lib.hid (below_keeps HBEL.out (show w.heap.size < w.heap.size + 1 by omega) Hr1.out)
        have F0 := Lib.hid (below_frozen HBEL.out (show w.heap.size < w.heap.size + 1 by omega) Her0.out)
        have F1 := Lib.hid (below_frozen HBEL.out (show w.heap.size < w.heap.size + 1 by omega) Her1.out)
        have HGG := Lib.hid (show Gr w wo from Below.trans HG.out (HBEL.out.mono (by omega)))
        have c0 := HC0.out
        clear hMk hJ
        go_wp2_with fail
        refine (rout_any 4 n _ _ HJ.out (by omega)).mono ?_
        rintro e w3 ⟨rfl, g⟩
        have r0 := g.keeps R0.out
        have r1 := g.keeps R1.out
        have e0 := g.frozen R0.out F0.out
        have e1 := g.frozen R1.out F1.out
        have HGG := Lib.hid (HGG.out.trans g)
        clear g
        obtain ⟨fn, hfn⟩ : ∃ b, b = fNeg n := ⟨_, rfl⟩
        obtain ⟨fs, hfs⟩ : ∃ b, b = fStr n := ⟨_, rfl⟩
        rw [← hfn, ← hfs]
        have HFN := Lib.hid (show fn = true by rw [hfn, fNeg_in HR.out, HT1.out])
        have HFS := Lib.hid (show fs = bstr M by rw [hfs, fStr_in HR.out, HM.out])
        clear hfn hfs
        have q0 := (Gr.new w3 (.cells #[.bool fn, .string fs] 42)).keeps r0
        have q1 := (Gr.new w3 (.cells #[.bool fn, .string fs] 42)).keeps r1
        have z0 := (Gr.new w3 (.cells #[.bool fn, .string fs] 42)).frozen r0 e0
        have z1 := (Gr.new w3 (.cells #[.bool fn, .string fs] 42)).frozen r1 e1
        have m1 : ¬ (w.heap.size = w3.heap.size) := ne_of_cell r0
        have m2 : ¬ (w3.heap.size = w.heap.size) := fun e => m1 e.symm
        go_wp2_with fail
        refine bodyPost_ret (v := .agg #[.bool fn, .string fs]) (by simp [results, Try.results9, go_sem, q0, q1]) rfl ?_
        exact ⟨by rw [HFN.out, HFS.out], (HGG.out.alloc _).put2 (Nat.le_refl _) _ _⟩
  · have HT1 := Lib.hid t1
    rw [t1]
    go_enter Try.func9, Try.ntmps9
    go_wp2_with fail
    clear hw t1
    obtain ⟨W, hW⟩ : ∃ W : World, W = ((w.alloc (.cells #[.bool false, .string ⟨#[]⟩] 42)).alloc (.cells #[.bool false, .slice none 0 0] 64)) := ⟨_, rfl⟩
    rw [← hW]
    have g1 : Gr w W := by rw [hW]; exact (((Gr.refl _).alloc _).alloc _)
    have r0 : W.cell? ⟨w.heap.size, 0, none⟩ = some (.bool false) := by rw [hW]; simp [go_sem]
    have er0 : W.frozen? ⟨w.heap.size, 0, none⟩ = false := by rw [hW]; simp [go_sem]
    have r1 : W.cell? ⟨w.heap.size, 1, none⟩ = some (.string ⟨#[]⟩) := by rw [hW]; simp [go_sem]
    have er1 : W.frozen? ⟨w.heap.size, 1, none⟩ = false := by rw [hW]; simp [go_sem]
    have a0 : W.cell? ⟨w.heap.size + 1, 0, none⟩ = some (.bool false) := by rw [hW]; simp [go_sem]
    have ea0 : W.frozen? ⟨w.heap.size + 1, 0, none⟩ = false := by rw [hW]; simp [go_sem]
    have a1 : W.cell? ⟨w.heap.size + 1, 1, none⟩ = some (.slice none 0 0) := by rw [hW]; simp [go_sem]
    have ea1 : W.frozen? ⟨w.heap.size + 1, 1, none⟩ = false := by rw [hW]; simp [go_sem]
    have hsz : W.heap.size = w.heap.size + 1 + 1 := by rw [hW]; simp
    have HG := Lib.hid g1
    have HSZ := Lib.hid hsz
    clear hW g1 hsz
    have Hr0 := Lib.hid r0
    have Her0 := Lib.hid er0
    have Hr1 := Lib.hid r1
    have Her1 := Lib.hid er1
    have Ha0 := Lib.hid a0
    have Hea0 := Lib.hid ea0
    have Ha1 := Lib.hid a1
    have Hea1 := Lib.hid ea1
    clear r0 er0 r1 er1 a0 ea0 a1 ea1
    go_loopw [4] (fun x wr => ∃ (k : Nat) (a : Option Addr) (cap : Nat), x = .int .u64 ((M / 65536 ^ k : Nat) : Int) ∧ k ≤ 4 ∧ (k = 0 ∨ 65536 ^ (k - 1) ≤ M) ∧ wr.cell? ⟨w.heap.size + 1, 1, none⟩ = some (.slice a k cap) ∧ Own1 wr (w.heap.size + 1 + 1) (.slice a k cap) (Oh.digs k M) ∧ wr.frozen? ⟨w.heap.size + 1, 1, none⟩ = false ∧ Below (w.heap.size + 1) W wr ∧ wr.cell? ⟨w.heap.size + 1, 0, none⟩ = some (.bool false) ∧ w.heap.size + 1 + 1 ≤ wr.heap.size) (fun x _ => (intOf x).toNat)
    case atStart => exact ⟨0, none, 0, by simp, by omega, .inl rfl, Ha1.out, Own1.nil _ _, Hea1.out, Below.refl _ _, Ha0.out, by rw [HSZ.out]; omega⟩
    case round =>
      obtain ⟨wo, rfl⟩ : ∃ wo : World, wo = wr := ⟨_, rfl⟩
      obtain ⟨k, a, cap, rfl, hk, hkM, hc, hown, hfr, hbel, hc0, hsz⟩ := hrel
      have HKM := Lib.hid hkM
      have HOWN := Lib.hid hown
      have HBEL := Lib.hid hbel
      have HC0 := Lib.hid hc0
      obtain ⟨X, hX⟩ : ∃ X, X = M / 65536 ^ k := ⟨_, rfl⟩
      rw [← hX]
      have hXb : X < 18446744073709551616 := by rw [hX]; exact Nat.lt_of_le_of_lt (Nat.div_le_self _ _) HM2.out
      have HX := Lib.hid hX
      clear hkM hown hbel hc0 hX
      by_cases hpos : 0 < X
      · have hk4 := Oh.of_more (M := M) (k := k) (by rw [← HX.out]; omega) HM2.out
        have hnx := Lib.hid (Oh.of_next (M := M) (k := k) (by rw [← HX.out]; omega))
        have HDV := Lib.hid (show X / 65536 = M / 65536 ^ (k + 1) by rw [HX.out, Nat.div_div_eq_div_mul, Nat.pow_succ])
        have HMD := Lib.hid (show X % 65536 = M / 65536 ^ k % 65536 by rw [HX.out])
        have t2 : decide ((0 : Int) < (X : Int)) = true := by simp; omega
        have t2' : decide (0 < X) = true := by simp; omega
        go_wp2_with (at_builtin; refine wpList_app rfl _ _ rfl rfl (w.heap.size + 1 + 1) _ (Oh.digs k M) rfl (HOWN.out.alloc _) _ [X % 65536] rfl (HasD.one _ _ _ (by omega) (by omega)) (by rw [Oh.digs_len]; simp; omega) (by rw [World.size_alloc]; omega) ?_; intro v' w1 hown' hgrow; (have hbl := grown_below HOWN.out hgrow hsz); (obtain ⟨a', cap', rfl⟩ := hown'.slice (n := k + 1) (by rw [List.length_append, Oh.digs_len]; rfl)); (have hc1 := below_keeps hbl (show w.heap.size + 1 < w.heap.size + 1 + 1 by omega) hc); (have hf1 := below_frozen hbl (show w.heap.size + 1 < w.heap.size + 1 + 1 by omega) hfr); have HOWN2 := Lib.hid hown'; have HBL := Lib.hid hbl; clear hown' hgrow hbl)
        refine ⟨⟨k + 1, a', cap', by rw [← HDV.out]; simp, by omega, .inr hnx.out, World.cell?_setCell_same w1 _ _ hc1, ?_, by rw [frozen_set]; exact hf1, (HBEL.out.trans (HBL.out.mono (by omega))).setCell (Nat.le_refl _) _, (cell_other (by simp) _).trans (below_keeps HBL.out (show w.heap.size + 1 < w.heap.size + 1 + 1 by omega) HC0.out), by have := HBL.out.size; simp; omega⟩, by simp [intOf]; omega⟩
        have h := HOWN2.out.setCell (p := ⟨w.heap.size + 1, 1, none⟩) (show w.heap.size + 1 < w.heap.size + 1 + 1 by omega) (.slice a' (k + 1) cap')
        rw [HMD.out] at h
        exact h
      · obtain rfl : X = 0 := by omega
        have hMk := Oh.of_done HX.out.symm
        have hJ : HasJ 4 wo (.agg #[.bool false, .slice a k cap]) n := ⟨_, Oh.digs k M, by rw [HT1.out], HOWN.out.hasD, Oh.digs_nm hMk HKM.out, by rw [Oh.digs_all hMk, HM.out], by rw [Oh.digs_len]; exact hk⟩
        have HJ := Lib.hid hJ
        have R0 := Lib.hid (below_keeps HBEL.out (show w.heap.size < w.heap.size + 1 by omega) Hr0.out)
        have R1 := Lib.hid (below_keeps HBEL.out (show w.heap.size < w.heap.size + 1 by omega) Hr1.out)
        have F0 := Lib.hid (below_frozen HBEL.out (show w.heap.size < w.heap.size + 1 by omega) Her0.out)
        have F1 := Lib.hid (below_frozen HBEL.out (show w.heap.size < w.heap.size + 1 by omega) Her1.out)
        have HGG := Lib.hid (show Gr w wo from Below.trans HG.out (HBEL.out.mono (by omega)))
        have c0 := HC0.out
        clear hMk hJ
        go_wp2_with fail
        refine (rout_any 4 n _ _ HJ.out (by omega)).mono ?_
        rintro e w3 ⟨rfl, g⟩
        have r0 := g.keeps R0.out
        have r1 := g.keeps R1.out
        have e0 := g.frozen R0.out F0.out
        have e1 := g.frozen R1.out F1.out
        have HGG := Lib.hid (HGG.out.trans g)
        clear g
        obtain ⟨fn, hfn⟩ : ∃ b, b = fNeg n := ⟨_, rfl⟩
        obtain ⟨fs, hfs⟩ : ∃ b, b = fStr n := ⟨_, rfl⟩
        rw [← hfn, ← hfs]
        have HFN := Lib.hid (show fn = false by rw [hfn, fNeg_in HR.out, HT1.out])
        have HFS := Lib.hid (show fs = bstr M by rw [hfs, fStr_in HR.out, HM.out])
        clear hfn hfs
        have q0 := (Gr.new w3 (.cells #[.bool fn, .string fs] 42)).keeps r0
        have q1 := (Gr.new w3 (.cells #[.bool fn, .string fs] 42)).keeps r1
        have z0 := (Gr.new w3 (.cells #[.bool fn, .string fs] 42)).frozen r0 e0
        have z1 := (Gr.new w3 (.cells #[.bool fn, .string fs] 42)).frozen r1 e1
        have m1 : ¬ (w.heap.size = w3.heap.size) := ne_of_cell r0
        have m2 : ¬ (w3.heap.size = w.heap.size) := fun e => m1 e.symm
        go_wp2_with fail
        refine bodyPost_ret (v := .agg #[.bool fn, .string fs]) (by simp [results, Try.results9, go_sem, q0, q1]) rfl ?_
        exact ⟨by rw [HFN.out, HFS.out], (HGG.out.alloc _).put2 (Nat.le_refl _) _ _⟩
end Go.Proofs.Ytlfiakpmnkhcdaa
