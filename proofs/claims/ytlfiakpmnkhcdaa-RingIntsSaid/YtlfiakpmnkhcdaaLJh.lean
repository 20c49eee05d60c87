import Derived.Test.YtlfiakpmnkhcdaaLJg
namespace Oj
set_option linter.unusedVariables false
def vals (M : List Int) (pre : List (Pl M.length)) : List Int := pre.map (fun x => Op.cf M x.1)
theorem vals_len (M : List Int) (pre : List (Pl M.length)) : (vals M pre).length = pre.length := by simp [vals]
theorem vals_snoc (M : List Int) (pre : List (Pl M.length)) (x : Pl M.length) : vals M (pre ++ [x]) = vals M pre ++ [Op.cf M x.1] := by simp [vals]
theorem vals_all {M : List Int} {ys : List (Pl M.length)} (h : idx ys = List.range M.length) : vals M ys = M := by
  have e : vals M ys = (idx ys).map (fun i => Op.cf M i) := by unfold vals idx; rw [List.map_map]; rfl
  rw [e, h]
  apply Op.ext_cf
  · simp
  · intro i
    by_cases hi : i < M.length
    · rw [← Op.cf_at]; simp [hi]
    · rw [Op.cf_out (by simp; omega), Op.cf_out (by omega)]
end Oj
namespace Go.Proofs.Ytlfiakpmnkhcdaa.Mo
open Go.RowKit Go.Shelf
set_option linter.unusedVariables false
attribute [local go_sem] Oper.semAt_some
theorem gr_from {B : Nat} {W W' : World} (h : Gr W W') : KeepsFrom B W W' := ⟨h.size, fun k o _ hk _ => (h.block k (Array.getElem?_eq_some_iff.1 hk).1).trans hk⟩
theorem boxed_gr {W W' : World} {B : Nat} {t : TypeId} {v : Value} (h : Boxed W B t v) (hg : Gr W W') : Boxed W' B t v := (hg.block B h.lt).trans h
theorem boxed_kept {W W' : World} {row : Option Nat} {B : Nat} {t : TypeId} {v : Value} (h : Boxed W B t v) (hg : W.grownBy W' row) (hrow : ∀ l, row = some l → ∃ o, W.heap[l]? = some o ∧ o.isCells = false) : Boxed W' B t v :=
  h.kept hg (fun e => by obtain ⟨o, ho, hc⟩ := hrow B e.symm; rw [show W.heap[B]? = _ from h] at ho; cases ho; cases hc)
theorem mods_u32 {ch : List Int} {S : Int} {lv : Nat} {sp : Bool} (h : U32 ch) (hS : 0 ≤ S ∧ S < 4294967296) : U32 (Oj.mods ch S lv sp) := by
  unfold Oj.mods
  cases sp with
  | false => exact (h.take lv).app U32.nil
  | true => exact (h.take lv).app (U32.one hS)
theorem wpListIn_app {F : Fence} {n : Nat} {ops : Array Oper} {rest : List Oper} {o : Oper} {a : Act} {w : World} {Q : Exit → Act → World → Prop} (hgd : o.guard = none) (s x : Operand)
    (ho : o.op = .call { callee := .builtin .append, args := #[s, x], argTypes := #[23, 23] }) (hty : o.type = 23)
    (base : Nat) (v : Value) (l0 : List Int) (hs : a.eval s = v) (hown : Own1 w base v l0) (u : Value) (m : List Int) (hx : a.eval x = u) (hu : HasP w u m) (hlen : l0.length + m.length ≤ 1000000) (hbase : base ≤ w.heap.size)
    (h : ∀ v' w', Own1 w' base v' (l0 ++ m) → w.grownBy w' v.ownBlock → wpListIn F n Try.prog ops Q rest (a.put o.dst v') w') : wpListIn F n Try.prog ops Q (o :: rest) a w := by
  refine wpListIn_plain hgd fun K hK => ?_
  obtain ⟨v', w', hr, h2, h3⟩ := run_app w base v l0 hown u m hu hlen hbase
  unfold Oper.wpIn
  refine ⟨?_, ?_⟩
  · simp [Oper.about, ho, resolve, Target.leads, Sem.run_pure]
  · rw [Oper.semAt_plain F _ _ (by rw [ho]; intro c hc'; cases hc')]
    simp only [execOp, ho, hty, resolve, invoke, builtin, Sem.run_bind, Sem.run_pure, Result.andThen_ok, List.map_toArray, List.map_cons, List.map_nil, hs, hx, hr]
    exact hK _ _ (h v' w' h2 h3)
theorem keeps_grown {B : Nat} {W W' : World} {row : Option Nat} (hg : W.grownBy W' row) (hr : ∀ r, row = some r → ∃ o : Obj, W.heap[r]? = some o ∧ o.isCells = true) : KeepsFrom B W W' :=
  ⟨hg.size, fun k o _ hk ho => (hg.block k (Array.getElem?_eq_some_iff.1 hk).1 (fun e => by
    obtain ⟨o', h1, h2⟩ := hr k e.symm
    rw [hk] at h1; cases h1; rw [ho] at h2; cases h2)).trans hk⟩
theorem row_cells {W : World} {base : Nat} {e : TypeId} {size n : Nat} {v : Value} {xs : List Value} (h : W.ownsRow base e size v n xs) : ∀ r, v.ownBlock = some r → ∃ o : Obj, W.heap[r]? = some o ∧ o.isCells = true := fun r hr => by
  rcases h.2 with ⟨rfl, _⟩ | ⟨g, cap, cur, rfl, _, hg, _⟩
  · simp [Value.ownBlock] at hr
  · simp [Value.ownBlock] at hr
    subst hr
    exact ⟨_, hg, rfl⟩
theorem Own1.kept {W W' : World} {base : Nat} {v : Value} {l : List Int} {row : Option Nat} (h : Own1 W base v l) (hg : W.grownBy W' row) (hr : ∀ r, row = some r → r < base ∨ ∃ o : Obj, W.heap[r]? = some o ∧ o.isCells = false) : Own1 W' base v l := by
  refine ⟨h.1, h.2.kept hg ?_⟩
  cases hv : v.ownBlock with
  | none => exact .inl rfl
  | some k =>
    refine .inr fun e => ?_
    rcases hr k e.symm with h1 | ⟨o, h1, h2⟩
    · have := (h.2.lt k hv).1; omega
    · obtain ⟨o', h3, h4⟩ := row_cells h.2 k hv
      rw [h1] at h3; cases h3; rw [h4] at h2; cases h2
theorem MI.above {B : Nat} {xC : Option Addr} {nC cC : Nat} {S : Int} {lv : Nat} {sp : Bool} {ch : List Int} {W : World} (h : MI B xC nC cC S lv sp ch W) (hl : 1 ≤ ch.length) : B + 3 ≤ W.heap.size ∧ ∀ p, (Value.slice xC nC cC).ownBlock = some p → p < W.heap.size :=
  ⟨by have := World.block_lt_of_cell? W _ h.cs; simp at this; omega, fun p hp => h.hp.lt hl p hp⟩
set_option maxRecDepth 100000 in
set_option maxHeartbeats 2000000 in
theorem appendSeq_any (B : Nat) (xC : Option Addr) (nC cC : Nat) (S : Int) (lv : Nat) (sp : Bool) (ch : List Int) (w : World) (h1 : 1 ≤ lv) (h2 : lv ≤ ch.length) (h3 : ch.length ≤ 1000) (hS : 0 ≤ S ∧ S < 4294967296) (hm : MI B xC nC cC S lv sp ch w) :
    Calls Try.prog 37 #[.slice none 0 0, .func (.func 38) #[] #[.pointer (some ⟨B, 0, none⟩), .pointer (some ⟨B + 1, 0, none⟩), .pointer (some ⟨B + 2, 0, none⟩)]] w (NewP (Oj.mods ch S lv sp) w) := by
  have hML := Oj.mods_len (S := S) (sp := sp) h2
  have hMl : (Oj.mods ch S lv sp).length ≤ 1001 := by rw [hML]; split <;> omega
  have hMU := mods_u32 (lv := lv) (sp := sp) hm.hp.1 hS
  have HM := Lib.hid hm
  have HMU := Lib.hid hMU
  have HML := Lib.hid hMl
  have HAB := Lib.hid (hm.above (by omega))
  have HM1 := Lib.hid (hm.gr (Gr.new w (.cells #[.slice none 0 0] 23)))
  clear hm hML hMU hMl
  obtain ⟨M, hMM⟩ : ∃ M, M = Oj.mods ch S lv sp := ⟨_, rfl⟩
  refine (callsIn_wide (n := 9)).1 ?_
  refine callsIn_of_wp_marks Try.func37 rfl trivial ?_ rfl
  simp only [Try.ntmps37, List.size_toArray, List.length_cons, List.length_nil, Nat.reduceAdd, Nat.reduceSub, Array.replicate_succ, Array.replicate_zero, List.push_toArray, List.append_toArray, List.nil_append, List.cons_append]
  gi_wp2
  refine wpIn_rangeFunc_ownG rfl (by omega) (gf := 38) (lb := #[.pointer (some ⟨B, 0, none⟩), .pointer (some ⟨B + 1, 0, none⟩), .pointer (some ⟨B + 2, 0, none⟩)]) rfl trivial (enters_of Try.func38 (by kernel_rfl) rfl)
    (moduli_stops (9 - 1) (by omega) B xC nC cC S lv sp ch h1 h2 _ HM1.out) (fun h k m => k (h m)) (fun W l o o' hl ho hc _ m => m.kept (grownBy_putObj' W l o') (fun r e => by cases e; exact ⟨o, ho, hc⟩)) (Below.refl _ _) (fun _ => rfl)
    (fun pre W => (∃ v, Boxed W w.heap.size 23 v ∧ Own1 W (w.heap.size + 1) v (Oj.vals _ pre)) ∧ Below w.heap.size w W)
    (fun c pre W => False)
    (OwnFrom.and (Own.from (fun s X Y row h hg hr => by
      obtain ⟨v, k1, k2⟩ := h
      exact ⟨v, boxed_kept k1 hg hr, k2.kept hg (fun r e => .inr (hr r e))⟩) _) (ownFrom_below (Nat.le_refl _) (by simp)))
    (fun c s X Y row h hg hr => h)
    ⟨⟨_, Boxed.new w _ _, Own1.nil _ _⟩, (Gr.new w _)⟩
    (fun x => { tmps := #[.slice none 0 0, .func (.func 38) #[] #[.pointer (some ⟨B, 0, none⟩), .pointer (some ⟨B + 1, 0, none⟩), .pointer (some ⟨B + 2, 0, none⟩)], .pointer (some ⟨w.heap.size, 0, none⟩), undef, .slice none 0 0, .int .u32 (Op.cf (Oj.mods ch S lv sp) x.1), .func (.func 38) #[] #[.pointer (some ⟨B, 0, none⟩), .pointer (some ⟨B + 1, 0, none⟩), .pointer (some ⟨B + 2, 0, none⟩)], .int .u32 (Op.cf (Oj.mods ch S lv sp) x.1), undef, undef, undef, undef, undef], defers := [] }) ?assign ?body ?done ?stop
  case assign =>
    intro l x W K hK
    gi_wp2
    exact hK
  case stop =>
    intro D c pre W hD _ h hK
    exact h.elim
  case body =>
    rintro l pre x W ⟨⟨v, hbx, hown⟩, hb⟩ hlt
    have hcl := hbx.cell
    obtain ⟨av, cv, hv, -, -⟩ := hown.form
    rw [Oj.vals_len] at hv
    subst hv
    have HBX := Lib.hid hbx
    have HOW := Lib.hid hown
    have HBL := Lib.hid hb
    have hsz := Below.size hb
    obtain ⟨z, hz⟩ : ∃ z, z = Op.cf (Oj.mods ch S lv sp) x.1 := ⟨_, rfl⟩
    have hzb := HMU.out.at_ x.1
    rw [← hz] at hzb
    rw [← hz]
    have HZ := Lib.hid hz
    have HON := Lib.hid (show HasP (W.alloc (.cells #[.int .u32 z] 22)) (.slice (some ⟨W.heap.size, 0, none⟩) 1 1) [z] from one_hasP' W z _ rfl hzb)
    have HLN := Lib.hid (show (Oj.vals _ pre).length + ([z] : List Int).length ≤ 1000000 from by rw [Oj.vals_len]; have := HML.out; simp; omega)
    have HOA := Lib.hid (HOW.out.alloc (.cells #[.int .u32 z] 22))
    have HBS := Lib.hid (show w.heap.size + 1 ≤ (W.alloc (.cells #[.int .u32 z] 22)).heap.size from by have := HBX.out.lt; simp; omega)
    clear hz hbx hown hb
    gi_wp2_with (gi_at_builtin; refine wpListIn_app rfl (.tmp 8) (.tmp 10) rfl rfl (w.heap.size + 1) _ _ rfl HOA.out _ [z] rfl HON.out HLN.out HBS.out ?_; intro v' w1 hown' hgrow; have HO1 := Lib.hid hown'; have HGR := Lib.hid hgrow; have hb1 : Boxed w1 w.heap.size 23 (.slice av pre.length cv) := (HBX.out.alloc _).kept hgrow (fun e => by have := (HOA.out.2.lt _ e.symm).1; omega); have hc1 := hb1.cell; have hf1 := hb1.frozen; have HB1 := Lib.hid hb1; obtain ⟨a', c', hv', -, -⟩ := hown'.form; rw [List.length_append, show ([z] : List Int).length = 1 from rfl] at hv'; subst hv'; clear hown' hgrow hb1)
    have g0 := World.grownBy_alloc W (.cells #[.int .u32 z] 22) none
    have hk : ∀ k, KeepsFrom k W w1 := fun k => KeepsFrom.trans (gr_from (Gr.new W _)) (keeps_grown HGR.out (row_cells HOA.out.2))
    have hmi1 : MI B xC nC cC S lv sp ch W → MI B xC nC cC S lv sp ch w1 := fun hm => (hm.gr (Gr.new W _)).row HGR.out (fun r e => by
      have h5 := (HOA.out.2.lt r e).1
      have h6 := HAB.out
      exact ⟨.inr (by omega), fun p hp => by have := h6.2 p hp; omega⟩)
    refine ⟨(hk _).trans ((KeepsOthers.setCell w1 _ _).from _), fun hm => (hmi1 hm).row (grown_cell w1 w.heap.size 0 _) (fun r e => by
      cases e
      have h6 := HAB.out
      exact ⟨.inr h6.1, fun p hp => by have := h6.2 p hp; omega⟩), ⟨_, HB1.out.set _, ?_⟩, ?_⟩
    · rw [Oj.vals_snoc, ← HZ.out]
      exact HO1.out.kept (grown_cell w1 w.heap.size 0 _) (fun r e => by cases e; exact .inl (by omega))
    · exact Gr.setCell (grown_own (show Gr w (W.alloc (.cells #[.int .u32 z] 22)) from Gr.alloc HBL.out _) HOA.out HGR.out (by omega)) (p := ⟨w.heap.size, 0, none⟩) (Nat.le_refl _) _
  case done =>
    rintro D ys W hD hall ⟨⟨v, hbx, hown⟩, hb⟩ hK
    have hcl := hbx.cell
    have HOW := Lib.hid hown
    have HBL := Lib.hid hb
    have HALL := Lib.hid (Oj.vals_all hall)
    clear hown hb hall
    gi_wp2
    refine ⟨by simp, .inl ⟨_, _, rfl, run_takeDeferred hK, ?_⟩⟩
    have ho := HOW.out
    rw [HALL.out] at ho
    have ho2 := ho.kept (grownBy_putObj' W D (.deferred none)) (fun r e => by cases e; exact .inr ⟨_, hK, rfl⟩)
    have hg2 : Gr w (W.putObj D (.deferred none)) := HBL.out.trans (belowK_b (w := w) (Nat.le_refl _) W D _ _ (by simp at hD; omega) hK rfl rfl)
    obtain ⟨a', c', rfl, -, -⟩ := ho2.form
    exact ⟨_, results_tmp rfl _ _ _, a', _, c', rfl, ho2.hasP, fun p hp => Nat.le_trans (Nat.le_succ _) (ho2.fresh rfl p hp), hg2⟩
set_option maxRecDepth 100000 in
set_option maxHeartbeats 1000000 in
theorem collect_any (B : Nat) (xC : Option Addr) (nC cC : Nat) (S : Int) (lv : Nat) (sp : Bool) (ch : List Int) (w : World) (h1 : 1 ≤ lv) (h2 : lv ≤ ch.length) (h3 : ch.length ≤ 1000) (hS : 0 ≤ S ∧ S < 4294967296) (hm : MI B xC nC cC S lv sp ch w) :
    Calls Try.prog 20 #[.func (.func 38) #[] #[.pointer (some ⟨B, 0, none⟩), .pointer (some ⟨B + 1, 0, none⟩), .pointer (some ⟨B + 2, 0, none⟩)]] w (NewP (Oj.mods ch S lv sp) w) := by
  have H := Lib.hid (appendSeq_any B xC nC cC S lv sp ch w h1 h2 h3 hS hm)
  clear hm h1 h2 h3
  go_enter Try.func20, Try.ntmps20
  go_wp2_with fail
  refine H.out.mono ?_
  rintro e w1 ⟨a, n, c, rfl, hp, hf, hg⟩
  have HP := Lib.hid hp
  have HF := Lib.hid hf
  have HG := Lib.hid hg
  clear hp hf hg
  go_wp2_with fail
  go_ret
  exact ⟨a, n, c, rfl, HP.out, HF.out, HG.out⟩
end Go.Proofs.Ytlfiakpmnkhcdaa.Mo
