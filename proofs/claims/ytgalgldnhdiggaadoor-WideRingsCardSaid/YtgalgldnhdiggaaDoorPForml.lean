/- The law WideForms. -/
import Derived.Test.YtgalgldnhdiggaaDoorPQh
import Derived.Test.YtgalgldnhdiggaaDoorPDivr
namespace Go.Proofs.YtgalgldnhdiggaaDoor
open Go.RowKit
set_option linter.unusedVariables false

theorem sizes_one (w : World) (o : Obj) (a : Bool) (s : ByteArray) (T : TypeId) : Sizes ((w.alloc o).alloc (.cells #[.bool a, .string s] T)) (w.heap.size + 1) [s] := by
  intro i hi
  have : i = 0 := by simp at hi; exact hi
  subst this; simp [go_sem]
theorem int_both (neg : Bool) (s : ByteArray) (hs : s.size ≤ 9223372036854775807) :
    ∃ p : Int × Int, (∀ W, Calls Tryd.prog 10 #[.agg #[.bool neg, .string s]] W (Pair p W)) ∧ (∀ W, Calls Tryd.prog 11 #[.agg #[.bool neg, .string s]] W (Pair p W)) := by
  by_cases h : Form neg s
  · by_cases h8 : s.size ≤ 8
    · exact ⟨_, fun W => int_ok neg s W hs h h8, fun W => rint_ok neg s W hs h h8⟩
    · exact ⟨_, fun W => int_long neg s W hs h (by omega), fun W => rint_long neg s W hs h (by omega)⟩
  · exact ⟨_, fun W => int_bad neg s W hs h, fun W => rint_bad neg s W hs h⟩
def Ver (b : Bool) (w : World) (e : Ending) (w' : World) : Prop := e = .returned (.bool b) ∧ Gr w w'
theorem valid_both (neg : Bool) (s : ByteArray) (hs : s.size ≤ 9223372036854775807) :
    ∃ b : Bool, (∀ W, Calls Tryd.prog 13 #[.agg #[.bool neg, .string s]] W (Ver b W)) ∧ (∀ W, Calls Tryd.prog 14 #[.agg #[.bool neg, .string s]] W (Ver b W)) := by
  have key : ∃ b : Bool, (b = true ↔ Form neg s) := by
    by_cases h : Form neg s
    · exact ⟨true, by simp [h]⟩
    · exact ⟨false, by simp [h]⟩
  obtain ⟨b, hb⟩ := key
  refine ⟨b, fun W => (valid_any neg s W hs).mono ?_, fun W => (rvalid_any neg s W hs).mono ?_⟩
  all_goals
    rintro e w' ⟨r, rfl, hr, g⟩
    have : r = b := by cases r <;> cases b <;> simp_all
    exact ⟨by rw [this], g⟩
theorem int_of (n : Int) (w : World) (h1 : -9223372036854775808 ≤ n) (h2 : n ≤ 9223372036854775807) :
    Calls Tryd.prog 10 #[.agg #[.bool (decide (n < 0)), .string (bstr n.natAbs)]] w (Pair (n, 0) w) := by
  have hl : (bstr n.natAbs).size ≤ 8 := by
    rw [bstr_size]
    apply Ow.byt_len.1
    have e : (256 : Nat) ^ 8 = 18446744073709551616 := by decide
    omega
  have h := int_ok (decide (n < 0)) (bstr n.natAbs) w (by omega) (form_bstr n (small_R h1 h2)) hl
  have e : intOut (decide (n < 0)) ((Ow.mg (bstr n.natAbs).data.toList : Nat) : Int) = (n, 0) := by
    rw [bstr_list, Ow.mg_byt]
    by_cases hn : n < 0
    · rw [decide_eq_true hn, intOut_t (by omega)]
      simp; omega
    · rw [decide_eq_false hn, intOut_f (by omega)]
      simp; omega
  rw [e] at h
  exact h

set_option maxRecDepth 100000 in
set_option maxHeartbeats 4000000 in
theorem forms_all (hdiv : DivOK) (nx : Bool) (x : ByteArray) (n : Int) (w : World) (htab : Tab w) (hx : x.size ≤ 9223372036854775807) (h1 : -9223372036854775808 ≤ n) (h2 : n ≤ 9223372036854775807) :
    Calls Tryd.prog 3 #[.agg #[.bool nx, .string x], .int .i64 n] w (Truth w) := by
  have HT := Lib.hid htab
  have HDIV := Lib.hid hdiv
  obtain ⟨p, hI1, hI2⟩ := int_both nx x hx
  obtain ⟨vb, hV1, hV2⟩ := valid_both nx x hx
  have HI1 := Lib.hid hI1
  have HI2 := Lib.hid hI2
  have HV1 := Lib.hid hV1
  have HV2 := Lib.hid hV2
  have HO1 := Lib.hid (show ∀ W, Calls Tryd.prog 12 #[.int .i64 n] W (One (decide (n < 0)) (bstr n.natAbs) W) from fun W => of_any n W h1 h2)
  have HO2 := Lib.hid (show ∀ W, Calls Tryd.prog 15 #[.int .i64 n] W (One (decide (n < 0)) (bstr n.natAbs) W) from fun W => rof_any n W h1 h2)
  have HO3 := Lib.hid (show ∀ W, Calls Tryd.prog 10 #[.agg #[.bool (decide (n < 0)), .string (bstr n.natAbs)]] W (Pair (n, 0) W) from fun W => int_of n W h1 h2)
  generalize decide (n < 0) = nn at *
  generalize bstr n.natAbs = ns at *
  clear htab hdiv hI1 hI2 hV1 hV2
  go_enter Tryd.func3, Tryd.ntmps3
  go_wp2_with fail
  refine (great_any _ 1 1 [x] _ rfl (by simp) (by intro s hs; simp only [List.mem_cons, List.not_mem_nil, or_false] at hs; subst hs; assumption) (sizes_one _ _ _ _ _)).mono ?_
  rintro e w1 ⟨rfl, rfl⟩
  obtain ⟨W, hW⟩ : ∃ W : World, W = ((w.alloc (.cells #[.bool nx, .string x] 23)).alloc (.cells #[.bool nx, .string x] 23)) := ⟨_, rfl⟩
  rw [← hW]
  have g1 : Gr w W := by rw [hW]; exact (((Gr.refl _).alloc _).alloc _)
  have x0 : W.cell? ⟨w.heap.size, 0, none⟩ = some (.bool nx) := by rw [hW]; simp [go_sem]
  have x1 : W.cell? ⟨w.heap.size, 1, none⟩ = some (.string x) := by rw [hW]; simp [go_sem]
  have z0 : W.cell? ⟨w.heap.size + 1, 0, none⟩ = some (.bool nx) := by rw [hW]; simp [go_sem]
  have z1 : W.cell? ⟨w.heap.size + 1, 1, none⟩ = some (.string x) := by rw [hW]; simp [go_sem]
  have hsz : W.heap.size = w.heap.size + 1 + 1 := by rw [hW]; simp
  have HG := Lib.hid g1
  have HSZ := Lib.hid hsz
  clear hW g1 hsz
  obtain ⟨gr, hgr⟩ : ∃ b, b = isGreat [x] := ⟨_, rfl⟩
  rw [← hgr]
  clear hgr z0 z1
  cases gr with
  | true =>
    go_wp2_with fail
    refine (shown_of HDIV.out _ (HT.out.later HG.out)).mono ?_
    rintro e w2 ⟨rfl, g⟩
    have HG := Lib.hid (HG.out.trans g)
    clear g
    go_wp2_with fail
    go_ret
    exact ⟨rfl, HG.out⟩
  | false =>
    go_wp2_with fail
    refine (HI1.out _).mono ?_
    rintro e w2 ⟨rfl, g⟩
    have x0 := g.keeps x0
    have x1 := g.keeps x1
    have HG := Lib.hid (HG.out.trans g)
    clear g
    go_wp2_with fail
    refine (HI2.out _).mono ?_
    rintro e w3 ⟨rfl, g⟩
    have x0 := g.keeps x0
    have x1 := g.keeps x1
    have HG := Lib.hid (HG.out.trans g)
    clear g
    go_wp2_with fail
    refine (HO1.out _).mono ?_
    rintro e w4 ⟨rfl, g⟩
    have x0 := g.keeps x0
    have x1 := g.keeps x1
    have HG := Lib.hid (HG.out.trans g)
    clear g
    go_wp2_with fail
    refine (HO3.out _).mono ?_
    rintro e w5 ⟨rfl, g⟩
    have x0 := g.keeps x0
    have x1 := g.keeps x1
    have HG := Lib.hid (HG.out.trans g)
    clear g
    go_wp2_with fail
    have HG := Lib.hid (show Gr w w5.drew from Below.drew HG.out)
    go_region_held3 (fun w' => w'.cell? ⟨w.heap.size, 0, none⟩ = some (.bool nx) ∧ w'.cell? ⟨w.heap.size, 1, none⟩ = some (.string x)) (first | exact ⟨x0, x1⟩ | go_keep)
      (first
        | (go_at_call 13; (with_reducible refine (HV1.out _).mono ?_); rintro e w' ⟨rfl, g⟩; have x0 := g.keeps x0; have x1 := g.keeps x1; have HG := Lib.hid (HG.out.trans g); clear g)
        | (go_at_call 14; (with_reducible refine (HV2.out _).mono ?_); rintro e w' ⟨rfl, g⟩; have x0 := g.keeps x0; have x1 := g.keeps x1; have HG := Lib.hid (HG.out.trans g); clear g)
        | (go_at_call 12; (with_reducible refine (HO1.out _).mono ?_); rintro e w' ⟨rfl, g⟩; have x0 := g.keeps x0; have x1 := g.keeps x1; have HG := Lib.hid (HG.out.trans g); clear g)
        | (go_at_call 15; (with_reducible refine (HO2.out _).mono ?_); rintro e w' ⟨rfl, g⟩; have x0 := g.keeps x0; have x1 := g.keeps x1; have HG := Lib.hid (HG.out.trans g); clear g)
        | (go_at_call 9; (with_reducible refine (shown_of HDIV.out _ (HT.out.later HG.out)).mono ?_); rintro e w' ⟨rfl, g⟩; have x0 := g.keeps x0; have x1 := g.keeps x1; have HG := Lib.hid (HG.out.trans g); clear g))
    all_goals
      go_wp2_with fail
      go_ret
      exact ⟨rfl, HG.out⟩
end Go.Proofs.YtgalgldnhdiggaaDoor

