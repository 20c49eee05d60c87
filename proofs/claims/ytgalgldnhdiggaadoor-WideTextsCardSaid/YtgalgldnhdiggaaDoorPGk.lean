/- Texts lead back to forms, and forms to texts. -/
import Derived.Test.YtgalgldnhdiggaaDoorPGj
import Derived.Deep.DeepCutAuto
namespace Go.Proofs.YtgalgldnhdiggaaDoor
open Go.RowKit
set_option linter.unusedVariables false

theorem dec_len_pow {n m : Nat} (h : n < 4294967296 ^ m) (hm : 0 < m) : (Lib.decDigits n).length ≤ 10 * m := by
  rw [Lib.decDigits_length]
  obtain ⟨k, hk⟩ : ∃ k, 10 * m = k + 1 := ⟨10 * m - 1, by omega⟩
  rw [hk]
  apply Ow.dec_len_le
  rw [← hk, Nat.pow_mul]
  exact Nat.lt_of_lt_of_le h (Nat.pow_le_pow_left (by omega) _)
theorem prefix_cons (b : UInt8) (t : List UInt8) : Lib.hasPrefix (b :: t) [45] = (b == 45) := by
  simp [Lib.hasPrefix, List.isPrefixOf]
  exact Bool.beq_comm
theorem prefix_text (z : Int) : Lib.hasPrefix (textOf z) [45] = decide (z < 0) ∧ Lib.trimPrefix (textOf z) [45] = Lib.decDigits z.natAbs := by
  by_cases h : z < 0
  · have e : textOf z = 45 :: Lib.decDigits z.natAbs := by unfold textOf; rw [if_pos h]; rfl
    rw [e]
    have hp : Lib.hasPrefix (45 :: Lib.decDigits z.natAbs) [45] = true := by rw [prefix_cons]; decide
    refine ⟨by rw [hp]; simp [h], ?_⟩
    unfold Lib.trimPrefix
    rw [if_pos hp]; rfl
  · have e : textOf z = Lib.decDigits z.natAbs := by unfold textOf; rw [if_neg h]; rfl
    rw [e]
    have hp : Lib.hasPrefix (Lib.decDigits z.natAbs) [45] = false := by
      cases hd : Lib.decDigits z.natAbs with
      | nil => rfl
      | cons b t =>
        rw [prefix_cons]
        have := Ow.dec_digits z.natAbs b (by rw [hd]; exact List.mem_cons_self ..)
        simp only [beq_eq_false_iff_ne]
        intro e2
        rw [e2] at this
        have : (45 : UInt8).toNat = 45 := rfl
        omega
    refine ⟨by rw [hp]; simp [h], ?_⟩
    unfold Lib.trimPrefix
    rw [if_neg (by rw [hp]; decide)]
theorem good_text (z : Int) : Good (decide (z < 0)) (Lib.decDigits z.natAbs) := by
  refine ⟨Ow.digits_ne _, Ow.dec_digits _, ?_⟩
  rintro ⟨h1, h2⟩
  cases hd : Lib.decDigits z.natAbs with
  | nil => exact Ow.digits_ne _ hd
  | cons b t =>
    rw [hd] at h1 h2
    have hb : b = 48 := by
      simp [Lib.hasPrefix, List.isPrefixOf] at h1
      exact h1.symm
    have hz := Ow.digits_head _ b t hd hb
    rw [hz, Lib.decDigits_one (by omega)] at hd
    rcases h2 with h2 | h2
    · simp at h2; omega
    · have := congrArg List.length hd
      simp only [List.length_nil, List.length_cons] at this h2
      omega
theorem read_back (neg : Bool) (s : ByteArray) (w : World) (h : Form neg s) :
    Calls Tryd.prog 16 #[.string ⟨(textOf (zOf neg s)).toArray⟩] w (Res neg s 0 w) := by
  have hlen : (textOf (zOf neg s)).length ≤ 100000 := by
    have hr := form_range h
    have : (Lib.decDigits (zOf neg s).natAbs).length ≤ 640 := by
      exact dec_len_pow (m := 64) (by rw [← Ow.R_digits]; exact hr) (by omega)
    unfold textOf
    split <;> simp <;> omega
  refine (read_any (textOf (zOf neg s)) w hlen).mono ?_
  obtain ⟨p1, p2⟩ := prefix_text (zOf neg s)
  rw [p1, p2]
  have hg := good_text (zOf neg s)
  rintro e w' (⟨_, hres⟩ | ⟨hn, _⟩)
  · rw [Ow.dval_digits, sg_self, fNeg_in (form_range h), fStr_in (form_range h), fErr_in (form_range h), ← form_neg h, ← form_str h] at hres
    exact hres
  · exact absurd hg hn
/-- What was read is written again. -/
theorem text_read (l : List UInt8) (hg : Good (Lib.hasPrefix l [45]) (Lib.trimPrefix l [45])) : textOf (sg (Lib.hasPrefix l [45]) (Ow.dval (Lib.trimPrefix l [45]))) = l := by
  obtain ⟨hne, hd, h0⟩ := hg
  cases hp : Lib.hasPrefix l [45] with
  | false =>
    have ht : Lib.trimPrefix l [45] = l := by unfold Lib.trimPrefix; rw [if_neg (by rw [hp]; decide)]
    rw [ht] at hne hd h0 ⊢
    rw [hp] at h0
    have hz : ¬ sg false (Ow.dval l) < 0 := by unfold sg; simp
    unfold textOf
    rw [if_neg hz, sg_abs, List.nil_append]
    refine Ow.digits_dval l.length l rfl hne hd (fun b t e hb => ?_)
    subst e
    rcases Nat.lt_or_ge 1 (b :: t).length with h1 | h1
    · exact absurd ⟨by rw [hb]; simp [Lib.hasPrefix, List.isPrefixOf], .inr h1⟩ h0
    · exact List.length_eq_zero_iff.1 (by simp at h1; simpa using h1)
  | true =>
    obtain ⟨t, rfl⟩ : ∃ t, l = 45 :: t := by
      cases l with
      | nil => simp [Lib.hasPrefix, List.isPrefixOf] at hp
      | cons b t =>
        rw [prefix_cons] at hp
        exact ⟨t, by rw [eq_of_beq hp]⟩
    have ht : Lib.trimPrefix (45 :: t) [45] = t := by unfold Lib.trimPrefix; rw [if_pos hp]; rfl
    rw [ht] at hne hd h0 ⊢
    rw [hp] at h0
    have hlead : ∀ b u, t = b :: u → b ≠ 48 := fun b u e hb => h0 ⟨by rw [e, hb]; simp [Lib.hasPrefix, List.isPrefixOf], .inl rfl⟩
    have hpos := Ow.lead_pos t.length t rfl hlead hd hne
    have hz : sg true (Ow.dval t) < 0 := by unfold sg; simp; omega
    unfold textOf
    rw [if_pos hz, sg_abs, Ow.digits_dval t.length t rfl hne hd (fun b u e hb => absurd hb (hlead b u e))]
    rfl
end Go.Proofs.YtgalgldnhdiggaaDoor

/- The law WideBack. -/
namespace Go.Proofs.YtgalgldnhdiggaaDoor
open Go.RowKit
set_option linter.unusedVariables false

theorem sizes_2 (w : World) (o1 o2 : Obj) (a b : Bool) (s t : ByteArray) (T : TypeId) : Sizes (((w.alloc o1).alloc o2).alloc (.cells #[.bool a, .string s, .bool b, .string t] T)) (w.heap.size + 1 + 1) [s, t] := by
  intro i hi
  have : i = 0 ∨ i = 1 := by simp at hi; omega
  rcases this with rfl | rfl <;> simp [go_sem]
theorem same_str {a b : ByteArray} (h : a.toList = b.toList) : a = b := by
  rw [_root_.Go.ByteArray.toList_eq, _root_.Go.ByteArray.toList_eq] at h
  exact ByteArray.ext (Array.toList_inj.1 h)
/-- What Read answers, and what is written of it. -/
def ReadS (S : ByteArray) (w : World) (e : Ending) (w' : World) : Prop :=
  (∃ z : Int, z.natAbs < Ow.R ∧ (⟨(textOf z).toArray⟩ : ByteArray) = S ∧ Res (decide (z < 0)) (bstr z.natAbs) 0 w e w') ∨ (∃ c : Int, (c == 0) = false ∧ Res false ⟨#[]⟩ c w e w')
theorem read_S (S : ByteArray) (w : World) (hS : S.size ≤ 100000) : Calls Tryd.prog 16 #[.string S] w (ReadS S w) := by
  have e : S = ⟨S.data.toList.toArray⟩ := by apply ByteArray.ext; simp
  have hl : S.data.toList.length ≤ 100000 := by rw [list_len]; exact hS
  generalize S.data.toList = l at e hl
  subst e
  refine (read_any l w hl).mono ?_
  rintro e w' (⟨hg, h⟩ | ⟨_, h⟩)
  · have ht := text_read l hg
    generalize sg (Lib.hasPrefix l [45]) (Ow.dval (Lib.trimPrefix l [45])) = z at h ht
    by_cases hz : z.natAbs < Ow.R
    · rw [fNeg_in hz, fStr_in hz, fErr_in hz] at h
      exact .inl ⟨z, hz, by rw [ht], h⟩
    · rw [fNeg_out hz, fStr_out hz, fErr_out hz] at h
      exact .inr ⟨7, by decide, h⟩
  · exact .inr ⟨6, by decide, h⟩
theorem sizes_two (w : World) (a b : Bool) (s t : ByteArray) (T : TypeId) : Sizes (w.alloc (.cells #[.bool a, .string s, .bool b, .string t] T)) w.heap.size [s, t] := by
  intro i hi
  have : i = 0 ∨ i = 1 := by simp at hi; omega
  rcases this with rfl | rfl <;> simp [go_sem]

set_option maxRecDepth 100000 in
set_option maxHeartbeats 4000000 in
theorem back_all (hdiv : DivOK) (S : ByteArray) (nx : Bool) (x : ByteArray) (ny : Bool) (y : ByteArray) (w : World) (htab : Tab w) (hS : S.size ≤ 9223372036854775807) (hx : x.size ≤ 9223372036854775807) (hy : y.size ≤ 9223372036854775807) :
    Calls Tryd.prog 6 #[.string S, .agg #[.bool nx, .string x], .agg #[.bool ny, .string y]] w (Truth w) := by
  have HT := Lib.hid htab
  have HDIV := Lib.hid hdiv
  clear htab hdiv
  go_enter Tryd.func6, Tryd.ntmps6
  go_wp2_with fail
  refine (great_any _ 2 2 [x, y] _ rfl (by simp) (by intro s hs; simp only [List.mem_cons, List.not_mem_nil, or_false] at hs; rcases hs with rfl | rfl <;> assumption) (sizes_2 _ _ _ _ _ _ _ _)).mono ?_
  rintro e w1 ⟨rfl, rfl⟩
  obtain ⟨W, hW⟩ : ∃ W : World, W = ((w.alloc (.cells #[.bool nx, .string x] 23)).alloc (.cells #[.bool ny, .string y] 23)).alloc (.cells #[.bool nx, .string x, .bool ny, .string y] 23) := ⟨_, rfl⟩
  rw [← hW]
  have g1 : Gr w W := by rw [hW]; exact ((Gr.new w _).alloc _).alloc _
  have x0 : W.cell? ⟨w.heap.size, 0, none⟩ = some (.bool nx) := by rw [hW]; simp [go_sem]
  have x1 : W.cell? ⟨w.heap.size, 1, none⟩ = some (.string x) := by rw [hW]; simp [go_sem]
  have y0 : W.cell? ⟨w.heap.size + 1, 0, none⟩ = some (.bool ny) := by rw [hW]; simp [go_sem]
  have y1 : W.cell? ⟨w.heap.size + 1, 1, none⟩ = some (.string y) := by rw [hW]; simp [go_sem]
  have HG := Lib.hid g1
  clear hW g1
  obtain ⟨gr, hgr⟩ : ∃ b, b = isGreat [x, y] := ⟨_, rfl⟩
  rw [← hgr]
  have HGR := Lib.hid hgr
  clear hgr
  by_cases hbig : gr = true ∨ 2000 < S.size
  · have hsh : ∀ W', Gr W W' → Calls Tryd.prog 9 #[] W' (Truth W') := fun W' g => shown_of HDIV.out W' (HT.out.later (HG.out.trans g))
    have HSH := Lib.hid hsh
    clear hsh
    have key : gr = true ∨ (gr = false ∧ 2000 < S.size) := by cases gr <;> simp at hbig ⊢ <;> exact hbig
    clear hbig
    rcases key with rfl | ⟨rfl, hb⟩
    · go_wp2_with fail
      refine (HSH.out _ (Gr.refl _)).mono ?_
      rintro e w2 ⟨rfl, g⟩
      have HG := Lib.hid (HG.out.trans g)
      clear g
      go_wp2_with fail
      go_ret
      exact ⟨rfl, HG.out⟩
    · have t1 : decide ((2000 : Int) < (S.size : Int)) = true := decide_eq_true (by omega)
      have t2 : decide (2000 < S.size) = true := decide_eq_true hb
      go_wp2_with fail
      refine (HSH.out _ (Gr.refl _)).mono ?_
      rintro e w2 ⟨rfl, g⟩
      have HG := Lib.hid (HG.out.trans g)
      clear g
      go_wp2_with fail
      go_ret
      exact ⟨rfl, HG.out⟩
  · obtain rfl : gr = false := by cases gr <;> simp at hbig ⊢
    have hSb : S.size ≤ 2000 := by simp at hbig; omega
    have t1 : decide ((2000 : Int) < (S.size : Int)) = false := decide_eq_false (by omega)
    have t2 : decide (2000 < S.size) = false := decide_eq_false (by omega)
    clear hbig
    by_cases hf : Form nx x
    · have HF := Lib.hid hf
      clear hf
      go_wp2_with fail
      refine (text_ok nx x _ HF.out (HT.out.later HG.out)).mono ?_
      rintro e w2 ⟨rfl, g⟩
      have x0 := g.keeps x0
      have x1 := g.keeps x1
      have y0 := g.keeps y0
      have y1 := g.keeps y1
      have HG := Lib.hid (HG.out.trans g)
      clear g
      go_wp2_with fail
      refine (valid_any nx x _ hx).mono ?_
      rintro e w3 ⟨r, rfl, hr, g⟩
      obtain rfl : r = true := hr.2 HF.out
      clear hr
      have x0 := g.keeps x0
      have x1 := g.keeps x1
      have y0 := g.keeps y0
      have y1 := g.keeps y1
      have HG := Lib.hid (HG.out.trans g)
      clear g
      go_wp2_with fail
      refine (read_back nx x _ HF.out).mono ?_
      rintro e w3b ⟨rfl, g⟩
      have x0 := g.keeps x0
      have x1 := g.keeps x1
      have y0 := g.keeps y0
      have y1 := g.keeps y1
      have HG := Lib.hid (HG.out.trans g)
      clear g
      have x0w3b := (Gr.new w3b (.cells #[.bool nx, .string x] 23)).keeps x0
      have x1w3b := (Gr.new w3b (.cells #[.bool nx, .string x] 23)).keeps x1
      have y0w3b := (Gr.new w3b (.cells #[.bool nx, .string x] 23)).keeps y0
      have y1w3b := (Gr.new w3b (.cells #[.bool nx, .string x] 23)).keeps y1
      have nxw3b : ¬ (w.heap.size = w3b.heap.size) := ne_of_cell x0
      have nxw3bs : ¬ (w3b.heap.size = w.heap.size) := fun e => nxw3b e.symm
      have nyw3b : ¬ (w.heap.size + 1 = w3b.heap.size) := ne_of_cell y0
      have nyw3bs : ¬ (w3b.heap.size = w.heap.size + 1) := fun e => nyw3b e.symm
      go_wp2_with fail
      have g := Gr.new w3b (.cells #[.bool nx, .string x] 23)
      have x0 := g.keeps x0
      have x1 := g.keeps x1
      have y0 := g.keeps y0
      have y1 := g.keeps y1
      have HG := Lib.hid (HG.out.trans g)
      clear g
      by_cases hf2 : Form ny y
      · have HF2 := Lib.hid hf2
        clear hf2
        refine (read_S S _ (by omega)).mono ?_
        rintro e w4 (⟨z, hz, htx, rfl, g⟩ | ⟨cc, hcc, rfl, g⟩)
        · have HZ := Lib.hid hz
          have HTX := Lib.hid htx
          clear hz htx
          have x0 := g.keeps x0
          have x1 := g.keeps x1
          have y0 := g.keeps y0
          have y1 := g.keeps y1
          have HG := Lib.hid (HG.out.trans g)
          clear g
          have x0w4 := (Gr.new w4 (.cells #[.bool (decide (z < 0)), .string (bstr z.natAbs)] 23)).keeps x0
          have x1w4 := (Gr.new w4 (.cells #[.bool (decide (z < 0)), .string (bstr z.natAbs)] 23)).keeps x1
          have y0w4 := (Gr.new w4 (.cells #[.bool (decide (z < 0)), .string (bstr z.natAbs)] 23)).keeps y0
          have y1w4 := (Gr.new w4 (.cells #[.bool (decide (z < 0)), .string (bstr z.natAbs)] 23)).keeps y1
          have nxw4 : ¬ (w.heap.size = w4.heap.size) := ne_of_cell x0
          have nxw4s : ¬ (w4.heap.size = w.heap.size) := fun e => nxw4 e.symm
          have nyw4 : ¬ (w.heap.size + 1 = w4.heap.size) := ne_of_cell y0
          have nyw4s : ¬ (w4.heap.size = w.heap.size + 1) := fun e => nyw4 e.symm
          go_wp2_with fail
          have g := Gr.new w4 (.cells #[.bool (decide (z < 0)), .string (bstr z.natAbs)] 23)
          have x0 := g.keeps x0
          have x1 := g.keeps x1
          have y0 := g.keeps y0
          have y1 := g.keeps y1
          have HG := Lib.hid (HG.out.trans g)
          clear g
          refine (text_ok _ _ _ (form_bstr z HZ.out) (HT.out.later HG.out)).mono ?_
          rintro e w5 ⟨rfl, g⟩
          rw [zOf_bstr, HTX.out]
          have x0 := g.keeps x0
          have x1 := g.keeps x1
          have y0 := g.keeps y0
          have y1 := g.keeps y1
          have HG := Lib.hid (HG.out.trans g)
          clear g
          go_wp2_with fail
          refine (cmp_ok nx x ny y _ HF.out HF2.out).mono ?_
          rintro e w6 ⟨rfl, g⟩
          have x0 := g.keeps x0
          have x1 := g.keeps x1
          have y0 := g.keeps y0
          have y1 := g.keeps y1
          have HG := Lib.hid (HG.out.trans g)
          clear g
          have tri : (zOf nx x < zOf ny y) ∨ (zOf ny y < zOf nx x) ∨ (zOf nx x = zOf ny y) := by omega
          rcases tri with h | h | h
          · have e1 : sgn (zOf nx x) (zOf ny y) = -1 := by unfold sgn; split <;> (try split) <;> omega
            have E2 := Lib.hid (show sgn (zOf ny y) (zOf nx x) = 1 by unfold sgn; split <;> (try split) <;> omega)
            rw [e1]
            have NE := Lib.hid (show ¬ (nx = ny ∧ x = y) from fun e => by obtain ⟨rfl, rfl⟩ := e; omega)
            clear h e1
            go_wp2_with fail
            refine (cmp_ok ny y nx x _ HF2.out HF.out).mono ?_
            rintro e w7 ⟨rfl, g⟩
            have x0 := g.keeps x0
            have x1 := g.keeps x1
            have y0 := g.keeps y0
            have y1 := g.keeps y1
            have HG := Lib.hid (HG.out.trans g)
            clear g
            rw [E2.out]
            have HGC := HG
            go_wp2_with fail
            all_goals try (exfalso; exact NE.out ⟨by first | rfl | assumption, same_str (by assumption)⟩)
            all_goals try (
              refine (shown_of HDIV.out _ (HT.out.later HGC.out)).mono ?_
              rintro e w9 ⟨rfl, g⟩
              have HG := Lib.hid (HGC.out.trans g)
              clear g
              go_wp2_with fail
              go_ret
              exact ⟨rfl, HG.out⟩)
          · have e1 : sgn (zOf nx x) (zOf ny y) = 1 := by unfold sgn; split <;> (try split) <;> omega
            have E2 := Lib.hid (show sgn (zOf ny y) (zOf nx x) = -1 by unfold sgn; split <;> (try split) <;> omega)
            rw [e1]
            have NE := Lib.hid (show ¬ (nx = ny ∧ x = y) from fun e => by obtain ⟨rfl, rfl⟩ := e; omega)
            clear h e1
            go_wp2_with fail
            refine (cmp_ok ny y nx x _ HF2.out HF.out).mono ?_
            rintro e w7 ⟨rfl, g⟩
            have x0 := g.keeps x0
            have x1 := g.keeps x1
            have y0 := g.keeps y0
            have y1 := g.keeps y1
            have HG := Lib.hid (HG.out.trans g)
            clear g
            rw [E2.out]
            have HGC := HG
            go_wp2_with fail
            all_goals try (exfalso; exact NE.out ⟨by first | rfl | assumption, same_str (by assumption)⟩)
            all_goals try (
              refine (shown_of HDIV.out _ (HT.out.later HGC.out)).mono ?_
              rintro e w9 ⟨rfl, g⟩
              have HG := Lib.hid (HGC.out.trans g)
              clear g
              go_wp2_with fail
              go_ret
              exact ⟨rfl, HG.out⟩)
          · have e1 : sgn (zOf nx x) (zOf ny y) = 0 := by unfold sgn; split <;> (try split) <;> omega
            have E2 := Lib.hid (show sgn (zOf ny y) (zOf nx x) = 0 by unfold sgn; split <;> (try split) <;> omega)
            rw [e1]
            have EX := Lib.hid (show ny = nx ∧ y = x from ⟨by rw [form_neg HF.out, form_neg HF2.out, h], by rw [form_str HF.out, form_str HF2.out, h]⟩)
            clear h e1
            go_wp2_with fail
            refine (cmp_ok ny y nx x _ HF2.out HF.out).mono ?_
            rintro e w7 ⟨rfl, g⟩
            have x0 := g.keeps x0
            have x1 := g.keeps x1
            have y0 := g.keeps y0
            have y1 := g.keeps y1
            have HG := Lib.hid (HG.out.trans g)
            clear g
            rw [E2.out]
            have HGC := HG
            obtain ⟨rfl, rfl⟩ := EX.out
            go_wp2_with fail
            refine (shown_of HDIV.out _ (HT.out.later HGC.out)).mono ?_
            rintro e w9 ⟨rfl, g⟩
            have HG := Lib.hid (HGC.out.trans g)
            clear g
            go_wp2_with fail
            go_ret
            exact ⟨rfl, HG.out⟩
        · have t8 : (cc == 0) = false := hcc
          have x0 := g.keeps x0
          have x1 := g.keeps x1
          have y0 := g.keeps y0
          have y1 := g.keeps y1
          have HG := Lib.hid (HG.out.trans g)
          clear g
          have x0w4 := (Gr.new w4 (.cells #[.bool false, .string ⟨#[]⟩] 23)).keeps x0
          have x1w4 := (Gr.new w4 (.cells #[.bool false, .string ⟨#[]⟩] 23)).keeps x1
          have y0w4 := (Gr.new w4 (.cells #[.bool false, .string ⟨#[]⟩] 23)).keeps y0
          have y1w4 := (Gr.new w4 (.cells #[.bool false, .string ⟨#[]⟩] 23)).keeps y1
          have nxw4 : ¬ (w.heap.size = w4.heap.size) := ne_of_cell x0
          have nxw4s : ¬ (w4.heap.size = w.heap.size) := fun e => nxw4 e.symm
          have nyw4 : ¬ (w.heap.size + 1 = w4.heap.size) := ne_of_cell y0
          have nyw4s : ¬ (w4.heap.size = w.heap.size + 1) := fun e => nyw4 e.symm
          go_wp2_with fail
          have g := Gr.new w4 (.cells #[.bool false, .string ⟨#[]⟩] 23)
          have x0 := g.keeps x0
          have x1 := g.keeps x1
          have y0 := g.keeps y0
          have y1 := g.keeps y1
          have HG := Lib.hid (HG.out.trans g)
          clear g
          refine (cmp_ok nx x ny y _ HF.out HF2.out).mono ?_
          rintro e w6 ⟨rfl, g⟩
          have x0 := g.keeps x0
          have x1 := g.keeps x1
          have y0 := g.keeps y0
          have y1 := g.keeps y1
          have HG := Lib.hid (HG.out.trans g)
          clear g
          have tri : (zOf nx x < zOf ny y) ∨ (zOf ny y < zOf nx x) ∨ (zOf nx x = zOf ny y) := by omega
          rcases tri with h | h | h
          · have e1 : sgn (zOf nx x) (zOf ny y) = -1 := by unfold sgn; split <;> (try split) <;> omega
            have E2 := Lib.hid (show sgn (zOf ny y) (zOf nx x) = 1 by unfold sgn; split <;> (try split) <;> omega)
            rw [e1]
            have NE := Lib.hid (show ¬ (nx = ny ∧ x = y) from fun e => by obtain ⟨rfl, rfl⟩ := e; omega)
            clear h e1
            go_wp2_with fail
            refine (cmp_ok ny y nx x _ HF2.out HF.out).mono ?_
            rintro e w7 ⟨rfl, g⟩
            have x0 := g.keeps x0
            have x1 := g.keeps x1
            have y0 := g.keeps y0
            have y1 := g.keeps y1
            have HG := Lib.hid (HG.out.trans g)
            clear g
            rw [E2.out]
            have HGC := HG
            go_wp2_with fail
            all_goals try (exfalso; exact NE.out ⟨by first | rfl | assumption, same_str (by assumption)⟩)
            all_goals try (
              refine (shown_of HDIV.out _ (HT.out.later HGC.out)).mono ?_
              rintro e w9 ⟨rfl, g⟩
              have HG := Lib.hid (HGC.out.trans g)
              clear g
              go_wp2_with fail
              go_ret
              exact ⟨rfl, HG.out⟩)
          · have e1 : sgn (zOf nx x) (zOf ny y) = 1 := by unfold sgn; split <;> (try split) <;> omega
            have E2 := Lib.hid (show sgn (zOf ny y) (zOf nx x) = -1 by unfold sgn; split <;> (try split) <;> omega)
            rw [e1]
            have NE := Lib.hid (show ¬ (nx = ny ∧ x = y) from fun e => by obtain ⟨rfl, rfl⟩ := e; omega)
            clear h e1
            go_wp2_with fail
            refine (cmp_ok ny y nx x _ HF2.out HF.out).mono ?_
            rintro e w7 ⟨rfl, g⟩
            have x0 := g.keeps x0
            have x1 := g.keeps x1
            have y0 := g.keeps y0
            have y1 := g.keeps y1
            have HG := Lib.hid (HG.out.trans g)
            clear g
            rw [E2.out]
            have HGC := HG
            go_wp2_with fail
            all_goals try (exfalso; exact NE.out ⟨by first | rfl | assumption, same_str (by assumption)⟩)
            all_goals try (
              refine (shown_of HDIV.out _ (HT.out.later HGC.out)).mono ?_
              rintro e w9 ⟨rfl, g⟩
              have HG := Lib.hid (HGC.out.trans g)
              clear g
              go_wp2_with fail
              go_ret
              exact ⟨rfl, HG.out⟩)
          · have e1 : sgn (zOf nx x) (zOf ny y) = 0 := by unfold sgn; split <;> (try split) <;> omega
            have E2 := Lib.hid (show sgn (zOf ny y) (zOf nx x) = 0 by unfold sgn; split <;> (try split) <;> omega)
            rw [e1]
            have EX := Lib.hid (show ny = nx ∧ y = x from ⟨by rw [form_neg HF.out, form_neg HF2.out, h], by rw [form_str HF.out, form_str HF2.out, h]⟩)
            clear h e1
            go_wp2_with fail
            refine (cmp_ok ny y nx x _ HF2.out HF.out).mono ?_
            rintro e w7 ⟨rfl, g⟩
            have x0 := g.keeps x0
            have x1 := g.keeps x1
            have y0 := g.keeps y0
            have y1 := g.keeps y1
            have HG := Lib.hid (HG.out.trans g)
            clear g
            rw [E2.out]
            have HGC := HG
            obtain ⟨rfl, rfl⟩ := EX.out
            go_wp2_with fail
            refine (shown_of HDIV.out _ (HT.out.later HGC.out)).mono ?_
            rintro e w9 ⟨rfl, g⟩
            have HG := Lib.hid (HGC.out.trans g)
            clear g
            go_wp2_with fail
            go_ret
            exact ⟨rfl, HG.out⟩
      · have BAD := Lib.hid (show ¬ (Form nx x ∧ Form ny y) from fun h => hf2 h.2)
        have BAD2 := Lib.hid (show ¬ (Form ny y ∧ Form nx x) from fun h => hf2 h.1)
        clear hf2
        refine (read_S S _ (by omega)).mono ?_
        rintro e w4 (⟨z, hz, htx, rfl, g⟩ | ⟨cc, hcc, rfl, g⟩)
        · have HZ := Lib.hid hz
          have HTX := Lib.hid htx
          clear hz htx
          have x0 := g.keeps x0
          have x1 := g.keeps x1
          have y0 := g.keeps y0
          have y1 := g.keeps y1
          have HG := Lib.hid (HG.out.trans g)
          clear g
          have x0w4 := (Gr.new w4 (.cells #[.bool (decide (z < 0)), .string (bstr z.natAbs)] 23)).keeps x0
          have x1w4 := (Gr.new w4 (.cells #[.bool (decide (z < 0)), .string (bstr z.natAbs)] 23)).keeps x1
          have y0w4 := (Gr.new w4 (.cells #[.bool (decide (z < 0)), .string (bstr z.natAbs)] 23)).keeps y0
          have y1w4 := (Gr.new w4 (.cells #[.bool (decide (z < 0)), .string (bstr z.natAbs)] 23)).keeps y1
          have nxw4 : ¬ (w.heap.size = w4.heap.size) := ne_of_cell x0
          have nxw4s : ¬ (w4.heap.size = w.heap.size) := fun e => nxw4 e.symm
          have nyw4 : ¬ (w.heap.size + 1 = w4.heap.size) := ne_of_cell y0
          have nyw4s : ¬ (w4.heap.size = w.heap.size + 1) := fun e => nyw4 e.symm
          go_wp2_with fail
          have g := Gr.new w4 (.cells #[.bool (decide (z < 0)), .string (bstr z.natAbs)] 23)
          have x0 := g.keeps x0
          have x1 := g.keeps x1
          have y0 := g.keeps y0
          have y1 := g.keeps y1
          have HG := Lib.hid (HG.out.trans g)
          clear g
          refine (text_ok _ _ _ (form_bstr z HZ.out) (HT.out.later HG.out)).mono ?_
          rintro e w5 ⟨rfl, g⟩
          rw [zOf_bstr, HTX.out]
          have x0 := g.keeps x0
          have x1 := g.keeps x1
          have y0 := g.keeps y0
          have y1 := g.keeps y1
          have HG := Lib.hid (HG.out.trans g)
          clear g
          go_wp2_with fail
          refine (cmp_bad nx x ny y _ hx hy BAD.out).mono ?_
          rintro e w6 ⟨rfl, g⟩
          have x0 := g.keeps x0
          have x1 := g.keeps x1
          have y0 := g.keeps y0
          have y1 := g.keeps y1
          have HG := Lib.hid (HG.out.trans g)
          clear g
          go_wp2_with fail
          refine (cmp_bad ny y nx x _ hy hx BAD2.out).mono ?_
          rintro e w7 ⟨rfl, g⟩
          have x0 := g.keeps x0
          have x1 := g.keeps x1
          have y0 := g.keeps y0
          have y1 := g.keeps y1
          have HG := Lib.hid (HG.out.trans g)
          clear g
          have HGC := HG
          go_wp2_with fail
          refine (shown_of HDIV.out _ (HT.out.later HGC.out)).mono ?_
          rintro e w9 ⟨rfl, g⟩
          have HG := Lib.hid (HGC.out.trans g)
          clear g
          go_wp2_with fail
          go_ret
          exact ⟨rfl, HG.out⟩
        · have t8 : (cc == 0) = false := hcc
          have x0 := g.keeps x0
          have x1 := g.keeps x1
          have y0 := g.keeps y0
          have y1 := g.keeps y1
          have HG := Lib.hid (HG.out.trans g)
          clear g
          have x0w4 := (Gr.new w4 (.cells #[.bool false, .string ⟨#[]⟩] 23)).keeps x0
          have x1w4 := (Gr.new w4 (.cells #[.bool false, .string ⟨#[]⟩] 23)).keeps x1
          have y0w4 := (Gr.new w4 (.cells #[.bool false, .string ⟨#[]⟩] 23)).keeps y0
          have y1w4 := (Gr.new w4 (.cells #[.bool false, .string ⟨#[]⟩] 23)).keeps y1
          have nxw4 : ¬ (w.heap.size = w4.heap.size) := ne_of_cell x0
          have nxw4s : ¬ (w4.heap.size = w.heap.size) := fun e => nxw4 e.symm
          have nyw4 : ¬ (w.heap.size + 1 = w4.heap.size) := ne_of_cell y0
          have nyw4s : ¬ (w4.heap.size = w.heap.size + 1) := fun e => nyw4 e.symm
          go_wp2_with fail
          have g := Gr.new w4 (.cells #[.bool false, .string ⟨#[]⟩] 23)
          have x0 := g.keeps x0
          have x1 := g.keeps x1
          have y0 := g.keeps y0
          have y1 := g.keeps y1
          have HG := Lib.hid (HG.out.trans g)
          clear g
          refine (cmp_bad nx x ny y _ hx hy BAD.out).mono ?_
          rintro e w6 ⟨rfl, g⟩
          have x0 := g.keeps x0
          have x1 := g.keeps x1
          have y0 := g.keeps y0
          have y1 := g.keeps y1
          have HG := Lib.hid (HG.out.trans g)
          clear g
          go_wp2_with fail
          refine (cmp_bad ny y nx x _ hy hx BAD2.out).mono ?_
          rintro e w7 ⟨rfl, g⟩
          have x0 := g.keeps x0
          have x1 := g.keeps x1
          have y0 := g.keeps y0
          have y1 := g.keeps y1
          have HG := Lib.hid (HG.out.trans g)
          clear g
          have HGC := HG
          go_wp2_with fail
          refine (shown_of HDIV.out _ (HT.out.later HGC.out)).mono ?_
          rintro e w9 ⟨rfl, g⟩
          have HG := Lib.hid (HGC.out.trans g)
          clear g
          go_wp2_with fail
          go_ret
          exact ⟨rfl, HG.out⟩
    · have HNF := Lib.hid hf
      have BAD := Lib.hid (show ¬ (Form nx x ∧ Form ny y) from fun h => hf h.1)
      have BAD2 := Lib.hid (show ¬ (Form ny y ∧ Form nx x) from fun h => hf h.2)
      clear hf
      go_wp2_with fail
      refine (text_bad nx x _ hx HNF.out).mono ?_
      rintro e w2 ⟨rfl, g⟩
      have x0 := g.keeps x0
      have x1 := g.keeps x1
      have y0 := g.keeps y0
      have y1 := g.keeps y1
      have HG := Lib.hid (HG.out.trans g)
      clear g
      go_wp2_with fail
      refine (valid_any nx x _ hx).mono ?_
      rintro e w3 ⟨r, rfl, hr, g⟩
      obtain rfl : r = false := by cases r; rfl; exact absurd (hr.1 rfl) HNF.out
      clear hr
      have x0 := g.keeps x0
      have x1 := g.keeps x1
      have y0 := g.keeps y0
      have y1 := g.keeps y1
      have HG := Lib.hid (HG.out.trans g)
      clear g
      go_wp2_with fail
      refine (read_S S _ (by omega)).mono ?_
      rintro e w4 (⟨z, hz, htx, rfl, g⟩ | ⟨cc, hcc, rfl, g⟩)
      · have HZ := Lib.hid hz
        have HTX := Lib.hid htx
        clear hz htx
        have x0 := g.keeps x0
        have x1 := g.keeps x1
        have y0 := g.keeps y0
        have y1 := g.keeps y1
        have HG := Lib.hid (HG.out.trans g)
        clear g
        have x0w4 := (Gr.new w4 (.cells #[.bool (decide (z < 0)), .string (bstr z.natAbs)] 23)).keeps x0
        have x1w4 := (Gr.new w4 (.cells #[.bool (decide (z < 0)), .string (bstr z.natAbs)] 23)).keeps x1
        have y0w4 := (Gr.new w4 (.cells #[.bool (decide (z < 0)), .string (bstr z.natAbs)] 23)).keeps y0
        have y1w4 := (Gr.new w4 (.cells #[.bool (decide (z < 0)), .string (bstr z.natAbs)] 23)).keeps y1
        have nxw4 : ¬ (w.heap.size = w4.heap.size) := ne_of_cell x0
        have nxw4s : ¬ (w4.heap.size = w.heap.size) := fun e => nxw4 e.symm
        have nyw4 : ¬ (w.heap.size + 1 = w4.heap.size) := ne_of_cell y0
        have nyw4s : ¬ (w4.heap.size = w.heap.size + 1) := fun e => nyw4 e.symm
        go_wp2_with fail
        have g := Gr.new w4 (.cells #[.bool (decide (z < 0)), .string (bstr z.natAbs)] 23)
        have x0 := g.keeps x0
        have x1 := g.keeps x1
        have y0 := g.keeps y0
        have y1 := g.keeps y1
        have HG := Lib.hid (HG.out.trans g)
        clear g
        refine (text_ok _ _ _ (form_bstr z HZ.out) (HT.out.later HG.out)).mono ?_
        rintro e w5 ⟨rfl, g⟩
        rw [zOf_bstr, HTX.out]
        have x0 := g.keeps x0
        have x1 := g.keeps x1
        have y0 := g.keeps y0
        have y1 := g.keeps y1
        have HG := Lib.hid (HG.out.trans g)
        clear g
        go_wp2_with fail
        refine (cmp_bad nx x ny y _ hx hy BAD.out).mono ?_
        rintro e w6 ⟨rfl, g⟩
        have x0 := g.keeps x0
        have x1 := g.keeps x1
        have y0 := g.keeps y0
        have y1 := g.keeps y1
        have HG := Lib.hid (HG.out.trans g)
        clear g
        go_wp2_with fail
        refine (cmp_bad ny y nx x _ hy hx BAD2.out).mono ?_
        rintro e w7 ⟨rfl, g⟩
        have x0 := g.keeps x0
        have x1 := g.keeps x1
        have y0 := g.keeps y0
        have y1 := g.keeps y1
        have HG := Lib.hid (HG.out.trans g)
        clear g
        have HGC := HG
        go_wp2_with fail
        refine (shown_of HDIV.out _ (HT.out.later HGC.out)).mono ?_
        rintro e w9 ⟨rfl, g⟩
        have HG := Lib.hid (HGC.out.trans g)
        clear g
        go_wp2_with fail
        go_ret
        exact ⟨rfl, HG.out⟩
      · have t8 : (cc == 0) = false := hcc
        have x0 := g.keeps x0
        have x1 := g.keeps x1
        have y0 := g.keeps y0
        have y1 := g.keeps y1
        have HG := Lib.hid (HG.out.trans g)
        clear g
        have x0w4 := (Gr.new w4 (.cells #[.bool false, .string ⟨#[]⟩] 23)).keeps x0
        have x1w4 := (Gr.new w4 (.cells #[.bool false, .string ⟨#[]⟩] 23)).keeps x1
        have y0w4 := (Gr.new w4 (.cells #[.bool false, .string ⟨#[]⟩] 23)).keeps y0
        have y1w4 := (Gr.new w4 (.cells #[.bool false, .string ⟨#[]⟩] 23)).keeps y1
        have nxw4 : ¬ (w.heap.size = w4.heap.size) := ne_of_cell x0
        have nxw4s : ¬ (w4.heap.size = w.heap.size) := fun e => nxw4 e.symm
        have nyw4 : ¬ (w.heap.size + 1 = w4.heap.size) := ne_of_cell y0
        have nyw4s : ¬ (w4.heap.size = w.heap.size + 1) := fun e => nyw4 e.symm
        go_wp2_with fail
        have g := Gr.new w4 (.cells #[.bool false, .string ⟨#[]⟩] 23)
        have x0 := g.keeps x0
        have x1 := g.keeps x1
        have y0 := g.keeps y0
        have y1 := g.keeps y1
        have HG := Lib.hid (HG.out.trans g)
        clear g
        refine (cmp_bad nx x ny y _ hx hy BAD.out).mono ?_
        rintro e w6 ⟨rfl, g⟩
        have x0 := g.keeps x0
        have x1 := g.keeps x1
        have y0 := g.keeps y0
        have y1 := g.keeps y1
        have HG := Lib.hid (HG.out.trans g)
        clear g
        go_wp2_with fail
        refine (cmp_bad ny y nx x _ hy hx BAD2.out).mono ?_
        rintro e w7 ⟨rfl, g⟩
        have x0 := g.keeps x0
        have x1 := g.keeps x1
        have y0 := g.keeps y0
        have y1 := g.keeps y1
        have HG := Lib.hid (HG.out.trans g)
        clear g
        have HGC := HG
        go_wp2_with fail
        refine (shown_of HDIV.out _ (HT.out.later HGC.out)).mono ?_
        rintro e w9 ⟨rfl, g⟩
        have HG := Lib.hid (HGC.out.trans g)
        clear g
        go_wp2_with fail
        go_ret
        exact ⟨rfl, HG.out⟩
end Go.Proofs.YtgalgldnhdiggaaDoor

