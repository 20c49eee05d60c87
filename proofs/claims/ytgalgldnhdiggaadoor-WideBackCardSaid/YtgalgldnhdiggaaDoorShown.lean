/- shown: the calls at fixed arguments. -/
import Derived.Test.YtgalgldnhdiggaaDoorGreat
import Derived.Test.YtgalgldnhdiggaaDoorShl
import Derived.Test.YtgalgldnhdiggaaDoorOf
import Derived.Deep.RegionHeld3
namespace Go.Proofs.YtgalgldnhdiggaaDoor
open Go.RowKit
set_option linter.unusedVariables false

def Div3 (a : Bool) (s : ByteArray) (b : Bool) (t : ByteArray) (c : Int) (w : World) (e : Ending) (w' : World) : Prop := e = .returned (.tuple #[.agg #[.bool a, .string s], .agg #[.bool b, .string t], .int .i64 c]) ∧ Gr w w'
/-- What is to be shown of Div. -/
def DivOK : Prop := ∀ (neg : Bool) (s : ByteArray) (neg' : Bool) (s' : ByteArray) (w : World), Form neg s → Form neg' s' → zOf neg' s' ≠ 0 →
  Calls Tryd.prog 30 #[.agg #[.bool neg, .string s], .agg #[.bool neg', .string s']] w (Div3 (fNeg (zOf neg s / zOf neg' s')) (fStr (zOf neg s / zOf neg' s')) (fNeg (zOf neg s % zOf neg' s')) (fStr (zOf neg s % zOf neg' s')) 0 w)

theorem lit_R (z : Int) (h : z.natAbs < 4294967296) : z.natAbs < Ow.R := by
  rw [Ow.R_digits]
  exact Nat.lt_of_lt_of_le (show z.natAbs < 4294967296 ^ 1 by simpa using h) (Nat.pow_le_pow_right (by omega) (by omega))
theorem lit_form (z : Int) (n : Bool) (m : Nat) (h : m < 4294967296) (hn : n = decide (z < 0)) (hm : m = z.natAbs) : Form n (bstr m) := by
  subst hn hm; exact form_bstr z (lit_R z h)
theorem lit_z (z : Int) (n : Bool) (m : Nat) (hn : n = decide (z < 0)) (hm : m = z.natAbs) : zOf n (bstr m) = z := by
  subst hn hm; exact zOf_bstr z
theorem res_lit (z : Int) (n : Bool) (m : Nat) (h : m < 4294967296) (hn : n = decide (z < 0)) (hm : m = z.natAbs) : fNeg z = n ∧ fStr z = bstr m ∧ fErr z = 0 := by
  subst hn hm; exact ⟨fNeg_in (lit_R z h), fStr_in (lit_R z h), fErr_in (lit_R z h)⟩
theorem of_lit (z : Int) (n : Bool) (m : Nat) (h : m < 4294967296) (hn : n = decide (z < 0)) (hm : m = z.natAbs) (w : World) : Calls Tryd.prog 12 #[.int .i64 z] w (One n (bstr m) w) := by
  subst hn hm; exact of_any z w (by omega) (by omega)
theorem read_12 (w : World) : Calls Tryd.prog 16 #[.string ⟨#[45, 49, 50]⟩] w (Res true (bstr 12) 0 w) := by
  refine (read_any [45, 49, 50] w (by simp)).mono ?_
  have hg : Good (Lib.hasPrefix [45, 49, 50] [45]) (Lib.trimPrefix [45, 49, 50] [45]) := by
    refine ⟨by decide, ?_, by decide⟩
    intro b hb
    have hb : b ∈ [(49 : UInt8), 50] := hb
    simp only [List.mem_cons, List.not_mem_nil, or_false] at hb
    rcases hb with rfl | rfl <;> decide
  have hz : sg (Lib.hasPrefix [45, 49, 50] [45]) (Ow.dval (Lib.trimPrefix [45, 49, 50] [45])) = -12 := by decide
  rintro e w' (⟨_, h⟩ | ⟨h, _⟩)
  · obtain ⟨a, b, c⟩ := res_lit (-12) true 12 (by omega) rfl rfl
    rw [hz, a, b, c] at h
    exact h
  · exact absurd hg h
theorem text_12 (w : World) (htab : Tab w) : Calls Tryd.prog 18 #[.agg #[.bool true, .string (bstr 12)]] w fun e w' => e = .returned (.tuple #[.string ⟨#[45, 49, 50]⟩, .int .i64 0]) ∧ Gr w w' := by
  refine (text_ok true (bstr 12) w (lit_form (-12) true 12 (by omega) rfl rfl) htab).mono ?_
  rintro e w' ⟨rfl, g⟩
  rw [lit_z (-12) true 12 rfl rfl]
  refine ⟨?_, g⟩
  have e : textOf (-12) = [45, 49, 50] := by
    unfold textOf
    rw [if_pos (by omega), show (-12 : Int).natAbs = 12 from rfl, Lib.decDigits_two (by omega) (by omega)]
    rfl
  rw [e]
theorem div_lit (hdiv : DivOK) (w : World) : Calls Tryd.prog 30 #[.agg #[.bool true, .string (bstr 7)], .agg #[.bool true, .string (bstr 2)]] w (Div3 false (bstr 4) false (bstr 1) 0 w) := by
  have h := hdiv true (bstr 7) true (bstr 2) w (lit_form (-7) true 7 (by omega) rfl rfl) (lit_form (-2) true 2 (by omega) rfl rfl) (by rw [lit_z (-2) true 2 rfl rfl]; omega)
  rw [lit_z (-7) true 7 rfl rfl, lit_z (-2) true 2 rfl rfl, show (-7 : Int) / -2 = 4 from rfl, show (-7 : Int) % -2 = 1 from rfl] at h
  obtain ⟨a, b, _⟩ := res_lit 4 false 4 (by omega) rfl rfl
  obtain ⟨c, d, _⟩ := res_lit 1 false 1 (by omega) rfl rfl
  rw [a, b, c, d] at h
  exact h
theorem le_two_pow {k n : Nat} (h : 32 * n ≤ k) : 4294967296 ^ n ≤ 2 ^ k := by
  rw [show (4294967296 : Nat) = 2 ^ 32 from rfl, ← Nat.pow_mul]
  exact Nat.pow_le_pow_right (by omega) h
theorem shl_out (k : Nat) (hk : 2048 ≤ k) : ¬ ((1 : Int) * ((2 ^ k : Nat) : Int)).natAbs < Ow.R := by
  have h : Ow.R ≤ 2 ^ k := by
    rw [Ow.R_digits]
    exact le_two_pow (by omega)
  rw [Int.one_mul, Int.natAbs_natCast]
  exact Nat.not_lt.2 h
theorem shl_lit (w : World) : Calls Tryd.prog 31 #[.agg #[.bool false, .string (bstr 1)], .int .i64 2048] w (Res false ⟨#[]⟩ 7 w) := by
  have h := shl_ok false (bstr 1) 2048 w (lit_form 1 false 1 (by omega) rfl rfl) (by omega)
  rw [lit_z 1 false 1 rfl rfl] at h
  have hz := shl_out 2048 (by omega)
  rw [fNeg_out hz, fStr_out hz, fErr_out hz] at h
  exact h
theorem bal_lit (w : World) : Calls Tryd.prog 32 #[.agg #[.bool false, .string (bstr 7)], .agg #[.bool false, .string (bstr 4)]] w (Res true (bstr 1) 0 w) := by
  have h := balX_ok false (bstr 7) false (bstr 4) w (lit_form 7 false 7 (by omega) rfl rfl) ⟨lit_form 4 false 4 (by omega) rfl rfl, by rw [lit_z 4 false 4 rfl rfl]; omega⟩ (by rw [bstr_size]; have := (Ow.byt_len (n := 4) (k := 1)).1 (by omega); omega)
  rw [lit_z 7 false 7 rfl rfl, lit_z 4 false 4 rfl rfl, show bal 7 4 = -1 from rfl] at h
  obtain ⟨a, b, c⟩ := res_lit (-1) true 1 (by omega) rfl rfl
  rw [a, b, c] at h
  exact h
theorem bstr_256 : bstr 256 = ⟨#[1, 0]⟩ := by
  have h1 : Ow.byt 1 = [1] := by
    have := Ow.byt_step (M := 0) (b := 1) (by omega) (by omega)
    simpa [Ow.byt_zero] using this
  have h2 : Ow.byt 256 = [1, 0] := by
    have := Ow.byt_step (M := 1) (b := 0) (by omega) (by omega)
    rw [h1] at this
    exact this
  unfold bstr
  rw [h2]
theorem of_256 (w : World) : Calls Tryd.prog 12 #[.int .i64 (-256)] w (One true ⟨#[1, 0]⟩ w) := by
  rw [← bstr_256]; exact of_lit (-256) true 256 (by omega) rfl rfl w

set_option maxRecDepth 100000 in
set_option maxHeartbeats 4000000 in
theorem shown_of (hdiv : DivOK) (w : World) (htab : Tab w) : Calls Tryd.prog 9 #[] w (Truth w) := by
  have HT := Lib.hid htab
  have HDIV := Lib.hid hdiv
  clear htab hdiv
  go_enter Tryd.func9, Tryd.ntmps9
  go_wp2_with fail
  refine (read_12 _).mono ?_
  rintro e w1 ⟨rfl, g⟩
  have HG := Lib.hid g
  clear g
  go_wp2_with fail
  have g : Gr w1 (w1.alloc (.cells #[.bool true, .string (bstr 12)] 23)) := Gr.new _ _
  refine (text_12 _ (HT.out.later (HG.out.trans g))).mono ?_
  rintro e w2 ⟨rfl, g2⟩
  have HG := Lib.hid ((HG.out.trans g).trans g2)
  clear g g2
  go_wp2_with fail
  refine (of_lit (-7) true 7 (by omega) rfl rfl _).mono ?_
  rintro e w3 ⟨rfl, g⟩
  have HG := Lib.hid (HG.out.trans g)
  clear g
  go_wp2_with fail
  refine (of_lit (-2) true 2 (by omega) rfl rfl _).mono ?_
  rintro e w4 ⟨rfl, g⟩
  have HG := Lib.hid (HG.out.trans g)
  clear g
  go_wp2_with fail
  refine (div_lit HDIV.out _).mono ?_
  rintro e w5 ⟨rfl, g⟩
  have HG := Lib.hid (HG.out.trans g)
  clear g
  go_wp2_with fail
  have g0 : Gr w5 ((w5.alloc (.cells #[.bool false, .string (bstr 4)] 23)).alloc (.cells #[.bool false, .string (bstr 1)] 23)) := (Gr.new _ _).alloc _
  refine (of_lit (1) false 1 (by omega) rfl rfl _).mono ?_
  rintro e w6 ⟨rfl, g⟩
  have GG := g
  have g := g0.trans g
  have q0 : w6.cell? ⟨w5.heap.size, 0, none⟩ = some (.bool false) := GG.keeps (by simp [go_sem])
  have q1 : w6.cell? ⟨w5.heap.size, 1, none⟩ = some (.string (bstr 4)) := GG.keeps (by simp [go_sem])
  have r0 : w6.cell? ⟨w5.heap.size + 1, 0, none⟩ = some (.bool false) := GG.keeps (by simp [go_sem])
  have r1 : w6.cell? ⟨w5.heap.size + 1, 1, none⟩ = some (.string (bstr 1)) := GG.keeps (by simp [go_sem])
  have HG := Lib.hid (HG.out.trans g)
  clear g g0 GG
  go_wp2_with fail
  refine (shl_lit _).mono ?_
  rintro e w7 ⟨rfl, g⟩
  have q0 := g.keeps q0
  have q1 := g.keeps q1
  have r0 := g.keeps r0
  have r1 := g.keeps r1
  have HG := Lib.hid (HG.out.trans g)
  clear g
  go_wp2_with fail
  refine (of_lit (7) false 7 (by omega) rfl rfl _).mono ?_
  rintro e w8 ⟨rfl, g⟩
  have g := (Gr.new w7 (.cells #[.bool false, .string ⟨#[]⟩] 23)).trans g
  have q0 := g.keeps q0
  have q1 := g.keeps q1
  have r0 := g.keeps r0
  have r1 := g.keeps r1
  have HG := Lib.hid (HG.out.trans g)
  clear g
  go_wp2_with fail
  refine (of_lit (4) false 4 (by omega) rfl rfl _).mono ?_
  rintro e w9 ⟨rfl, g⟩
  have q0 := g.keeps q0
  have q1 := g.keeps q1
  have r0 := g.keeps r0
  have r1 := g.keeps r1
  have HG := Lib.hid (HG.out.trans g)
  clear g
  go_wp2_with fail
  refine (bal_lit _).mono ?_
  rintro e w10 ⟨rfl, g⟩
  have q0 := g.keeps q0
  have q1 := g.keeps q1
  have r0 := g.keeps r0
  have r1 := g.keeps r1
  have HG := Lib.hid (HG.out.trans g)
  clear g
  go_wp2_with fail
  have gX := Gr.new w10 (.cells #[.bool true, .string (bstr 1)] 23)
  obtain ⟨X, hX⟩ : ∃ X, X = w10.alloc (.cells #[.bool true, .string (bstr 1)] 23) := ⟨_, rfl⟩
  have p0 : X.drew.cell? ⟨w10.heap.size, 0, none⟩ = some (.bool true) := by rw [hX]; simp [go_sem]
  have p1 : X.drew.cell? ⟨w10.heap.size, 1, none⟩ = some (.string (bstr 1)) := by rw [hX]; simp [go_sem]
  rw [← hX] at gX ⊢
  have g : Gr w10 X.drew := Below.drew gX
  have q0 := g.keeps q0
  have q1 := g.keeps q1
  have r0 := g.keeps r0
  have r1 := g.keeps r1
  have HG := Lib.hid (HG.out.trans g)
  clear g gX hX
  have h4 : 4 < 4294967296 := by omega
  have h1 : 1 < 4294967296 := by omega
  go_region_held3 (fun w' => w'.cell? ⟨w5.heap.size, 0, none⟩ = some (.bool false) ∧ w'.cell? ⟨w5.heap.size, 1, none⟩ = some (.string (bstr 4)) ∧ w'.cell? ⟨w5.heap.size + 1, 0, none⟩ = some (.bool false) ∧ w'.cell? ⟨w5.heap.size + 1, 1, none⟩ = some (.string (bstr 1)) ∧ w'.cell? ⟨w10.heap.size, 0, none⟩ = some (.bool true) ∧ w'.cell? ⟨w10.heap.size, 1, none⟩ = some (.string (bstr 1))) (first | exact ⟨q0, q1, r0, r1, p0, p1⟩ | go_keep)
    (first
      | (go_at_call 12; (with_reducible refine (of_lit (4) false 4 h4 rfl rfl _).mono ?_); rintro e w' ⟨rfl, g⟩; have q0 := g.keeps q0; have q1 := g.keeps q1; have r0 := g.keeps r0; have r1 := g.keeps r1; have p0 := g.keeps p0; have p1 := g.keeps p1; have HG := Lib.hid (HG.out.trans g); clear g)
      | (go_at_call 12; (with_reducible refine (of_lit (1) false 1 h1 rfl rfl _).mono ?_); rintro e w' ⟨rfl, g⟩; have q0 := g.keeps q0; have q1 := g.keeps q1; have r0 := g.keeps r0; have r1 := g.keeps r1; have p0 := g.keeps p0; have p1 := g.keeps p1; have HG := Lib.hid (HG.out.trans g); clear g)
      | (go_at_call 12; (with_reducible refine (of_lit (-1) true 1 h1 rfl rfl _).mono ?_); rintro e w' ⟨rfl, g⟩; have q0 := g.keeps q0; have q1 := g.keeps q1; have r0 := g.keeps r0; have r1 := g.keeps r1; have p0 := g.keeps p0; have p1 := g.keeps p1; have HG := Lib.hid (HG.out.trans g); clear g)
      | (go_at_call 12; (with_reducible refine (of_256 _).mono ?_); rintro e w' ⟨rfl, g⟩; have q0 := g.keeps q0; have q1 := g.keeps q1; have r0 := g.keeps r0; have r1 := g.keeps r1; have p0 := g.keeps p0; have p1 := g.keeps p1; have HG := Lib.hid (HG.out.trans g); clear g))
  all_goals
    go_wp2_with fail
    go_ret
    exact ⟨rfl, HG.out⟩
end Go.Proofs.YtgalgldnhdiggaaDoor
