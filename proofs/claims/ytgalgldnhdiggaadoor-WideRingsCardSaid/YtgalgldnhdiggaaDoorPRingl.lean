/- The law WideRings. -/
import Derived.Test.YtgalgldnhdiggaaDoorPRinga
import Derived.Test.YtgalgldnhdiggaaDoorPDivr
import Derived.Deep.RegionHeld3
import Derived.Deep.DeepCutAuto
namespace Go.Proofs.YtgalgldnhdiggaaDoor
open Go.RowKit
set_option linter.unusedVariables false

def Tw (n : Bool) (s : ByteArray) (i : Bool) (w : World) (e : Ending) (w' : World) : Prop := e = .returned (.agg #[.bool n, .string s, .bool i]) ∧ Gr w w'
theorem sum_ex (n : Bool) (s : ByteArray) (i : Bool) (n' : Bool) (s' : ByteArray) (j : Bool) (h : Form n s) (h' : Form n' s') :
    ∃ (m : Bool) (u : ByteArray) (k : Bool), Form m u ∧ k = (i && j && decide ((zOf n s + zOf n' s').natAbs < Ow.R)) ∧ (k = true → i = true ∧ j = true ∧ zOf m u = zOf n s + zOf n' s') ∧ ∀ W, Calls Tryd.prog 27 #[.agg #[.bool n, .string s, .bool i], .agg #[.bool n', .string s', .bool j]] W (Tw m u k W) := by
  refine ⟨_, _, _, (form_cl (zOf n s + zOf n' s')).1, rfl, ?_, fun W => try_sum n s i n' s' j h h' W⟩
  intro hk
  simp only [Bool.and_eq_true, decide_eq_true_eq] at hk
  exact ⟨hk.1.1, hk.1.2, (form_cl _).2 hk.2⟩
theorem product_ex (n : Bool) (s : ByteArray) (i : Bool) (n' : Bool) (s' : ByteArray) (j : Bool) (h : Form n s) (h' : Form n' s') :
    ∃ (m : Bool) (u : ByteArray) (k : Bool), Form m u ∧ k = (i && j && decide ((zOf n s * zOf n' s').natAbs < Ow.R)) ∧ (k = true → i = true ∧ j = true ∧ zOf m u = zOf n s * zOf n' s') ∧ ∀ W, Calls Tryd.prog 29 #[.agg #[.bool n, .string s, .bool i], .agg #[.bool n', .string s', .bool j]] W (Tw m u k W) := by
  refine ⟨_, _, _, (form_cl (zOf n s * zOf n' s')).1, rfl, ?_, fun W => try_product n s i n' s' j h h' W⟩
  intro hk
  simp only [Bool.and_eq_true, decide_eq_true_eq] at hk
  exact ⟨hk.1.1, hk.1.2, (form_cl _).2 hk.2⟩
theorem field_try (b : Bool) (s : ByteArray) (k : Bool) (W : World) : (Instr.field 43 (.agg #[.bool b, .string s, .bool k]) 1).run Tryd.prog W = .ok (.bool k) W := by
  unfold Instr.field
  rw [Sem.run_bind, run_underlying Tryd.underlying43 W]
  simp [part, isAgg, Sem.run_bind, run_underlying Tryd.underlying4, asAgg]
theorem drew_cell (V : World) (p : Addr) : V.drew.cell? p = V.cell? p := rfl
theorem Gr.drw {a b : World} (h : Gr a b) : Gr a b.drew := Below.drew h
theorem six_of {W V : World} (g : Gr W V) {a b c d e f : Value} {p q r s t u : Addr} (h1 : W.cell? p = some a) (h2 : W.cell? q = some b) (h3 : W.cell? r = some c) (h4 : W.cell? s = some d) (h5 : W.cell? t = some e) (h6 : W.cell? u = some f) :
    V.cell? p = some a ∧ V.cell? q = some b ∧ V.cell? r = some c ∧ V.cell? s = some d ∧ V.cell? t = some e ∧ V.cell? u = some f := ⟨g.keeps h1, g.keeps h2, g.keeps h3, g.keeps h4, g.keeps h5, g.keeps h6⟩
def Boxes (X Y : Nat) (nx : Bool) (x : ByteArray) (ny : Bool) (y : ByteArray) (W : World) : Prop := W.cell? ⟨X, 0, none⟩ = some (.bool nx) ∧ W.cell? ⟨X, 1, none⟩ = some (.string x) ∧ W.cell? ⟨Y, 0, none⟩ = some (.bool ny) ∧ W.cell? ⟨Y, 1, none⟩ = some (.string y)
theorem Boxes.later {X Y : Nat} {nx : Bool} {x : ByteArray} {ny : Bool} {y : ByteArray} {W W' : World} (h : Boxes X Y nx x ny y W) (g : Gr W W') : Boxes X Y nx x ny y W' := ⟨g.keeps h.1, g.keeps h.2.1, g.keeps h.2.2.1, g.keeps h.2.2.2⟩
def Try3 (X Y : Nat) (nx : Bool) (x : ByteArray) (ny : Bool) (y : ByteArray) (nz : Bool) (z : ByteArray) (w : World) (p q r : Value) (wx : World) : Prop :=
  ∃ A B C : Nat, p = .pointer (some ⟨A, 0, none⟩) ∧ q = .pointer (some ⟨B, 0, none⟩) ∧ r = .pointer (some ⟨C, 0, none⟩) ∧
  wx.cell? ⟨A, 0, none⟩ = some (.bool nx) ∧ wx.cell? ⟨A, 1, none⟩ = some (.string x) ∧ wx.cell? ⟨A, 2, none⟩ = some (.bool true) ∧
  wx.cell? ⟨B, 0, none⟩ = some (.bool ny) ∧ wx.cell? ⟨B, 1, none⟩ = some (.string y) ∧ wx.cell? ⟨B, 2, none⟩ = some (.bool true) ∧
  wx.cell? ⟨C, 0, none⟩ = some (.bool nz) ∧ wx.cell? ⟨C, 1, none⟩ = some (.string z) ∧ wx.cell? ⟨C, 2, none⟩ = some (.bool true) ∧ Boxes X Y nx x ny y wx ∧ Gr w wx
theorem sizes_3 (w : World) (o1 o2 o3 : Obj) (a b c : Bool) (s t u : ByteArray) (T : TypeId) : Sizes ((((w.alloc o1).alloc o2).alloc o3).alloc (.cells #[.bool a, .string s, .bool b, .string t, .bool c, .string u] T)) (w.heap.size + 1 + 1 + 1) [s, t, u] := by
  intro i hi
  have : i = 0 ∨ i = 1 ∨ i = 2 := by simp at hi; omega
  rcases this with rfl | rfl | rfl <;> simp [go_sem]

set_option maxRecDepth 100000 in
set_option maxHeartbeats 8000000 in
theorem rings_all (hdiv : DivOK) (nx : Bool) (x : ByteArray) (ny : Bool) (y : ByteArray) (nz : Bool) (z : ByteArray) (w : World) (htab : Tab w) (hx : x.size ≤ 9223372036854775807) (hy : y.size ≤ 9223372036854775807) (hz : z.size ≤ 9223372036854775807) :
    Calls Tryd.prog 7 #[.agg #[.bool nx, .string x], .agg #[.bool ny, .string y], .agg #[.bool nz, .string z]] w (Truth w) := by
  have HT := Lib.hid htab
  have HDIV := Lib.hid hdiv
  clear htab hdiv
  go_enter Tryd.func7, Tryd.ntmps7
  go_wp2_with fail
  refine (great_any _ 3 3 [x, y, z] _ rfl (by simp) (by intro s hs; simp only [List.mem_cons, List.not_mem_nil, or_false] at hs; rcases hs with rfl | rfl | rfl <;> assumption) (sizes_3 _ _ _ _ _ _ _ _ _ _ _)).mono ?_
  rintro e w1 ⟨rfl, rfl⟩
  obtain ⟨W, hW⟩ : ∃ W : World, W = ((((w.alloc (.cells #[.bool nx, .string x] 23)).alloc (.cells #[.bool ny, .string y] 23)).alloc (.cells #[.bool nz, .string z] 23)).alloc (.cells #[.bool nx, .string x, .bool ny, .string y, .bool nz, .string z] 23)) := ⟨_, rfl⟩
  rw [← hW]
  have g1 : Gr w W := by rw [hW]; exact (((((Gr.refl _).alloc _).alloc _).alloc _).alloc _)
  have x0 : W.cell? ⟨w.heap.size, 0, none⟩ = some (.bool nx) := by rw [hW]; simp [go_sem]
  have x1 : W.cell? ⟨w.heap.size, 1, none⟩ = some (.string x) := by rw [hW]; simp [go_sem]
  have y0 : W.cell? ⟨w.heap.size + 1, 0, none⟩ = some (.bool ny) := by rw [hW]; simp [go_sem]
  have y1 : W.cell? ⟨w.heap.size + 1, 1, none⟩ = some (.string y) := by rw [hW]; simp [go_sem]
  have z0 : W.cell? ⟨w.heap.size + 1 + 1, 0, none⟩ = some (.bool nz) := by rw [hW]; simp [go_sem]
  have z1 : W.cell? ⟨w.heap.size + 1 + 1, 1, none⟩ = some (.string z) := by rw [hW]; simp [go_sem]
  have l0 : W.cell? ⟨w.heap.size + 1 + 1 + 1, 0, none⟩ = some (.bool nx) := by rw [hW]; simp [go_sem]
  have l1 : W.cell? ⟨w.heap.size + 1 + 1 + 1, 1, none⟩ = some (.string x) := by rw [hW]; simp [go_sem]
  have l2 : W.cell? ⟨w.heap.size + 1 + 1 + 1, 2, none⟩ = some (.bool ny) := by rw [hW]; simp [go_sem]
  have l3 : W.cell? ⟨w.heap.size + 1 + 1 + 1, 3, none⟩ = some (.string y) := by rw [hW]; simp [go_sem]
  have l4 : W.cell? ⟨w.heap.size + 1 + 1 + 1, 4, none⟩ = some (.bool nz) := by rw [hW]; simp [go_sem]
  have l5 : W.cell? ⟨w.heap.size + 1 + 1 + 1, 5, none⟩ = some (.string z) := by rw [hW]; simp [go_sem]
  have hsz : W.heap.size = w.heap.size + 1 + 1 + 1 + 1 := by rw [hW]; simp
  have HG := Lib.hid g1
  have HSZ := Lib.hid hsz
  clear hW g1 hsz
  obtain ⟨gr, hgr⟩ : ∃ b, b = isGreat [x, y, z] := ⟨_, rfl⟩
  rw [← hgr]
  clear hgr l0 l1 l2 l3 l4 l5
  cases gr with
  | true =>
    go_wp2_with fail
    refine (shown_of HDIV.out _ (HT.out.later HG.out)).mono ?_
    rintro e w9 ⟨rfl, g⟩
    have HG := Lib.hid (HG.out.trans g)
    clear g
    go_wp2_with fail
    go_ret
    exact ⟨rfl, HG.out⟩
  | false =>
    go_wp2_with fail
    refine (valid_any nx x _ hx).mono ?_
    rintro e w2 ⟨r, rfl, hr, g⟩
    have x0 := g.keeps x0
    have x1 := g.keeps x1
    have y0 := g.keeps y0
    have y1 := g.keeps y1
    have z0 := g.keeps z0
    have z1 := g.keeps z1
    have HG := Lib.hid (HG.out.trans g)
    clear g
    have HVx := Lib.hid hr
    clear hr
    cases r with
    | false =>
      go_wp2_with fail
      refine (shown_of HDIV.out _ (HT.out.later HG.out)).mono ?_
      rintro e w9 ⟨rfl, g⟩
      have HG := Lib.hid (HG.out.trans g)
      clear g
      go_wp2_with fail
      go_ret
      exact ⟨rfl, HG.out⟩
    | true =>
      go_wp2_with fail
      refine (valid_any ny y _ hy).mono ?_
      rintro e w3 ⟨r, rfl, hr, g⟩
      have x0 := g.keeps x0
      have x1 := g.keeps x1
      have y0 := g.keeps y0
      have y1 := g.keeps y1
      have z0 := g.keeps z0
      have z1 := g.keeps z1
      have HG := Lib.hid (HG.out.trans g)
      clear g
      have HVy := Lib.hid hr
      clear hr
      cases r with
      | false =>
        go_wp2_with fail
        refine (shown_of HDIV.out _ (HT.out.later HG.out)).mono ?_
        rintro e w9 ⟨rfl, g⟩
        have HG := Lib.hid (HG.out.trans g)
        clear g
        go_wp2_with fail
        go_ret
        exact ⟨rfl, HG.out⟩
      | true =>
        go_wp2_with fail
        refine (valid_any nz z _ hz).mono ?_
        rintro e w4 ⟨r, rfl, hr, g⟩
        have x0 := g.keeps x0
        have x1 := g.keeps x1
        have y0 := g.keeps y0
        have y1 := g.keeps y1
        have z0 := g.keeps z0
        have z1 := g.keeps z1
        have HG := Lib.hid (HG.out.trans g)
        clear g
        have HVz := Lib.hid hr
        clear hr
        cases r with
        | false =>
          go_wp2_with fail
          refine (shown_of HDIV.out _ (HT.out.later HG.out)).mono ?_
          rintro e w9 ⟨rfl, g⟩
          have HG := Lib.hid (HG.out.trans g)
          clear g
          go_wp2_with fail
          go_ret
          exact ⟨rfl, HG.out⟩
        | true =>
          have HX := Lib.hid (HVx.out.1 (by simp))
          have HY := Lib.hid (HVy.out.1 (by simp))
          have HZ := Lib.hid (HVz.out.1 (by simp))
          clear HVx HVy HVz
          have HBX := Lib.hid (show Boxes w.heap.size (w.heap.size + 1) nx x ny y w4 from ⟨x0, x1, y0, y1⟩)
          go_upto_region 3 with (fail)
          go_cut [7, 8, 9] (fun p q r wx => Try3 w.heap.size (w.heap.size + 1) nx x ny y nz z w p q r wx)
          case first =>
            go_region_held3 (fun w' => w'.cell? ⟨w.heap.size, 0, none⟩ = some (.bool nx) ∧ w'.cell? ⟨w.heap.size, 1, none⟩ = some (.string x) ∧ w'.cell? ⟨w.heap.size + 1, 0, none⟩ = some (.bool ny) ∧ w'.cell? ⟨w.heap.size + 1, 1, none⟩ = some (.string y) ∧ w'.cell? ⟨w.heap.size + 1 + 1, 0, none⟩ = some (.bool nz) ∧ w'.cell? ⟨w.heap.size + 1 + 1, 1, none⟩ = some (.string z)) (first | exact ⟨x0, x1, y0, y1, z0, z1⟩ | (refine six_of ?_ x0 x1 y0 y1 z0 z1; repeat (first | exact Gr.refl _ | refine Gr.drw ?_ | refine Gr.alloc ?_ _ | refine Gr.setCell ?_ (by first | simp | omega) _)))
              (fail)
            all_goals
              go_wp2_with fail
              go_meet
              refine ⟨_, _, _, rfl, rfl, rfl, ?_, ?_, ?_, ?_, ?_, ?_, ?_, ?_, ?_, HBX.out.later ?_, HG.out.trans ?_⟩
              any_goals (exact Gr.drw (((Gr.new _ _).alloc _).alloc _))
              all_goals (rw [drew_cell]; simp [go_sem])
          case rest =>
            obtain ⟨A, B, C, rfl, rfl, rfl, a0, a1, a2, b0, b1, b2, c0, c1, c2, hbx, g⟩ := hcut
            have HBX := Lib.hid hbx
            have HG := Lib.hid g
            clear hbx g x0 x1 y0 y1 z0 z1
            obtain ⟨n1, s1, k1, f1, d1, e1, h1⟩ := sum_ex _ _ true _ _ true HX.out HY.out
            have F1 := Lib.hid f1
            have D1 := Lib.hid d1
            have E1 := Lib.hid e1
            have H1 := Lib.hid h1
            clear f1 d1 e1 h1
            obtain ⟨n2, s2, k2, f2, d2, e2, h2⟩ := sum_ex _ _ true _ _ true HY.out HX.out
            have F2 := Lib.hid f2
            have D2 := Lib.hid d2
            have E2 := Lib.hid e2
            have H2 := Lib.hid h2
            clear f2 d2 e2 h2
            obtain ⟨n3, s3, k3, f3, d3, e3, h3⟩ := sum_ex _ _ k1 _ _ true F1.out HZ.out
            have F3 := Lib.hid f3
            have D3 := Lib.hid d3
            have E3 := Lib.hid e3
            have H3 := Lib.hid h3
            clear f3 d3 e3 h3
            obtain ⟨n4, s4, k4, f4, d4, e4, h4⟩ := sum_ex _ _ true _ _ true HY.out HZ.out
            have F4 := Lib.hid f4
            have D4 := Lib.hid d4
            have E4 := Lib.hid e4
            have H4 := Lib.hid h4
            clear f4 d4 e4 h4
            obtain ⟨n5, s5, k5, f5, d5, e5, h5⟩ := sum_ex _ _ true _ _ k4 HX.out F4.out
            have F5 := Lib.hid f5
            have D5 := Lib.hid d5
            have E5 := Lib.hid e5
            have H5 := Lib.hid h5
            clear f5 d5 e5 h5
            obtain ⟨n6, s6, k6, f6, d6, e6, h6⟩ := product_ex _ _ true _ _ true HX.out HY.out
            have F6 := Lib.hid f6
            have D6 := Lib.hid d6
            have E6 := Lib.hid e6
            have H6 := Lib.hid h6
            clear f6 d6 e6 h6
            obtain ⟨n7, s7, k7, f7, d7, e7, h7⟩ := product_ex _ _ true _ _ true HY.out HX.out
            have F7 := Lib.hid f7
            have D7 := Lib.hid d7
            have E7 := Lib.hid e7
            have H7 := Lib.hid h7
            clear f7 d7 e7 h7
            obtain ⟨n8, s8, k8, f8, d8, e8, h8⟩ := product_ex _ _ k6 _ _ true F6.out HZ.out
            have F8 := Lib.hid f8
            have D8 := Lib.hid d8
            have E8 := Lib.hid e8
            have H8 := Lib.hid h8
            clear f8 d8 e8 h8
            obtain ⟨n9, s9, k9, f9, d9, e9, h9⟩ := product_ex _ _ true _ _ true HY.out HZ.out
            have F9 := Lib.hid f9
            have D9 := Lib.hid d9
            have E9 := Lib.hid e9
            have H9 := Lib.hid h9
            clear f9 d9 e9 h9
            obtain ⟨n10, s10, k10, f10, d10, e10, h10⟩ := product_ex _ _ true _ _ k9 HX.out F9.out
            have F10 := Lib.hid f10
            have D10 := Lib.hid d10
            have E10 := Lib.hid e10
            have H10 := Lib.hid h10
            clear f10 d10 e10 h10
            obtain ⟨n11, s11, k11, f11, d11, e11, h11⟩ := product_ex _ _ true _ _ k4 HX.out F4.out
            have F11 := Lib.hid f11
            have D11 := Lib.hid d11
            have E11 := Lib.hid e11
            have H11 := Lib.hid h11
            clear f11 d11 e11 h11
            obtain ⟨n12, s12, k12, f12, d12, e12, h12⟩ := product_ex _ _ true _ _ true HX.out HZ.out
            have F12 := Lib.hid f12
            have D12 := Lib.hid d12
            have E12 := Lib.hid e12
            have H12 := Lib.hid h12
            clear f12 d12 e12 h12
            obtain ⟨n13, s13, k13, f13, d13, e13, h13⟩ := sum_ex _ _ k6 _ _ k12 F6.out F12.out
            have F13 := Lib.hid f13
            have D13 := Lib.hid d13
            have E13 := Lib.hid e13
            have H13 := Lib.hid h13
            clear f13 d13 e13 h13
            have same12 : k1 = k2 := by rw [D1.out, D2.out, Int.add_comm]
            have same67 : k6 = k7 := by rw [D6.out, D7.out, Int.mul_comm]
            subst same12 same67
            have Q12 := Lib.hid (try_equal n1 s1 k1 n2 s2 k1 (fun h h' => form_same F1.out F2.out (by rw [(E1.out h).2.2, (E2.out h').2.2, Int.add_comm])))
            have Q67 := Lib.hid (try_equal n6 s6 k6 n7 s7 k6 (fun h h' => form_same F6.out F7.out (by rw [(E6.out h).2.2, (E7.out h').2.2, Int.mul_comm])))
            have Q35 := Lib.hid (try_equal n3 s3 k3 n5 s5 k5 (fun h h' => form_same F3.out F5.out (by rw [(E3.out h).2.2, (E5.out h').2.2, (E1.out (E3.out h).1).2.2, (E4.out (E5.out h').2.1).2.2, Int.add_assoc])))
            have Q810 := Lib.hid (try_equal n8 s8 k8 n10 s10 k10 (fun h h' => form_same F8.out F10.out (by rw [(E8.out h).2.2, (E10.out h').2.2, (E6.out (E8.out h).1).2.2, (E9.out (E10.out h').2.1).2.2, Int.mul_assoc])))
            have Q1113 := Lib.hid (try_equal n11 s11 k11 n13 s13 k13 (fun h h' => form_same F11.out F13.out (by rw [(E11.out h).2.2, (E13.out h').2.2, (E4.out (E11.out h).2.1).2.2, (E6.out (E13.out h').1).2.2, (E12.out (E13.out h').2.1).2.2, Int.mul_add])))
            have HSUB := Lib.hid (show k1 = true → ∀ W, Calls Tryd.prog 22 #[.agg #[.bool n1, .string s1], .agg #[.bool ny, .string y]] W (Res nx x 0 W) from fun h W => by
              have h1 := sub_ok n1 s1 ny y W F1.out HY.out
              have e : zOf n1 s1 - zOf ny y = zOf nx x := by rw [(E1.out h).2.2]; omega
              rw [e, fNeg_in (form_range HX.out), fStr_in (form_range HX.out), fErr_in (form_range HX.out), ← form_neg HX.out, ← form_str HX.out] at h1
              exact h1)
            clear D1 D2 D3 D4 D5 D6 D7 D8 D9 D10 D11 D12 D13 E1 E2 E3 E4 E5 E6 E7 E8 E9 E10 E11 E12 E13
            have fd1 := field_try n1 s1 k1
            have fd2 := field_try n2 s2 k1
            have fd6 := field_try n6 s6 k6
            have fd7 := field_try n7 s7 k6
            go_wp2_with fail
            have HBX := Lib.hid (HBX.out.later (Gr.drw (Gr.refl _)))
            have HG := Lib.hid (HG.out.drw)
            go_region_held3 (fun w' => w'.cell? ⟨A, 0, none⟩ = some (.bool nx) ∧ w'.cell? ⟨A, 1, none⟩ = some (.string x) ∧ w'.cell? ⟨A, 2, none⟩ = some (.bool true) ∧ w'.cell? ⟨B, 0, none⟩ = some (.bool ny) ∧ w'.cell? ⟨B, 1, none⟩ = some (.string y) ∧ w'.cell? ⟨B, 2, none⟩ = some (.bool true) ∧ w'.cell? ⟨C, 0, none⟩ = some (.bool nz) ∧ w'.cell? ⟨C, 1, none⟩ = some (.string z) ∧ w'.cell? ⟨C, 2, none⟩ = some (.bool true)) (first | exact ⟨a0, a1, a2, b0, b1, b2, c0, c1, c2⟩ | go_keep)
              (first
                | (go_at_call 27; (with_reducible refine (H1.out _).mono ?_); rintro e w' ⟨rfl, g⟩; have a0 := g.keeps a0; have a1 := g.keeps a1; have a2 := g.keeps a2; have b0 := g.keeps b0; have b1 := g.keeps b1; have b2 := g.keeps b2; have c0 := g.keeps c0; have c1 := g.keeps c1; have c2 := g.keeps c2; have HBX := Lib.hid (HBX.out.later g); have HG := Lib.hid (HG.out.trans g); clear g)
                | (go_at_call 27; (with_reducible refine (H2.out _).mono ?_); rintro e w' ⟨rfl, g⟩; have a0 := g.keeps a0; have a1 := g.keeps a1; have a2 := g.keeps a2; have b0 := g.keeps b0; have b1 := g.keeps b1; have b2 := g.keeps b2; have c0 := g.keeps c0; have c1 := g.keeps c1; have c2 := g.keeps c2; have HBX := Lib.hid (HBX.out.later g); have HG := Lib.hid (HG.out.trans g); clear g)
                | (go_at_call 28; (with_reducible refine (Q12.out _).mono ?_); rintro e w' ⟨rfl, g⟩; have a0 := g.keeps a0; have a1 := g.keeps a1; have a2 := g.keeps a2; have b0 := g.keeps b0; have b1 := g.keeps b1; have b2 := g.keeps b2; have c0 := g.keeps c0; have c1 := g.keeps c1; have c2 := g.keeps c2; have HBX := Lib.hid (HBX.out.later g); have HG := Lib.hid (HG.out.trans g); clear g)
                | (go_at_call 29; (with_reducible refine (H6.out _).mono ?_); rintro e w' ⟨rfl, g⟩; have a0 := g.keeps a0; have a1 := g.keeps a1; have a2 := g.keeps a2; have b0 := g.keeps b0; have b1 := g.keeps b1; have b2 := g.keeps b2; have c0 := g.keeps c0; have c1 := g.keeps c1; have c2 := g.keeps c2; have HBX := Lib.hid (HBX.out.later g); have HG := Lib.hid (HG.out.trans g); clear g)
                | (go_at_call 29; (with_reducible refine (H7.out _).mono ?_); rintro e w' ⟨rfl, g⟩; have a0 := g.keeps a0; have a1 := g.keeps a1; have a2 := g.keeps a2; have b0 := g.keeps b0; have b1 := g.keeps b1; have b2 := g.keeps b2; have c0 := g.keeps c0; have c1 := g.keeps c1; have c2 := g.keeps c2; have HBX := Lib.hid (HBX.out.later g); have HG := Lib.hid (HG.out.trans g); clear g)
                | (go_at_call 28; (with_reducible refine (Q67.out _).mono ?_); rintro e w' ⟨rfl, g⟩; have a0 := g.keeps a0; have a1 := g.keeps a1; have a2 := g.keeps a2; have b0 := g.keeps b0; have b1 := g.keeps b1; have b2 := g.keeps b2; have c0 := g.keeps c0; have c1 := g.keeps c1; have c2 := g.keeps c2; have HBX := Lib.hid (HBX.out.later g); have HG := Lib.hid (HG.out.trans g); clear g))
            clear fd1 fd2 fd6 fd7
            go_wp2_with fail
            have HBX := Lib.hid (HBX.out.later (Gr.drw (Gr.refl _)))
            have HG := Lib.hid (HG.out.drw)
            go_region_held3 (fun w' => w'.cell? ⟨A, 0, none⟩ = some (.bool nx) ∧ w'.cell? ⟨A, 1, none⟩ = some (.string x) ∧ w'.cell? ⟨A, 2, none⟩ = some (.bool true) ∧ w'.cell? ⟨B, 0, none⟩ = some (.bool ny) ∧ w'.cell? ⟨B, 1, none⟩ = some (.string y) ∧ w'.cell? ⟨B, 2, none⟩ = some (.bool true) ∧ w'.cell? ⟨C, 0, none⟩ = some (.bool nz) ∧ w'.cell? ⟨C, 1, none⟩ = some (.string z) ∧ w'.cell? ⟨C, 2, none⟩ = some (.bool true)) (first | exact ⟨a0, a1, a2, b0, b1, b2, c0, c1, c2⟩ | go_keep)
              (first
                | (go_at_call 27; (with_reducible refine (H1.out _).mono ?_); rintro e w' ⟨rfl, g⟩; have a0 := g.keeps a0; have a1 := g.keeps a1; have a2 := g.keeps a2; have b0 := g.keeps b0; have b1 := g.keeps b1; have b2 := g.keeps b2; have c0 := g.keeps c0; have c1 := g.keeps c1; have c2 := g.keeps c2; have HBX := Lib.hid (HBX.out.later g); have HG := Lib.hid (HG.out.trans g); clear g)
                | (go_at_call 27; (with_reducible refine (H3.out _).mono ?_); rintro e w' ⟨rfl, g⟩; have a0 := g.keeps a0; have a1 := g.keeps a1; have a2 := g.keeps a2; have b0 := g.keeps b0; have b1 := g.keeps b1; have b2 := g.keeps b2; have c0 := g.keeps c0; have c1 := g.keeps c1; have c2 := g.keeps c2; have HBX := Lib.hid (HBX.out.later g); have HG := Lib.hid (HG.out.trans g); clear g)
                | (go_at_call 27; (with_reducible refine (H4.out _).mono ?_); rintro e w' ⟨rfl, g⟩; have a0 := g.keeps a0; have a1 := g.keeps a1; have a2 := g.keeps a2; have b0 := g.keeps b0; have b1 := g.keeps b1; have b2 := g.keeps b2; have c0 := g.keeps c0; have c1 := g.keeps c1; have c2 := g.keeps c2; have HBX := Lib.hid (HBX.out.later g); have HG := Lib.hid (HG.out.trans g); clear g)
                | (go_at_call 27; (with_reducible refine (H5.out _).mono ?_); rintro e w' ⟨rfl, g⟩; have a0 := g.keeps a0; have a1 := g.keeps a1; have a2 := g.keeps a2; have b0 := g.keeps b0; have b1 := g.keeps b1; have b2 := g.keeps b2; have c0 := g.keeps c0; have c1 := g.keeps c1; have c2 := g.keeps c2; have HBX := Lib.hid (HBX.out.later g); have HG := Lib.hid (HG.out.trans g); clear g)
                | (go_at_call 28; (with_reducible refine (Q35.out _).mono ?_); rintro e w' ⟨rfl, g⟩; have a0 := g.keeps a0; have a1 := g.keeps a1; have a2 := g.keeps a2; have b0 := g.keeps b0; have b1 := g.keeps b1; have b2 := g.keeps b2; have c0 := g.keeps c0; have c1 := g.keeps c1; have c2 := g.keeps c2; have HBX := Lib.hid (HBX.out.later g); have HG := Lib.hid (HG.out.trans g); clear g)
                | (go_at_call 29; (with_reducible refine (H6.out _).mono ?_); rintro e w' ⟨rfl, g⟩; have a0 := g.keeps a0; have a1 := g.keeps a1; have a2 := g.keeps a2; have b0 := g.keeps b0; have b1 := g.keeps b1; have b2 := g.keeps b2; have c0 := g.keeps c0; have c1 := g.keeps c1; have c2 := g.keeps c2; have HBX := Lib.hid (HBX.out.later g); have HG := Lib.hid (HG.out.trans g); clear g)
                | (go_at_call 29; (with_reducible refine (H8.out _).mono ?_); rintro e w' ⟨rfl, g⟩; have a0 := g.keeps a0; have a1 := g.keeps a1; have a2 := g.keeps a2; have b0 := g.keeps b0; have b1 := g.keeps b1; have b2 := g.keeps b2; have c0 := g.keeps c0; have c1 := g.keeps c1; have c2 := g.keeps c2; have HBX := Lib.hid (HBX.out.later g); have HG := Lib.hid (HG.out.trans g); clear g)
                | (go_at_call 29; (with_reducible refine (H9.out _).mono ?_); rintro e w' ⟨rfl, g⟩; have a0 := g.keeps a0; have a1 := g.keeps a1; have a2 := g.keeps a2; have b0 := g.keeps b0; have b1 := g.keeps b1; have b2 := g.keeps b2; have c0 := g.keeps c0; have c1 := g.keeps c1; have c2 := g.keeps c2; have HBX := Lib.hid (HBX.out.later g); have HG := Lib.hid (HG.out.trans g); clear g)
                | (go_at_call 29; (with_reducible refine (H10.out _).mono ?_); rintro e w' ⟨rfl, g⟩; have a0 := g.keeps a0; have a1 := g.keeps a1; have a2 := g.keeps a2; have b0 := g.keeps b0; have b1 := g.keeps b1; have b2 := g.keeps b2; have c0 := g.keeps c0; have c1 := g.keeps c1; have c2 := g.keeps c2; have HBX := Lib.hid (HBX.out.later g); have HG := Lib.hid (HG.out.trans g); clear g)
                | (go_at_call 28; (with_reducible refine (Q810.out _).mono ?_); rintro e w' ⟨rfl, g⟩; have a0 := g.keeps a0; have a1 := g.keeps a1; have a2 := g.keeps a2; have b0 := g.keeps b0; have b1 := g.keeps b1; have b2 := g.keeps b2; have c0 := g.keeps c0; have c1 := g.keeps c1; have c2 := g.keeps c2; have HBX := Lib.hid (HBX.out.later g); have HG := Lib.hid (HG.out.trans g); clear g))
            go_wp2_with fail
            have HBX := Lib.hid (HBX.out.later (Gr.drw (Gr.refl _)))
            have HG := Lib.hid (HG.out.drw)
            go_region_held3 (fun w' => w'.cell? ⟨A, 0, none⟩ = some (.bool nx) ∧ w'.cell? ⟨A, 1, none⟩ = some (.string x) ∧ w'.cell? ⟨A, 2, none⟩ = some (.bool true) ∧ w'.cell? ⟨B, 0, none⟩ = some (.bool ny) ∧ w'.cell? ⟨B, 1, none⟩ = some (.string y) ∧ w'.cell? ⟨B, 2, none⟩ = some (.bool true) ∧ w'.cell? ⟨C, 0, none⟩ = some (.bool nz) ∧ w'.cell? ⟨C, 1, none⟩ = some (.string z) ∧ w'.cell? ⟨C, 2, none⟩ = some (.bool true)) (first | exact ⟨a0, a1, a2, b0, b1, b2, c0, c1, c2⟩ | go_keep)
              (first
                | (go_at_call 27; (with_reducible refine (H4.out _).mono ?_); rintro e w' ⟨rfl, g⟩; have a0 := g.keeps a0; have a1 := g.keeps a1; have a2 := g.keeps a2; have b0 := g.keeps b0; have b1 := g.keeps b1; have b2 := g.keeps b2; have c0 := g.keeps c0; have c1 := g.keeps c1; have c2 := g.keeps c2; have HBX := Lib.hid (HBX.out.later g); have HG := Lib.hid (HG.out.trans g); clear g)
                | (go_at_call 29; (with_reducible refine (H11.out _).mono ?_); rintro e w' ⟨rfl, g⟩; have a0 := g.keeps a0; have a1 := g.keeps a1; have a2 := g.keeps a2; have b0 := g.keeps b0; have b1 := g.keeps b1; have b2 := g.keeps b2; have c0 := g.keeps c0; have c1 := g.keeps c1; have c2 := g.keeps c2; have HBX := Lib.hid (HBX.out.later g); have HG := Lib.hid (HG.out.trans g); clear g)
                | (go_at_call 29; (with_reducible refine (H6.out _).mono ?_); rintro e w' ⟨rfl, g⟩; have a0 := g.keeps a0; have a1 := g.keeps a1; have a2 := g.keeps a2; have b0 := g.keeps b0; have b1 := g.keeps b1; have b2 := g.keeps b2; have c0 := g.keeps c0; have c1 := g.keeps c1; have c2 := g.keeps c2; have HBX := Lib.hid (HBX.out.later g); have HG := Lib.hid (HG.out.trans g); clear g)
                | (go_at_call 29; (with_reducible refine (H12.out _).mono ?_); rintro e w' ⟨rfl, g⟩; have a0 := g.keeps a0; have a1 := g.keeps a1; have a2 := g.keeps a2; have b0 := g.keeps b0; have b1 := g.keeps b1; have b2 := g.keeps b2; have c0 := g.keeps c0; have c1 := g.keeps c1; have c2 := g.keeps c2; have HBX := Lib.hid (HBX.out.later g); have HG := Lib.hid (HG.out.trans g); clear g)
                | (go_at_call 27; (with_reducible refine (H13.out _).mono ?_); rintro e w' ⟨rfl, g⟩; have a0 := g.keeps a0; have a1 := g.keeps a1; have a2 := g.keeps a2; have b0 := g.keeps b0; have b1 := g.keeps b1; have b2 := g.keeps b2; have c0 := g.keeps c0; have c1 := g.keeps c1; have c2 := g.keeps c2; have HBX := Lib.hid (HBX.out.later g); have HG := Lib.hid (HG.out.trans g); clear g)
                | (go_at_call 28; (with_reducible refine (Q1113.out _).mono ?_); rintro e w' ⟨rfl, g⟩; have a0 := g.keeps a0; have a1 := g.keeps a1; have a2 := g.keeps a2; have b0 := g.keeps b0; have b1 := g.keeps b1; have b2 := g.keeps b2; have c0 := g.keeps c0; have c1 := g.keeps c1; have c2 := g.keeps c2; have HBX := Lib.hid (HBX.out.later g); have HG := Lib.hid (HG.out.trans g); clear g))
            go_wp2_with fail
            refine (H1.out _).mono ?_
            rintro e w5 ⟨rfl, g⟩
            have HBX := Lib.hid (HBX.out.later g)
            have HG := Lib.hid (HG.out.trans g)
            clear g
            cases k1 with
            | false =>
              have HG := Lib.hid (HG.out.alloc (.cells #[.bool n1, .string s1, .bool false] 43))
              go_wp2_with fail
              refine (shown_of HDIV.out _ (HT.out.later HG.out)).mono ?_
              rintro e w9 ⟨rfl, g⟩
              have HG := Lib.hid (HG.out.trans g)
              clear g
              go_wp2_with fail
              go_ret
              exact ⟨rfl, HG.out⟩
            | true =>
              have gA := Gr.new w5 (.cells #[.bool n1, .string s1, .bool true] 43)
              have HBX := Lib.hid (HBX.out.later gA)
              have HG := Lib.hid (HG.out.trans gA)
              have y0 := HBX.out.2.2.1
              have y1 := HBX.out.2.2.2
              clear gA
              go_wp2_with fail
              refine (HSUB.out (by simp) _).mono ?_
              rintro e w6 ⟨rfl, g⟩
              have HBX := Lib.hid (HBX.out.later g)
              have HG := Lib.hid (HG.out.trans g)
              have gA := Gr.new w6 (.cells #[.bool nx, .string x] 23)
              have HBX := Lib.hid (HBX.out.later gA)
              have HG := Lib.hid (HG.out.trans gA)
              have x0 := HBX.out.1
              have x1 := HBX.out.2.1
              clear g gA y0 y1
              go_wp2_with fail
              refine (shown_of HDIV.out _ (HT.out.later HG.out)).mono ?_
              rintro e w9 ⟨rfl, g⟩
              have HG := Lib.hid (HG.out.trans g)
              clear g
              go_wp2_with fail
              go_ret
              exact ⟨rfl, HG.out⟩
end Go.Proofs.YtgalgldnhdiggaaDoor

