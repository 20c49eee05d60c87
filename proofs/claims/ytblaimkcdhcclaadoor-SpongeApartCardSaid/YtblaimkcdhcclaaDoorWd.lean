/- round, of the reference. -/
import Derived.Test.YtblaimkcdhcclaaDoorWc
import Derived.Test.YtblaimkcdhcclaaDoorWz
namespace Go.Proofs.YtblaimkcdhcclaaDoor
open Go.RowKit Oz
set_option linter.unusedVariables false
set_option linter.unusedSimpArgs false
/-- The middle step, for the first i words. -/
def ch (x : St) : Nat → St
  | 0 => x
  | 1 => ⟨x.a ^^^ (~~~x.b &&& x.c), x.b, x.c, x.d, x.e⟩
  | 2 => ⟨x.a ^^^ (~~~x.b &&& x.c), x.b ^^^ (~~~x.c &&& x.d), x.c, x.d, x.e⟩
  | 3 => ⟨x.a ^^^ (~~~x.b &&& x.c), x.b ^^^ (~~~x.c &&& x.d), x.c ^^^ (~~~x.d &&& x.e), x.d, x.e⟩
  | 4 => ⟨x.a ^^^ (~~~x.b &&& x.c), x.b ^^^ (~~~x.c &&& x.d), x.c ^^^ (~~~x.d &&& x.e), x.d ^^^ (~~~x.e &&& x.a), x.e⟩
  | _ => s3 x
/-- The last step, for the first i words. -/
def ci (x : St) : Nat → St
  | 0 => x
  | 1 => ⟨lin x.a 19 28, x.b, x.c, x.d, x.e⟩
  | 2 => ⟨lin x.a 19 28, lin x.b 61 39, x.c, x.d, x.e⟩
  | 3 => ⟨lin x.a 19 28, lin x.b 61 39, lin x.c 1 6, x.d, x.e⟩
  | 4 => ⟨lin x.a 19 28, lin x.b 61 39, lin x.c 1 6, lin x.d 10 17, x.e⟩
  | _ => s5 x
set_option maxRecDepth 100000 in
set_option maxHeartbeats 4000000 in
theorem rround_any (a b c d e k : BitVec 64) (w : World) : Calls Tryd.prog 31 #[.agg #[.int .u64 (nv a), .int .u64 (nv b), .int .u64 (nv c), .int .u64 (nv d), .int .u64 (nv e)], .int .u64 (nv k)] w (fun y w' => y = .returned (stv (rnd ⟨a, b, c, d, e⟩ k)) ∧ Gr w w') := by
  have e1 : ∀ x y, bits .xor .u64 (nv x) (nv y) = nv (x ^^^ y) := nv_xor
  have e2 : ∀ x y, bits .and .u64 (nv x) (nv y) = nv (x &&& y) := nv_and
  have e3 : ∀ x, bits .xor .u64 (if IntKind.u64.signed = true then -1 else IntKind.u64.max) (nv x) = nv (~~~x) := nv_not
  obtain ⟨g, hg⟩ : ∃ g, g = w.heap.size := ⟨_, rfl⟩
  go_enter Tryd.func31, Tryd.ntmps31
  go_wp2_with fail
  rw [← hg]
  obtain ⟨W, hW⟩ : ∃ W, W = (((w.alloc (.cells #[.int .u64 (nv (a ^^^ e)), .int .u64 (nv b), .int .u64 (nv (c ^^^ k ^^^ b)), .int .u64 (nv d), .int .u64 (nv (e ^^^ d))] 23)).alloc (.cells #[.int .u64 0, .int .u64 0, .int .u64 0, .int .u64 0, .int .u64 0] 23)).alloc (.cells #[.int .u64 (nv (a ^^^ e)), .int .u64 (nv b), .int .u64 (nv (c ^^^ k ^^^ b)), .int .u64 (nv d), .int .u64 (nv (e ^^^ d))] 23)) := ⟨_, rfl⟩
  rw [← hW]
  obtain ⟨A, hA⟩ : ∃ A, A = a ^^^ e := ⟨_, rfl⟩
  obtain ⟨C, hC⟩ : ∃ C, C = c ^^^ k ^^^ b := ⟨_, rfl⟩
  obtain ⟨E, hE⟩ : ∃ E, E = e ^^^ d := ⟨_, rfl⟩
  have HX := Lib.hid (show Arr W g A b C d E from by rw [hW, hA, hC, hE]; exact ((Arr.new hg).later (Gr.new _ _)).later (Gr.new _ _))
  have HY := Lib.hid (show Arr W (g + 1 + 1) A b C d E from by rw [hW, hA, hC, hE]; exact Arr.new (by simp; omega))
  have HR := Lib.hid (show ∃ o : BitVec 64, o = 0 ∧ Arr W (g + 1) o o o o o from ⟨0, rfl, by rw [hW]; exact (Arr.new (W := w.alloc _) (by simp; omega)).later (Gr.new _ _)⟩)
  rw [← hA, ← hC, ← hE]
  have HSX := Lib.hid (show s2 (s1 ⟨a, b, c, d, e⟩ k) = ⟨A, b, C, d, E⟩ from St.eq hA.symm rfl hC.symm rfl hE.symm)
  have HRG := Lib.hid (show Gr w W ∧ w.heap.size = g from ⟨by rw [hW]; exact (((Gr.refl w).alloc _).alloc _).alloc _, hg.symm⟩)
  clear hW hA hC hE hg
  go_loopw [6] (fun x wr => ∃ i : Nat, x = .int .i64 (i : Nat) ∧ i ≤ 5 ∧ Arr wr g A b C d E ∧ Arr wr (g + 1 + 1) (ch ⟨A, b, C, d, E⟩ i).a (ch ⟨A, b, C, d, E⟩ i).b (ch ⟨A, b, C, d, E⟩ i).c (ch ⟨A, b, C, d, E⟩ i).d (ch ⟨A, b, C, d, E⟩ i).e ∧ (∃ o : BitVec 64, o = 0 ∧ Arr wr (g + 1) o o o o o) ∧ Gr w wr) (fun x _ => 5 - (intOf x).toNat)
  case atStart => exact ⟨0, rfl, by omega, HX.out, HY.out, HR.out, HRG.out.1⟩
  case round =>
    obtain ⟨i, rfl, hi, hx, hy, ⟨o, ho, hr⟩, hg⟩ := hrel
    have HX1 := Lib.hid hx
    have HY1 := Lib.hid hy
    have HR1 := Lib.hid hr
    have HG1 := Lib.hid hg
    have hcs : i = 0 ∨ i = 1 ∨ i = 2 ∨ i = 3 ∨ i = 4 ∨ i = 5 := by omega
    rcases hcs with rfl | rfl | rfl | rfl | rfl | h5
    · have x0 := hx.c0
      have x1 := hx.c1
      have x2 := hx.c2
      have x3 := hx.c3
      have x4 := hx.c4
      have y0 := hy.c0
      have f0 := hy.fz 0
      clear hx hy hr hg
      go_wp2_with fail
      go_region
      go_wp2_with fail
      go_roundw
      case rel => exact ⟨1, rfl, by omega, (HX1.out.other (by show g + 1 + 1 ≠ g; omega) _).drew, (HY1.out.set0 _).drew, ⟨o, ho, (HR1.out.other (by show g + 1 + 1 ≠ g + 1; omega) _).drew⟩, (HG1.out.setCell (by show w.heap.size ≤ g + 1 + 1; have := HRG.out.2; omega) _).drewN 1⟩
      case measure => simp [intOf]
    · have x0 := hx.c0
      have x1 := hx.c1
      have x2 := hx.c2
      have x3 := hx.c3
      have x4 := hx.c4
      have y0 := hy.c1
      have f0 := hy.fz 1
      clear hx hy hr hg
      go_wp2_with fail
      go_region
      go_wp2_with fail
      go_roundw
      case rel => exact ⟨2, rfl, by omega, (HX1.out.other (by show g + 1 + 1 ≠ g; omega) _).drew, (HY1.out.set1 _).drew, ⟨o, ho, (HR1.out.other (by show g + 1 + 1 ≠ g + 1; omega) _).drew⟩, (HG1.out.setCell (by show w.heap.size ≤ g + 1 + 1; have := HRG.out.2; omega) _).drewN 1⟩
      case measure => simp [intOf]
    · have x0 := hx.c0
      have x1 := hx.c1
      have x2 := hx.c2
      have x3 := hx.c3
      have x4 := hx.c4
      have y0 := hy.c2
      have f0 := hy.fz 2
      clear hx hy hr hg
      go_wp2_with fail
      go_region
      go_wp2_with fail
      go_roundw
      case rel => exact ⟨3, rfl, by omega, (HX1.out.other (by show g + 1 + 1 ≠ g; omega) _).drew, (HY1.out.set2 _).drew, ⟨o, ho, (HR1.out.other (by show g + 1 + 1 ≠ g + 1; omega) _).drew⟩, (HG1.out.setCell (by show w.heap.size ≤ g + 1 + 1; have := HRG.out.2; omega) _).drewN 1⟩
      case measure => simp [intOf]
    · have x0 := hx.c0
      have x1 := hx.c1
      have x2 := hx.c2
      have x3 := hx.c3
      have x4 := hx.c4
      have y0 := hy.c3
      have f0 := hy.fz 3
      clear hx hy hr hg
      go_wp2_with fail
      go_region
      go_wp2_with fail
      go_roundw
      case rel => exact ⟨4, rfl, by omega, (HX1.out.other (by show g + 1 + 1 ≠ g; omega) _).drew, (HY1.out.set3 _).drew, ⟨o, ho, (HR1.out.other (by show g + 1 + 1 ≠ g + 1; omega) _).drew⟩, (HG1.out.setCell (by show w.heap.size ≤ g + 1 + 1; have := HRG.out.2; omega) _).drewN 1⟩
      case measure => simp [intOf]
    · have x0 := hx.c0
      have x1 := hx.c1
      have x2 := hx.c2
      have x3 := hx.c3
      have x4 := hx.c4
      have y0 := hy.c4
      have f0 := hy.fz 4
      clear hx hy hr hg
      go_wp2_with fail
      go_region
      go_wp2_with fail
      go_roundw
      case rel => exact ⟨5, rfl, by omega, (HX1.out.other (by show g + 1 + 1 ≠ g; omega) _).drew, (HY1.out.set4 _).drew, ⟨o, ho, (HR1.out.other (by show g + 1 + 1 ≠ g + 1; omega) _).drew⟩, (HG1.out.setCell (by show w.heap.size ≤ g + 1 + 1; have := HRG.out.2; omega) _).drewN 1⟩
      case measure => simp [intOf]
    · obtain ⟨m0, hm0⟩ : ∃ m, m = (s3 ⟨A, b, C, d, E⟩).a := ⟨_, rfl⟩
      obtain ⟨m1, hm1⟩ : ∃ m, m = (s3 ⟨A, b, C, d, E⟩).b := ⟨_, rfl⟩
      obtain ⟨m2, hm2⟩ : ∃ m, m = (s3 ⟨A, b, C, d, E⟩).c := ⟨_, rfl⟩
      obtain ⟨m3, hm3⟩ : ∃ m, m = (s3 ⟨A, b, C, d, E⟩).d := ⟨_, rfl⟩
      obtain ⟨m4, hm4⟩ : ∃ m, m = (s3 ⟨A, b, C, d, E⟩).e := ⟨_, rfl⟩
      have hy2 : Arr wr (g + 1 + 1) m0 m1 m2 m3 m4 := by subst h5; rw [hm0, hm1, hm2, hm3, hm4]; exact hy
      have h5i : ¬ (i : Int) < 5 := by omega
      obtain ⟨i5, hi5⟩ : ∃ i5, i5 = i := ⟨_, rfl⟩
      subst hi5
      have HM := Lib.hid (show s3 ⟨A, b, C, d, E⟩ = ⟨m0, m1, m2, m3, m4⟩ from St.eq hm0.symm hm1.symm hm2.symm hm3.symm hm4.symm)
      have y0 := hy2.c0
      have y1 := hy2.c1
      have y2 := hy2.c2
      have y3 := hy2.c3
      have y4 := hy2.c4
      have f0 := hy2.fz 0
      have f1 := hy2.fz 1
      have f2 := hy2.fz 2
      have f3 := hy2.fz 3
      have f4 := hy2.fz 4
      have HY2 := Lib.hid hy2
      clear hx hy hr hg hm0 hm1 hm2 hm3 hm4 hy2 HY1 h5
      go_wp2_with fail
      obtain ⟨T, hT⟩ : ∃ T, T = wr.heap.size := ⟨_, rfl⟩
      obtain ⟨W1, hW1⟩ : ∃ W1, W1 = (((((wr.setCell ⟨g + 1 + 1, 0, none⟩ (.int .u64 (nv (m0 ^^^ m4)))).setCell ⟨g + 1 + 1, 1, none⟩ (.int .u64 (nv (m1 ^^^ m0)))).setCell ⟨g + 1 + 1, 2, none⟩ (.int .u64 (nv (~~~m2)))).setCell ⟨g + 1 + 1, 3, none⟩ (.int .u64 (nv (m3 ^^^ m2)))).setCell ⟨g + 1 + 1, 4, none⟩ (.int .u64 (nv m4))) := ⟨_, rfl⟩
      rw [← hW1, ← hT]
      have hT1 : T = W1.heap.size := by rw [hW1, hT]; simp
      obtain ⟨W2, hW2⟩ : ∃ W2, W2 = W1.alloc (.cells #[.int .i64 19, .int .i64 28, .int .i64 61, .int .i64 39, .int .i64 1, .int .i64 6, .int .i64 10, .int .i64 17, .int .i64 7, .int .i64 41] 67) := ⟨_, rfl⟩
      rw [← hW2]
      have HN1 := Lib.hid (show Arr W1 (g + 1 + 1) (m0 ^^^ m4) (m1 ^^^ m0) (~~~m2) (m3 ^^^ m2) m4 from by rw [hW1]; exact ((((HY2.out.set0 _).set1 _).set2 _).set3 _).set4 _)
      have HR2 := Lib.hid (show Arr W1 (g + 1) o o o o o from by
        rw [hW1]
        have hne : ∀ i, (⟨g + 1 + 1, i, none⟩ : Addr).block ≠ g + 1 := fun i => by show g + 1 + 1 ≠ g + 1; omega
        exact ((((HR1.out.other (hne 0) _).other (hne 1) _).other (hne 2) _).other (hne 3) _).other (hne 4) _)
      have HG2 := Lib.hid (show Gr w W1 from by
        rw [hW1]
        have hle : ∀ i, w.heap.size ≤ (⟨g + 1 + 1, i, none⟩ : Addr).block := fun i => by show w.heap.size ≤ g + 1 + 1; have := HRG.out.2; omega
        exact ((((HG1.out.setCell (hle 0) _).setCell (hle 1) _).setCell (hle 2) _).setCell (hle 3) _).setCell (hle 4) _)
      have HN2 := Lib.hid (show Arr W2 (g + 1 + 1) (m0 ^^^ m4) (m1 ^^^ m0) (~~~m2) (m3 ^^^ m2) m4 from by rw [hW2]; exact HN1.out.later (Gr.new _ _))
      have HR3 := Lib.hid (show Arr W2 (g + 1) o o o o o from by rw [hW2]; exact HR2.out.later (Gr.new _ _))
      have HG3 := Lib.hid (show Gr w W2 from by rw [hW2]; exact HG2.out.alloc _)
      have HTR := Lib.hid (show Trn W2 T from by rw [hW2]; exact Trn.new hT1)
      have HTY := Lib.hid (show g + 1 + 1 < T from by have := HN1.out.lt; omega)
      obtain ⟨n0, hn0⟩ : ∃ n, n = m0 ^^^ m4 := ⟨_, rfl⟩
      obtain ⟨n1, hn1⟩ : ∃ n, n = m1 ^^^ m0 := ⟨_, rfl⟩
      obtain ⟨n2, hn2⟩ : ∃ n, n = ~~~m2 := ⟨_, rfl⟩
      obtain ⟨n3, hn3⟩ : ∃ n, n = m3 ^^^ m2 := ⟨_, rfl⟩
      rw [← hn0, ← hn1, ← hn2, ← hn3] at HN2 ⊢
      have HS4 := Lib.hid (show s4 ⟨m0, m1, m2, m3, m4⟩ = ⟨n0, n1, n2, n3, m4⟩ from St.eq hn0.symm hn1.symm hn2.symm hn3.symm rfl)
      clear hT hW1 hT1 hW2 hn0 hn1 hn2 hn3 y0 y1 y2 y3 y4 f0 f1 f2 f3 f4
      go_loopw [8] (fun x wq => ∃ i : Nat, x = .int .i64 (i : Nat) ∧ i ≤ 5 ∧ Arr wq (g + 1 + 1) (ci ⟨n0, n1, n2, n3, m4⟩ i).a (ci ⟨n0, n1, n2, n3, m4⟩ i).b (ci ⟨n0, n1, n2, n3, m4⟩ i).c (ci ⟨n0, n1, n2, n3, m4⟩ i).d (ci ⟨n0, n1, n2, n3, m4⟩ i).e ∧ Arr wq (g + 1) o o o o o ∧ Trn wq T ∧ Gr w wq) (fun x _ => 5 - (intOf x).toNat)
      case atStart => exact ⟨0, rfl, by omega, HN2.out, HR3.out, HTR.out, HG3.out⟩
      case round =>
        obtain ⟨i, rfl, hi, hy, hr, ht, hg⟩ := hrel
        have HY4 := Lib.hid hy
        have HR4 := Lib.hid hr
        have HT4 := Lib.hid ht
        have HG4 := Lib.hid hg
        have hcase : i < 5 ∨ ¬ i < 5 := Classical.em _
        rcases hcase with hc | hc
        · obtain ⟨p, q, v, hp0, hp, hq0, hq, hv, ht0, ht1, hcl⟩ : ∃ p q : Nat, ∃ v : BitVec 64, 0 < p ∧ p < 64 ∧ 0 < q ∧ q < 64 ∧ wr.cell? ⟨g + 1 + 1, i, none⟩ = some (.int .u64 (nv v)) ∧ wr.cell? ⟨T, i * 2, none⟩ = some (.int .i64 (p : Nat)) ∧ wr.cell? ⟨T, i * 2 + 1, none⟩ = some (.int .i64 (q : Nat)) ∧
              (∀ m, Arr ((wr.setCell ⟨g + 1 + 1, i, none⟩ (.int .u64 (nv (v ^^^ rotr v p ^^^ rotr v q)))).drewN m) (g + 1 + 1) (ci ⟨n0, n1, n2, n3, m4⟩ (i + 1)).a (ci ⟨n0, n1, n2, n3, m4⟩ (i + 1)).b (ci ⟨n0, n1, n2, n3, m4⟩ (i + 1)).c (ci ⟨n0, n1, n2, n3, m4⟩ (i + 1)).d (ci ⟨n0, n1, n2, n3, m4⟩ (i + 1)).e) := by
            have hcs : i = 0 ∨ i = 1 ∨ i = 2 ∨ i = 3 ∨ i = 4 := by omega
            rcases hcs with rfl | rfl | rfl | rfl | rfl
            · exact ⟨19, 28, n0, by omega, by omega, by omega, by omega, hy.c0, ht.c 0 (by omega), ht.c 1 (by omega), fun m => (hy.set0 _).later ((Gr.refl _).drewN m)⟩
            · exact ⟨61, 39, n1, by omega, by omega, by omega, by omega, hy.c1, ht.c 2 (by omega), ht.c 3 (by omega), fun m => (hy.set1 _).later ((Gr.refl _).drewN m)⟩
            · exact ⟨1, 6, n2, by omega, by omega, by omega, by omega, hy.c2, ht.c 4 (by omega), ht.c 5 (by omega), fun m => (hy.set2 _).later ((Gr.refl _).drewN m)⟩
            · exact ⟨10, 17, n3, by omega, by omega, by omega, by omega, hy.c3, ht.c 6 (by omega), ht.c 7 (by omega), fun m => (hy.set3 _).later ((Gr.refl _).drewN m)⟩
            · exact ⟨7, 41, m4, by omega, by omega, by omega, by omega, hy.c4, ht.c 8 (by omega), ht.c 9 (by omega), fun m => (hy.set4 _).later ((Gr.refl _).drewN m)⟩
          have hci : (i : Int) < 5 := by omega
          have hf := hy.fz i
          have hne : g + 1 + 1 ≠ T := by have := HTY.out; omega
          have HC0 := Lib.hid (fun w => rrot_any v p hp0 hp w)
          have HC1 := Lib.hid (fun w => rrot_any v q hq0 hq w)
          have HCL := Lib.hid hcl
          clear hy hr hg ht hcl hp0 hp hq0 hq
          go_wp2_with fail
          refine Oy.region_but (fun wz => wz.cell? ⟨g + 1 + 1, i, none⟩ = some (.int .u64 (nv v)) ∧ wz.cell? ⟨T, i * 2, none⟩ = some (.int .i64 (p : Nat)) ∧ wz.cell? ⟨T, i * 2 + 1, none⟩ = some (.int .i64 (q : Nat))) 23 (by kernel_rfl) ?_
          have hHeld : (fun wz : World => wz.cell? ⟨g + 1 + 1, i, none⟩ = some (.int .u64 (nv v)) ∧ wz.cell? ⟨T, i * 2, none⟩ = some (.int .i64 (p : Nat)) ∧ wz.cell? ⟨T, i * 2 + 1, none⟩ = some (.int .i64 (q : Nat))) _ := ⟨hv, ht0, ht1⟩
          show Oy.AnyBut _ _ _ _ _ _ 24 #[false, false, false, false, false, false, false, false, false, false, false, false, false, false, false, false, false, false, false, false, false, false, false, false] _ _
          refine Oy.AnyBut.take (i := 0) (v := ?_) rfl (by kernel_rfl) (by kernel_rfl) (fun _ _ _ h => h) (by kernel_rfl) (by kernel_rfl) (_root_.Or.inl ⟨by rfl, ?_⟩) hHeld ?_
          rotate_left
          · intro w0 hSw; (try dsimp only at hSw); go_simp; try with_reducible rfl
          try simp only [Act.put, List.setIfInBounds_toArray, List.set_cons_zero, List.set_cons_succ]
          refine Oy.AnyBut.take (i := 1) (v := ?_) rfl (by kernel_rfl) (by kernel_rfl) (fun _ _ _ h => h) (by kernel_rfl) (by kernel_rfl) (_root_.Or.inl ⟨by rfl, ?_⟩) hHeld ?_
          rotate_left
          · intro w0 hSw; (try dsimp only at hSw); go_simp; try with_reducible rfl
          try simp only [Act.put, List.setIfInBounds_toArray, List.set_cons_zero, List.set_cons_succ]
          refine Oy.AnyBut.take (i := 2) (v := ?_) rfl (by kernel_rfl) (by kernel_rfl) (fun _ _ _ h => h) (by kernel_rfl) (by kernel_rfl) (_root_.Or.inl ⟨by rfl, ?_⟩) hHeld ?_
          rotate_left
          · intro w0 hSw; (try dsimp only at hSw); go_simp; try with_reducible rfl
          try simp only [Act.put, List.setIfInBounds_toArray, List.set_cons_zero, List.set_cons_succ]
          refine Oy.AnyBut.take (i := 3) (v := ?_) rfl (by kernel_rfl) (by kernel_rfl) (fun _ _ _ h => h) (by kernel_rfl) (by kernel_rfl) (_root_.Or.inl ⟨by rfl, ?_⟩) hHeld ?_
          rotate_left
          · intro w0 hSw; (try dsimp only at hSw); go_simp; try with_reducible rfl
          try simp only [Act.put, List.setIfInBounds_toArray, List.set_cons_zero, List.set_cons_succ]
          refine Oy.AnyBut.take (i := 4) (v := ?_) rfl (by kernel_rfl) (by kernel_rfl) (fun _ _ _ h => h) (by kernel_rfl) (by kernel_rfl) (_root_.Or.inl ⟨by rfl, ?_⟩) hHeld ?_
          rotate_left
          · intro w0 hSw; (try dsimp only at hSw); go_simp; try with_reducible rfl
          try simp only [Act.put, List.setIfInBounds_toArray, List.set_cons_zero, List.set_cons_succ]
          refine Oy.AnyBut.take (i := 5) (v := ?_) rfl (by kernel_rfl) (by kernel_rfl) (fun _ _ _ h => h) (by kernel_rfl) (by kernel_rfl) (_root_.Or.inl ⟨by rfl, ?_⟩) hHeld ?_
          rotate_left
          · intro w0 hSw; (try dsimp only at hSw); go_simp; try with_reducible rfl
          try simp only [Act.put, List.setIfInBounds_toArray, List.set_cons_zero, List.set_cons_succ]
          refine Oy.AnyBut.take (i := 6) (v := ?_) rfl (by kernel_rfl) (by kernel_rfl) (fun _ _ _ h => h) (by kernel_rfl) (by kernel_rfl) (_root_.Or.inl ⟨by rfl, ?_⟩) hHeld ?_
          rotate_left
          · intro w0 hSw; (try dsimp only at hSw); go_simp; try with_reducible rfl
          try simp only [Act.put, List.setIfInBounds_toArray, List.set_cons_zero, List.set_cons_succ]
          refine Oy.AnyBut.take (i := 7) (v := ?_) rfl (by kernel_rfl) (by kernel_rfl) (fun _ _ _ h => h) (by kernel_rfl) (by kernel_rfl) (_root_.Or.inl ⟨by rfl, ?_⟩) hHeld ?_
          rotate_left
          · intro w0 hSw; (try dsimp only at hSw); go_simp; try with_reducible rfl
          try simp only [Act.put, List.setIfInBounds_toArray, List.set_cons_zero, List.set_cons_succ]
          refine Oy.AnyBut.take (i := 8) (v := ?_) rfl (by kernel_rfl) (by kernel_rfl) (fun _ _ _ h => h) (by kernel_rfl) (by kernel_rfl) (_root_.Or.inl ⟨by rfl, ?_⟩) hHeld ?_
          rotate_left
          · intro w0 hSw; (try dsimp only at hSw); go_simp; try with_reducible rfl
          try simp only [Act.put, List.setIfInBounds_toArray, List.set_cons_zero, List.set_cons_succ]
          refine Oy.AnyBut.take (i := 9) (v := ?_) rfl (by kernel_rfl) (by kernel_rfl) (fun _ _ _ h => h) (by kernel_rfl) (by kernel_rfl) (_root_.Or.inl ⟨by rfl, ?_⟩) hHeld ?_
          rotate_left
          · intro w0 hSw; (try dsimp only at hSw); go_simp; try with_reducible rfl
          try simp only [Act.put, List.setIfInBounds_toArray, List.set_cons_zero, List.set_cons_succ]
          refine Oy.AnyBut.take (i := 10) (v := ?_) rfl (by kernel_rfl) (by kernel_rfl) (fun _ _ _ h => h) (by kernel_rfl) (by kernel_rfl) (_root_.Or.inl ⟨by rfl, ?_⟩) hHeld ?_
          rotate_left
          · intro w0 hSw; (try dsimp only at hSw); go_simp; try with_reducible rfl
          try simp only [Act.put, List.setIfInBounds_toArray, List.set_cons_zero, List.set_cons_succ]
          refine Oy.AnyBut.take (i := 13) (v := ?_) rfl (by kernel_rfl) (by kernel_rfl) (fun _ _ _ h => h) (by kernel_rfl) (by kernel_rfl) (_root_.Or.inl ⟨by rfl, ?_⟩) hHeld ?_
          rotate_left
          · intro w0 hSw; (try dsimp only at hSw); go_simp; try with_reducible rfl
          try simp only [Act.put, List.setIfInBounds_toArray, List.set_cons_zero, List.set_cons_succ]
          refine Oy.AnyBut.take (i := 14) (v := ?_) rfl (by kernel_rfl) (by kernel_rfl) (fun _ _ _ h => h) (by kernel_rfl) (by kernel_rfl) (_root_.Or.inl ⟨by rfl, ?_⟩) hHeld ?_
          rotate_left
          · intro w0 hSw; (try dsimp only at hSw); go_simp; try with_reducible rfl
          try simp only [Act.put, List.setIfInBounds_toArray, List.set_cons_zero, List.set_cons_succ]
          refine Oy.AnyBut.take (i := 15) (v := ?_) rfl (by kernel_rfl) (by kernel_rfl) (fun _ _ _ h => h) (by kernel_rfl) (by kernel_rfl) (_root_.Or.inl ⟨by rfl, ?_⟩) hHeld ?_
          rotate_left
          · intro w0 hSw; (try dsimp only at hSw); go_simp; try with_reducible rfl
          try simp only [Act.put, List.setIfInBounds_toArray, List.set_cons_zero, List.set_cons_succ]
          refine Oy.AnyBut.take (i := 16) (v := ?_) rfl (by kernel_rfl) (by kernel_rfl) (fun _ _ _ h => h) (by kernel_rfl) (by kernel_rfl) (_root_.Or.inl ⟨by rfl, ?_⟩) hHeld ?_
          rotate_left
          · intro w0 hSw; (try dsimp only at hSw); go_simp; try with_reducible rfl
          try simp only [Act.put, List.setIfInBounds_toArray, List.set_cons_zero, List.set_cons_succ]
          refine Oy.AnyBut.take (i := 17) (v := ?_) rfl (by kernel_rfl) (by kernel_rfl) (fun _ _ _ h => h) (by kernel_rfl) (by kernel_rfl) (_root_.Or.inl ⟨by rfl, ?_⟩) hHeld ?_
          rotate_left
          · intro w0 hSw; (try dsimp only at hSw); go_simp; try with_reducible rfl
          try simp only [Act.put, List.setIfInBounds_toArray, List.set_cons_zero, List.set_cons_succ]
          refine Oy.AnyBut.take (i := 18) (v := ?_) rfl (by kernel_rfl) (by kernel_rfl) (fun _ _ _ h => h) (by kernel_rfl) (by kernel_rfl) (_root_.Or.inl ⟨by rfl, ?_⟩) hHeld ?_
          rotate_left
          · intro w0 hSw; (try dsimp only at hSw); go_simp; try with_reducible rfl
          try simp only [Act.put, List.setIfInBounds_toArray, List.set_cons_zero, List.set_cons_succ]
          refine Oy.AnyBut.take (i := 19) (v := ?_) rfl (by kernel_rfl) (by kernel_rfl) (fun _ _ _ h => h) (by kernel_rfl) (by kernel_rfl) (_root_.Or.inl ⟨by rfl, ?_⟩) hHeld ?_
          rotate_left
          · intro w0 hSw; (try dsimp only at hSw); go_simp; try with_reducible rfl
          try simp only [Act.put, List.setIfInBounds_toArray, List.set_cons_zero, List.set_cons_succ]
          refine Oy.AnyBut.ready (rs := [11]) (by kernel_rfl) (by simp) ?_
          refine Oy.ReadyBut.cons rfl (fun K hK => ?_) ?_
          · go_simp
            go_at_call 36
            refine (HC0.out _).mono ?_
            rintro q9 w9 ⟨he, hw⟩
            subst he
            subst hw
            go_wp2_with fail
            refine hK.out _ _ ⟨hv, ht0, ht1⟩ ?_
            replace hHeld : (fun wz : World => wz.cell? ⟨g + 1 + 1, i, none⟩ = some (.int .u64 (nv v)) ∧ wz.cell? ⟨T, i * 2, none⟩ = some (.int .i64 (p : Nat)) ∧ wz.cell? ⟨T, i * 2 + 1, none⟩ = some (.int .i64 (q : Nat))) _ := ⟨hv, ht0, ht1⟩
            clear hK K
            try simp only [Act.put, List.setIfInBounds_toArray, List.set_cons_zero, List.set_cons_succ]
            refine Oy.AnyBut.take (i := 12) (v := ?_) rfl (by kernel_rfl) (by kernel_rfl) (fun _ _ _ h => h) (by kernel_rfl) (by kernel_rfl) (_root_.Or.inl ⟨by rfl, ?_⟩) hHeld ?_
            rotate_left
            · intro w0 hSw; (try dsimp only at hSw); go_simp; try with_reducible rfl
            try simp only [Act.put, List.setIfInBounds_toArray, List.set_cons_zero, List.set_cons_succ]
            refine Oy.AnyBut.ready (rs := [20]) (by kernel_rfl) (by simp) ?_
            refine Oy.ReadyBut.cons rfl (fun K hK => ?_) ?_
            · go_simp
              go_at_call 36
              refine (HC1.out _).mono ?_
              rintro q9 w9 ⟨he, hw⟩
              subst he
              subst hw
              go_wp2_with fail
              refine hK.out _ _ ⟨hv, ht0, ht1⟩ ?_
              replace hHeld : (fun wz : World => wz.cell? ⟨g + 1 + 1, i, none⟩ = some (.int .u64 (nv v)) ∧ wz.cell? ⟨T, i * 2, none⟩ = some (.int .i64 (p : Nat)) ∧ wz.cell? ⟨T, i * 2 + 1, none⟩ = some (.int .i64 (q : Nat))) _ := ⟨hv, ht0, ht1⟩
              clear hK K
              try simp only [Act.put, List.setIfInBounds_toArray, List.set_cons_zero, List.set_cons_succ]
              refine Oy.AnyBut.take (i := 21) (v := ?_) rfl (by kernel_rfl) (by kernel_rfl) (fun _ _ _ h => h) (by kernel_rfl) (by kernel_rfl) (_root_.Or.inl ⟨by rfl, ?_⟩) hHeld ?_
              rotate_left
              · intro w0 hSw; (try dsimp only at hSw); go_simp; try with_reducible rfl
              try simp only [Act.put, List.setIfInBounds_toArray, List.set_cons_zero, List.set_cons_succ]
              refine Oy.AnyBut.take (i := 22) (v := ?_) rfl (by kernel_rfl) (by kernel_rfl) (fun _ _ _ h => h) (by kernel_rfl) (by kernel_rfl) (_root_.Or.inl ⟨by rfl, ?_⟩) hHeld ?_
              rotate_left
              · intro w0 hSw; (try dsimp only at hSw); go_simp; try with_reducible rfl
              try simp only [Act.put, List.setIfInBounds_toArray, List.set_cons_zero, List.set_cons_succ]
              refine Oy.AnyBut.ready (rs := [23]) (by kernel_rfl) (by simp) ?_
              refine Oy.ReadyBut.last rfl (fun K hK => ?_)
              go_simp
              refine hK.out _ _ ?_
              clear hK K
              try simp only [Act.put, List.setIfInBounds_toArray, List.set_cons_zero, List.set_cons_succ]
              refine Oy.AnyBut.done (by kernel_rfl) ?_ _
              clear hHeld
              go_wp2_with fail
              go_roundw
              case rel => exact ⟨i + 1, by simp, by omega, HCL.out 3, (HR4.out.other (by show g + 1 + 1 ≠ g + 1; omega) _).later ((Gr.refl _).drewN 3), (HT4.out.other (by show g + 1 + 1 ≠ T; exact hne) _).later ((Gr.refl _).drewN 3), (HG4.out.setCell (by show w.heap.size ≤ g + 1 + 1; have := HRG.out.2; omega) _).drewN 3⟩
              case measure => simp [intOf]; omega
            exact Oy.ReadyBut.nil
          exact Oy.ReadyBut.nil
        · obtain rfl : i = 5 := by omega
          obtain ⟨q0, hq0⟩ : ∃ q, q = (s5 ⟨n0, n1, n2, n3, m4⟩).a := ⟨_, rfl⟩
          obtain ⟨q1, hq1⟩ : ∃ q, q = (s5 ⟨n0, n1, n2, n3, m4⟩).b := ⟨_, rfl⟩
          obtain ⟨q2, hq2⟩ : ∃ q, q = (s5 ⟨n0, n1, n2, n3, m4⟩).c := ⟨_, rfl⟩
          obtain ⟨q3, hq3⟩ : ∃ q, q = (s5 ⟨n0, n1, n2, n3, m4⟩).d := ⟨_, rfl⟩
          obtain ⟨q4, hq4⟩ : ∃ q, q = (s5 ⟨n0, n1, n2, n3, m4⟩).e := ⟨_, rfl⟩
          have hy2 : Arr wr (g + 1 + 1) q0 q1 q2 q3 q4 := by rw [hq0, hq1, hq2, hq3, hq4]; exact hy
          have HQ := Lib.hid (show stv (rnd ⟨a, b, c, d, e⟩ k) = .agg #[.int .u64 (nv q0), .int .u64 (nv q1), .int .u64 (nv q2), .int .u64 (nv q3), .int .u64 (nv q4)] from by
            have e : rnd ⟨a, b, c, d, e⟩ k = ⟨q0, q1, q2, q3, q4⟩ := by
              show s5 (s4 (s3 _)) = _
              rw [HSX.out, HM.out, HS4.out]
              exact St.eq hq0.symm hq1.symm hq2.symm hq3.symm hq4.symm
            rw [e]; rfl)
          clear hq0 hq1 hq2 hq3 hq4
          have y0 := hy2.c0
          have y1 := hy2.c1
          have y2 := hy2.c2
          have y3 := hy2.c3
          have y4 := hy2.c4
          have r0 := hr.c0
          have r1 := hr.c1
          have r2 := hr.c2
          have r3 := hr.c3
          have r4 := hr.c4
          have f0 := hr.fz 0
          have f1 := hr.fz 1
          have f2 := hr.fz 2
          have f3 := hr.fz 3
          have f4 := hr.fz 4
          clear hy hr hg ht hy2
          go_wp2_with fail
          have hle : ∀ i, w.heap.size ≤ (⟨g + 1, i, none⟩ : Addr).block := fun i => by show w.heap.size ≤ g + 1; have := HRG.out.2; omega
          have HGF := Lib.hid (show Gr w (((((wr.setCell ⟨g + 1, 0, none⟩ (.int .u64 (nv q0))).setCell ⟨g + 1, 1, none⟩ (.int .u64 (nv q1))).setCell ⟨g + 1, 2, none⟩ (.int .u64 (nv q2))).setCell ⟨g + 1, 3, none⟩ (.int .u64 (nv q3))).setCell ⟨g + 1, 4, none⟩ (.int .u64 (nv q4))) from ((((HG4.out.setCell (hle 0) _).setCell (hle 1) _).setCell (hle 2) _).setCell (hle 3) _).setCell (hle 4) _)
          have hz : Arr (((((wr.setCell ⟨g + 1, 0, none⟩ (.int .u64 (nv q0))).setCell ⟨g + 1, 1, none⟩ (.int .u64 (nv q1))).setCell ⟨g + 1, 2, none⟩ (.int .u64 (nv q2))).setCell ⟨g + 1, 3, none⟩ (.int .u64 (nv q3))).setCell ⟨g + 1, 4, none⟩ (.int .u64 (nv q4))) (g + 1) q0 q1 q2 q3 q4 := ((((HR4.out.set0 _).set1 _).set2 _).set3 _).set4 _
          generalize (((((wr.setCell ⟨g + 1, 0, none⟩ (.int .u64 (nv q0))).setCell ⟨g + 1, 1, none⟩ (.int .u64 (nv q1))).setCell ⟨g + 1, 2, none⟩ (.int .u64 (nv q2))).setCell ⟨g + 1, 3, none⟩ (.int .u64 (nv q3))).setCell ⟨g + 1, 4, none⟩ (.int .u64 (nv q4))) = WF at HGF hz ⊢
          refine bodyPost_ret (v := .agg #[.int .u64 (nv q0), .int .u64 (nv q1), .int .u64 (nv q2), .int .u64 (nv q3), .int .u64 (nv q4)]) (by simp [results, Tryd.results31, hz.c0, hz.c1, hz.c2, hz.c3, hz.c4, go_sem]) rfl ⟨congrArg Ending.returned HQ.out.symm, HGF.out⟩
end Go.Proofs.YtblaimkcdhcclaaDoor
