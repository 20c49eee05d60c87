/- sponge, of the reference. -/
import Derived.Test.YtblaimkcdhcclaaDoorWe
import Derived.Test.YtblaimkcdhcclaaDoorWf
import Derived.Test.YtblaimkcdhcclaaDoorWh
namespace Go.Proofs.YtblaimkcdhcclaaDoor
open Go.RowKit Oz
set_option linter.unusedVariables false
set_option linter.unusedSimpArgs false
/-- The length of a slice. -/
def lenV : Value → Nat
  | .slice _ n _ => n
  | _ => 0
theorem byte_nv (x : UInt8) : nv (BitVec.ofNat 64 x.toNat) = (x.toNat : Int) := nv_of _ (by have := x.toNat_lt; omega)
theorem rperm_s (s : St) (w : World) : Calls Tryd.prog 22 #[.agg #[.int .u64 (nv s.a), .int .u64 (nv s.b), .int .u64 (nv s.c), .int .u64 (nv s.d), .int .u64 (nv s.e)], .int .i64 12] w (fun y w' => y = .returned (.agg #[.int .u64 (nv (perm s 12).a), .int .u64 (nv (perm s 12).b), .int .u64 (nv (perm s 12).c), .int .u64 (nv (perm s 12).d), .int .u64 (nv (perm s 12).e)]) ∧ Gr w w') :=
  rpermuted_any s 12 (by omega) w
theorem ini_nv (k : Nat) (h : k < 256) : nv (BitVec.ofNat 64 (8026104356937031936 + k)) = 8026104356937031936 + (k : Int) := by
  rw [nv_of _ (by omega)]
  omega
theorem At.other {w : World} {g g' j : Nat} {l : List UInt8} (h : At w ⟨g, 0, none⟩ l) (hne : g ≠ g') (u : Value) : At (w.setCell ⟨g', j, none⟩ u) ⟨g, 0, none⟩ l := fun i x hx => by
  rw [add0, World.cell?_of_block (w := w) (a := ⟨g, i, none⟩) (Below.heap_setCell _ _ _ _ hne), ← add0]
  exact h i x hx
theorem At.later {w w' : World} {g : Nat} {l : List UInt8} (h : At w ⟨g, 0, none⟩ l) (hg : g < w.heap.size) (k : Gr w w') : At w' ⟨g, 0, none⟩ l := fun i x hx => by
  rw [add0, World.cell?_of_block (w := w) (a := ⟨g, i, none⟩) (k.block g hg), ← add0]
  exact h i x hx
theorem nil_str (w : World) : (convert 41 9 (.slice none 0 0)).run Tryd.prog w = .ok (.string ByteArray.empty) w := by
  rw [run_convert_bytes_string (P := Tryd.prog) w 41 9 5 none 0 0 Tryd.underlying41 Tryd.underlying5 Tryd.underlying9]
  simp [Conv.bytesToString]
theorem heap_put5 (w : World) {g k : Nat} (h : k ≠ g) (t : St) : (put5 w g t).heap[k]? = w.heap[k]? := by
  unfold put5
  rw [Below.heap_setCell _ _ _ _ h, Below.heap_setCell _ _ _ _ h, Below.heap_setCell _ _ _ _ h, Below.heap_setCell _ _ _ _ h, Below.heap_setCell _ _ _ _ h]
theorem obyte_nv (x : BitVec 64) (k : Nat) : IntKind.u8.wrap (nv (x >>> (8 * k))) = ((obyte x k).toNat : Int) := by
  unfold obyte nv
  rw [IntKind.wrap_u8, UInt8.toNat_ofNat']
  omega
set_option maxRecDepth 100000 in
set_option maxHeartbeats 8000000 in
theorem rsponge_any (s : ByteArray) (kd n : Nat) (hk : kd < 256) (hn : n ≤ 20000) (hs : s.size ≤ 200000) (w : World) : Calls Tryd.prog 24 #[.string s, .int .u8 (kd : Nat), .int .i64 (n : Nat)] w (fun y w' => y = .returned (.string (spS s kd n)) ∧ Gr w w') := by
  obtain ⟨l, hl⟩ : ∃ l, l = s.data.toList := ⟨_, rfl⟩
  have hll : l.length = s.size := by rw [hl, Array.length_toList]; rfl
  obtain ⟨N, hN⟩ : ∃ N, N = s.size := ⟨_, rfl⟩
  have HL := Lib.hid hl
  have HLL := Lib.hid (show l.length = N from by omega)
  have HCV := Lib.hid (fun w => by have := OwnB.conv w s (by omega); rw [← hl, ← hN] at this; exact this)
  have HIN := Lib.hid (fun w => by have := rperm_s ⟨BitVec.ofNat 64 (8026104356937031936 + kd), 0, 0, 0, 0⟩ w; rw [ini_nv kd hk, ← zero_nv] at this; exact this)
  have hwr : IntKind.u64.wrap (8026104356937031936 + (kd : Int)) = 8026104356937031936 + (kd : Int) := by rw [← ini_nv kd hk]; exact nv_wrap _
  have hwk : IntKind.u64.wrap (kd : Int) = (kd : Int) := by rw [IntKind.wrap_u64]; omega
  obtain ⟨x, hx⟩ : ∃ x, x = perm ⟨BitVec.ofNat 64 (8026104356937031936 + kd), 0, 0, 0, 0⟩ 12 := ⟨_, rfl⟩
  rw [← hx] at HIN
  have HX := Lib.hid (show ini kd = x from by rw [hx]; rfl)
  have hN2 : (N : Int) ≤ 200000 := by omega
  clear hl hll hN hs hx
  go_enter Tryd.func24, Tryd.ntmps24
  go_wp2_with (first | (go_at_call 22; refine (HIN.out _).mono ?_; rintro y w1 ⟨rfl, hg1⟩))
  obtain ⟨g, hg⟩ : ∃ g, g = w1.heap.size := ⟨_, rfl⟩
  obtain ⟨W, hW⟩ : ∃ W, W = w1.alloc (.cells #[.int .u64 (nv x.a), .int .u64 (nv x.b), .int .u64 (nv x.c), .int .u64 (nv x.d), .int .u64 (nv x.e)] 23) := ⟨_, rfl⟩
  rw [← hW, ← hg]
  have HXA := Lib.hid (show ArrS W g x from by rw [hW]; exact Arr.new hg)
  have HG := Lib.hid (show Gr w W ∧ w.heap.size ≤ g ∧ W.heap.size = g + 1 from ⟨by rw [hW]; exact hg1.alloc _, by rw [hg]; exact hg1.size, by rw [hW, hg]; simp⟩)
  clear hW hg hg1
  obtain ⟨cap, row, fr, hcv, hown⟩ := HCV.out W
  rw [hcv]
  have HOW := Lib.hid hown
  have HSZ := Lib.hid (show (W.drew.alloc (.cells row 5 fr)).heap.size = W.heap.size + 1 from by simp)
  have HGW := Lib.hid (show Gr W (W.drew.alloc (.cells row 5 fr)) from (Below.drew (Gr.refl W)).alloc (Nat.le_refl _) _)
  generalize W.drew.alloc (.cells row 5 fr) = W3 at HOW HSZ HGW ⊢
  clear hcv hown
  have HW3 := Lib.hid (show W3.heap.size = g + 2 from by have := HSZ.out; have := HG.out.2.2; omega)
  have HO3 := Lib.hid (show OwnB (W3.alloc (.cells #[.int .u8 128] 5)) (g + 1) (.slice (some ⟨W.heap.size, 0, none⟩) N cap) l from (HOW.out.later (Gr.new _ _)).mono (by have := HG.out.2.2; omega))
  have HA3 := Lib.hid (show At (W3.alloc (.cells #[.int .u8 128] 5)) ⟨W3.heap.size, 0, none⟩ [128] from At.new1 _ _ rfl 128 128 rfl _)
  have HGA := Lib.hid (show Gr w (W3.alloc (.cells #[.int .u8 128] 5)) from (Gr.trans HG.out.1 HGW.out).alloc _)
  have HXA3 := Lib.hid (show ArrS (W3.alloc (.cells #[.int .u8 128] 5)) g x from (HXA.out.later HGW.out).later (Gr.new _ _))
  have HLE1 := Lib.hid (show l.length + [(128 : UInt8)].length ≤ 1000000 from by have := HLL.out; simp; omega)
  have HLE2 := Lib.hid (show g + 1 ≤ (W3.alloc (.cells #[.int .u8 128] 5)).heap.size from by have := HW3.out; simp; omega)
  go_wp2_with (at_builtin; refine wpList_appB rfl (.tmp 20) (.tmp 21) rfl rfl (g + 1) (.slice (some ⟨W.heap.size, 0, none⟩) N cap) l rfl HO3.out ⟨W3.heap.size, 0, none⟩ 1 1 [128] rfl rfl HA3.out (by simp) HLE1.out HLE2.out ?_; intro v4 w4 hown hgrow; (have HO4 := Lib.hid hown); (have HX4 := Lib.hid (show ArrS w4 g x from HXA3.out.same (hgrow.block g HXA3.out.lt (fun e => by have := (HO3.out.lt g e.symm).1; omega)) hgrow.size)); (have HG4 := Lib.hid (show Gr w w4 from OwnB.grown HGA.out HO3.out hgrow (by have := HG.out.2.1; omega))); clear hown hgrow)
  clear HO3 HA3 HGA HXA3 HLE1 HLE2 HW3 HSZ HGW HOW HXA HCV HIN hwr hwk
  have HGL := Lib.hid HG.out.2.1
  have HO5 := Lib.hid (show OwnB w4 (g + 1) v4 (l ++ 128 :: List.replicate 0 0) from HO4.out)
  go_loopw [8] (fun v wr => ∃ z, z ≤ 7 - N % 8 ∧ OwnB wr (g + 1) v (l ++ 128 :: List.replicate z 0) ∧ ArrS wr g x ∧ Gr w wr) (fun v _ => 300000 - lenV v)
  case atStart => exact ⟨0, by omega, HO5.out, HX4.out, HG4.out⟩
  case round =>
    obtain ⟨z, hz, hown, hx, hgr⟩ := hrel
    obtain ⟨a, c, rfl, hc1, hc2⟩ := hown.form
    have hlen : (l ++ (128 : UInt8) :: List.replicate z 0).length = N + 1 + z := by have := HLL.out; simp; omega
    rw [hlen] at hown hc1 ⊢
    obtain ⟨M, hM⟩ : ∃ M, M = N + 1 + z := ⟨_, rfl⟩
    rw [← hM] at hown hc1 ⊢
    obtain ⟨r, hr⟩ : ∃ r, r = M % 8 := ⟨_, rfl⟩
    have hmod : ((M : Nat) : Int).tmod 8 = (r : Int) := by rw [Int.tmod_eq_emod_of_nonneg (by omega)]; omega
    have HO := Lib.hid hown
    have HX1 := Lib.hid hx
    have HG1 := Lib.hid hgr
    have HM := Lib.hid (And.intro hM hr)
    have HZ := Lib.hid hz
    clear hown hx hgr hlen hc1 hc2
    have hcase : r = 0 ∨ ¬ r = 0 := Classical.em _
    rcases hcase with h0 | h0
    · subst h0
      have HPAD := Lib.hid (show l ++ (128 : UInt8) :: List.replicate z 0 = pad l from by have := HM.out; have := HLL.out; unfold pad; rw [show 7 - l.length % 8 = z from by omega])
      obtain ⟨gb, cb, e, hgb1, hgb2, _, hcb, hat⟩ := HO.out.row (by rw [List.length_append, List.length_cons]; omega)
      injection e with e1 e2 e3
      subst e1 e3
      obtain ⟨J, hJ⟩ : ∃ J, J = N / 8 + 1 := ⟨_, rfl⟩
      have hMJ : M = 8 * J := by omega
      have HJ := Lib.hid (And.intro hMJ hJ)
      rw [HPAD.out] at hat
      obtain ⟨P, hP⟩ : ∃ P, P = pad l := ⟨_, rfl⟩
      rw [← hP] at hat
      have HP := Lib.hid (show P = pad l ∧ P.length = M from ⟨hP, by rw [hP, pad_len, HLL.out]; omega⟩)
      have HAT := Lib.hid (And.intro hat (And.intro hgb2 (show gb ≠ g from by omega)))
      clear hM hr hz hMJ hJ hP hat hgb1 hgb2 e2
      have hr0 : ((0 : Nat) : Int) = 0 := rfl
      go_wp2_with fail
      clear hmod hr0
      go_loopw [9] (fun v wq => ∃ j : Nat, v = .int .i64 ((8 * j : Nat) : Int) ∧ j ≤ J ∧ ArrS wq g (ab x P j) ∧ At wq ⟨gb, 0, none⟩ P ∧ gb < wq.heap.size ∧ Gr w wq) (fun v _ => M - (intOf v).toNat)
      case atStart => exact ⟨0, rfl, by omega, HX1.out, HAT.out.1, HAT.out.2.1, HG1.out⟩
      case round =>
        obtain ⟨j, rfl, hj, hx, hat, hgb, hgr⟩ := hrel
        obtain ⟨i8, hi8⟩ : ∃ i8, i8 = 8 * j := ⟨_, rfl⟩
        rw [← hi8]
        obtain ⟨y, hy⟩ : ∃ y, y = ab x P j := ⟨_, rfl⟩
        rw [← hy] at hx
        have HY := Lib.hid (And.intro hy hi8)
        have HX2 := Lib.hid hx
        have HAT2 := Lib.hid (And.intro hat hgb)
        have HG2 := Lib.hid hgr
        have hcase : j < J ∨ ¬ j < J := Classical.em _
        rcases hcase with hc | hc
        · have hci : (i8 : Int) < (M : Int) := by have := HJ.out.1; omega
          have hM9 : (M : Int) ≤ 300000 := by have := HM.out.1; have := HLL.out; have := HZ.out; omega
          clear hx hat hgb hgr hy hi8
          go_wp2_with fail
          go_loopw [10, 11] (fun v10 v11 wz => ∃ k : Nat, v10 = .int .u64 (nv (wk P i8 k)) ∧ v11 = .int .i64 (k : Nat) ∧ k ≤ 8 ∧ wz = wr) (fun _ v11 _ => 8 - (intOf v11).toNat)
          case atStart => exact ⟨0, by show _ = Value.int .u64 (nv 0); rw [← zero_nv], rfl, by omega, rfl⟩
          case round =>
            obtain ⟨k, rfl, rfl, hk, hw⟩ := hrel
            subst hw
            have hcase2 : k < 8 ∨ ¬ k < 8 := Classical.em _
            rcases hcase2 with hc2 | hc2
            · have hki : (k : Int) < 8 := by omega
              obtain ⟨t, ht⟩ : ∃ t, t = i8 + k := ⟨_, rfl⟩
              have hti : (i8 : Int) + (k : Int) = (t : Int) := by omega
              have htM : (t : Int) < (M : Int) := by have := HJ.out.1; have := HY.out.2; omega
              have htl : t < P.length := by have := HP.out.2; omega
              obtain ⟨b, hb⟩ : ∃ b, P[t]? = some b := ⟨P[t], List.getElem?_eq_getElem htl⟩
              have hcell := HAT2.out.1 t b hb
              rw [add0] at hcell
              obtain ⟨q, hq⟩ : ∃ q, q = wk P i8 k := ⟨_, rfl⟩
              rw [← hq]
              obtain ⟨bb, hbb⟩ : ∃ bb, bb = BitVec.ofNat 64 b.toNat := ⟨_, rfl⟩
              have hbn : (b.toNat : Int) = nv bb := by rw [hbb, byte_nv]
              rw [hbn] at hcell
              have HW := Lib.hid (show wk P i8 (k + 1) = q <<< 8 ||| bb from by rw [hq, hbb, wk, ← ht]; simp [List.getD, hb])
              have e1 : IntKind.u64.wrap (nv q * 256) = nv (q <<< 8) := nv_shl q 8
              have e2 : ∀ x y, bits .or .u64 (nv x) (nv y) = nv (x ||| y) := nv_or
              have e3 : IntKind.u64.wrap (nv bb) = nv bb := nv_wrap bb
              clear hb htl ht hq hbb hbn
              go_wp2_with fail
              go_roundw
              case rel => exact ⟨k + 1, by rw [HW.out], by simp, by omega, by first | rfl | trivial⟩
              case measure => simp [intOf]; omega
            · obtain rfl : k = 8 := by omega
              have hki : ¬ ((8 : Nat) : Int) < 8 := by omega
              obtain ⟨q, hq⟩ : ∃ q, q = wk P i8 8 := ⟨_, rfl⟩
              rw [← hq]
              obtain ⟨ya, hya⟩ : ∃ ya, ya = y.a ^^^ q := ⟨_, rfl⟩
              have e1 : bits .xor .u64 (nv y.a) (nv q) = nv ya := by rw [hya]; exact nv_xor _ _
              obtain ⟨u, hu⟩ : ∃ u, u = perm ⟨ya, y.b, y.c, y.d, y.e⟩ 12 := ⟨_, rfl⟩
              have HC := Lib.hid (fun w => by have := rperm_s ⟨ya, y.b, y.c, y.d, y.e⟩ w; rw [← hu] at this; exact this)
              have HU := Lib.hid (show ab x P (j + 1) = u from by rw [hu, hya, hq, HY.out.2, HY.out.1]; rfl)
              have HXS := Lib.hid (show ArrS (wr.setCell ⟨g, 0, none⟩ (.int .u64 (nv ya))) g ⟨ya, y.b, y.c, y.d, y.e⟩ from Arr.set0 HX2.out ya)
              have HGS := Lib.hid (show Gr w (wr.setCell ⟨g, 0, none⟩ (.int .u64 (nv ya))) from HG2.out.setCell (by show w.heap.size ≤ g; exact HGL.out) _)
              have HAS := Lib.hid (show At (wr.setCell ⟨g, 0, none⟩ (.int .u64 (nv ya))) ⟨gb, 0, none⟩ P ∧ gb < (wr.setCell ⟨g, 0, none⟩ (.int .u64 (nv ya))).heap.size from ⟨HAT2.out.1.other HAT.out.2.2 _, by simpa using HAT2.out.2⟩)
              have c0 := HX2.out.c0
              have f0 := HX2.out.fz 0
              have c1 := HX2.out.c1
              have f1 := HX2.out.fz 1
              have c2 := HX2.out.c2
              have f2 := HX2.out.fz 2
              have c3 := HX2.out.c3
              have f3 := HX2.out.fz 3
              have c4 := HX2.out.c4
              have f4 := HX2.out.fz 4
              clear hq hya hu
              go_wp2_with (go_at_call 22; refine (HC.out _).mono ?_; rintro y9 w8 ⟨rfl, hg8⟩; (have HX8 := Lib.hid (HXS.out.later hg8)); (have HG8 := Lib.hid (Gr.trans HGS.out hg8)); (have HA8 := Lib.hid (And.intro (HAS.out.1.later HAS.out.2 hg8) (Nat.lt_of_lt_of_le HAS.out.2 hg8.size))); clear c0 c1 c2 c3 c4 f0 f1 f2 f3 f4 hg8; (have c0 := HX8.out.c0); (have c1 := HX8.out.c1); (have c2 := HX8.out.c2); (have c3 := HX8.out.c3); (have c4 := HX8.out.c4); (have f0 := HX8.out.fz 0); (have f1 := HX8.out.fz 1); (have f2 := HX8.out.fz 2); (have f3 := HX8.out.fz 3); (have f4 := HX8.out.fz 4))
              go_roundw
              case rel => exact ⟨j + 1, by have := HY.out.2; simp; omega, by omega, by rw [HU.out]; exact HX8.out.put u, ((((HA8.out.1.other HAT.out.2.2 _).other HAT.out.2.2 _).other HAT.out.2.2 _).other HAT.out.2.2 _).other HAT.out.2.2 _, by simpa using HA8.out.2, HG8.out.put5 (g := g) HGL.out u⟩
              case measure => have := HJ.out.1; have := HY.out.2; simp [intOf]; omega
        · obtain rfl : j = J := by omega
          have hci : ¬ (i8 : Int) < (M : Int) := by have := HJ.out.1; omega
          have HF := Lib.hid (show y = fin l kd from by rw [HY.out.1, HP.out.1, ← HX.out, HJ.out.2, ← HLL.out]; rfl)
          clear hx hat hgb hgr hy hi8
          go_wp2_with fail
          clear hci
          go_loopw [12] (fun v wq => ∃ m : Nat, 8 * m < n + 8 ∧ OwnB wq (g + 1) v (sq y m) ∧ ArrS wq g (it y m) ∧ Gr w wq) (fun v _ => 100000 - lenV v)
          case atStart => exact ⟨0, by omega, OwnB.nil _ _, HX2.out, HG2.out⟩
          case round =>
            obtain ⟨m, hm, hown, hx, hgr⟩ := hrel
            obtain ⟨a, c', rfl, hc1, hc2⟩ := hown.form
            rw [sq_len] at hown hc1 ⊢
            obtain ⟨D, hD⟩ : ∃ D, D = 8 * m := ⟨_, rfl⟩
            rw [← hD] at hown hc1 hm ⊢
            obtain ⟨x5, hx5⟩ : ∃ x5, x5 = it y m := ⟨_, rfl⟩
            rw [← hx5] at hx
            have HO6 := Lib.hid hown
            have HX6 := Lib.hid hx
            have HG6 := Lib.hid hgr
            have HD := Lib.hid (And.intro hD (And.intro hm hx5))
            have hcase : D < n ∨ ¬ D < n := Classical.em _
            rcases hcase with hc | hc
            · have hDi : (D : Int) < (n : Int) := by omega
              clear hown hx hgr hD hm hx5 hc1 hc2
              go_wp2_with fail
              have HO7 := Lib.hid (show OwnB wr (g + 1) (.slice a D c') (sq y m ++ (blk x5.a).take 0) from by rw [List.take_zero, List.append_nil]; exact HO6.out)
              go_loopw [12, 13] (fun v12 v13 wz => ∃ t : Nat, v13 = .int .i64 (7 - (t : Int)) ∧ t ≤ 8 ∧ OwnB wz (g + 1) v12 (sq y m ++ (blk x5.a).take t) ∧ ArrS wz g x5 ∧ Gr w wz) (fun v12 _ _ => 100000 - lenV v12)
              case atStart => exact ⟨0, rfl, by omega, HO7.out, HX6.out, HG6.out⟩
              case round =>
                obtain ⟨t, rfl, ht, hown, hx, hgr⟩ := hrel
                obtain ⟨a2, c2', rfl, hc1, hc2⟩ := hown.form
                have hlen : (sq y m ++ (blk x5.a).take t).length = D + t := by rw [List.length_append, sq_len, List.length_take, blk_len, HD.out.1]; omega
                rw [hlen] at hown hc1 ⊢
                obtain ⟨Q, hQ⟩ : ∃ Q, Q = D + t := ⟨_, rfl⟩
                rw [← hQ] at hown hc1 ⊢
                have HO8 := Lib.hid hown
                have HX8 := Lib.hid hx
                have HG8 := Lib.hid hgr
                have HQ := Lib.hid (And.intro hQ hlen)
                have hcase2 : t < 8 ∨ ¬ t < 8 := Classical.em _
                rcases hcase2 with hc3 | hc3
                · obtain ⟨kk, hkk⟩ : ∃ kk, kk = 7 - t := ⟨_, rfl⟩
                  have hki : (7 : Int) - (t : Int) = (kk : Int) := by omega
                  obtain ⟨sh, hsh⟩ : ∃ sh, sh = 8 * kk := ⟨_, rfl⟩
                  have hshi : (8 : Int) * (kk : Int) = (sh : Int) := by omega
                  have hsh64 : (sh : Int) ≤ 64 := by omega
                  have e1 : nv x5.a / 2 ^ sh = nv (x5.a >>> sh) := nv_shr _ _
                  obtain ⟨ob, hob⟩ : ∃ ob, ob = obyte x5.a kk := ⟨_, rfl⟩
                  have e2 : IntKind.u8.wrap (nv (x5.a >>> sh)) = (ob.toNat : Int) := by rw [hob, hsh]; exact obyte_nv _ _
                  have c0 := hx.c0
                  have HB := Lib.hid (show (blk x5.a).take (t + 1) = (blk x5.a).take t ++ [ob] from by rw [hob, hkk]; exact blk_step _ _ hc3)
                  have HO3 := Lib.hid (show OwnB (wr.alloc (.cells #[.int .u8 (ob.toNat : Int)] 5)) (g + 1) (.slice a2 Q c2') (sq y m ++ (blk x5.a).take t) from HO8.out.later (Gr.new _ _))
                  have HA3 := Lib.hid (show At (wr.alloc (.cells #[.int .u8 (ob.toNat : Int)] 5)) ⟨wr.heap.size, 0, none⟩ [ob] from At.new1 _ _ rfl ob _ rfl _)
                  have HGA := Lib.hid (show Gr w (wr.alloc (.cells #[.int .u8 (ob.toNat : Int)] 5)) from HG8.out.alloc _)
                  have HXA3 := Lib.hid (show ArrS (wr.alloc (.cells #[.int .u8 (ob.toNat : Int)] 5)) g x5 from HX8.out.later (Gr.new _ _))
                  have HLE1 := Lib.hid (show (sq y m ++ (blk x5.a).take t).length + [ob].length ≤ 1000000 from by rw [hlen]; have := HD.out.2.1; simp; omega)
                  have HLE2 := Lib.hid (show g + 1 ≤ (wr.alloc (.cells #[.int .u8 (ob.toNat : Int)] 5)).heap.size from by have := HX8.out.lt; simp; omega)
                  have hk0 : (0 : Int) ≤ (kk : Int) := by omega
                  rw [hki]
                  have HKI := Lib.hid hki
                  clear hown hx hgr hQ hlen hc1 hc2 ht hkk hki hsh hob
                  go_wp2_with (at_builtin; refine wpList_appB rfl (.tmp 65) (.tmp 72) rfl rfl (g + 1) (.slice a2 Q c2') (sq y m ++ (blk x5.a).take t) rfl HO3.out ⟨wr.heap.size, 0, none⟩ 1 1 [ob] rfl rfl HA3.out (by simp) HLE1.out HLE2.out ?_; intro v5 w5 hown hgrow; (have HO5 := Lib.hid hown); (have HX5 := Lib.hid (show ArrS w5 g x5 from HXA3.out.same (hgrow.block g HXA3.out.lt (fun e => by have := (HO3.out.lt g e.symm).1; omega)) hgrow.size)); (have HG5 := Lib.hid (show Gr w w5 from OwnB.grown HGA.out HO3.out hgrow (by have := HGL.out; omega))); clear hown hgrow)
                  go_roundw
                  case rel => exact ⟨t + 1, by have := HKI.out; congr 1; simp; omega, by omega, by rw [HB.out, ← List.append_assoc]; exact HO5.out, HX5.out, HG5.out⟩
                  case measure =>
                    obtain ⟨a5, c5, e5, _, _⟩ := HO5.out.form
                    rw [e5]
                    have h1 := HQ.out.1
                    have h2 := HQ.out.2
                    have h3 := HD.out.2.1
                    rw [List.length_append, h2]
                    simp [lenV]
                    omega
                · obtain rfl : t = 8 := by omega
                  have hneg : ¬ (0 : Int) ≤ 7 - ((8 : Nat) : Int) := by omega
                  obtain ⟨k7, hk7⟩ : ∃ k7 : Int, k7 = 7 - ((8 : Nat) : Int) := ⟨_, rfl⟩
                  rw [← hk7] at hneg ⊢
                  obtain ⟨u, hu⟩ : ∃ u, u = perm x5 12 := ⟨_, rfl⟩
                  have HC := Lib.hid (fun w => by have := rperm_s x5 w; rw [← hu] at this; exact this)
                  have HU := Lib.hid (show it y (m + 1) = u ∧ sq y (m + 1) = sq y m ++ (blk x5.a).take 8 from ⟨by rw [hu, HD.out.2.2]; rfl, by rw [HD.out.2.2]; rfl⟩)
                  have c0 := HX8.out.c0
                  have f0 := HX8.out.fz 0
                  have c1 := HX8.out.c1
                  have f1 := HX8.out.fz 1
                  have c2 := HX8.out.c2
                  have f2 := HX8.out.fz 2
                  have c3 := HX8.out.c3
                  have f3 := HX8.out.fz 3
                  have c4 := HX8.out.c4
                  have f4 := HX8.out.fz 4
                  clear hown hx hgr hQ hlen hc1 hc2 ht hu hk7
                  go_wp2_with (go_at_call 22; refine (HC.out _).mono ?_; rintro y9 w8 ⟨rfl, hg8⟩; (have HX9 := Lib.hid (HX8.out.later hg8)); (have HG9 := Lib.hid (Gr.trans HG8.out hg8)); (have HO9 := Lib.hid (HO8.out.later hg8)); clear c0 c1 c2 c3 c4 f0 f1 f2 f3 f4 hg8; (have c0 := HX9.out.c0); (have c1 := HX9.out.c1); (have c2 := HX9.out.c2); (have c3 := HX9.out.c3); (have c4 := HX9.out.c4); (have f0 := HX9.out.fz 0); (have f1 := HX9.out.fz 1); (have f2 := HX9.out.fz 2); (have f3 := HX9.out.fz 3); (have f4 := HX9.out.fz 4))
                  go_roundw
                  case rel => exact ⟨m + 1, by have := HD.out.1; omega, by rw [HU.out.2]; exact HO9.out.same (by simp) (fun k hk => by have := (HO9.out.lt k hk).1; exact heap_put5 _ (by omega) u), by rw [HU.out.1]; exact HX9.out.put u, HG9.out.put5 (g := g) HGL.out u⟩
                  case measure => have := HQ.out.1; have := HD.out.2.1; simp [lenV]; omega
            · have hDi : ¬ (D : Int) < (n : Int) := by omega
              have HTK := Lib.hid (show (sq y m).take n = spg s.data.toList kd n from by rw [← HL.out, HF.out]; exact spg_is l kd n m (by have := HD.out.1; omega))
              clear hx hgr hD hm hx5 hc1 hc2
              rcases hown with ⟨e, e2⟩ | ⟨g6, c6, e, _, _, h1, h2, hat, _, _⟩
              · injection e with q1 q2 q3
                subst q1 q3 q2
                obtain rfl : n = 0 := by omega
                have hst := nil_str wr
                have HE := Lib.hid (show spS s kd 0 = ByteArray.empty from by unfold spS; rw [← HTK.out]; rfl)
                go_wp2_with fail
                go_ret
                exact ⟨by rw [HE.out]; rfl, HG6.out⟩
              · injection e with q1 q2 q3
                subst q1 q3
                have hnl : ((sq y m).take n).length = n := by rw [List.length_take]; omega
                have hst := run_convert_bytes_back (P := Tryd.prog) wr 41 9 5 ⟨g6, 0, none⟩ c' ((sq y m).take n) Tryd.underlying41 Tryd.underlying5 Tryd.underlying9 (fun j hj => by
                  have hj2 : j < n := by rw [hnl] at hj; exact hj
                  rw [List.getElem_take]
                  exact hat j _ (List.getElem?_eq_getElem _))
                rw [hnl, HTK.out] at hst
                obtain ⟨R, hR⟩ : ∃ R : ByteArray, R = ⟨(spg s.data.toList kd n).toArray⟩ := ⟨_, rfl⟩
                rw [← hR] at hst
                have HR := Lib.hid hR
                have hnc : (n : Int) ≤ (c' : Int) := by omega
                have hn0 : (0 : Int) ≤ (n : Int) := by omega
                clear hR hat hnl q2 h1 h2
                go_wp2_with fail
                go_ret
                exact ⟨by rw [HR.out]; rfl, HG6.out⟩
    · have hr0 : ¬ (r : Int) = 0 := by omega
      have hz2 : z + 1 ≤ 7 - N % 8 := by omega
      have HO3 := Lib.hid (show OwnB (wr.alloc (.cells #[.int .u8 0] 5)) (g + 1) (.slice a M c) (l ++ 128 :: List.replicate z 0) from HO.out.later (Gr.new _ _))
      have HA3 := Lib.hid (show At (wr.alloc (.cells #[.int .u8 0] 5)) ⟨wr.heap.size, 0, none⟩ [0] from At.new1 _ _ rfl 0 0 rfl _)
      have HGA := Lib.hid (show Gr w (wr.alloc (.cells #[.int .u8 0] 5)) from HG1.out.alloc _)
      have HXA3 := Lib.hid (show ArrS (wr.alloc (.cells #[.int .u8 0] 5)) g x from HX1.out.later (Gr.new _ _))
      have HLE1 := Lib.hid (show (l ++ (128 : UInt8) :: List.replicate z 0).length + [(0 : UInt8)].length ≤ 1000000 from by have := HLL.out; simp; omega)
      have HLE2 := Lib.hid (show g + 1 ≤ (wr.alloc (.cells #[.int .u8 0] 5)).heap.size from by have := HX1.out.lt; simp; omega)
      clear hM hr hz
      go_wp2_with (at_builtin; refine wpList_appB rfl (.tmp 27) (.tmp 28) rfl rfl (g + 1) (.slice a M c) (l ++ 128 :: List.replicate z 0) rfl HO3.out ⟨wr.heap.size, 0, none⟩ 1 1 [0] rfl rfl HA3.out (by simp) HLE1.out HLE2.out ?_; intro v5 w5 hown hgrow; (have HO5 := Lib.hid hown); (have HX5 := Lib.hid (show ArrS w5 g x from HXA3.out.same (hgrow.block g HXA3.out.lt (fun e => by have := (HO3.out.lt g e.symm).1; omega)) hgrow.size)); (have HG5 := Lib.hid (show Gr w w5 from OwnB.grown HGA.out HO3.out hgrow (by have := HGL.out; omega))); clear hown hgrow)
      go_roundw
      case rel => exact ⟨z + 1, hz2, by have := HO5.out; rw [List.append_assoc, List.cons_append, ← List.replicate_succ'] at this; exact this, HX5.out, HG5.out⟩
      case measure =>
        obtain ⟨a5, c5, e5, _, _⟩ := HO5.out.form
        rw [e5]
        have := HM.out.1
        have := HLL.out
        simp [lenV]
        omega
end Go.Proofs.YtblaimkcdhcclaaDoor
