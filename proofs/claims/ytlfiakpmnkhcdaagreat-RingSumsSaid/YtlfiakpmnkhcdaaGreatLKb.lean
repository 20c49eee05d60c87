import Derived.Test.YtlfiakpmnkhcdaaGreatLJs
/- The reference's product of rows, pure. -/
namespace Oj
open Op Oq
set_option linter.unusedVariables false

/-- What has been taken into account: i rows, and j products of the next one. -/
def partQ (n : Nat) (m : Int) (a b : List Int) (i j : Nat) : Q m (xn n) := Oq.Sm i (fun k => kk m (xn n) (cf a k) * pw (X m (xn n)) k) * cl m (xn n) b + kk m (xn n) (cf a i) * pw (X m (xn n)) i * Oq.Sm j (fun k => kk m (xn n) (cf b k) * pw (X m (xn n)) k)
theorem partQ_start (n : Nat) (m : Int) (a b : List Int) : partQ n m a b 0 0 = 0 := by
  have L := laws m (xn n)
  unfold partQ
  rw [Oq.Sm, Oq.Sm, L.zm, L.mz, L.az]
theorem partQ_row {n : Nat} {m : Int} {a b : List Int} (hb : b.length = n) (i : Nat) : partQ n m a b i n = partQ n m a b (i + 1) 0 := by
  have L := laws m (xn n)
  unfold partQ
  rw [Oq.Sm, Oq.Sm, L.mz, L.az, L.dm]
  congr 1
  rw [cl_sum b, hb]
theorem partQ_all {n : Nat} {m : Int} {a b : List Int} (ha : a.length = n) : partQ n m a b n 0 = cl m (xn n) a * cl m (xn n) b := by
  have L := laws m (xn n)
  unfold partQ
  rw [Oq.Sm, L.mz, L.az, cl_sum a, ha]
theorem partQ_step {n : Nat} {m : Int} {a b l : List Int} {i j k : Nat} {x : Int} (hl : l.length = n) (hk : k < n)
    (hx : (k = i + j ∧ kk m (xn n) x = kk m (xn n) (cf a i) * kk m (xn n) (cf b j)) ∨ (i + j = n + k ∧ kk m (xn n) x = -(kk m (xn n) (cf a i) * kk m (xn n) (cf b j))))
    (hE : cl m (xn n) l = partQ n m a b i j) : cl m (xn n) (l.set k ((cf l k + x) % m)) = partQ n m a b i (j + 1) := by
  have L := laws m (xn n)
  have e1 : cl m (xn n) (l.set k ((cf l k + x) % m)) = cl m (xn n) l + kk m (xn n) x * pw (X m (xn n)) k := by
    rw [← ev_X, ev_set (X m (xn n)) _ l k (by omega), ev_X]
    congr 2
    rw [L.ks, kk_mod, L.ka, L.ac (kk m (xn n) (cf l k)), L.aa, L.an, L.az]
  have e2 : partQ n m a b i (j + 1) = partQ n m a b i j + kk m (xn n) (cf a i) * pw (X m (xn n)) i * (kk m (xn n) (cf b j) * pw (X m (xn n)) j) := by
    unfold partQ
    rw [Oq.Sm, L.md, L.aa]
  rw [e1, e2, hE]
  congr 1
  rw [L.mul4, ← L.pw_add]
  rcases hx with ⟨rfl, hx⟩ | ⟨hs, hx⟩
  · rw [hx]
  · rw [hx, hs, L.pw_add, X_neg, L.nm, L.nm, L.om, L.mn]
theorem kk_prod_mod {n : Nat} {m : Int} (x y : Int) : kk m (xn n) (x * y % m) = kk m (xn n) x * kk m (xn n) y := by
  rw [kk_mod, (laws m (xn n)).km]
theorem kk_neg_mod {n : Nat} {m : Int} (z : Int) : kk m (xn n) ((m - z) % m) = - kk m (xn n) z := by
  have L := laws m (xn n)
  rw [kk_mod, L.ks, k_m, L.za]
theorem prodR_done {n : Nat} {m : Int} {a b l : List Int} (hn : 1 ≤ n) (hm : 2 ≤ m) (ha : a.length = n) (hb : b.length = n) (hl : Rws n m l) (h : cl m (xn n) l = partQ n m a b n 0) : l = prodR n m a b :=
  hl.uniq hn hm (prodR_rws (by omega) a b) (by rw [h, partQ_all ha, cl_prodR ha hb])
theorem partQ_zero (n : Nat) (m : Int) (a b : List Int) : cl m (xn n) (List.replicate n 0) = partQ n m a b 0 0 := by
  rw [partQ_start, ← ev_X, ev_rep]
end Oj
namespace Go.Proofs.YtlfiakpmnkhcdaaGreat.Mo
open Go.RowKit Go.Shelf
set_option linter.unusedVariables false

theorem rws_set {n k : Nat} {m : Int} {l : List Int} {x : Int} (h : Oj.Rws n m l) (hx : 0 ≤ x ∧ x < m) (hk : k < n) : Oj.Rws n m (l.set k x) := ⟨by rw [List.length_set]; exact h.1, fun i hi => by
  rw [Oj.cf_set' _ _ _ (by rw [h.1]; exact hk)]
  split
  · exact hx
  · exact h.2 i hi⟩

set_option maxRecDepth 100000 in
set_option maxHeartbeats 4000000 in
theorem fProduct_any (n : Nat) (m : Int) (a b : List Int) (u v : Value) (w : World) (hm : okM' m) (hn1 : 1 ≤ n) (hn2 : n ≤ 1000) (hA : Oj.Rws n m a) (hB : Oj.Rws n m b) (hu : HasP w u a) (hv : HasP w v b) :
    Calls Tryz.prog 73 #[.int .u32 m, u, v] w (NewP (Oj.prodR n m a b) w) := by
  obtain ⟨m1, m2⟩ := hm
  have HIA := Lib.hid hA
  have HIB := Lib.hid hB
  have HU := Lib.hid hu
  have HV := Lib.hid hv
  obtain ⟨-, xa, ca, rfl, a1, a2, -⟩ := hu
  obtain ⟨-, xb, cb, rfl, b1, b2, -⟩ := hv
  obtain ⟨la, hlae⟩ : ∃ la, la = a.length := ⟨_, rfl⟩
  obtain ⟨lb, hlbe⟩ : ∃ lb, lb = b.length := ⟨_, rfl⟩
  have e1 : la = n := by rw [hlae]; exact hA.1
  have e2 : lb = n := by rw [hlbe]; exact hB.1
  rw [← hlae] at HU a1 ⊢
  rw [← hlbe] at HV b1 ⊢
  obtain rfl := e2
  obtain rfl : la = lb := e1
  have hmk := mk_row la (la : Int) (by omega) (by omega)
  clear hA hB hlae hlbe
  go_enter Tryz.func73, Tryz.ntmps73
  go_wp2_with fail
  clear hmk
  obtain ⟨W, hW⟩ : ∃ W : World, W = w.alloc (.cells (zrow la) 22) := ⟨_, rfl⟩
  rw [← hW]
  have HR0 := Lib.hid (show Own1 W w.heap.size (.slice (some ⟨w.heap.size, 0, none⟩) la la) (List.replicate la 0) by rw [hW]; exact own_zeros w la _ (Nat.le_refl _) (by omega))
  have HG0 := Lib.hid (show Gr w W by rw [hW]; exact Gr.new w _)
  clear hW
  go_loopw [8, 9, 10, 11] (fun t _ _ _ wr => ∃ (i : Nat) (l : List Int), t = .int .i64 i ∧ i ≤ la ∧ Oj.Rws la m l ∧ Oq.cl m (Op.xn la) l = Oj.partQ la m a b i 0 ∧ Own1 wr w.heap.size (.slice (some ⟨w.heap.size, 0, none⟩) la la) l ∧ Gr w wr) (fun t _ _ _ _ => la - (intOf t).toNat)
  case atStart => exact ⟨0, List.replicate la 0, rfl, by omega, ⟨by simp, fun i _ => by rw [Oj.cf_rep']; omega⟩, Oj.partQ_zero la m a b, HR0.out, HG0.out⟩
  case round =>
    obtain ⟨i, l, rfl, hi, his, hev, hrow, hg⟩ := hrel
    have HIS := Lib.hid his
    have HEV := Lib.hid hev
    have HROW := Lib.hid hrow
    have HG := Lib.hid hg
    clear his hev hrow hg
    by_cases hlt : i < la
    · have i1 : (i : Int) < (la : Int) := by omega
      go_wp2_with fail
      go_loopw [9, 10, 11] (fun t _ _ wi => ∃ (j : Nat) (l : List Int), t = .int .i64 j ∧ j ≤ la ∧ Oj.Rws la m l ∧ Oq.cl m (Op.xn la) l = Oj.partQ la m a b i j ∧ Own1 wi w.heap.size (.slice (some ⟨w.heap.size, 0, none⟩) la la) l ∧ Gr w wi) (fun t _ _ _ => la - (intOf t).toNat)
      case atStart => exact ⟨0, l, rfl, by omega, HIS.out, HEV.out, HROW.out, HG.out⟩
      case round =>
        obtain ⟨j, l, rfl, hj, his, hev, hrow, hg⟩ := hrel
        have HIS := Lib.hid his
        have HEV := Lib.hid hev
        have HROW := Lib.hid hrow
        have HG := Lib.hid hg
        clear his hev hrow hg
        by_cases hjl : j < la
        · have i2 : (j : Int) < (la : Int) := by omega
          have i3 : (0 : Int) ≤ (j : Int) := by omega
          have i4 : (0 : Int) ≤ (i : Int) := by omega
          obtain ⟨gx, ox, rfl, hcx⟩ := (HU.out.later HG.out).at_ (i := i) (by have := HIA.out.1; omega)
          obtain ⟨gy, oy, rfl, hcy⟩ := (HV.out.later HG.out).at_ (i := j) (by have := HIB.out.1; omega)
          have hx := HIA.out.2 i hlt
          have hy := HIB.out.2 j hjl
          obtain ⟨x, hxe⟩ : ∃ x, x = Op.cf a i := ⟨_, rfl⟩
          obtain ⟨y, hye⟩ : ∃ y, y = Op.cf b j := ⟨_, rfl⟩
          rw [← hxe] at hcx hx
          rw [← hye] at hcy hy
          have HX := Lib.hid hxe
          have HY := Lib.hid hye
          clear hxe hye
          obtain ⟨x0, x1⟩ := hx
          obtain ⟨y0, y1⟩ := hy
          have p0 := mul_lo x0 y0
          have p1 : x * y ≤ 4611686014132420609 := by
            have h1 : x * y ≤ 2147483647 * y := Int.mul_le_mul_of_nonneg_right (by omega) y0
            omega
          have r0 := emod_lo (x * y) m (by omega)
          have r1 := emod_hi (x * y) m (by omega)
          have HZC := Lib.hid (show Oq.kk m (Op.xn la) (x * y % m) = Oq.kk m (Op.xn la) (Op.cf a i) * Oq.kk m (Op.xn la) (Op.cf b j) from by rw [← HX.out, ← HY.out]; exact Oj.kk_prod_mod x y)
          obtain ⟨z, hz⟩ : ∃ z, z = x * y % m := ⟨_, rfl⟩
          have w1 : IntKind.u64.wrap x = x := IntWalk.u64_in _ (by omega)
          have w2 : IntKind.u64.wrap y = y := IntWalk.u64_in _ (by omega)
          have w3 : IntKind.u64.wrap m = m := IntWalk.u64_in _ (by omega)
          have w4 : IntKind.u64.wrap (x * y) = x * y := IntWalk.u64_in _ (by omega)
          have w5 : (x * y).tmod m = z := by rw [hz]; exact Int.tmod_eq_emod_of_nonneg p0
          have w6 : x * y % m = z := hz.symm
          rw [← hz] at HZC r0 r1
          clear hz
          by_cases hw : i + j < la
          · have i5 : ¬ (i : Int) + (j : Int) ≥ (la : Int) := by omega
            have i6 : (i : Int) + (j : Int) = ((i + j : Nat) : Int) := by omega
            have i7 : ¬ (la : Int) ≤ (i : Int) + (j : Int) := by omega
            obtain ⟨k, hk⟩ : ∃ k, k = i + j := ⟨_, rfl⟩
            have hkn : k < la := by omega
            have HXS := Lib.hid (show (k = i + j ∧ Oq.kk m (Op.xn la) z = Oq.kk m (Op.xn la) (Op.cf a i) * Oq.kk m (Op.xn la) (Op.cf b j)) ∨ (i + j = la + k ∧ Oq.kk m (Op.xn la) z = -(Oq.kk m (Op.xn la) (Op.cf a i) * Oq.kk m (Op.xn la) (Op.cf b j))) from .inl ⟨hk, HZC.out⟩)
            rw [← hk] at i6
            rw [i6] at i5 i7
            have hc3 := HROW.out.cell (j := k) (by rw [HIS.out.1]; exact hkn)
            have hf3 := HROW.out.frz (by rw [HIS.out.1]; omega) k
            have hvb := HIS.out.2 k hkn
            obtain ⟨c, hce⟩ : ∃ c, c = Op.cf l k := ⟨_, rfl⟩
            rw [← hce] at hc3 hvb
            obtain ⟨v0, v1⟩ := hvb
            have s0 := emod_lo (c + z) m (by omega)
            have s1 := emod_hi (c + z) m (by omega)
            have HR2 := Lib.hid (HROW.out.set (j := k) (x := (c + z) % m) (by rw [HIS.out.1]; exact hkn) (by omega)).1
            have HI2 := Lib.hid (rws_set (k := k) HIS.out (x := (c + z) % m) ⟨s0, s1⟩ hkn)
            have HE2 := Lib.hid (Oj.partQ_step (k := k) (x := z) HIS.out.1 hkn HXS.out HEV.out)
            rw [← hce] at HE2
            clear hce hk
            go_wp2_with fail
            go_quiet (fail)
            clear w1 w2 w3 w4 w5 w6
            go_wp2_with fail
            go_roundw
            case rel => exact ⟨j + 1, l.set k ((c + z) % m), by go_num, by omega, HI2.out, HE2.out, HR2.out.gr ((Gr.refl _).drewN _), (HG.out.setCell (p := ⟨w.heap.size, k, none⟩) (Nat.le_refl _) _).drewN _⟩
            case measure => simp [intOf]; omega
          · have i5 : (i : Int) + (j : Int) ≥ (la : Int) := by omega
            have i7 : (la : Int) ≤ (i : Int) + (j : Int) := by omega
            obtain ⟨k, hk⟩ : ∃ k, k = i + j - la := ⟨_, rfl⟩
            have i6 : (i : Int) + (j : Int) - (la : Int) = (k : Int) := by omega
            have hkn : k < la := by omega
            have i8 : (0 : Int) ≤ (i : Int) + (j : Int) := by omega
            have t0 := emod_lo (m - z) m (by omega)
            have t1 := emod_hi (m - z) m (by omega)
            have HXS := Lib.hid (show (k = i + j ∧ Oq.kk m (Op.xn la) ((m - z) % m) = Oq.kk m (Op.xn la) (Op.cf a i) * Oq.kk m (Op.xn la) (Op.cf b j)) ∨ (i + j = la + k ∧ Oq.kk m (Op.xn la) ((m - z) % m) = -(Oq.kk m (Op.xn la) (Op.cf a i) * Oq.kk m (Op.xn la) (Op.cf b j))) from .inr ⟨by omega, by rw [Oj.kk_neg_mod, HZC.out]⟩)
            obtain ⟨y', hy'⟩ : ∃ y', y' = (m - z) % m := ⟨_, rfl⟩
            have w7 : (m - z) % m = y' := hy'.symm
            have w8 : (-z) % m = y' := by rw [hy', show m - z = -z + m by omega, Int.add_emod_right]
            rw [w7] at HXS t0 t1
            clear hy'
            have hc3 := HROW.out.cell (j := k) (by rw [HIS.out.1]; exact hkn)
            have hf3 := HROW.out.frz (by rw [HIS.out.1]; omega) k
            have hvb := HIS.out.2 k hkn
            obtain ⟨c, hce⟩ : ∃ c, c = Op.cf l k := ⟨_, rfl⟩
            rw [← hce] at hc3 hvb
            obtain ⟨v0, v1⟩ := hvb
            have s0 := emod_lo (c + y') m (by omega)
            have s1 := emod_hi (c + y') m (by omega)
            have HR2 := Lib.hid (HROW.out.set (j := k) (x := (c + y') % m) (by rw [HIS.out.1]; exact hkn) (by omega)).1
            have HI2 := Lib.hid (rws_set (k := k) HIS.out (x := (c + y') % m) ⟨s0, s1⟩ hkn)
            have HE2 := Lib.hid (Oj.partQ_step (k := k) (x := y') HIS.out.1 hkn HXS.out HEV.out)
            rw [← hce] at HE2
            clear hce hk
            go_wp2_with fail
            go_quiet (fail)
            clear w1 w2 w3 w4 w5 w6
            go_wp2_with fail
            go_roundw
            case rel => exact ⟨j + 1, l.set k ((c + y') % m), by go_num, by omega, HI2.out, HE2.out, HR2.out.gr ((Gr.refl _).drewN _), (HG.out.setCell (p := ⟨w.heap.size, k, none⟩) (Nat.le_refl _) _).drewN _⟩
            case measure => simp [intOf]; omega
        · obtain rfl : j = la := by omega
          have i2 : ¬ (j : Int) < (j : Int) := by omega
          go_wp2_with fail
          go_roundw
          case rel => exact ⟨i + 1, l, by go_num, by omega, HIS.out, by rw [← Oj.partQ_row HIB.out.1]; exact HEV.out, HROW.out, HG.out⟩
          case measure => simp [intOf]; omega
    · obtain rfl : i = la := by omega
      have i1 : ¬ (i : Int) < (i : Int) := by omega
      have HP := Lib.hid (Oj.prodR_done hn1 (by omega) HIA.out.1 HIB.out.1 HIS.out HEV.out)
      go_wp2_with fail
      go_ret
      have hp := HROW.out.hasP
      rw [HP.out] at hp
      exact ⟨_, _, _, rfl, hp, fun p hp => (by cases hp; exact Nat.le_refl _), HG.out⟩
end Go.Proofs.YtlfiakpmnkhcdaaGreat.Mo
/- The law's Case in memory; large; results that are elements again. -/
namespace Go.Proofs.YtlfiakpmnkhcdaaGreat.Mo
open Go.RowKit Go.Shelf
set_option linter.unusedVariables false

/-- The cells of a Case. -/
def csC (N p1 p2 : Int) (uC : Value) (S p5 p6 lvA : Int) (spA : Bool) (uA : Value) (lvB : Int) (spB : Bool) (uB : Value) (n k lv : Int) (sp : Bool) (uL : Value) : Array Value := #[.int .i64 N, .int .u32 p1, .int .i64 p2, uC, .int .u32 S, .int .i64 p5, .int .u32 p6, .int .i64 lvA, .bool spA, uA, .int .i64 lvB, .bool spB, uB, .int .i64 n, .int .i64 k, .int .i64 lv, .bool sp, uL]
theorem Blk.p18 {W : World} {b : Nat} {t : TypeId} {a0 a1 a2 a3 a4 a5 a6 a7 a8 a9 a10 a11 a12 a13 a14 a15 a16 a17 : Value} (h : Blk W b t #[a0, a1, a2, a3, a4, a5, a6, a7, a8, a9, a10, a11, a12, a13, a14, a15, a16, a17]) :
    (W.cell? ⟨b, 0, none⟩ = some a0 ∧ W.cell? ⟨b, 1, none⟩ = some a1 ∧ W.cell? ⟨b, 2, none⟩ = some a2 ∧ W.cell? ⟨b, 3, none⟩ = some a3 ∧ W.cell? ⟨b, 4, none⟩ = some a4 ∧ W.cell? ⟨b, 5, none⟩ = some a5 ∧ W.cell? ⟨b, 6, none⟩ = some a6) ∧
    (W.cell? ⟨b, 7, none⟩ = some a7 ∧ W.cell? ⟨b, 8, none⟩ = some a8 ∧ W.cell? ⟨b, 9, none⟩ = some a9 ∧ W.cell? ⟨b, 10, none⟩ = some a10 ∧ W.cell? ⟨b, 11, none⟩ = some a11 ∧ W.cell? ⟨b, 12, none⟩ = some a12) ∧
    (W.cell? ⟨b, 13, none⟩ = some a13 ∧ W.cell? ⟨b, 14, none⟩ = some a14 ∧ W.cell? ⟨b, 15, none⟩ = some a15 ∧ W.cell? ⟨b, 16, none⟩ = some a16 ∧ W.cell? ⟨b, 17, none⟩ = some a17) :=
  ⟨⟨h.cell 0, h.cell 1, h.cell 2, h.cell 3, h.cell 4, h.cell 5, h.cell 6⟩, ⟨h.cell 7, h.cell 8, h.cell 9, h.cell 10, h.cell 11, h.cell 12⟩, h.cell 13, h.cell 14, h.cell 15, h.cell 16, h.cell 17⟩
def LargeP (rA rB : List (List Int)) (nC nL : Nat) (w : World) (e : Ending) (w' : World) : Prop := ∃ b, e = .returned (.bool b) ∧ (b = false → (rA.length ≤ 60 ∧ Sm 100 rA) ∧ (rB.length ≤ 60 ∧ Sm 100 rB) ∧ nC ≤ 100 ∧ nL ≤ 100) ∧ Gr w w'

set_option maxRecDepth 100000 in
set_option maxHeartbeats 4000000 in
theorem large_any (N p1 p2 : Int) (xC : Option Addr) (nC cC : Nat) (S p5 p6 lvA : Int) (spA : Bool) (uA : Value) (rA : List (List Int)) (lvB : Int) (spB : Bool) (uB : Value) (rB : List (List Int)) (n k lv : Int) (sp : Bool) (xL : Option Addr) (nL cL : Nat) (w : World) (hA : HasR w uA rA) (hB : HasR w uB rB) :
    Calls Tryz.prog 11 #[.agg (csC N p1 p2 (.slice xC nC cC) S p5 p6 lvA spA uA lvB spB uB n k lv sp (.slice xL nL cL))] w (LargeP rA rB nC nL w) := by
  obtain ⟨xA, cA, rfl⟩ := hA.form
  obtain ⟨xB, cB, rfl⟩ := hB.form
  generalize hnA : rA.length = nA at *
  generalize hnB : rB.length = nB at *
  obtain ⟨W0, hW0⟩ : ∃ W0, W0 = w.alloc (.cells (csC N p1 p2 (.slice xC nC cC) S p5 p6 lvA spA (.slice xA nA cA) lvB spB (.slice xB nB cB) n k lv sp (.slice xL nL cL)) 31) := ⟨_, rfl⟩
  have HG0 := Lib.hid (show Gr w W0 by rw [hW0]; exact Gr.new w _)
  have HB0 := Lib.hid (show Blk W0 w.heap.size 31 (csC N p1 p2 (.slice xC nC cC) S p5 p6 lvA spA (.slice xA nA cA) lvB spB (.slice xB nB cB) n k lv sp (.slice xL nL cL)) by rw [hW0]; exact Blk.new w _ _)
  have HA := Lib.hid hA
  have HB := Lib.hid hB
  have HNA := Lib.hid hnA
  have HNB := Lib.hid hnB
  clear hA hB hnA hnB
  unfold csC at *
  go_enter Tryz.func11, Tryz.ntmps11
  go_wp2_with fail
  rw [← hW0]
  clear hW0
  refine (huge_any lvA spA rA _ _ (HA.out.later HG0.out)).mono ?_
  rintro e w1 ⟨b1, rfl, h1, hg1⟩
  have HG1 := Lib.hid (HG0.out.trans hg1)
  have HB1 := Lib.hid (HB0.out.gr hg1)
  have H1 := Lib.hid h1
  obtain ⟨⟨q0, q1, q2, q3, q4, q5, q6⟩, ⟨k0, k1, k2, k3, k4, k5⟩, j0, j1, j2, j3, j4⟩ := HB1.out.p18
  clear h1 hg1
  cases b1 with
  | true =>
    go_wp2_with fail
    go_ret
    exact ⟨true, rfl, (fun h => by cases h), HG1.out⟩
  | false =>
    go_wp2_with fail
    refine (huge_any lvB spB rB _ _ (HB.out.later HG1.out)).mono ?_
    rintro e w2 ⟨b2, rfl, h2, hg2⟩
    have HG2 := Lib.hid (HG1.out.trans hg2)
    have HB2 := Lib.hid (HB1.out.gr hg2)
    have H2 := Lib.hid h2
    clear q0 q1 q2 q3 q4 q5 q6 k0 k1 k2 k3 k4 k5 j0 j1 j2 j3 j4
    obtain ⟨⟨q0, q1, q2, q3, q4, q5, q6⟩, ⟨k0, k1, k2, k3, k4, k5⟩, j0, j1, j2, j3, j4⟩ := HB2.out.p18
    clear h2 hg2
    cases b2 with
    | true =>
      go_wp2_with fail
      go_ret
      exact ⟨true, rfl, (fun h => by cases h), HG2.out⟩
    | false =>
      by_cases c1 : 100 < nC
      · have t1 : decide ((nC : Int) > 100) = true := by simp; omega
        have t1' : decide (100 < (nC : Int)) = true := by simp; omega
        go_wp2_with fail
        go_ret
        exact ⟨true, rfl, (fun h => by cases h), HG2.out⟩
      · have t1 : decide ((nC : Int) > 100) = false := by simp; omega
        have t1' : decide (100 < (nC : Int)) = false := by simp; omega
        by_cases c2 : 100 < nL
        · have t2 : decide ((nL : Int) > 100) = true := by simp; omega
          have t2' : decide (100 < (nL : Int)) = true := by simp; omega
          go_wp2_with fail
          go_ret
          exact ⟨true, rfl, (fun h => by cases h), HG2.out⟩
        · have t2 : decide ((nL : Int) > 100) = false := by simp; omega
          have t2' : decide (100 < (nL : Int)) = false := by simp; omega
          go_wp2_with fail
          go_ret
          exact ⟨false, rfl, (fun _ => ⟨H1.out (by first | rfl | trivial), H2.out (by first | rfl | trivial), by omega, by omega⟩), HG2.out⟩

theorem twoE_zero {N : Int} {ch : List Int} {S lv : Int} {sp : Bool} {rA : List (List Int)} {lv2 : Int} {sp2 : Bool} {rB : List (List Int)} (h : twoE N ch S lv sp rA lv2 sp2 rB = 0) : TwoOK N ch S lv sp rA lv2 sp2 rB := by
  unfold twoE at h
  split at h
  · assumption
  · omega
/-- Rows of residues are rows of an element. -/
theorem rws_ok {n : Nat} {N m : Int} (hN : N = n) {l : List Int} (h : Oj.Rws n m l) : RowOK N m l := by
  refine ⟨by rw [h.1, hN], decide_eq_true fun i hi => (h.2 i (by rw [← h.1]; exact hi)).2⟩
theorem ev_rwA {N : Int} {ch : List Int} {S lv : Int} {sp : Bool} {rA : List (List Int)} {F : Nat → Int → List Int} (h : EV N ch S lv sp rA) (hF : ∀ i, i < (Oj.mods ch S lv.toNat sp).length → RowOK N (Op.cf (Oj.mods ch S lv.toNat sp) i) (F i (Op.cf (Oj.mods ch S lv.toNat sp) i))) : EV N ch S lv sp (rwA (Oj.mods ch S lv.toNat sp) F) :=
  ⟨h.1, by rw [rwA_len], fun i hi => by rw [rwA_at _ _ hi]; exact hF i hi⟩
theorem vp_dim {N : Int} {ch : List Int} {S : Int} (h : VP N ch S) : ∃ n : Nat, N = n ∧ 4 ≤ n ∧ n ≤ 32 := by
  have hN := h.1
  unfold DimI at hN
  obtain ⟨n, rfl⟩ := Int.eq_ofNat_of_zero_le (show 0 ≤ N by omega)
  exact ⟨n, rfl, by omega, by omega⟩
/-- A product is an element. -/
theorem ev_prod {N : Int} {ch : List Int} {S lv : Int} {sp : Bool} {rA rB : List (List Int)} (hv : VP N ch S) (hA : EV N ch S lv sp rA) : EV N ch S lv sp (rwA (Oj.mods ch S lv.toNat sp) (fun i m => (fun m x y => Oj.prodR x.length m.toNat x y) m (rw_ rA i) (rw_ rB i))) := by
  refine ev_rwA hA fun i hi => ?_
  obtain ⟨n, hn, -, -⟩ := vp_dim hv
  have hl := (hA.2.2 i hi).1
  have e : (rw_ rA i).length = n := by omega
  obtain ⟨l, hl0⟩ := Int.eq_ofNat_of_zero_le (show 0 ≤ lv by have := hA.1.1; omega)
  subst hl0
  have hm := mods_ok hv hA.1 hi
  have hm3 := hm.1
  show RowOK N _ (Oj.prodR (rw_ rA i).length _ _ _)
  rw [e, show (((Op.cf (Oj.mods ch S (l : Int).toNat sp) i).toNat : Nat) : Int) = Op.cf (Oj.mods ch S (l : Int).toNat sp) i from Int.toNat_of_nonneg (by
    have : Oj.mods ch S (l : Int).toNat sp = Oj.mods ch S l sp := rfl
    rw [this]; omega)]
  exact rws_ok hn (Oj.prodR_rws (by
    have : Oj.mods ch S (l : Int).toNat sp = Oj.mods ch S l sp := rfl
    rw [this]; omega) _ _)
end Go.Proofs.YtlfiakpmnkhcdaaGreat.Mo
/- The reference of layer 9: Moduli, place, residue, Valid, Check. -/
namespace Go.Proofs.YtlfiakpmnkhcdaaGreat.Mo
open Go.RowKit Go.Shelf
set_option linter.unusedVariables false

set_option maxRecDepth 100000 in
set_option maxHeartbeats 1000000 in
theorem fPlace_any (N p1 p2 : Int) (xC : Option Addr) (nC cC : Nat) (S p5 p6 : Int) (lv : Int) (sp : Bool) (ch : List Int) (hl : nC = ch.length) (w : World) :
    Calls Tryz.prog 60 #[.agg #[.int .i64 N, .int .u32 p1, .int .i64 p2, .slice xC nC cC, .int .u32 S, .int .i64 p5, .int .u32 p6], .int .i64 lv, .bool sp] w (fun e w' => e = .returned (.bool (decide (EX ch S lv sp))) ∧ Gr w w') := by
  have HD := Lib.hid (show ∀ b : Bool, (b = true ↔ EX ch S lv sp) → decide (EX ch S lv sp) = b from fun b hb => by
    cases b with
    | false => exact decide_eq_false fun h => by have := hb.2 h; cases this
    | true => exact decide_eq_true (hb.1 rfl))
  have HE := Lib.hid (show EX ch S lv sp ↔ 1 ≤ lv ∧ lv ≤ nC ∧ (sp = true → S ≠ 0) by rw [hl]; exact Iff.rfl)
  have HG := Lib.hid (Gr.new w (.cells #[.int .i64 N, .int .u32 p1, .int .i64 p2, .slice xC nC cC, .int .u32 S, .int .i64 p5, .int .u32 p6] 25))
  clear hl
  by_cases h1 : lv ≥ 1
  · have t1 : decide (lv ≥ 1) = true := by simpa using h1
    have t1' : decide (1 ≤ lv) = true := by simpa using h1
    by_cases h2 : lv ≤ (nC : Int)
    · have t2 : decide (lv ≤ (nC : Int)) = true := by simpa using h2
      cases sp with
      | false =>
        go_enter Tryz.func60, Tryz.ntmps60
        go_wp2_with fail
        go_ret
        exact ⟨by rw [HD.out true (by rw [HE.out]; simp; omega)]; rfl, HG.out⟩
      | true =>
        by_cases h3 : S = 0
        · subst h3
          go_enter Tryz.func60, Tryz.ntmps60
          go_wp2_with fail
          go_ret
          exact ⟨by rw [HD.out false (by rw [HE.out]; simp)]; rfl, HG.out⟩
        · have t3 : (S != 0) = true := by simpa using h3
          go_enter Tryz.func60, Tryz.ntmps60
          go_wp2_with fail
          go_ret
          exact ⟨by rw [HD.out true (by rw [HE.out]; simp; omega)]; rfl, HG.out⟩
    · have t2 : decide (lv ≤ (nC : Int)) = false := by simpa using h2
      go_enter Tryz.func60, Tryz.ntmps60
      go_wp2_with fail
      go_ret
      exact ⟨by rw [HD.out false (by rw [HE.out]; simp; omega)]; rfl, HG.out⟩
  · have t1 : decide (lv ≥ 1) = false := by simpa using h1
    have t1' : decide (1 ≤ lv) = false := by simpa using h1
    go_enter Tryz.func60, Tryz.ntmps60
    go_wp2_with fail
    go_ret
    exact ⟨by rw [HD.out false (by rw [HE.out]; simp; omega)]; rfl, HG.out⟩

set_option maxRecDepth 100000 in
set_option maxHeartbeats 1000000 in
theorem fModuli_any (N p1 p2 : Int) (xC : Option Addr) (nC cC : Nat) (S p5 p6 : Int) (lv : Nat) (sp : Bool) (ch : List Int) (w : World) (hl : lv ≤ ch.length) (h3 : ch.length ≤ 1000) (hC : HasP w (.slice xC nC cC) ch) (hS : 0 ≤ S ∧ S < 4294967296) :
    Calls Tryz.prog 61 #[.agg #[.int .i64 N, .int .u32 p1, .int .i64 p2, .slice xC nC cC, .int .u32 S, .int .i64 p5, .int .u32 p6], .int .i64 lv, .bool sp] w (NewP (Oj.mods ch S lv sp) w) := by
  obtain ⟨W0, hW0⟩ : ∃ W0, W0 = w.alloc (.cells #[.int .i64 N, .int .u32 p1, .int .i64 p2, .slice xC nC cC, .int .u32 S, .int .i64 p5, .int .u32 p6] 25) := ⟨_, rfl⟩
  have HG0 := Lib.hid (show Gr w W0 by rw [hW0]; exact Gr.new w _)
  have HBP := Lib.hid (show Blk W0 w.heap.size 25 #[.int .i64 N, .int .u32 p1, .int .i64 p2, .slice xC nC cC, .int .u32 S, .int .i64 p5, .int .u32 p6] by rw [hW0]; exact Blk.new w _ _)
  have HSZ := Lib.hid (show w.heap.size ≤ W0.heap.size by rw [hW0]; simp)
  have HT := Lib.hid ((hC.later HG0.out).take hl)
  have HTL := Lib.hid (show (ch.take lv).length = lv by rw [List.length_take]; omega)
  have HLN := Lib.hid (show ([] : List Int).length + (ch.take lv).length ≤ 1000000 by rw [HTL.out]; simp; omega)
  have HLM := Lib.hid (show (ch.take lv).length + ([S] : List Int).length ≤ 1000000 by rw [HTL.out]; simp; omega)
  have HS := Lib.hid hS
  have hcc : (lv : Int) ≤ (cC : Int) := by have := hC.len; omega
  have hc0 : (0 : Int) ≤ (lv : Int) := by omega
  obtain ⟨q0, q1, q2, q3, q4, q5, q6⟩ := HBP.out.p7
  clear hC hS hl h3
  cases sp with
  | false =>
    go_enter Tryz.func61, Tryz.ntmps61
    go_upto_region 1 with (fail)
    rw [← hW0]
    clear hW0
    go_wp2_with (at_builtin; refine wpList_app rfl (.tmp 8) (.tmp 12) rfl rfl w.heap.size (.slice none 0 0) [] rfl (Own1.nil _ _) (.slice xC lv cC) (ch.take lv) rfl HT.out HLN.out HSZ.out ?_; intro v' w2 hown hgrow; rw [List.nil_append] at hown; have HO := Lib.hid hown; have HG := Lib.hid (show Gr W0 w2 from grown_own (Gr.refl _) (Own1.nil _ W0.heap.size) hgrow (Nat.le_refl _)); clear hown hgrow)
    go_ret
    obtain ⟨a, c, rfl, -, -⟩ := HO.out.form
    refine ⟨_, _, _, rfl, ?_, HO.out.fresh rfl, HG0.out.trans HG.out⟩
    have := HO.out.hasP
    rw [show Oj.mods ch S lv false = ch.take lv by simp [Oj.mods]]
    exact this
  | true =>
    go_enter Tryz.func61, Tryz.ntmps61
    go_upto_region 1 with (fail)
    rw [← hW0]
    clear hW0
    go_wp2_with (first
      | (at_builtin; refine wpList_app rfl (.tmp 8) (.tmp 12) rfl rfl w.heap.size (.slice none 0 0) [] rfl (Own1.nil _ _) (.slice xC lv cC) (ch.take lv) rfl HT.out HLN.out HSZ.out ?_; intro v' w2 hown hgrow; rw [List.nil_append] at hown; have HO := Lib.hid hown; have HG := Lib.hid (show Gr W0 w2 from grown_own (Gr.refl _) (Own1.nil _ W0.heap.size) hgrow (Nat.le_refl _)); have q4 := HG.out.keeps q4; clear hown hgrow)
      | (at_builtin; refine wpList_app rfl (.tmp 15) (.tmp 18) rfl rfl w.heap.size v' (ch.take lv) rfl (HO.out.alloc _) (.slice (some ⟨w2.heap.size, 0, none⟩) 1 1) [S] rfl (one_hasP' _ _ _ rfl HS.out) HLM.out (Nat.le_trans (HG0.out.trans HG.out).size (Nat.le_of_lt (by simp))) ?_; intro v3 w3 hown hgrow; have HO3 := Lib.hid hown; have HG3 := Lib.hid (show Gr w w3 from grown_own ((HG0.out.trans HG.out).alloc _) (HO.out.alloc _) hgrow (Nat.le_refl _)); clear hown hgrow))
    go_ret
    obtain ⟨a, c, rfl, -, -⟩ := HO3.out.form
    exact ⟨_, _, _, rfl, HO3.out.hasP, HO3.out.fresh rfl, HG3.out⟩

set_option maxRecDepth 100000 in
set_option maxHeartbeats 1000000 in
theorem fResidue_any (x m : Int) (w : World) (hm : okM' m) (hx : isW x) :
    Calls Tryz.prog 62 #[.int .i64 x, .int .u32 m] w (fun e w' => e = .returned (.int .u64 (x % m)) ∧ w = w') := by
  obtain ⟨m1, m2⟩ := hm
  obtain ⟨x1, x2⟩ := hx
  have h1 : x.tmod m < m := Int.tmod_lt_of_pos _ (by omega)
  have h2 : - m < x.tmod m := by have := Int.lt_tmod_of_pos x (b := m) (by omega); omega
  by_cases h0 : x.tmod m < 0
  · have HE := Lib.hid (emod_neg_case x m h0 h2)
    go_enter Tryz.func62, Tryz.ntmps62
    go_wp2_with fail
    go_ret
    exact ⟨by rw [HE.out]; rfl, rfl⟩
  · have HE := Lib.hid (emod_pos_case x m h0 h1)
    go_enter Tryz.func62, Tryz.ntmps62
    go_wp2_with fail
    go_ret
    exact ⟨by rw [HE.out]; rfl, rfl⟩

set_option maxRecDepth 100000 in
set_option maxHeartbeats 4000000 in
theorem fValid_any (N p1 p2 : Int) (xC : Option Addr) (nC cC : Nat) (S p5 p6 : Int) (ch : List Int) (w : World) (hC : HasP w (.slice xC nC cC) ch) (hS : 0 ≤ S ∧ S < 4294967296) :
    Calls Tryz.prog 59 #[.agg #[.int .i64 N, .int .u32 p1, .int .i64 p2, .slice xC nC cC, .int .u32 S, .int .i64 p5, .int .u32 p6]] w (fun e w' => e = .returned (.bool (decide (VP N ch S))) ∧ Gr w w') := by
  have HC := Lib.hid hC
  have HS := Lib.hid hS
  have HNC := Lib.hid hC.len.1
  have HCC := Lib.hid hC.len.2
  have HD := Lib.hid (show ∀ b : Bool, (b = true ↔ VP N ch S) → decide (VP N ch S) = b from fun b hb => by
    cases b with
    | false => exact decide_eq_false fun h => by have := hb.2 h; cases this
    | true => exact decide_eq_true (hb.1 rfl))
  obtain ⟨W0, hW0⟩ : ∃ W0, W0 = w.alloc (.cells #[.int .i64 N, .int .u32 p1, .int .i64 p2, .slice xC nC cC, .int .u32 S, .int .i64 p5, .int .u32 p6] 25) := ⟨_, rfl⟩
  have HG0 := Lib.hid (show Gr w W0 by rw [hW0]; exact Gr.new w _)
  have HBP := Lib.hid (show Blk W0 w.heap.size 25 #[.int .i64 N, .int .u32 p1, .int .i64 p2, .slice xC nC cC, .int .u32 S, .int .i64 p5, .int .u32 p6] by rw [hW0]; exact Blk.new w _ _)
  have HSZ := Lib.hid (show w.heap.size ≤ W0.heap.size by rw [hW0]; simp)
  obtain ⟨q0, q1, q2, q3, q4, q5, q6⟩ := HBP.out.p7
  clear hC hS
  go_enter Tryz.func59, Tryz.ntmps59
  go_upto_region 1 with (fail)
  rw [← hW0]
  clear hW0
  go_cut [23] (fun t wx => t = .bool (!decide (DimI N)) ∧ wx = W0)
  case first =>
    by_cases h4 : N = 4
    · subst h4; go_wp2_with fail; go_meet; exact ⟨rfl, rfl⟩
    by_cases h8 : N = 8
    · subst h8; go_wp2_with fail; go_meet; exact ⟨rfl, rfl⟩
    by_cases h16 : N = 16
    · subst h16; go_wp2_with fail; go_meet; exact ⟨rfl, rfl⟩
    by_cases h32 : N = 32
    · subst h32; go_wp2_with fail; go_meet; exact ⟨rfl, rfl⟩
    have HX := Lib.hid (show decide (DimI N) = false from decide_eq_false (by unfold DimI; omega))
    have a1 : (N != 4) = true := by simpa using h4
    have a2 : (N != 8) = true := by simpa using h8
    have a3 : (N != 16) = true := by simpa using h16
    have a4 : (N != 32) = true := by simpa using h32
    clear h4 h8 h16 h32
    go_wp2_with fail
    go_meet
    exact ⟨by rw [HX.out]; rfl, rfl⟩
  case rest =>
    obtain ⟨rfl, rfl⟩ := hcut
    by_cases hN : DimI N
    · have HN := Lib.hid hN
      rw [decide_eq_true hN]
      clear hN
      by_cases hl1 : (nC : Int) < 1
      · have t1 : decide ((nC : Int) < 1) = true := by simpa using hl1
        go_wp2_with fail
        go_ret
        exact ⟨by rw [HD.out false (by simp [VP]; intro _ h; have := HNC.out; omega)]; rfl, HG0.out⟩
      by_cases hl2 : (nC : Int) > 24
      · have t1 : decide ((nC : Int) < 1) = false := by simpa using hl1
        have t2 : decide ((nC : Int) > 24) = true := by simpa using hl2
        have t2' : decide (24 < (nC : Int)) = true := by simpa using hl2
        go_wp2_with fail
        go_ret
        exact ⟨by rw [HD.out false (by simp [VP]; intro _ _ h; have := HNC.out; omega)]; rfl, HG0.out⟩
      have t1 : decide ((nC : Int) < 1) = false := by simpa using hl1
      have t2 : decide ((nC : Int) > 24) = false := by simpa using hl2
      have t2' : decide (24 < (nC : Int)) = false := by simpa using hl2
      have h1 : 1 ≤ nC := by omega
      have h2 : nC ≤ 24 := by omega
      have HLN := Lib.hid (show ([] : List Int).length + ch.length ≤ 1000000 by have := HNC.out; simp; omega)
      have HLM := Lib.hid (show ch.length + ([S] : List Int).length ≤ 1000000 by have := HNC.out; simp; omega)
      have HALL := Lib.hid (show allM ch S = if S = 0 then ch else ch ++ [S] by
        unfold allM Oj.mods
        rw [List.take_length]
        by_cases h : S = 0
        · subst h; simp
        · rw [if_neg h, if_pos (by simpa using h)])
      clear hl1 hl2
      go_upto_region 6 with (fail)
      clear t1 t2 t2'
      go_upto_if 40 with (at_builtin; refine wpList_app rfl (.tmp 34) (.tmp 36) rfl rfl w.heap.size (.slice none 0 0) [] rfl (Own1.nil _ _) (.slice xC nC cC) ch rfl (HC.out.later HG0.out) HLN.out HSZ.out ?_; intro v' w2 hown hgrow; rw [List.nil_append] at hown; have HO := Lib.hid hown; have HG := Lib.hid (show Gr _ w2 from grown_own (Gr.refl _) (Own1.nil _ _) hgrow (Nat.le_refl _)); have q4 := HG.out.keeps q4; clear hown hgrow)
      go_cut [3] (fun t wx => ∃ n7 va vc, t = .slice va n7 vc ∧ n7 = (allM ch S).length ∧ Own1 wx w.heap.size (.slice va n7 vc) (allM ch S) ∧ Gr w wx)
      case first =>
        obtain ⟨va, vc, hve, -, -⟩ := HO.out.form
        subst hve
        by_cases hS0 : S = 0
        · have hz : (S != 0) = false := by simpa using hS0
          have HE := Lib.hid (show allM ch S = ch by rw [HALL.out, if_pos hS0])
          clear hS0
          go_wp2_with fail
          go_meet
          exact ⟨_, va, vc, rfl, by rw [HE.out], by rw [HE.out]; exact HO.out, HG0.out.trans HG.out⟩
        · have hz : (S != 0) = true := by simpa using hS0
          have HE := Lib.hid (show allM ch S = ch ++ [S] by rw [HALL.out, if_neg hS0])
          clear hS0
          go_wp2_with (at_builtin; refine wpList_app rfl (.tmp 41) (.tmp 44) rfl rfl w.heap.size (.slice va ch.length vc) ch rfl (HO.out.alloc _) (.slice (some ⟨w2.heap.size, 0, none⟩) 1 1) [S] rfl (one_hasP' _ _ _ rfl HS.out) HLM.out (Nat.le_trans (HG0.out.trans HG.out).size (Nat.le_of_lt (by simp))) ?_; intro v3 w3 hown hgrow; have HO3 := Lib.hid hown; have HG3 := Lib.hid (show Gr w w3 from grown_own ((HG0.out.trans HG.out).alloc _) (HO.out.alloc _) hgrow (Nat.le_refl _)); clear hown hgrow)
          obtain ⟨va3, vc3, hve, -, -⟩ := HO3.out.form
          subst hve
          go_meet
          exact ⟨_, va3, vc3, rfl, by rw [HE.out], by rw [HE.out]; exact HO3.out, HG3.out⟩
      case rest =>
        obtain ⟨n7, va, vc, rfl, hn7, hown, hg⟩ := hcut
        obtain ⟨M, hM⟩ : ∃ M, M = allM ch S := ⟨_, rfl⟩
        have HME := Lib.hid hM
        have h25 : n7 ≤ 25 := by
          have h5 := Oj.mods_len (S := S) (lv := ch.length) (sp := S != 0) (Nat.le_refl _)
          have h6 : (allM ch S).length = (Oj.mods ch S ch.length (S != 0)).length := rfl
          have h7 := HNC.out
          have h8 : (if (S != 0) = true then 1 else 0) ≤ 1 := by split <;> omega
          omega
        rw [← hM] at hn7 hown
        have HL7 := Lib.hid hn7
        have HP := Lib.hid hown.hasP
        have HG7 := Lib.hid hg
        clear hn7 hown hg hM
        obtain ⟨w7, hw7⟩ : ∃ W : World, W = wc := ⟨_, rfl⟩
        subst hw7
        go_wp2_with fail
        go_loopw [4, 5] (fun t _ wr => ∃ k : Nat, t = .int .i64 k ∧ k ≤ n7 ∧ (∀ j, j < k → MOK M j) ∧ Gr w7 wr) (fun t _ _ => n7 - (intOf t).toNat)
        case atStart => exact ⟨0, rfl, by omega, fun j hj => by omega, Gr.refl _⟩
        case round =>
          obtain ⟨k, rfl, hk, hok, hg⟩ := hrel
          have HOK := Lib.hid hok
          have HGL := Lib.hid hg
          have HGW := Lib.hid (HG7.out.trans hg)
          clear hok hg
          by_cases hlt : k < n7
          · have i1 : (k : Int) < (n7 : Int) := by omega
            have i0 : (0 : Int) ≤ (k : Int) := by omega
            obtain ⟨gx, ox, rfl, hcx⟩ := (HP.out.later HGL.out).at_ (i := k) (by rw [← HL7.out]; exact hlt)
            obtain ⟨x0, x1⟩ := HP.out.1.at_ k
            obtain ⟨x, hx⟩ : ∃ x, x = Op.cf M k := ⟨_, rfl⟩
            rw [← hx] at hcx x0 x1
            have HX := Lib.hid hx
            have HBAD := Lib.hid (show ¬ MOK M k → decide (VP N ch S) = false from fun h => decide_eq_false fun hv => h (by
              rw [HME.out]; exact hv.2.2.2 k (by rw [← HME.out, ← HL7.out]; exact hlt)))
            clear hx
            by_cases a1 : x < 3
            · have s1 : decide (x < 3) = true := by simpa using a1
              go_wp2_with fail
              go_ret
              exact ⟨by rw [HBAD.out (fun h => by have := h.1; have := HX.out; omega)]; rfl, HGW.out⟩
            have s1 : decide (x < 3) = false := by simpa using a1
            by_cases a2 : x > 2147483647
            · have s2 : decide (x > 2147483647) = true := by simpa using a2
              have s2' : decide (2147483647 < x) = true := by simpa using a2
              go_wp2_with fail
              go_ret
              exact ⟨by rw [HBAD.out (fun h => by have := h.2.1; have := HX.out; omega)]; rfl, HGW.out⟩
            have s2 : decide (x > 2147483647) = false := by simpa using a2
            have s2' : decide (2147483647 < x) = false := by simpa using a2
            by_cases a3 : x % 2 = 0
            · have s3 : (x % 2 == 0) = true := by simpa using a3
              go_wp2_with fail
              go_ret
              exact ⟨by rw [HBAD.out (fun h => by have := h.2.2.1; have := HX.out; subst this; omega)]; rfl, HGW.out⟩
            have s3 : (x % 2 == 0) = false := by simpa using a3
            obtain ⟨wo, rfl⟩ : ∃ wo : World, wo = wr := ⟨_, rfl⟩
            have HA1 := Lib.hid a1
            have HA2 := Lib.hid a2
            have HA3 := Lib.hid a3
            clear a1 a2 a3
            go_wp2_with fail
            clear s1 s2 s2' s3
            go_loopw [5] (fun t wi => ∃ j : Nat, t = .int .i64 j ∧ j ≤ k ∧ (∀ q, q < j → Op.cf M q ≠ x) ∧ Gr wo wi) (fun t _ => k - (intOf t).toNat)
            case atStart => exact ⟨0, rfl, by omega, fun q hq => by omega, Gr.refl _⟩
            case round =>
              obtain ⟨j, rfl, hj, hno, hg⟩ := hrel
              have HNO := Lib.hid hno
              have HGI := Lib.hid hg
              have hcx := hg.keeps hcx
              clear hno hg
              by_cases hjk : j < k
              · have i2 : (j : Int) < (k : Int) := by omega
                have i3 : (0 : Int) ≤ (j : Int) := by omega
                have i4 : (j : Int) < (n7 : Int) := by omega
                obtain ⟨gy, oy, hye, hcy⟩ := (HP.out.later (HGL.out.trans HGI.out)).at_ (i := j) (by rw [← HL7.out]; omega)
                obtain ⟨rfl, rfl⟩ : gx = gy ∧ ox = oy := by injection hye with hye; injection hye with e1 e2; exact ⟨e1, e2⟩
                obtain ⟨y, hy⟩ : ∃ y, y = Op.cf M j := ⟨_, rfl⟩
                rw [← hy] at hcy
                have HY := Lib.hid hy
                clear hye hy
                by_cases e : y = x
                · have s4 : (y == x) = true := by simpa using e
                  have HE := Lib.hid e
                  clear e
                  go_wp2_with fail
                  go_quiet (fail)
                  go_wp2_with fail
                  go_ret
                  exact ⟨by rw [HBAD.out (fun h => h.2.2.2 (by
                    rw [← HX.out, ← HE.out, HY.out]
                    have h5 : j < M.length := by rw [← HL7.out]; omega
                    have h6 : (M.take k)[j]? = some (Op.cf M j) := by rw [List.getElem?_take_of_lt hjk, ← Op.cf_at, List.getElem?_eq_getElem h5]; rfl
                    exact List.mem_of_getElem? h6))]; rfl, (HGW.out.trans HGI.out).drewN _⟩
                · have s4 : (y == x) = false := by simpa using e
                  have HE := Lib.hid e
                  clear e
                  go_wp2_with fail
                  go_quiet (fail)
                  go_wp2_with fail
                  go_roundw
                  case rel => exact ⟨j + 1, by go_num, by omega, fun q hq => by
                    by_cases h : q = j
                    · subst h; rw [← HY.out]; exact HE.out
                    · exact HNO.out q (by omega), HGI.out.drewN _⟩
                  case measure => simp [intOf]; omega
              · obtain rfl : j = k := by omega
                have i2 : ¬ (j : Int) < (j : Int) := by omega
                have HGOOD := Lib.hid (show MOK M j from ⟨by rw [← HX.out]; have := HA1.out; omega, by rw [← HX.out]; have := HA2.out; omega, by rw [← HX.out]; exact HA3.out, fun h => by
                  rw [← HX.out] at h
                  obtain ⟨q, hq, e⟩ := List.getElem_of_mem h
                  have hq2 : q < j := by rw [List.length_take] at hq; omega
                  rw [List.getElem_take] at e
                  have hqm : q < M.length := by rw [List.length_take] at hq; omega
                  exact HNO.out q hq2 (by rw [← e]; exact cf_get hqm)⟩)
                go_wp2_with fail
                go_roundw
                case rel => exact ⟨j + 1, by go_num, by omega, fun q hq => by
                  by_cases h : q = j
                  · subst h; exact HGOOD.out
                  · exact HOK.out q (by omega), HGL.out.trans HGI.out⟩
                case measure => simp [intOf]; omega
          · obtain rfl : k = n7 := by omega
            have i1 : ¬ (k : Int) < (k : Int) := by omega
            have HFIN := Lib.hid (show ∀ i, i < (allM ch S).length → MOK (allM ch S) i from fun i hi => by
              rw [← HME.out] at hi ⊢
              exact HOK.out i (by rw [HL7.out]; exact hi))
            go_wp2_with fail
            go_ret
            exact ⟨by rw [HD.out true ⟨fun _ => ⟨HN.out, by rw [← HNC.out]; exact h1, by rw [← HNC.out]; exact h2, HFIN.out⟩, fun _ => rfl⟩]; rfl, HGW.out⟩
    · have HN := Lib.hid hN
      rw [decide_eq_false hN]
      clear hN
      go_wp2_with fail
      go_ret
      exact ⟨by rw [HD.out false (by simp [VP]; intro h; exact absurd h HN.out)]; rfl, HG0.out⟩

set_option maxRecDepth 100000 in
set_option maxHeartbeats 4000000 in
theorem fCheck_any (N p1 p2 : Int) (xC : Option Addr) (nC cC : Nat) (S p5 p6 : Int) (lv : Int) (sp : Bool) (ch : List Int) (uA : Value) (rows : List (List Int)) (w : World) (h3 : ch.length ≤ 1000) (hC : HasP w (.slice xC nC cC) ch) (hS : 0 ≤ S ∧ S < 4294967296) (hA : HasR w uA rows) :
    Calls Tryz.prog 27 #[.agg #[.int .i64 N, .int .u32 p1, .int .i64 p2, .slice xC nC cC, .int .u32 S, .int .i64 p5, .int .u32 p6], .agg #[.int .i64 lv, .bool sp, uA]] w (fun e w' => e = .returned (.int .i64 (chkE N ch S lv sp rows)) ∧ Gr w w') := by
  obtain ⟨xA, cA, rfl⟩ := hA.form
  generalize hnA : rows.length = nA at *
  have HNC := Lib.hid hC.len.1
  have HC := Lib.hid hC
  have HA := Lib.hid hA
  have HS := Lib.hid hS
  have HNA := Lib.hid hnA
  obtain ⟨W2, hW2⟩ : ∃ W2, W2 = (w.alloc (.cells #[.int .i64 N, .int .u32 p1, .int .i64 p2, .slice xC nC cC, .int .u32 S, .int .i64 p5, .int .u32 p6] 25)).alloc (.cells #[.int .i64 lv, .bool sp, .slice xA nA cA] 28) := ⟨_, rfl⟩
  have HG := Lib.hid (show Gr w W2 by rw [hW2]; exact (Gr.new w _).alloc _)
  have HBP := Lib.hid (show Blk W2 w.heap.size 25 #[.int .i64 N, .int .u32 p1, .int .i64 p2, .slice xC nC cC, .int .u32 S, .int .i64 p5, .int .u32 p6] by rw [hW2]; exact (Blk.new w _ _).gr (Gr.new _ _))
  have HBE := Lib.hid (show Blk W2 (w.heap.size + 1) 28 #[.int .i64 lv, .bool sp, .slice xA nA cA] by rw [hW2]; exact Blk.newk _ _ (by simp))
  have HNO := Lib.hid (show ¬ (VP N ch S ∧ EV N ch S lv sp rows) → chkE N ch S lv sp rows = 2 from fun h => if_neg h)
  have HYES := Lib.hid (show (VP N ch S ∧ EV N ch S lv sp rows) → chkE N ch S lv sp rows = 0 from fun h => if_pos h)
  clear hC hA hS hnA
  obtain ⟨q0, q1, q2, q3, q4, q5, q6⟩ := HBP.out.p7
  obtain ⟨k0, k1, k2⟩ := HBE.out.p3
  go_enter Tryz.func27, Tryz.ntmps27
  go_upto_region 1 with (fail)
  rw [← hW2]
  clear hW2
  go_wp2_with fail
  refine (fValid_any N p1 p2 xC nC cC S p5 p6 ch _ (HC.out.later HG.out) HS.out).mono ?_
  rintro e w1 ⟨rfl, hg1⟩
  replace HG := Lib.hid (HG.out.trans hg1)
  replace HBP := Lib.hid (HBP.out.gr hg1)
  replace HBE := Lib.hid (HBE.out.gr hg1)
  clear hg1 q0 q1 q2 q3 q4 q5 q6 k0 k1 k2
  obtain ⟨q0, q1, q2, q3, q4, q5, q6⟩ := HBP.out.p7
  obtain ⟨k0, k1, k2⟩ := HBE.out.p3
  by_cases hv : VP N ch S
  · have HV := Lib.hid hv
    rw [decide_eq_true hv]
    clear hv
    go_wp2_with fail
    refine (fPlace_any N p1 p2 xC nC cC S p5 p6 lv sp ch HNC.out _).mono ?_
    rintro e w2 ⟨rfl, hg1⟩
    replace HG := Lib.hid (HG.out.trans hg1)
    replace HBP := Lib.hid (HBP.out.gr hg1)
    replace HBE := Lib.hid (HBE.out.gr hg1)
    clear hg1 q0 q1 q2 q3 q4 q5 q6 k0 k1 k2
    obtain ⟨q0, q1, q2, q3, q4, q5, q6⟩ := HBP.out.p7
    obtain ⟨k0, k1, k2⟩ := HBE.out.p3
    by_cases he : EX ch S lv sp
    · have HE := Lib.hid he
      rw [decide_eq_true he]
      obtain ⟨l, rfl⟩ := Int.eq_ofNat_of_zero_le (show 0 ≤ lv by have := he.1; omega)
      have HL2 := Lib.hid (show l ≤ ch.length by have := he.2.1; omega)
      clear he
      go_wp2_with fail
      refine (fModuli_any N p1 p2 xC nC cC S p5 p6 l sp ch _ HL2.out h3 (HC.out.later HG.out) HS.out).mono ?_
      rintro e w4 ⟨xm, nm, cm, rfl, hm, -, hg1⟩
      have HM := Lib.hid hm
      have HNM := Lib.hid hm.len.1
      replace HG := Lib.hid (HG.out.trans hg1)
      replace HBP := Lib.hid (HBP.out.gr hg1)
      replace HBE := Lib.hid (HBE.out.gr hg1)
      clear hm hg1 q0 q1 q2 q3 q4 q5 q6 k0 k1 k2
      obtain ⟨q0, q1, q2, q3, q4, q5, q6⟩ := HBP.out.p7
      obtain ⟨k0, k1, k2⟩ := HBE.out.p3
      have hnm : nm ≤ 1001 := by
        have h5 := Oj.mods_len (S := S) (sp := sp) HL2.out
        have := HNM.out
        have := HL2.out
        cases sp <;> simp at h5 <;> omega
      obtain ⟨nn, hnn, n4, n32⟩ := vp_dim HV.out
      subst hnn
      obtain ⟨M, hMe⟩ : ∃ M, M = Oj.mods ch S l sp := ⟨_, rfl⟩
      rw [← hMe] at HM HNM
      have HME := Lib.hid hMe
      have HBAD := Lib.hid (show ¬ EVr nn M rows → chkE nn ch S l sp rows = 2 from fun h => HNO.out fun k => h (by rw [hMe]; exact k.2.2))
      clear hMe
      by_cases hlen : nA = nm
      · subst hlen
        have t1 : ((nA : Int) != (nA : Int)) = false := by simp
        obtain ⟨w0, hw0⟩ : ∃ W : World, W = w4 := ⟨_, rfl⟩
        subst hw0
        go_wp2_with fail
        clear t1
        go_loopw [6, 7] (fun t _ wr => ∃ k : Nat, t = .int .i64 k ∧ k ≤ nA ∧ (∀ j, j < k → RowOK nn (Op.cf M j) (rw_ rows j)) ∧ Gr w0 wr) (fun t _ _ => nA - (intOf t).toNat)
        case atStart => exact ⟨0, rfl, by omega, fun j hj => by omega, Gr.refl _⟩
        case round =>
          obtain ⟨k, rfl, hk, hok, hg⟩ := hrel
          have HOK := Lib.hid hok
          have HGL := Lib.hid hg
          replace HBP := Lib.hid (HBP.out.gr hg)
          replace HBE := Lib.hid (HBE.out.gr hg)
          clear hok hg q0 q1 q2 q3 q4 q5 q6 k0 k1 k2
          obtain ⟨q0, q1, q2, q3, q4, q5, q6⟩ := HBP.out.p7
          obtain ⟨k0, k1, k2⟩ := HBE.out.p3
          by_cases hlt : k < nA
          · have i1 : (k : Int) < (nA : Int) := by omega
            have i0 : (0 : Int) ≤ (k : Int) := by omega
            obtain ⟨g, o, x, n, c, rfl, hc, hn, hp⟩ := HasB.at_ (HA.out.later (HG.out.trans HGL.out)) (i := k) (by rw [HNA.out]; exact hlt)
            have HN := Lib.hid hn
            have HP := Lib.hid hp
            clear hn hp
            by_cases hln : n = nn
            · subst hln
              have t1 : ((n : Int) != (n : Int)) = false := by simp
              obtain ⟨gm, om, rfl, hcm⟩ := (HM.out.later HGL.out).at_ (i := k) (by rw [← HNM.out]; exact hlt)
              obtain ⟨m, hm⟩ : ∃ m, m = Op.cf M k := ⟨_, rfl⟩
              rw [← hm] at hcm
              have HMM := Lib.hid hm
              clear hm
              obtain ⟨wo, hwo⟩ : ∃ W : World, W = wr := ⟨_, rfl⟩
              subst hwo
              go_wp2_with fail
              go_quiet (fail)
              go_wp2_with fail
              clear t1
              go_loopw [7] (fun t wi => ∃ j : Nat, t = .int .i64 j ∧ j ≤ n ∧ (∀ q, q < j → Op.cf (rw_ rows k) q < m) ∧ Gr wo wi) (fun t _ => n - (intOf t).toNat)
              case atStart => exact ⟨0, rfl, by omega, fun q hq => by omega, (Gr.refl _).drewN _⟩
              case round =>
                obtain ⟨j, rfl, hj, hlow, hg⟩ := hrel
                have HLOW := Lib.hid hlow
                have HGI := Lib.hid hg
                have hc := hg.keeps hc
                have hcm := hg.keeps hcm
                replace HBP := Lib.hid (HBP.out.gr hg)
                replace HBE := Lib.hid (HBE.out.gr hg)
                clear hlow hg q0 q1 q2 q3 q4 q5 q6 k0 k1 k2
                obtain ⟨q0, q1, q2, q3, q4, q5, q6⟩ := HBP.out.p7
                obtain ⟨k0, k1, k2⟩ := HBE.out.p3
                by_cases hjn : j < n
                · have i2 : (j : Int) < (n : Int) := by omega
                  have i3 : (0 : Int) ≤ (j : Int) := by omega
                  obtain ⟨gx, ox, rfl, hcx⟩ := (HP.out.later HGI.out).at_ (i := j) (by rw [← HN.out]; exact hjn)
                  obtain ⟨y, hy⟩ : ∃ y, y = Op.cf (rw_ rows k) j := ⟨_, rfl⟩
                  rw [← hy] at hcx
                  have HY := Lib.hid hy
                  clear hy
                  by_cases hge : m ≤ y
                  · have h2 : decide (m ≤ y) = true := by simpa using hge
                    have h2' : decide (y ≥ m) = true := h2
                    have HGE := Lib.hid hge
                    clear hge
                    go_wp2_with fail
                    go_quiet (fail)
                    go_wp2_with fail
                    go_ret
                    exact ⟨by rw [HBAD.out (fun h => by
                      have h5 := of_decide_eq_true (h.2 k (by rw [← HNM.out]; exact hlt)).2 j (by rw [← HN.out]; exact hjn)
                      have := HGE.out
                      have := HY.out
                      have := HMM.out
                      omega)]; rfl, ((HG.out.trans HGL.out).trans HGI.out).drewN _⟩
                  · have h2 : decide (m ≤ y) = false := by simpa using hge
                    have h2' : decide (y ≥ m) = false := h2
                    have HGE := Lib.hid hge
                    clear hge
                    go_wp2_with fail
                    go_quiet (fail)
                    go_wp2_with fail
                    go_roundw
                    case rel => exact ⟨j + 1, by go_num, by omega, fun q hq => by
                      by_cases h : q = j
                      · subst h; rw [← HY.out]; have := HGE.out; omega
                      · exact HLOW.out q (by omega), HGI.out.drewN _⟩
                    case measure => simp [intOf]; omega
                · obtain rfl : j = n := by omega
                  have i2 : ¬ (j : Int) < (j : Int) := by omega
                  have HROW := Lib.hid (show RowOK j (Op.cf M k) (rw_ rows k) from ⟨by rw [← HN.out], decide_eq_true fun q hq => by rw [← HMM.out]; exact HLOW.out q (by rw [HN.out]; exact hq)⟩)
                  go_wp2_with fail
                  go_roundw
                  case rel => exact ⟨k + 1, by go_num, by omega, fun q hq => by
                    by_cases h : q = k
                    · subst h; exact HROW.out
                    · exact HOK.out q (by omega), HGL.out.trans HGI.out⟩
                  case measure => simp [intOf]; omega
            · have t1 : ((n : Int) != (nn : Int)) = true := by simp; omega
              have HLN := Lib.hid hln
              clear hln
              go_wp2_with fail
              go_quiet (fail)
              go_wp2_with fail
              go_ret
              exact ⟨by rw [HBAD.out (fun h => by
                have h5 := (h.2 k (by rw [← HNM.out]; exact hlt)).1
                have := HLN.out
                have := HN.out
                omega)]; rfl, (HG.out.trans HGL.out).drewN _⟩
          · obtain rfl : k = nA := by omega
            have i1 : ¬ (k : Int) < (k : Int) := by omega
            have HFIN := Lib.hid (HYES.out ⟨HV.out, HE.out, by
              show EVr nn (Oj.mods ch S l sp) rows
              rw [← HME.out]
              exact ⟨by rw [HNA.out, ← HNM.out], fun i hi => HOK.out i (by rw [HNM.out]; exact hi)⟩⟩)
            go_wp2_with fail
            go_ret
            exact ⟨by rw [HFIN.out]; rfl, HG.out.trans HGL.out⟩
      · have t1 : ((nA : Int) != (nm : Int)) = true := by simp; omega
        have HB2 := Lib.hid (HBAD.out (fun h => hlen (by rw [← HNA.out, h.1, HNM.out])))
        clear hlen
        go_wp2_with fail
        go_ret
        exact ⟨by rw [HB2.out]; rfl, HG.out⟩
    · have HB2 := Lib.hid (HNO.out (fun h => he h.2.1))
      rw [decide_eq_false he]
      clear he
      go_wp2_with fail
      go_ret
      exact ⟨by rw [HB2.out]; rfl, HG.out⟩
  · have HB2 := Lib.hid (HNO.out (fun h => hv h.1))
    rw [decide_eq_false hv]
    clear hv
    go_wp2_with fail
    go_ret
    exact ⟨by rw [HB2.out]; rfl, HG.out⟩
end Go.Proofs.YtlfiakpmnkhcdaaGreat.Mo
