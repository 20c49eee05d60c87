import Derived.Test.YtjbfghnihnmpjaaLTC
/- The reference of transform: Product, Mul. -/
namespace Ot
open Op
set_option linter.unusedVariables false
theorem S_set (l : List Int) (s : Nat) (v : Int) (f : Nat → Int) (hs : s < l.length) : ∀ n, S n (fun k => cf (l.set s v) k * f k) = S n (fun k => cf l k * f k) + if s < n then (v - cf l s) * f s else 0
  | 0 => by simp [S]
  | n + 1 => by
    rw [S, S, S_set l s v f hs n, Go.Proofs.Ytjbfghnihnmpjaa.cf_set l s v hs]
    by_cases h : n = s
    · subst h
      rw [if_pos rfl, if_neg (by omega), if_pos (by omega), Int.sub_mul]; omega
    · rw [if_neg h]
      by_cases h2 : s < n
      · rw [if_pos h2, if_pos (by omega)]; omega
      · rw [if_neg h2, if_neg (by omega)]; omega
/-- The value of a list at the t-th root. -/
def ev (n q psi : Nat) (l : List Int) (t : Nat) : Int := S n (fun k => cf l k * fo q psi k t)
/-- What has been taken into account: i rows, and j products of the next one. -/
def part (n q psi : Nat) (a b : List Int) (i j t : Nat) : Int := S i (fun k => cf a k * fo q psi k t) * ev n q psi b t + cf a i * fo q psi i t * S j (fun k => cf b k * fo q psi k t)
theorem part_row (n q psi : Nat) (a b : List Int) (i t : Nat) : part n q psi a b i n t = part n q psi a b (i + 1) 0 t := by
  unfold part ev
  rw [S, S, Int.mul_zero, Int.add_zero, Int.add_mul]
theorem part_all (n q psi : Nat) (a b : List Int) (t : Nat) : part n q psi a b n 0 t = ev n q psi a t * ev n q psi b t := by
  unfold part ev
  rw [S, Int.mul_zero, Int.add_zero]
theorem fo_add {n q psi : Nat} (i j t : Nat) : C q (fo q psi (i + j) t) (fo q psi i t * fo q psi j t) := by
  refine (fo_C q psi _ t).trans ?_
  rw [Nat.add_mul, Int.pow_add]
  exact ((fo_C q psi i t).symm).mul (fo_C q psi j t).symm
theorem Rt.odd {n q psi : Nat} (h : Rt n q psi) (t : Nat) : C q (fo q psi n t) (-1) := by
  refine (fo_C q psi n t).trans ?_
  rw [Int.pow_mul]
  refine (h.neg.pow (2 * t + 1)).trans (C.of ?_)
  rw [Int.pow_succ, Int.pow_mul, show (-1 : Int) ^ 2 = 1 by decide, Int.one_pow]; rfl
/-- One product more. -/
theorem Rt.step {n q psi : Nat} (h : Rt n q psi) {a b l : List Int} {i j k t : Nat} {x : Int} (hl : l.length = n) (hk : k < n)
    (hx : (k = i + j ∧ C q x (cf a i * cf b j)) ∨ (i + j = n + k ∧ C q x (-(cf a i * cf b j))))
    (hE : C q (ev n q psi l t) (part n q psi a b i j t)) : C q (ev n q psi (l.set k ((cf l k + x) % q)) t) (part n q psi a b i (j + 1) t) := by
  have e1 : ev n q psi (l.set k ((cf l k + x) % q)) t = ev n q psi l t + ((cf l k + x) % q - cf l k) * fo q psi k t := by
    unfold ev
    rw [S_set l k _ _ (by omega) n, if_pos hk]
  have e2 : part n q psi a b i (j + 1) t = part n q psi a b i j t + cf a i * cf b j * (fo q psi i t * fo q psi j t) := by
    unfold part
    rw [S, Int.mul_add]
    have : cf a i * fo q psi i t * (cf b j * fo q psi j t) = cf a i * cf b j * (fo q psi i t * fo q psi j t) := by
      rw [Int.mul_assoc, Int.mul_assoc, Int.mul_left_comm (fo q psi i t)]
    omega
  rw [e1, e2]
  refine hE.add ?_
  have h1 : C q ((cf l k + x) % q - cf l k) x := by
    have := (C.mod q (cf l k + x)).sub (C.refl q (cf l k))
    rwa [show cf l k + x - cf l k = x by omega] at this
  refine (h1.mul (C.refl q _)).trans ?_
  rcases hx with ⟨rfl, hx⟩ | ⟨hs, hx⟩
  · exact hx.mul (fo_add (n := n) i j t)
  · refine (hx.mul (C.refl q _)).trans ?_
    have h2 : C q (fo q psi i t * fo q psi j t) (- fo q psi k t) := by
      refine (fo_add (n := n) i j t).symm.trans ?_
      rw [hs]
      refine (fo_add (n := n) n k t).trans ?_
      have := (h.odd t).mul (C.refl q (fo q psi k t))
      rwa [Int.neg_mul, Int.one_mul] at this
    have h3 := ((C.refl q (cf a i * cf b j)).mul h2).symm
    rw [Int.mul_neg] at h3
    rw [Int.neg_mul]
    exact h3
theorem ev_zero (n q psi t : Nat) : ev n q psi (List.replicate n 0) t = 0 := by
  unfold ev
  rw [S_cong (g := fun _ => 0) (fun k _ => by rw [Go.Proofs.Ytjbfghnihnmpjaa.cf_rep, Int.zero_mul]), S_zero]
end Ot
namespace Go.Proofs.Ytjbfghnihnmpjaa
open Go.RowKit
set_option linter.unusedVariables false

theorem IsL.is {n q : Nat} {l : List Int} (h : IsL n q l) (hu : U32 l) : Ot.Is n q l := ⟨h.1, fun i => ⟨(hu.at_ i).1, fun hi => h.2 i (by rw [h.1]; exact hi)⟩⟩
theorem is_set {n q k : Nat} {l : List Int} {x : Int} (h : Ot.Is n q l) (hx : 0 ≤ x ∧ x < q) (hk : k < n) : Ot.Is n q (l.set k x) := ⟨by rw [List.length_set]; exact h.1, fun i => by
  rw [cf_set l k x (by rw [h.1]; exact hk)]
  split
  · exact ⟨hx.1, fun _ => hx.2⟩
  · exact h.2 i⟩

set_option maxRecDepth 100000 in
set_option maxHeartbeats 4000000 in
theorem rProduct_any (n q psi s : Nat) (a b : List Int) (u v : Value) (w : World) (hN : Num n q psi s) (hla : IsL n q a) (hlb : IsL n q b) (hu : HasP w u a) (hv : HasP w v b) :
    Calls Try.prog 34 #[.int .u32 q, u, v] w (RowP (Ot.ml n q psi s a b) w) := by
  obtain ⟨hn1, hn2, hq1, hq2, hpsi, hs⟩ := hN.dims
  have HN := Lib.hid hN
  have HRT := Lib.hid hN.rt
  have HIA := Lib.hid (hla.is hu.1)
  have HIB := Lib.hid (hlb.is hv.1)
  have HU := Lib.hid hu
  have HV := Lib.hid hv
  obtain ⟨-, xa, ca, rfl, a1, a2, -⟩ := hu
  obtain ⟨-, xb, cb, rfl, b1, b2, -⟩ := hv
  obtain ⟨la, hlae⟩ : ∃ la, la = a.length := ⟨_, rfl⟩
  obtain ⟨lb, hlbe⟩ : ∃ lb, lb = b.length := ⟨_, rfl⟩
  have e1 : la = n := by rw [hlae]; exact hla.1
  have e2 : lb = n := by rw [hlbe]; exact hlb.1
  rw [← hlae] at HU a1 ⊢
  rw [← hlbe] at HV b1 ⊢
  obtain rfl := e2
  obtain rfl : la = lb := e1
  have hmk := mk_row la (la : Int) (by omega) (by omega)
  clear hN hla hlb hlae hlbe
  go_enter Try.func34, Try.ntmps34
  go_wp2_with fail
  clear hmk
  go_loopw [8, 9, 10, 11] (fun t _ _ _ wr => ∃ (i : Nat) (l : List Int), t = .int .i64 i ∧ i ≤ la ∧ Ot.Is la q l ∧ (∀ t, t < la → Ot.C q (Ot.ev la q psi l t) (Ot.part la q psi a b i 0 t)) ∧ Row wr w.heap.size l ∧ Gr w wr) (fun t _ _ _ _ => la - (intOf t).toNat)
  case atStart => exact ⟨0, List.replicate la 0, rfl, by omega, ⟨by simp, fun i => by rw [cf_rep]; omega⟩, fun t _ => Ot.C.of (by rw [Ot.ev_zero]; simp [Ot.part, Op.S]), Row.zeros w la, Gr.new w _⟩
  case round =>
    obtain ⟨i, l, rfl, hi, his, hev, hrow, hg⟩ := hrel
    have HIS := Lib.hid his
    have HEV := Lib.hid hev
    have HROW := Lib.hid hrow
    have HG := Lib.hid hg
    clear his hev hrow hg
    by_cases hlt : i < la
    · have i1 : (i : Int) < (la : Int) := by omega
      go_wp2_with fail
      go_loopw [9, 10, 11] (fun t _ _ wi => ∃ (j : Nat) (l : List Int), t = .int .i64 j ∧ j ≤ la ∧ Ot.Is la q l ∧ (∀ t, t < la → Ot.C q (Ot.ev la q psi l t) (Ot.part la q psi a b i j t)) ∧ Row wi w.heap.size l ∧ Gr w wi) (fun t _ _ _ => la - (intOf t).toNat)
      case atStart => exact ⟨0, l, rfl, by omega, HIS.out, HEV.out, HROW.out, HG.out⟩
      case round =>
        obtain ⟨j, l, rfl, hj, his, hev, hrow, hg⟩ := hrel
        have HIS := Lib.hid his
        have HEV := Lib.hid hev
        have HROW := Lib.hid hrow
        have HG := Lib.hid hg
        clear his hev hrow hg
        by_cases hjl : j < la
        · have i2 : (j : Int) < (la : Int) := by omega
          have i3 : (0 : Int) ≤ (j : Int) := by omega
          have i4 : (0 : Int) ≤ (i : Int) := by omega
          obtain ⟨gx, ox, rfl, hcx⟩ : ∃ gx ox, xa = some ⟨gx, ox, none⟩ ∧ wr.cell? ⟨gx, ox + i, none⟩ = some (.int .u32 (Op.cf a i)) := by
            obtain ⟨_, b, c', e, _, _, h3⟩ := HU.out.later HG.out
            cases e
            obtain ⟨gx, ox, e, hc⟩ := h3 i (by have := HIA.out.1; omega)
            exact ⟨gx, ox, e, hc⟩
          obtain ⟨gy, oy, rfl, hcy⟩ : ∃ gx ox, xb = some ⟨gx, ox, none⟩ ∧ wr.cell? ⟨gx, ox + j, none⟩ = some (.int .u32 (Op.cf b j)) := by
            obtain ⟨_, b, c', e, _, _, h3⟩ := HV.out.later HG.out
            cases e
            obtain ⟨gx, ox, e, hc⟩ := h3 j (by have := HIB.out.1; omega)
            exact ⟨gx, ox, e, hc⟩
          have hx := HIA.out.lt hlt
          have hy := HIB.out.lt hjl
          obtain ⟨x, hxe⟩ : ∃ x, x = Op.cf a i := ⟨_, rfl⟩
          obtain ⟨y, hye⟩ : ∃ y, y = Op.cf b j := ⟨_, rfl⟩
          rw [← hxe] at hcx hx
          rw [← hye] at hcy hy
          have HX := Lib.hid hxe
          have HY := Lib.hid hye
          clear hxe hye
          obtain ⟨x0, x1⟩ := hx
          obtain ⟨y0, y1⟩ := hy
          have p0 := mul_lo x0 y0
          have p1 : x * y ≤ 4611686014132420609 := by
            have h1 : x * y ≤ 2147483647 * y := Int.mul_le_mul_of_nonneg_right (by omega) y0
            omega
          have r0 := emod_lo (x * y) q (by omega)
          have r1 := emod_hi (x * y) q (by omega)
          have HZC := Lib.hid (show Ot.C q (x * y % q) (Op.cf a i * Op.cf b j) from by rw [← HX.out, ← HY.out]; exact Ot.C.mod q _)
          obtain ⟨z, hz⟩ : ∃ z, z = x * y % q := ⟨_, rfl⟩
          have w1 : IntKind.u64.wrap x = x := IntWalk.u64_in _ (by omega)
          have w2 : IntKind.u64.wrap y = y := IntWalk.u64_in _ (by omega)
          have w3 : IntKind.u64.wrap (q : Int) = q := IntWalk.u64_in _ (by omega)
          have w4 : IntKind.u64.wrap (x * y) = x * y := IntWalk.u64_in _ (by omega)
          have w5 : (x * y).tmod (q : Int) = z := by rw [hz]; exact Int.tmod_eq_emod_of_nonneg p0
          have w6 : x * y % (q : Int) = z := hz.symm
          rw [← hz] at HZC r0 r1
          clear hz
          by_cases hw : i + j < la
          · have i5 : ¬ (i : Int) + (j : Int) ≥ (la : Int) := by omega
            have i6 : (i : Int) + (j : Int) = ((i + j : Nat) : Int) := by omega
            have i7 : ¬ (la : Int) ≤ (i : Int) + (j : Int) := by omega
            obtain ⟨k, hk⟩ : ∃ k, k = i + j := ⟨_, rfl⟩
            have hkn : k < la := by omega
            have HXS := Lib.hid (show (k = i + j ∧ Ot.C q z (Op.cf a i * Op.cf b j)) ∨ (i + j = la + k ∧ Ot.C q z (-(Op.cf a i * Op.cf b j))) from .inl ⟨hk, HZC.out⟩)
            rw [← hk] at i6
            rw [i6] at i5 i7
            have hc3 := HROW.out.cell (j := k) (by rw [HIS.out.1]; exact hkn)
            have hf3 := HROW.out.frozen k
            have hvb := HIS.out.lt hkn
            obtain ⟨c, hce⟩ : ∃ c, c = Op.cf l k := ⟨_, rfl⟩
            rw [← hce] at hc3 hvb
            obtain ⟨v0, v1⟩ := hvb
            have s0 := emod_lo (c + z) q (by omega)
            have s1 := emod_hi (c + z) q (by omega)
            have HR2 := Lib.hid ((HROW.out.setAt (k := k) (x := (c + z) % q) (by rw [HIS.out.1]; exact hkn) (by omega)))
            have HI2 := Lib.hid (is_set (k := k) HIS.out (x := (c + z) % q) ⟨s0, s1⟩ hkn)
            have HE2 := Lib.hid (fun t (ht : t < la) => HRT.out.step (k := k) (x := z) HIS.out.1 hkn HXS.out (HEV.out t ht))
            rw [← hce] at HE2
            clear hce hk
            go_wp2_with fail
            go_quiet (fail)
            clear w1 w2 w3 w4 w5 w6
            go_wp2_with fail
            go_roundw
            case rel => exact ⟨j + 1, l.set k ((c + z) % q), by go_num, by omega, HI2.out, HE2.out, HR2.out.later ((Gr.refl _).drewN _), (HG.out.setCell (p := ⟨w.heap.size, k, none⟩) (Nat.le_refl _) _).drewN _⟩
            case measure => simp [intOf]; omega
          · have i5 : (i : Int) + (j : Int) ≥ (la : Int) := by omega
            have i7 : (la : Int) ≤ (i : Int) + (j : Int) := by omega
            obtain ⟨k, hk⟩ : ∃ k, k = i + j - la := ⟨_, rfl⟩
            have i6 : (i : Int) + (j : Int) - (la : Int) = (k : Int) := by omega
            have hkn : k < la := by omega
            have i8 : (0 : Int) ≤ (i : Int) + (j : Int) := by omega
            have t0 := emod_lo ((q : Int) - z) q (by omega)
            have t1 := emod_hi ((q : Int) - z) q (by omega)
            have HXS := Lib.hid (show (k = i + j ∧ Ot.C q (((q : Int) - z) % q) (Op.cf a i * Op.cf b j)) ∨ (i + j = la + k ∧ Ot.C q (((q : Int) - z) % q) (-(Op.cf a i * Op.cf b j))) from .inr ⟨by omega, (Ot.C.mod q _).trans (by
              have h1 := (show Ot.C q (q : Int) 0 from ⟨1, by omega⟩).sub HZC.out
              rwa [Int.zero_sub] at h1)⟩)
            obtain ⟨y', hy'⟩ : ∃ y', y' = ((q : Int) - z) % q := ⟨_, rfl⟩
            have w7 : ((q : Int) - z) % q = y' := hy'.symm
            have w8 : (-z) % (q : Int) = y' := by rw [hy', show (q : Int) - z = -z + q by omega, Int.add_emod_right]
            rw [w7] at HXS t0 t1
            clear hy'
            have hc3 := HROW.out.cell (j := k) (by rw [HIS.out.1]; exact hkn)
            have hf3 := HROW.out.frozen k
            have hvb := HIS.out.lt hkn
            obtain ⟨c, hce⟩ : ∃ c, c = Op.cf l k := ⟨_, rfl⟩
            rw [← hce] at hc3 hvb
            obtain ⟨v0, v1⟩ := hvb
            have s0 := emod_lo (c + y') q (by omega)
            have s1 := emod_hi (c + y') q (by omega)
            have HR2 := Lib.hid ((HROW.out.setAt (k := k) (x := (c + y') % q) (by rw [HIS.out.1]; exact hkn) (by omega)))
            have HI2 := Lib.hid (is_set (k := k) HIS.out (x := (c + y') % q) ⟨s0, s1⟩ hkn)
            have HE2 := Lib.hid (fun t (ht : t < la) => HRT.out.step (k := k) (x := y') HIS.out.1 hkn HXS.out (HEV.out t ht))
            rw [← hce] at HE2
            clear hce hk
            go_wp2_with fail
            go_quiet (fail)
            clear w1 w2 w3 w4 w5 w6
            go_wp2_with fail
            go_roundw
            case rel => exact ⟨j + 1, l.set k ((c + y') % q), by go_num, by omega, HI2.out, HE2.out, HR2.out.later ((Gr.refl _).drewN _), (HG.out.setCell (p := ⟨w.heap.size, k, none⟩) (Nat.le_refl _) _).drewN _⟩
            case measure => simp [intOf]; omega
        · obtain rfl : j = la := by omega
          have i2 : ¬ (j : Int) < (j : Int) := by omega
          go_wp2_with fail
          go_roundw
          case rel => exact ⟨i + 1, l, by go_num, by omega, HIS.out, fun t ht => by rw [← Ot.part_row]; exact HEV.out t ht, HROW.out, HG.out⟩
          case measure => simp [intOf]; omega
    · obtain rfl : i = la := by omega
      have i1 : ¬ (i : Int) < (i : Int) := by omega
      have HP := Lib.hid (HRT.out.prod (s := s) HN.out.inv.2.2 HIS.out (fun t ht => by
        have := HEV.out t ht
        rw [Ot.part_all] at this
        exact this))
      go_wp2_with fail
      go_ret
      rw [HP.out]
      exact ⟨w.heap.size, i, rfl, HIS.out.1.symm, Nat.le_refl _, HROW.out, HG.out⟩

set_option maxRecDepth 100000 in
set_option maxHeartbeats 2000000 in
theorem rMul_any (n q psi s R : Nat) (a b : List Int) (u v : Value) (w : World) (hN : Num n q psi s) (h : IsRt w R n q psi) (hu : HasP w u a) (hv : HasP w v b) :
    Calls Try.prog 21 #[.pointer (some ⟨R, 0, none⟩), u, v] w (ListE (mlL n q psi s a b) (chkT n q [a, b]) w) := by
  obtain ⟨hn1, hn2, hq1, hq2, hpsi, hs⟩ := hN.dims
  have HN := Lib.hid hN
  have H := Lib.hid h
  have HU := Lib.hid hu
  have HV := Lib.hid hv
  clear hN h
  rcases chkT_two n q a b with ⟨hl, hc⟩ | ⟨hl, hc⟩
  · have HC := Lib.hid hc
    have HL := Lib.hid hl
    have HE := Lib.hid (show mlL n q psi s a b = Ot.ml n q psi s a b from if_pos hl)
    obtain ⟨-, xa, ca, rfl, a1, a2, -⟩ := hu
    obtain ⟨-, xb, cb, rfl, b1, b2, -⟩ := hv
    obtain ⟨la, hlae⟩ : ∃ la, la = a.length := ⟨_, rfl⟩
    obtain ⟨lb, hlbe⟩ : ∃ lb, lb = b.length := ⟨_, rfl⟩
    rw [← hlae] at HU a1 ⊢
    rw [← hlbe] at HV b1 ⊢
    clear hl hc hlae hlbe
    go_enter Try.func21, Try.ntmps21
    go_wp2_with fail
    refine (rValid_any n q psi R a _ _ hn2 hq2 H.out HU.out).mono ?_
    rintro e w1 ⟨rfl, hg⟩
    have HG := Lib.hid hg
    rw [isLB_true HL.out.1]
    clear hg
    go_wp2_with fail
    refine (rValid_any n q psi R b _ _ hn2 hq2 (H.out.later HG.out) (HV.out.later HG.out)).mono ?_
    rintro e w2 ⟨rfl, hg⟩
    have HG2 := Lib.hid (HG.out.trans hg)
    rw [isLB_true HL.out.2]
    have c1 := (H.out.later HG2.out).2.1
    clear hg
    go_wp2_with fail
    refine (rProduct_any n q psi s a b _ _ _ HN.out HL.out.1 HL.out.2 (HU.out.later HG2.out) (HV.out.later HG2.out)).mono ?_
    rintro e w3 ⟨g, m, rfl, hm, hgw, hrow, hg⟩
    have HM := Lib.hid hm
    have HR := Lib.hid hrow
    have HG3 := Lib.hid (HG2.out.trans hg)
    have hmb : m ≤ 100 := by rw [hm, Ot.ml, Ot.bw, Ot.tl_len]; omega
    have hgw0 := Nat.le_trans HG2.out.size hgw
    clear hm hrow hg
    go_wp2_with fail
    go_ret2
    rw [HE.out, HC.out]
    refine ⟨some ⟨g, 0, none⟩, m, m, rfl, ?_, (fun p hp => by cases hp; exact hgw0), HG3.out⟩
    have := HR.out.hasP (cap := m) (by rw [← HM.out]; exact Nat.le_refl _) (by omega)
    rwa [← HM.out] at this
  · have HC := Lib.hid hc
    have HE := Lib.hid (show mlL n q psi s a b = [] from if_neg hl)
    by_cases hla : IsL n q a
    · have HB := Lib.hid (isLB_false (show ¬ IsL n q b from fun h => hl ⟨hla, h⟩))
      have HA := Lib.hid (isLB_true hla)
      obtain ⟨-, xa, ca, rfl, -, -, -⟩ := hu
      obtain ⟨-, xb, cb, rfl, -, -, -⟩ := hv
      clear hl hc hla
      go_enter Try.func21, Try.ntmps21
      go_wp2_with fail
      refine (rValid_any n q psi R a _ _ hn2 hq2 H.out HU.out).mono ?_
      rintro e w1 ⟨rfl, hg⟩
      have HG := Lib.hid hg
      rw [HA.out]
      clear hg
      go_wp2_with fail
      refine (rValid_any n q psi R b _ _ hn2 hq2 (H.out.later HG.out) (HV.out.later HG.out)).mono ?_
      rintro e w2 ⟨rfl, hg⟩
      have HG2 := Lib.hid (HG.out.trans hg)
      rw [HB.out]
      clear hg
      go_wp2_with fail
      go_ret2
      rw [HE.out, HC.out]
      exact ListE.nil 2 HG2.out
    · have HB := Lib.hid (isLB_false hla)
      obtain ⟨-, xa, ca, rfl, -, -, -⟩ := hu
      obtain ⟨-, xb, cb, rfl, -, -, -⟩ := hv
      clear hl hc hla
      go_enter Try.func21, Try.ntmps21
      go_wp2_with fail
      refine (rValid_any n q psi R a _ _ hn2 hq2 H.out HU.out).mono ?_
      rintro e w1 ⟨rfl, hg⟩
      have HG := Lib.hid hg
      rw [HB.out]
      clear hg
      go_wp2_with fail
      go_ret2
      rw [HE.out, HC.out]
      exact ListE.nil 2 HG.out
end Go.Proofs.Ytjbfghnihnmpjaa
/- The law's own functions: made, awake. -/
namespace Go.Proofs.Ytjbfghnihnmpjaa
open Go.RowKit
set_option linter.unusedVariables false

set_option maxRecDepth 100000 in
set_option maxHeartbeats 1000000 in
theorem made_same (T : Nat) (w : World) (h : w.cell? ⟨T, 67, none⟩ = some (.pointer (some ⟨T, 0, none⟩))) : Calls Try.prog 35 #[.pointer (some ⟨T, 0, none⟩)] w (fun e w' => e = .returned (.bool true) ∧ w = w') := by
  have heq := eql_self w ⟨T, 0, none⟩
  go_enter Try.func35, Try.ntmps35
  go_wp2_with fail
  go_ret
  exact ⟨rfl, rfl⟩
set_option maxRecDepth 100000 in
set_option maxHeartbeats 1000000 in
theorem tRoot_same (n q psi s T : Nat) (w : World) (h : IsTab w T n q psi s) (hN : Num n q psi s) :
    Calls Try.prog 22 #[.pointer (some ⟨T, 0, none⟩)] w (fun e w' => e = .returned (.int .u32 psi) ∧ w' = w) := by
  have H := Lib.hid h
  have hd := hN.dims
  have hc := h.2.2.1 1 (by omega)
  rw [Nat.pow_one, Nat.mod_eq_of_lt hd.2.2.2.2.1] at hc
  clear h hd
  go_enter Try.func22, Try.ntmps22
  go_wp2_with fail
  refine (made_same T _ H.out.2.2.2.2).mono ?_
  rintro e w1 ⟨rfl, rfl⟩
  go_wp2_with fail
  go_ret
  exact ⟨rfl, rfl⟩

/-- What made returns. -/
def MadeT (n : Int) (q : Nat) (w : World) (e : Ending) (w' : World) : Prop :=
  Gr w w' ∧ ((∃ m psi s T R : Nat, n = m ∧ Num m q psi s ∧ e = .returned (.tuple #[.pointer (some ⟨T, 0, none⟩), .pointer (some ⟨R, 0, none⟩), .bool true]) ∧ IsTab w' T m q psi s ∧ IsRt w' R m q psi) ∨ (¬ Fit n q ∧ e = .returned (.tuple #[.pointer none, .pointer none, .bool true])))

set_option maxRecDepth 100000 in
set_option maxHeartbeats 4000000 in
theorem lmade_any (n : Int) (q : Nat) (a b : List Int) (u v : Value) (w : World) (hn : -9223372036854775808 ≤ n ∧ n ≤ 9223372036854775807) (hq : q ≤ 4294967295) (hu : HasP w u a) (hv : HasP w v b) :
    Calls Try.prog 11 #[.agg #[.int .i64 n, .int .u32 q, u, v]] w (MadeT n q w) := by
  obtain ⟨-, xa, ca, rfl, -, -, -⟩ := hu
  obtain ⟨-, xb, cb, rfl, -, -, -⟩ := hv
  obtain ⟨n1, n2⟩ := hn
  go_enter Try.func11, Try.ntmps11
  go_wp2_with fail
  obtain ⟨W, hW⟩ : ∃ W, W = w.alloc (.cells #[.int .i64 n, .int .u32 q, .slice xa a.length ca, .slice xb b.length cb] 29) := ⟨_, rfl⟩
  have HG0 := Lib.hid (show Gr w W from by rw [hW]; exact Gr.new _ _)
  have c0 : W.cell? ⟨w.heap.size, 0, none⟩ = some (.int .i64 n) := by rw [hW]; simp [go_sem]
  have c1 : W.cell? ⟨w.heap.size, 1, none⟩ = some (.int .u32 q) := by rw [hW]; simp [go_sem]
  rw [← hW]
  clear hW
  refine (new_any n q _ hq).mono ?_
  rintro e w1 ⟨hg, h⟩
  have c0 := hg.keeps c0
  have c1 := hg.keeps c1
  have HG1 := Lib.hid (HG0.out.trans hg)
  clear hg
  rcases h with ⟨m, psi, s, T, rfl, hN, rfl, ht, htw⟩ | ⟨hf, rfl⟩
  · have HN := Lib.hid hN
    have HT := Lib.hid ht
    clear hN ht
    go_wp2_with fail
    refine (rNew_any m q _ hq).mono ?_
    rintro e w2 ⟨hg, h⟩
    have HG2 := Lib.hid (HG1.out.trans hg)
    have HT2 := Lib.hid (HT.out.later hg)
    clear hg
    rcases h with ⟨m', psi', R, e1, hd', hl', rfl, hr⟩ | ⟨hf, rfl⟩
    · obtain rfl : m = m' := by omega
      obtain rfl : psi' = psi := hl'.unique HN.out.least
      have HR := Lib.hid hr
      have r2 := hr.2.2
      have HRO := Lib.hid (fun W (hT : IsTab W T m q psi' s) => tRoot_same m q psi' s T W hT HN.out)
      clear hd' hl' hr e1
      go_wp2_with fail
      go_quiet ((go_at_call 22; exact Calls.quiet_of_same (HRO.out _ (HT2.out.later ((Gr.refl _).drewN _)))))
      go_wp2_with fail
      refine bodyPost_ret (v := .tuple #[.pointer (some ⟨T, 0, none⟩), .pointer (some ⟨R, 0, none⟩), .bool true]) (by simp [results, Try.results11, go_sem]) rfl ?_
      exact ⟨HG2.out.drewN _, .inl ⟨m, psi', s, T, R, rfl, HN.out, rfl, HT2.out.later ((Gr.refl _).drewN _), HR.out.later ((Gr.refl _).drewN _)⟩⟩
    · exact absurd HN.out.fit hf
  · have HF := Lib.hid hf
    clear hf
    go_wp2_with fail
    refine (rNew_any n q _ hq).mono ?_
    rintro e w2 ⟨hg, h⟩
    have HG2 := Lib.hid (HG1.out.trans hg)
    clear hg
    rcases h with ⟨m', psi', R, rfl, hd', hl', rfl, hr⟩ | ⟨hf, rfl⟩
    · exact absurd hd' HF.out
    · clear hf
      go_wp2_with fail
      go_quiet (fail)
      go_wp2_with fail
      refine bodyPost_ret (v := .tuple #[.pointer none, .pointer none, .bool true]) (by simp [results, Try.results11, go_sem]) rfl ?_
      exact ⟨HG2.out.drewN _, .inr ⟨HF.out, rfl⟩⟩

theorem pr17 : Ob.Pr 17 := ⟨by omega, fun d h1 h2 => (by decide +kernel : ∀ d, d < 17 → 2 ≤ d → ¬ d ∣ 17) d h2 h1⟩
theorem fit4 : Fit 4 17 := ⟨4, rfl, .inr (.inl rfl), by omega, pr17, rfl⟩
/-- The table for 4 and 17. -/
theorem num4 {psi s : Nat} (h : Num 4 17 psi s) : psi = 2 ∧ s = 13 := by
  have hd := h.dims
  have ho : Ob.Ord 17 2 (2 * 4) := ord_neg (.inr (.inl rfl)) (by omega) (by decide +kernel)
  have h1 := h.least.2.2 2 (by omega) ho
  have h2 := h.least.1
  have hs := h.inv.2.2
  constructor
  · have h3 : psi ≠ 0 := fun e => by subst e; exact absurd h2.1 (by decide +kernel)
    have h4 : psi ≠ 1 := fun e => by subst e; exact absurd (h2.2 1 (by decide +kernel)) (by decide +kernel)
    omega
  · omega
theorem aw_fw : fwL 4 17 2 [0, 1, 0, 0] = [2, 8, 15, 9] ∧ chkT 4 17 [[0, 1, 0, 0]] = 0 := by decide +kernel
theorem aw_ml : mlL 4 17 2 ((13 : Nat) : Int) [0, 1, 0, 0] [0, 0, 0, 1] = [16, 0, 0, 0] ∧ chkT 4 17 [[0, 1, 0, 0], [0, 0, 0, 1]] = 0 := by decide +kernel

set_option maxRecDepth 100000 in
set_option maxHeartbeats 4000000 in
theorem awake_any (w : World) : Calls Try.prog 12 #[] w (Truth w) := by
  have HA := Lib.hid aw_fw
  have HB := Lib.hid aw_ml
  go_enter Try.func12, Try.ntmps12
  go_wp2_with fail
  refine (new_any 4 17 _ (by omega)).mono ?_
  rintro e w1 ⟨hg, h⟩
  have HG1 := Lib.hid hg
  clear hg
  rcases h with ⟨m, psi, s, T, e1, hN, rfl, ht, htw⟩ | ⟨hf, rfl⟩
  · obtain rfl : m = 4 := by omega
    obtain ⟨rfl, rfl⟩ := num4 hN
    have HN := Lib.hid hN
    have HT := Lib.hid ht
    clear hN ht e1
    go_wp2_with fail
    refine (tRoot_any 4 17 2 13 T _ HT.out HN.out).mono ?_
    rintro e w2 ⟨rfl, hg⟩
    have HG2 := Lib.hid (HG1.out.trans hg)
    have HT2 := Lib.hid (HT.out.later hg)
    clear hg
    go_wp2_with fail
    refine (pFwd_any 4 17 2 13 T [0, 1, 0, 0] _ _ HN.out (HT2.out.later (Gr.new _ _)) (four_hasP' w2 0 1 0 0 _ rfl (u32_dec (by decide)))).mono ?_
    rintro e w3 ⟨x, n, c, rfl, hx, hfr, hg⟩
    rw [HA.out.2]
    rw [HA.out.1] at hx
    have HX := Lib.hid hx
    have HD3 := Lib.hid ((Gr.new w2 _).trans hg)
    have HG3 := Lib.hid (HG2.out.trans HD3.out)
    clear hx hfr hg
    go_wp2_with fail
    refine (pMul_any 4 17 2 13 T [0, 1, 0, 0] [0, 0, 0, 1] _ _ _ HN.out (HT2.out.later ((HD3.out.alloc _).alloc _)) ((four_hasP' w3 0 1 0 0 _ rfl (u32_dec (by decide))).later (Gr.new _ _)) (four_hasP' _ 0 0 0 1 _ (by simp) (u32_dec (by decide)))).mono ?_
    rintro e w4 ⟨y, n2, c2, rfl, hy, hfr, hg⟩
    rw [HB.out.2]
    rw [HB.out.1] at hy
    have HY := Lib.hid hy
    have HD4 := Lib.hid (((Gr.new w3 _).alloc _).trans hg)
    have HG4 := Lib.hid (HG3.out.trans HD4.out)
    have HX4 := Lib.hid (HX.out.later HD4.out)
    clear hy hfr hg
    go_wp2_with fail
    refine (lsame_any [2, 8, 15, 9] [2, 8, 15, 9] _ _ _ (HX4.out.later (Gr.new _ _)) (four_hasP' _ 2 8 15 9 _ rfl (u32_dec (by decide))) (by decide) (by decide)).mono ?_
    rintro e w5 ⟨rfl, hg⟩
    rw [show decide (([2, 8, 15, 9] : List Int) = [2, 8, 15, 9]) = true from by simp]
    have HD5 := Lib.hid ((Gr.new w4 _).trans hg)
    clear hg
    go_wp2_with fail
    refine (lsame_any [16, 0, 0, 0] [16, 0, 0, 0] _ _ _ (HY.out.later (HD5.out.alloc _)) (four_hasP' _ 16 0 0 0 _ rfl (u32_dec (by decide))) (by decide) (by decide)).mono ?_
    rintro e w6 ⟨rfl, hg⟩
    rw [show decide (([16, 0, 0, 0] : List Int) = [16, 0, 0, 0]) = true from by simp]
    have HD6 := Lib.hid ((HD5.out.alloc _).trans hg)
    clear hg
    go_wp2_with fail
    go_ret
    exact ⟨rfl, HG4.out.trans HD6.out⟩
  · exact absurd fit4 hf
end Go.Proofs.Ytjbfghnihnmpjaa
