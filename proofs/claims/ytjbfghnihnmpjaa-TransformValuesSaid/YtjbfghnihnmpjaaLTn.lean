import Derived.Test.YtjbfghnihnmpjaaLTm
/- The law TransformProducts. -/
namespace Ot
open Op
set_option linter.unusedVariables false
theorem fw_sum {n q psi : Nat} (hq : 1 ≤ q) {a b l : List Int} (h : ∀ k, k < n → cf l k = (cf a k + cf b k) % q) {k : Nat} (hk : k < n) :
    cf (fw n q psi l) k = (cf (fw n q psi a) k + cf (fw n q psi b) k) % q := by
  refine C.eq (q := q) ?_ (cf_tl_lt hq k) ⟨Int.emod_nonneg _ (by omega), Int.emod_lt_of_pos _ (by omega)⟩
  refine C.trans ?_ (C.mod q _).symm
  rw [fw, fw, fw, cf_tl hk, cf_tl hk, cf_tl hk]
  have h1 := at_C n q 1 (fo q psi) a k
  have h2 := at_C n q 1 (fo q psi) b k
  have h3 := at_C n q 1 (fo q psi) l k
  rw [Int.one_mul] at h1 h2 h3
  refine h3.trans (C.trans ?_ (h1.add h2).symm)
  rw [← S_add]
  exact C.S (fun i hi => by
    rw [h i hi, ← Int.add_mul]
    exact (C.mod q _).mul (C.refl q _))
theorem Rt.fw_ml {n q psi : Nat} {s : Int} {a b : List Int} (h : Rt n q psi) (hs : (n : Int) * s % q = 1) {k : Nat} (hk : k < n) :
    cf (fw n q psi (ml n q psi s a b)) k = cf (fw n q psi a) k * cf (fw n q psi b) k % q := by
  have hq := h.pr.1
  rw [ml, h.forth hs (is_pp (by omega)), cf_pp hk]
end Ot
namespace Go.Proofs.Ytjbfghnihnmpjaa
open Go.RowKit
set_option linter.unusedVariables false

/-- An element of a slice. -/
theorem HasP.el {W : World} {a : Option Addr} {n c : Nat} {l : List Int} (h : HasP W (.slice a n c) l) {k : Nat} (hk : k < n) :
    ∃ g o, a = some ⟨g, o, none⟩ ∧ W.cell? ⟨g, o + k, none⟩ = some (.int .u32 (Op.cf l k)) ∧ 0 ≤ Op.cf l k ∧ Op.cf l k < 4294967296 ∧ n ≤ c := by
  obtain ⟨h0, h1⟩ := h.len
  obtain ⟨hu, a', c', e, _, _, h3⟩ := h
  cases e
  obtain ⟨g, o, e, hc⟩ := h3 k hk
  exact ⟨g, o, e, hc, (hu.at_ k).1, (hu.at_ k).2, h1⟩
theorem su_len {q : Nat} {a b l : List Int} {n : Nat} (hq : 1 ≤ q) (hl : l.length = n) (h : ∀ k, k < n → Op.cf l k = (Op.cf a k + Op.cf b k) % q) : IsL n q l := ⟨hl, fun i hi => by
  rw [h i (by omega)]
  exact Int.emod_lt_of_pos _ (by omega)⟩
theorem snoc_cf {l : List Int} {k : Nat} {f : Nat → Int} {x : Int} (hl : l.length = k) (hv : ∀ i, i < k → Op.cf l i = f i) (hx : x = f k) : ∀ i, i < k + 1 → Op.cf (l ++ [x]) i = f i := fun i hi => by
  rw [Op.cf_append]
  by_cases h : i < l.length
  · rw [if_pos h]; exact hv i (by omega)
  · rw [if_neg h]
    obtain rfl : i = k := by omega
    rw [hl, Nat.sub_self, hx]; rfl

set_option maxRecDepth 200000 in
set_option maxHeartbeats 8000000 in
theorem transformProducts_all (n : Int) (q : Nat) (a b : List Int) (u v : Value) (w : World) (hn : -9223372036854775808 ≤ n ∧ n ≤ 9223372036854775807) (hq : q ≤ 4294967295) (hu : HasP w u a) (hv : HasP w v b) :
    Calls Try.prog 8 #[.agg #[.int .i64 n, .int .u32 q, u, v]] w (Truth w) := by
  have HU := Lib.hid hu
  have HV := Lib.hid hv
  obtain ⟨-, xa, ca, rfl, a1, a2, -⟩ := hu
  obtain ⟨-, xb, cb, rfl, b1, b2, -⟩ := hv
  obtain ⟨la, hla⟩ : ∃ la, la = a.length := ⟨_, rfl⟩
  obtain ⟨lb, hlb⟩ : ∃ lb, lb = b.length := ⟨_, rfl⟩
  rw [← hla] at HU a1 ⊢
  rw [← hlb] at HV b1 ⊢
  have HLA := Lib.hid hla
  have HLB := Lib.hid hlb
  obtain ⟨n1, n2⟩ := hn
  clear hla hlb
  go_enter Try.func8, Try.ntmps8
  go_wp2_with fail
  obtain ⟨W, hW⟩ : ∃ W, W = w.alloc (.cells #[.int .i64 n, .int .u32 q, .slice xa la ca, .slice xb lb cb] 29) := ⟨_, rfl⟩
  have HG0 := Lib.hid (show Gr w W from by rw [hW]; exact Gr.new _ _)
  have c0 : W.cell? ⟨w.heap.size, 0, none⟩ = some (.int .i64 n) := by rw [hW]; simp [go_sem]
  have c1 : W.cell? ⟨w.heap.size, 1, none⟩ = some (.int .u32 q) := by rw [hW]; simp [go_sem]
  have c2 : W.cell? ⟨w.heap.size, 2, none⟩ = some (.slice xa la ca) := by rw [hW]; simp [go_sem]
  have c3 : W.cell? ⟨w.heap.size, 3, none⟩ = some (.slice xb lb cb) := by rw [hW]; simp [go_sem]
  rw [← hW]
  have HUW := Lib.hid (show HasP W (.slice xa la ca) a from HU.out.later HG0.out)
  have HVW := Lib.hid (show HasP W (.slice xb lb cb) b from HV.out.later HG0.out)
  clear hW
  refine (new_any n q _ hq).mono ?_
  rintro e w1 ⟨hg, h⟩
  have HGW := Lib.hid hg
  have c0 := hg.keeps c0
  have c1 := hg.keeps c1
  have c2 := hg.keeps c2
  have c3 := hg.keeps c3
  clear hg
  rcases h with ⟨m, psi, s, T, rfl, hN, rfl, ht, htw⟩ | ⟨hf, rfl⟩
  · have HN := Lib.hid hN
    have HT := Lib.hid ht
    obtain ⟨m1, m2, q1, q2, -, -⟩ := hN.dims
    clear hN ht htw
    go_wp2_with fail
    refine (pFwd_any m q psi s T a _ _ HN.out HT.out (HUW.out.later HGW.out)).mono ?_
    rintro e w2 ⟨x1, p1, k1, rfl, hx, hfr, hg⟩
    have HF1 := Lib.hid hx
    have HG2 := Lib.hid (HGW.out.trans hg)
    have HT2 := Lib.hid (HT.out.later hg)
    have c0 := hg.keeps c0
    have c1 := hg.keeps c1
    have c2 := hg.keeps c2
    have c3 := hg.keeps c3
    clear hx hfr hg
    go_wp2_with fail
    refine (pFwd_any m q psi s T b _ _ HN.out HT2.out (HVW.out.later HG2.out)).mono ?_
    rintro e w3 ⟨x2, p2, k2, rfl, hx, hfr, hg⟩
    have HF2 := Lib.hid hx
    have HF13 := Lib.hid (HF1.out.later hg)
    have HG3 := Lib.hid (HG2.out.trans hg)
    have HT3 := Lib.hid (HT2.out.later hg)
    have c0 := hg.keeps c0
    have c1 := hg.keeps c1
    have c2 := hg.keeps c2
    have c3 := hg.keeps c3
    clear hx hfr hg
    rcases chkT_one m q a with ⟨hl, hc⟩ | ⟨hl, hc⟩
    · rcases chkT_one m q b with ⟨hl2, hc2⟩ | ⟨hl2, hc2⟩
      · rw [hc, hc2]
        have HL := Lib.hid hl
        have HL2 := Lib.hid hl2
        have HE1 := Lib.hid (show fwL m q psi a = Ot.fw m q psi a from if_pos hl)
        have HE2 := Lib.hid (show fwL m q psi b = Ot.fw m q psi b from if_pos hl2)
        have HCM := Lib.hid ((chkT_two m q a b).resolve_right (fun h => h.1 ⟨hl, hl2⟩)).2
        have HEM := Lib.hid (show mlL m q psi s a b = Ot.ml m q psi s a b from if_pos ⟨hl, hl2⟩)
        have hlm : la = m := by have := HLA.out; have := hl.1; omega
        have hlm2 : lb = m := by have := HLB.out; have := hl2.1; omega
        clear hl hl2 hc hc2
        obtain rfl := hlm
        obtain rfl : lb = la := hlm2
        have hq0 : ((q : Int) == 0) = false := by simp; omega
        go_wp2_with fail
        have HN1 := Lib.hid (show p1 = lb by rw [HF1.out.len.1]; exact fwL_len HL.out)
        have HN2 := Lib.hid (show p2 = lb by rw [HF2.out.len.1]; exact fwL_len HL2.out)
        have HB3 := Lib.hid (show w.heap.size < w3.heap.size from World.block_lt_of_cell? w3 _ c0)
        have HUL := Lib.hid (HUW.out.later HG3.out)
        have HVL := Lib.hid (HVW.out.later HG3.out)
        go_loopw [9, 10] (fun s t wr => ∃ (k : Nat) (l : List Int), t = .int .i64 k ∧ k ≤ lb ∧ l.length = k ∧ (∀ i, i < k → Op.cf l i = (Op.cf a i + Op.cf b i) % q) ∧ Own1 wr w3.heap.size s l ∧ Gr w3 wr) (fun _ t _ => lb - (intOf t).toNat)
        case atStart => exact ⟨0, [], rfl, by omega, rfl, fun i hi => by omega, Own1.nil _ _, Gr.refl w3⟩
        case round =>
          obtain ⟨k, l, rfl, hk, hll, hval, hown, hg⟩ := hrel
          have HLL := Lib.hid hll
          have HVAL := Lib.hid hval
          have HO := Lib.hid hown
          have HG4 := Lib.hid hg
          have hsz := hg.size
          obtain ⟨vx, vc, rfl, -, -⟩ := hown.form
          have d0 := hg.keeps c0
          have d1 := hg.keeps c1
          have d2 := hg.keeps c2
          have d3 := hg.keeps c3
          clear hll hval hown hg
          by_cases hlt : k < lb
          · have i1 : (k : Int) < (lb : Int) := by omega
            have i3 : (0 : Int) ≤ (k : Int) := by omega
            obtain ⟨gx, ox, rfl, hcx⟩ : ∃ gx ox, xa = some ⟨gx, ox, none⟩ ∧ w3.cell? ⟨gx, ox + k, none⟩ = some (.int .u32 (Op.cf a k)) := by
              obtain ⟨_, b, c', e, _, _, h3⟩ := HUL.out
              cases e
              obtain ⟨gx, ox, e, hc⟩ := h3 k (by have := HLA.out; omega)
              exact ⟨gx, ox, e, hc⟩
            obtain ⟨gy, oy, rfl, hcy⟩ : ∃ gx ox, xb = some ⟨gx, ox, none⟩ ∧ w3.cell? ⟨gx, ox + k, none⟩ = some (.int .u32 (Op.cf b k)) := by
              obtain ⟨_, b, c', e, _, _, h3⟩ := HVL.out
              cases e
              obtain ⟨gx, ox, e, hc⟩ := h3 k (by have := HLB.out; omega)
              exact ⟨gx, ox, e, hc⟩
            have hx := HUL.out.1.at_ k
            have hy := HVL.out.1.at_ k
            have hxb := HL.out.2 k (by have := HLA.out; omega)
            have hyb := HL2.out.2 k (by have := HLB.out; omega)
            obtain ⟨x, hxe⟩ : ∃ x, x = Op.cf a k := ⟨_, rfl⟩
            obtain ⟨y, hye⟩ : ∃ y, y = Op.cf b k := ⟨_, rfl⟩
            rw [← hxe] at hcx hx hxb
            rw [← hye] at hcy hy hyb
            have HX := Lib.hid hxe
            have HY := Lib.hid hye
            obtain ⟨x0, -⟩ := hx
            obtain ⟨y0, -⟩ := hy
            have r0 := emod_lo (x + y) q (by omega)
            have r1 := emod_hi (x + y) q (by omega)
            obtain ⟨z, hz⟩ : ∃ z, z = (x + y) % q := ⟨_, rfl⟩
            have HZ := Lib.hid (show z = (Op.cf a k + Op.cf b k) % q by rw [hz, hxe, hye])
            have hqz : ¬ q = 0 := by omega
            have w1 : IntKind.u64.wrap x = x := IntWalk.u64_in _ (by omega)
            have w2 : IntKind.u64.wrap y = y := IntWalk.u64_in _ (by omega)
            have w3' : IntKind.u64.wrap (q : Int) = q := IntWalk.u64_in _ (by omega)
            have w4 : IntKind.u64.wrap (x + y) = x + y := IntWalk.u64_in _ (by omega)
            have w5 : (x + y).tmod (q : Int) = z := by rw [hz]; exact Int.tmod_eq_emod_of_nonneg (by omega)
            have w6 : (x + y) % (q : Int) = z := hz.symm
            rw [w6] at r0 r1
            have w7 : IntKind.u64.wrap z = z := IntWalk.u64_in _ (by omega)
            have w8 : IntKind.u32.wrap z = z := IntWalk.u32_in _ (by omega)
            have HZ0 := Lib.hid (show 0 ≤ z ∧ z < 4294967296 by omega)
            have HPL := Lib.hid (show l.length + [z].length ≤ 1000000 from by rw [HLL.out]; simp; omega)
            have ex := HG4.out.keeps hcx
            have ey := HG4.out.keeps hcy
            clear hxe hye hz
            go_wp2_with fail
            go_region_held3 (fun wz => wz.cell? ⟨w.heap.size, 1, none⟩ = some (.int .u32 q) ∧ wz.cell? ⟨w.heap.size, 2, none⟩ = some (.slice (some ⟨gx, ox, none⟩) lb ca) ∧ wz.cell? ⟨w.heap.size, 3, none⟩ = some (.slice (some ⟨gy, oy, none⟩) lb cb) ∧ wz.cell? ⟨gx, ox + k, none⟩ = some (.int .u32 x) ∧ wz.cell? ⟨gy, oy + k, none⟩ = some (.int .u32 y)) (first | exact ⟨HG5.out.keeps c1, HG5.out.keeps c2, HG5.out.keeps c3, HG5.out.keeps hcx, HG5.out.keeps hcy⟩ | go_keep)
              (first
                | (refine wp_app (.tmp 71) (.tmp 90) rfl rfl w3.heap.size (.slice vx l.length vc) l rfl (HO.out.drew.alloc _) (.slice (some ⟨wr.heap.size, 0, none⟩) 1 1) [z] rfl (one_hasP' _ _ _ (by simp) HZ0.out) HPL.out (Nat.le_trans hsz (by simp)) ?_; intro v' wA hown hgrow; have HO5 := Lib.hid hown; have HG5 := Lib.hid (show Gr w3 wA from grown_own (Gr.alloc (show Gr w3 wr.drew from HG4.out.drew) _) (HO.out.drew.alloc _) hgrow (Nat.le_refl _)); clear hown hgrow))
            clear w1 w2 w3' w4 w5 w6 w7 w8 ex ey d1 d2 d3
            go_wp2_with fail
            go_roundw
            case rel => exact ⟨k + 1, l ++ [z], by go_num, by omega, by rw [List.length_append, HLL.out]; rfl, snoc_cf HLL.out HVAL.out HZ.out, HO5.out, HG5.out⟩
            case measure => simp [intOf]; omega
          · obtain rfl : k = lb := by omega
            have i1 : ¬ (k : Int) < (k : Int) := by omega
            have HLS := Lib.hid (su_len (show 1 ≤ q by omega) HLL.out HVAL.out)
            have HCS := Lib.hid ((chkT_one k q l).resolve_right (fun h => h.1 HLS.out)).2
            have HT4 := Lib.hid (HT3.out.later HG4.out)
            have HUM := Lib.hid (HUL.out.later HG4.out)
            have HVM := Lib.hid (HVL.out.later HG4.out)
            have HFA := Lib.hid (HF13.out.later HG4.out)
            have HFB := Lib.hid (HF2.out.later HG4.out)
            obtain rfl := HN1.out
            obtain rfl : p2 = p1 := HN2.out
            clear HN1 HN2
            go_wp2_with fail
            refine (pFwd_any p2 q psi s T l _ _ HN.out HT4.out HO.out.hasP).mono ?_
            rintro e wB ⟨x3, p3, k3, rfl, hx, hfr, hg⟩
            rw [HCS.out]
            obtain rfl : p3 = p2 := by rw [hx.len.1]; exact fwL_len HLS.out
            have HF5 := Lib.hid hx
            have HG5 := Lib.hid (HG4.out.trans hg)
            have HT5 := Lib.hid (HT4.out.later hg)
            have HUM5 := Lib.hid (HUM.out.later hg)
            have HVM5 := Lib.hid (HVM.out.later hg)
            have HFA5 := Lib.hid (HFA.out.later hg)
            have HFB5 := Lib.hid (HFB.out.later hg)
            have d0 := hg.keeps d0
            have d1 := hg.keeps d1
            have d2 := hg.keeps d2
            have d3 := hg.keeps d3
            clear hx hfr hg
            go_wp2_with fail
            refine (pMul_any p3 q psi s T a b _ _ _ HN.out HT5.out HUM5.out HVM5.out).mono ?_
            rintro e wC ⟨x4, p4, k4, rfl, hx, hfr, hg⟩
            rw [HCM.out]
            have HML := Lib.hid (show IsL p3 q (mlL p3 q psi s a b) by rw [HEM.out]; exact isL_tl (by omega))
            obtain rfl : p4 = p3 := by rw [hx.len.1]; exact HML.out.1
            have HF6 := Lib.hid hx
            have HG6 := Lib.hid (HG5.out.trans hg)
            have HT6 := Lib.hid (HT5.out.later hg)
            have HFA6 := Lib.hid (HFA5.out.later hg)
            have HFB6 := Lib.hid (HFB5.out.later hg)
            have HFC6 := Lib.hid (HF5.out.later hg)
            have d0 := hg.keeps d0
            have d1 := hg.keeps d1
            clear hx hfr hg d2 d3
            have HCD := Lib.hid ((chkT_one p4 q (mlL p4 q psi s a b)).resolve_right (fun h => h.1 HML.out)).2
            go_wp2_with fail
            refine (pFwd_any p4 q psi s T _ _ _ HN.out HT6.out HF6.out).mono ?_
            rintro e wD ⟨x5, p5, k5, rfl, hx, hfr, hg⟩
            rw [HCD.out]
            obtain rfl : p5 = p4 := by rw [hx.len.1]; exact fwL_len HML.out
            have HF7 := Lib.hid hx
            have HG7 := Lib.hid (HG6.out.trans hg)
            have HFA7 := Lib.hid (HFA6.out.later hg)
            have HFB7 := Lib.hid (HFB6.out.later hg)
            have HFC7 := Lib.hid (HFC6.out.later hg)
            have d0 := hg.keeps d0
            have d1 := hg.keeps d1
            clear hx hfr hg
            have HSU := Lib.hid (fun k (hk : k < p5) => (show Op.cf (fwL p5 q psi l) k = (Op.cf (fwL p5 q psi a) k + Op.cf (fwL p5 q psi b) k) % q from by
              rw [fwL, if_pos HLS.out, HE1.out, HE2.out]; exact Ot.fw_sum (by omega) HVAL.out hk))
            have HPR := Lib.hid (fun k (hk : k < p5) => (show Op.cf (fwL p5 q psi (mlL p5 q psi s a b)) k = Op.cf (fwL p5 q psi a) k * Op.cf (fwL p5 q psi b) k % q from by
              rw [fwL, if_pos HML.out, HEM.out, HE1.out, HE2.out]; exact HN.out.rt.fw_ml HN.out.inv.2.2 hk))
            go_wp2_with fail
            go_loopw [17] (fun t wr => ∃ k : Nat, t = .int .i64 k ∧ k ≤ p5 ∧ Gr wD wr) (fun t _ => p5 - (intOf t).toNat)
            case atStart => exact ⟨0, rfl, by omega, Gr.refl wD⟩
            case round =>
              obtain ⟨k, rfl, hk, hg⟩ := hrel
              have HG8 := Lib.hid hg
              have e0 := hg.keeps d0
              have e1 := hg.keeps d1
              by_cases hlt : k < p5
              · have i2 : (k : Int) < (p5 : Int) := by omega
                have i3 : (0 : Int) ≤ (k : Int) := by omega
                obtain ⟨gA, oA, rfl, cA, A0, A1, lA⟩ := (HFA7.out.later hg).el hlt
                obtain ⟨gB, oB, rfl, cB, B0, B1, lB⟩ := (HFB7.out.later hg).el hlt
                obtain ⟨gC, oC, rfl, cC, C0, C1, lC⟩ := (HFC7.out.later hg).el hlt
                obtain ⟨gD, oD, rfl, cD, D0, D1, lD⟩ := (HF7.out.later hg).el hlt
                rw [HSU.out k hlt] at cC C0 C1
                rw [HPR.out k hlt] at cD D0 D1
                have A2 : Op.cf (fwL p5 q psi a) k < q := by rw [HE1.out]; exact (Ot.cf_tl_lt (by omega) k).2
                have B2 : Op.cf (fwL p5 q psi b) k < q := by rw [HE2.out]; exact (Ot.cf_tl_lt (by omega) k).2
                obtain ⟨x, hx⟩ : ∃ x, x = Op.cf (fwL p5 q psi a) k := ⟨_, rfl⟩
                obtain ⟨y, hy⟩ : ∃ y, y = Op.cf (fwL p5 q psi b) k := ⟨_, rfl⟩
                rw [← hx] at cA cC cD A0 A2 C0 C1 D0 D1
                rw [← hy] at cB cC cD B0 B2 C0 C1 D0 D1
                obtain ⟨z, hz⟩ : ∃ z, z = (x + y) % q := ⟨_, rfl⟩
                obtain ⟨t, ht⟩ : ∃ t, t = x * y % q := ⟨_, rfl⟩
                rw [← hz] at cC C0 C1
                rw [← ht] at cD D0 D1
                have p0 := mul_lo A0 B0
                have p1 : x * y ≤ 4611686014132420609 := by
                  have h1 : x * y ≤ 2147483647 * y := Int.mul_le_mul_of_nonneg_right (by omega) B0
                  omega
                have v1 : IntKind.u64.wrap x = x := IntWalk.u64_in _ (by omega)
                have v2 : IntKind.u64.wrap y = y := IntWalk.u64_in _ (by omega)
                have v3 : IntKind.u64.wrap (q : Int) = q := IntWalk.u64_in _ (by omega)
                have v4 : IntKind.u64.wrap (x + y) = x + y := IntWalk.u64_in _ (by omega)
                have v5 : (x + y).tmod (q : Int) = z := by rw [hz]; exact Int.tmod_eq_emod_of_nonneg (by omega)
                have v6 : (x + y) % (q : Int) = z := hz.symm
                have v7 : IntKind.u64.wrap z = z := IntWalk.u64_in _ (by omega)
                have v8 : IntKind.u64.wrap (x * y) = x * y := IntWalk.u64_in _ (by omega)
                have v9 : (x * y).tmod (q : Int) = t := by rw [ht]; exact Int.tmod_eq_emod_of_nonneg p0
                have v10 : x * y % (q : Int) = t := ht.symm
                have v11 : IntKind.u64.wrap t = t := IntWalk.u64_in _ (by omega)
                have hqz : ¬ q = 0 := by omega
                clear hg hx hy hz ht A1 B1
                go_wp2_with fail
                go_quiet (fail)
                clear v1 v2 v3 v4 v5 v6 v7 v8 v9 v10 v11
                go_wp2_with fail
                go_roundw
                case rel => exact ⟨k + 1, by go_num, by omega, HG8.out.drewN _⟩
                case measure => simp [intOf]; omega
              · obtain rfl : k = p5 := by omega
                have i2 : ¬ (k : Int) < (k : Int) := by omega
                clear hg
                go_wp2_with fail
                refine (awake_any _).mono ?_
                rintro e wz ⟨rfl, hg⟩
                have HGz := Lib.hid (HG0.out.trans (HG3.out.trans (HG7.out.trans (HG8.out.trans hg))))
                clear hg
                go_wp2_with fail
                go_ret
                exact ⟨rfl, HGz.out⟩
      · rw [hc, hc2]
        clear hl hl2 hc hc2
        go_wp2_with fail
        refine (awake_any _).mono ?_
        rintro e w4 ⟨rfl, hg⟩
        have HG4 := Lib.hid (HG0.out.trans (HG3.out.trans hg))
        clear hg
        go_wp2_with fail
        go_ret
        exact ⟨rfl, HG4.out⟩
    · rw [hc]
      clear hl hc
      go_wp2_with fail
      refine (awake_any _).mono ?_
      rintro e w4 ⟨rfl, hg⟩
      have HG4 := Lib.hid (HG0.out.trans (HG3.out.trans hg))
      clear hg
      go_wp2_with fail
      go_ret
      exact ⟨rfl, HG4.out⟩
  · clear hf
    go_wp2_with fail
    refine (awake_any _).mono ?_
    rintro e w2 ⟨rfl, hg⟩
    have HG2 := Lib.hid (HG0.out.trans (HGW.out.trans hg))
    clear hg
    go_wp2_with fail
    go_ret
    exact ⟨rfl, HG2.out⟩
end Go.Proofs.Ytjbfghnihnmpjaa
