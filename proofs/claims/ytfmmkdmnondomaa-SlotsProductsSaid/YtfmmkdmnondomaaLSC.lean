import Derived.Test.YtfmmkdmnondomaaLSB
/- Package slots: sums, reduced. -/
namespace Go.Proofs.Ytfmmkdmnondomaa
open Go.RowKit
set_option linter.unusedVariables false

set_option maxRecDepth 100000 in
set_option maxHeartbeats 4000000 in
theorem ssums_any (n p r q x s T B F : Nat) (sc : Int) (a : List Int) (v : Value) (g : Nat → Nat → Nat) (w : World) (hF : ExpF n F g) (hN : SN n p r q x s) (h : IsSl w T n p r q x s) (hB : w.cell? ⟨B, 0, none⟩ = some (.pointer (some ⟨T, 0, none⟩)))
    (ha : a.length = n) (hv : Lo.HasQ w v a) (hsc : 0 ≤ sc ∧ sc < q) :
    Calls Try.prog 31 #[.pointer (some ⟨T, 0, none⟩), v, .int .u32 sc, .func (.func F) #[] #[.pointer (some ⟨B, 0, none⟩)]] w (RowP (Os.tl n q sc (Os.kn n q x g) (resL q a)) w) := by
  obtain ⟨d1, d2, d3, d4, d5, d6, d7, d8⟩ := hN.dims
  have HN := Lib.hid hN
  have H := Lib.hid h
  have HBB := Lib.hid hB
  have HV := Lib.hid hv
  have HSC := Lib.hid (show 0 ≤ sc ∧ sc ≤ 2147483647 by omega)
  have HGL := Lib.hid (fun i k (hi : i < n) (hk : k < n) => hF.lt hN.rt.dim hi hk)
  have HP := Lib.hid (fun i k w hN h hB hi hk => exp_any n p r q x s T B F i k g w hF hN h hB hi hk)
  have h0 := h.p0
  have h1 := h.r1
  have h2 := h.q2
  have h3 := h.n3
  have HQ := Lib.hid (show 1 ≤ (q : Int) ∧ (q : Int) ≤ 2147483647 by omega)
  have hmk := mk_row n (n : Int) (by omega) (by omega)
  obtain ⟨-, xa, ca, rfl, a1, a2, -⟩ := hv
  rw [ha] at HV a1 ⊢
  have HLA := Lib.hid ha
  have hn0 : ¬ n = 0 := by omega
  clear hN h hB ha hsc
  rcases hF with ⟨rfl, hg⟩ | ⟨rfl, hg⟩
  all_goals
    have HG0 := Lib.hid hg
    clear hg
    go_enter Try.func31, Try.ntmps31
    go_wp2_with fail
    refine (sresidues_any p q r a (.slice xa n ca) _ ⟨by omega, d6⟩ HV.out (by rw [HLA.out]; omega)).mono ?_
    rintro e w1 ⟨gr, nr, rfl, hnr, hgr, hrow, hg1⟩
    obtain rfl : n = nr := by rw [hnr, resL_len, HLA.out]
    have HNR := Lib.hid hnr
    have HRR := Lib.hid hrow
    have HG1 := Lib.hid hg1
    have h0 := hg1.keeps h0
    have h1 := hg1.keeps h1
    have h2 := hg1.keeps h2
    have h3 := hg1.keeps h3
    clear hrow hg1 hnr
    go_wp2_with fail
    clear hmk h0 h1 h2 h3
    obtain ⟨b, hb⟩ : ∃ b, b = resL q a := ⟨_, rfl⟩
    have HBL := Lib.hid (show b.length = n by rw [hb, resL_len]; exact HLA.out)
    have HBR := Lib.hid (show ∀ i, 0 ≤ Op.cf b i ∧ Op.cf b i < q from fun i => by rw [hb, cf_resL]; exact ⟨emod_lo _ _ (by omega), emod_hi _ _ (by omega)⟩)
    rw [← hb] at HRR ⊢
    have HBE := Lib.hid hb
    clear hb
    go_loopw [11, 12, 13, 14, 28] (fun _ _ _ _ t wr => ∃ (k : Nat) (l : List Int), t = .int .i64 k ∧ k ≤ n ∧ l.length = n ∧ (∀ j, j < k → Op.cf l j = Os.at_ n q sc (Os.kn n q x g) b j) ∧ Row wr w1.heap.size l ∧ Gr w1 wr) (fun _ _ _ _ t _ => n - (intOf t).toNat)
    case atStart => exact ⟨0, List.replicate n 0, rfl, by omega, by simp, fun j hj => by omega, Row.zeros w1 n, Gr.new w1 _⟩
    case round =>
      obtain ⟨k, l, rfl, hk, hll, hval, hrow, hg⟩ := hrel
      have HLL := Lib.hid hll
      have HVAL := Lib.hid hval
      have HROW := Lib.hid hrow
      have HG := Lib.hid hg
      clear hll hval hrow hg
      by_cases hlt : k < n
      · have i1 : (k : Int) < (n : Int) := by omega
        go_wp2_with fail
        obtain ⟨wo, rfl⟩ : ∃ wo : World, wo = wr := ⟨_, rfl⟩
        go_loopw [12, 13, 14, 33] (fun z _ _ t wi => ∃ (j : Nat) (y : Int), z = .int .u32 y ∧ t = .int .i64 j ∧ j ≤ n ∧ 0 ≤ y ∧ y < q ∧ y = Op.S j (fun i => Op.cf b i * Os.kn n q x g i k) % q ∧ Gr wo wi) (fun _ _ _ t _ => n - (intOf t).toNat)
        case atStart => exact ⟨0, 0, rfl, rfl, by omega, by omega, by omega, by simp [Op.S], Gr.refl wo⟩
        case round =>
          obtain ⟨j, z, rfl, rfl, hj, hz0, hz1, hz, hgi⟩ := hrel
          have HZ := Lib.hid hz
          have HGI := Lib.hid hgi
          clear hz hgi
          by_cases hjl : j < n
          · have i2 : (j : Int) < (n : Int) := by omega
            have hgw := (HG1.out.trans HG.out).trans HGI.out
            have hcx := (HRR.out.later (HG.out.trans HGI.out)).cell (j := j) (by rw [HBL.out]; exact hjl)
            obtain ⟨X, hX⟩ : ∃ X, X = Op.cf b j := ⟨_, rfl⟩
            have hxb := HBR.out j
            rw [← hX] at hcx hxb
            have HX := Lib.hid hX
            have HT := Lib.hid (H.out.later hgw)
            have HBC := Lib.hid (hgw.keeps HBB.out)
            obtain ⟨G, hG⟩ : ∃ G, G = g j k := ⟨_, rfl⟩
            have hGl := HGL.out j k hjl hlt
            rw [← hG] at hGl
            obtain ⟨d, hd⟩ : ∃ d, d = G % (2 * n) := ⟨_, rfl⟩
            have hdl : d < 2 * n := by rw [hd]; exact Nat.mod_lt _ (by omega)
            have c4 := HT.out.pw d hdl
            obtain ⟨y, hy⟩ : ∃ y, y = x ^ d % q := ⟨_, rfl⟩
            have hyl : y < q := by rw [hy]; exact Nat.mod_lt _ (by omega)
            rw [← hy] at c4
            have HY := Lib.hid (show ((y : Nat) : Int) = Os.kn n q x g j k from by unfold Os.kn; rw [hy, hd, hG])
            have c0 := HT.out.p0
            have c1 := HT.out.r1
            have c2 := HT.out.q2
            have c3 := HT.out.n3
            have u1 : IntKind.i64.wrap (2 * (n : Int)) = 2 * (n : Int) := IntWalk.i64_in _ (by omega)
            have u2 : (G : Int).tmod (2 * (n : Int)) = (d : Int) := by rw [Int.tmod_eq_emod_of_nonneg (by omega), hd]; simp
            have u3 : IntKind.i64.wrap (d : Int) = (d : Int) := IntWalk.i64_in _ (by omega)
            have u6 : (G : Int) % (2 * (n : Int)) = (d : Int) := by rw [hd]; simp
            have u7 : ¬ 2 * (n : Int) = 0 := by omega
            have u8 : ¬ n = 0 := by omega
            have u4 : (d : Int) < 64 := by omega
            have u5 : (0 : Int) ≤ (d : Int) := by omega
            have HGE := Lib.hid hG
            have HHJ := Lib.hid hjl
            have HHK := Lib.hid hlt
            clear hgw hX hG hd hy
            go_wp2_with fail
            go_region_held3 (fun wz => wz.cell? ⟨T, 0, none⟩ = some (.int .u32 p) ∧ wz.cell? ⟨T, 1, none⟩ = some (.int .i64 r) ∧ wz.cell? ⟨T, 2, none⟩ = some (.int .u32 q) ∧ wz.cell? ⟨T, 3, none⟩ = some (.int .i64 n) ∧ wz.cell? ⟨T, 4 + d, none⟩ = some (.int .u32 y)) (go_keep)
              (first
                | (go_at_call 32; refine (HP.out j k _ HN.out (HT.out.later ((Gr.refl _).drewN 1)) (((Gr.refl _).drewN 1).keeps HBC.out) HHJ.out HHK.out).mono ?_; rintro e w5 ⟨rfl, hg5⟩; rw [← HGE.out]; have HG5 := Lib.hid (((Gr.refl _).drewN 1).trans hg5); have c0 := HG5.out.keeps c0; have c1 := HG5.out.keeps c1; have c2 := HG5.out.keeps c2; have c3 := HG5.out.keeps c3; have c4 := HG5.out.keeps c4; clear hg5)
                | (go_at_call 34; refine (HP.out j k _ HN.out (HT.out.later ((Gr.refl _).drewN 1)) (((Gr.refl _).drewN 1).keeps HBC.out) HHJ.out HHK.out).mono ?_; rintro e w5 ⟨rfl, hg5⟩; rw [← HGE.out]; have HG5 := Lib.hid (((Gr.refl _).drewN 1).trans hg5); have c0 := HG5.out.keeps c0; have c1 := HG5.out.keeps c1; have c2 := HG5.out.keeps c2; have c3 := HG5.out.keeps c3; have c4 := HG5.out.keeps c4; clear hg5)
                | (go_at_call 48; refine (splus_any p r q z X y _ HQ.out ⟨by omega, by omega⟩ ⟨by omega, by omega⟩ ⟨by omega, by omega⟩).mono ?_; rintro e w6 ⟨rfl, hg6⟩; have HG6 := Lib.hid (HG5.out.trans hg6); have c0 := hg6.keeps c0; have c1 := hg6.keeps c1; have c2 := hg6.keeps c2; have c3 := hg6.keeps c3; have c4 := hg6.keeps c4; clear hg6))
            have r0 := emod_lo (z + X * y) q (by omega)
            have r1 := emod_hi (z + X * y) q (by omega)
            have HS := Lib.hid (Os.S_step q (fun i => Op.cf b i * Os.kn n q x g i k) j z X y HZ.out (by rw [HX.out, HY.out]))
            have HG7 := Lib.hid (HGI.out.trans HG6.out)
            clear c0 c1 c2 c3 c4 u1 u2 u3 u4 u5 u6 u7 u8
            go_wp2_with fail
            go_roundw
            case rel => exact ⟨j + 1, (z + X * y) % q, rfl, by go_num, by omega, r0, r1, HS.out, HG7.out⟩
            case measure => simp [intOf]; omega
          · obtain rfl : j = n := by omega
            have i2 : ¬ (j : Int) < (j : Int) := by omega
            have HR1 := Lib.hid (HROW.out.later HGI.out)
            have HT := Lib.hid (H.out.later ((HG1.out.trans HG.out).trans HGI.out))
            have c0 := HT.out.p0
            have c1 := HT.out.r1
            have c2 := HT.out.q2
            go_wp2_with fail
            refine (splus_any p r q 0 sc z _ HQ.out (by omega) HSC.out ⟨by omega, by omega⟩).mono ?_
            rintro e w2 ⟨rfl, hg2⟩
            rw [Int.zero_add]
            have HGX := Lib.hid (HGI.out.trans hg2)
            have HR1 := Lib.hid (HR1.out.later hg2)
            clear hg2
            have r0 := emod_lo (sc * z) q (by omega)
            have r1 := emod_hi (sc * z) q (by omega)
            have hc1 := HR1.out.cell (j := k) (by rw [HLL.out]; exact hlt)
            have hf1 := HR1.out.frozen k
            have HR2 := Lib.hid (HR1.out.setAt (k := k) (x := sc * z % q) (by rw [HLL.out]; exact hlt) (by omega))
            have HEQ := Lib.hid (show sc * z % q = Os.at_ j q sc (Os.kn j q x g) b k from by rw [HZ.out]; rfl)
            go_wp2_with fail
            go_roundw
            case rel => exact ⟨k + 1, l.set k (sc * z % q), by go_num, by omega, by rw [List.length_set]; exact HLL.out, fun i hi => by
              rw [cf_set l _ k i (by rw [HLL.out]; exact hlt)]
              by_cases e : i = k
              · rw [if_pos e, e]; exact HEQ.out
              · rw [if_neg e]; exact HVAL.out i (by omega), HR2.out, (HG.out.trans HGX.out).setCell (Nat.le_refl _) _⟩
            case measure => simp [intOf]; omega
      · obtain rfl : k = n := by omega
        have i1 : ¬ (k : Int) < (k : Int) := by omega
        have HLE := Lib.hid HG1.out.size
        go_wp2_with fail
        go_ret
        have e := Os.tl_ext HLL.out HVAL.out
        exact ⟨w1.heap.size, k, rfl, by rw [Os.tl_len], HLE.out, by rw [← HBE.out, ← e]; exact HROW.out, HG1.out.trans HG.out⟩
end Go.Proofs.Ytfmmkdmnondomaa
/- Package slots: reduced, Encode, Decode. -/
namespace Go.Proofs.Ytfmmkdmnondomaa
open Go.RowKit
set_option linter.unusedVariables false

/-- New balanced numbers in a block of their own. -/
def RedP (Q : Nat) (a : List Int) (w : World) (en : Ending) (w' : World) : Prop := ∃ g m l, en = .returned (.slice (some ⟨g, 0, none⟩) m m) ∧ m = a.length ∧ l.length = a.length ∧ (∀ j, j < a.length → Op.cf l j = bal (Op.cf a j % Q) Q) ∧ w.heap.size ≤ g ∧ Lo.Row w' g l ∧ Gr w w'
set_option maxRecDepth 100000 in
set_option maxHeartbeats 1000000 in
theorem sreduced_any (n p r q x s T e Q : Nat) (a : List Int) (v : Value) (w : World) (hN : SN n p r q x s) (h : IsSl w T n p r q x s) (hQ : Q = p ^ e) (hQ2 : 2 ≤ Q) (hQ3 : Q ≤ 2147483647) (hv : HasP w v a) (ha : ∀ i, 0 ≤ Op.cf a i ∧ Op.cf a i ≤ 2147483647) (hl : a.length ≤ 1000000) :
    Calls Try.prog 33 #[.pointer (some ⟨T, 0, none⟩), v, .int .i64 e] w (RedP Q a w) := by
  obtain ⟨d1, d2, d3, d4, d5, d6, d7, d8⟩ := hN.dims
  have HN := Lib.hid hN
  have H := Lib.hid h
  have HV := Lib.hid hv
  have HQ := Lib.hid hQ
  have HA := Lib.hid ha
  obtain ⟨-, xa, ca, rfl, a1, a2, -⟩ := hv
  obtain ⟨la, hla⟩ : ∃ la, la = a.length := ⟨_, rfl⟩
  rw [← hla] at HV a1 hl ⊢
  have HLA := Lib.hid hla
  have hmk := Lo.mk_row la (la : Int) (by omega) (by omega)
  clear hla hN h hQ ha
  go_enter Try.func33, Try.ntmps33
  go_wp2_with fail
  clear hmk
  go_loopw [8, 9, 15] (fun _ _ t wr => ∃ (k : Nat) (l : List Int), t = .int .i64 k ∧ k ≤ la ∧ l.length = la ∧ (∀ j, j < k → Op.cf l j = bal (Op.cf a j % Q) Q) ∧ Lo.Row wr w.heap.size l ∧ Gr w wr) (fun _ _ t _ => la - (intOf t).toNat)
  case atStart => exact ⟨0, List.replicate la 0, rfl, by omega, by simp, fun j hj => by omega, Lo.Row.zeros w la, Gr.new w _⟩
  case round =>
    obtain ⟨k, l, rfl, hk, hll, hval, hrow, hg⟩ := hrel
    have HLL := Lib.hid hll
    have HVAL := Lib.hid hval
    have HROW := Lib.hid hrow
    have HG := Lib.hid hg
    clear hll hval hrow hg
    by_cases hlt : k < la
    · have i1 : (k : Int) < (la : Int) := by omega
      obtain ⟨gx, ox, rfl, hcx⟩ : ∃ gx ox, xa = some ⟨gx, ox, none⟩ ∧ wr.cell? ⟨gx, ox + k, none⟩ = some (.int .u32 (Op.cf a k)) := by
        obtain ⟨_, b, c', e, _, _, h3⟩ := HV.out.later HG.out
        cases e
        obtain ⟨gx, ox, e, hc⟩ := h3 k (by have := HLA.out; omega)
        exact ⟨gx, ox, e, hc⟩
      obtain ⟨y, hy⟩ : ∃ y, y = Op.cf a k := ⟨_, rfl⟩
      have hyb := HA.out k
      rw [← hy] at hcx hyb
      have HY := Lib.hid hy
      have HT := Lib.hid (H.out.later HG.out)
      have c0 := HT.out.p0
      have c1 := HT.out.r1
      have c2 := HT.out.q2
      clear hy
      go_wp2_with fail
      refine (sbalanced_any p q e Q r y _ (by omega) HQ.out hQ3 hQ2 hyb).mono ?_
      rintro en w1 ⟨rfl, hg1⟩
      have HG1 := Lib.hid (HG.out.trans hg1)
      have HR1 := Lib.hid (HROW.out.later hg1)
      clear hg1
      obtain ⟨z, hz⟩ : ∃ z, z = bal (y % Q) Q := ⟨_, rfl⟩
      have HZ := Lib.hid hz
      have hzb : -9223372036854775808 ≤ z ∧ z < 9223372036854775808 := by
        have r0 := emod_lo y Q (by omega)
        have r1 := emod_hi y Q (by omega)
        rw [hz]; unfold bal; split <;> omega
      rw [← hz]
      clear hz
      have hc1 := HR1.out.cell (j := k) (by rw [HLL.out]; exact hlt)
      have hf1 := HR1.out.frozen k
      have HR2 := Lib.hid (HR1.out.setAt (k := k) (x := z) (by rw [HLL.out]; exact hlt) hzb)
      go_wp2_with fail
      go_roundw
      case rel => exact ⟨k + 1, l.set k z, by go_num, by omega, by rw [List.length_set]; exact HLL.out, fun i hi => by
        rw [cf_set l _ k i (by rw [HLL.out]; exact hlt)]
        by_cases e : i = k
        · rw [if_pos e, e, HZ.out, HY.out]
        · rw [if_neg e]; exact HVAL.out i (by omega), HR2.out, HG1.out.setCell (Nat.le_refl _) _⟩
      case measure => simp [intOf]; omega
    · obtain rfl : k = la := by omega
      have i1 : ¬ (k : Int) < (k : Int) := by omega
      go_wp2_with fail
      go_ret
      exact ⟨w.heap.size, k, l, rfl, HLA.out, by rw [HLL.out]; exact HLA.out, fun j hj => HVAL.out j (by rw [HLA.out]; exact hj), Nat.le_refl _, HROW.out, HG.out⟩

theorem bal_bl {Q : Nat} {y : Int} (h2 : 2 ≤ Q) (ho : Q % 2 = 1) : Os.Bl Q (bal (y % Q) Q) y := by
  have r0 := emod_lo y Q (by omega)
  have r1 := emod_hi y Q (by omega)
  have h := Os.C.mod Q y
  obtain ⟨z, hz⟩ : ∃ z, z = y % (Q : Int) := ⟨_, rfl⟩
  rw [← hz] at r0 r1 h ⊢
  unfold bal
  split
  · refine ⟨?_, by omega, by omega⟩
    have h2 := h.sub (show Os.C Q Q 0 from ⟨1, by omega⟩)
    rwa [Int.sub_zero] at h2
  · exact ⟨h, by omega, by omega⟩
theorem kn_C {n p q x : Nat} (h : Os.Rt n p q x) (g : Nat → Nat → Nat) (i k : Nat) : Os.C q (Os.kn n q x g i k) ((x : Int) ^ g i k) := by
  unfold Os.kn
  rw [Int.natCast_emod, Int.natCast_pow]
  exact (Os.C.mod q _).trans (h.mod _)
theorem at_C {n p q x : Nat} (h : Os.Rt n p q x) (sc : Int) (g : Nat → Nat → Nat) (a : List Int) (k : Nat) : Os.C q (Os.at_ n q sc (Os.kn n q x g) (resL q a) k) (sc * Op.S n (fun i => Op.cf a i * (x : Int) ^ g i k)) := by
  unfold Os.at_
  refine (Os.C.mod q _).trans ((Os.C.refl q sc).mul ((Os.C.mod q _).trans (Os.C.S (fun i hi => ?_))))
  rw [cf_resL]
  exact (Os.C.mod q _).mul (kn_C h g i k)
/-- Numbers and an error. -/
def LstE (R : List Int → Prop) (c : Int) (w : World) (en : Ending) (w' : World) : Prop :=
  ∃ g m cp l, en = .returned (.tuple #[.slice g m cp, .int .i64 c]) ∧ Lo.HasQ w' (.slice g m cp) l ∧ R l ∧ (∀ p, g = some p → w.heap.size ≤ p.block) ∧ Gr w w'
theorem LstE.nil {R : List Int → Prop} (c : Int) {w w' : World} (h : R []) (g : Gr w w') : LstE R c w (.returned (.tuple #[.slice none 0 0, .int .i64 c])) w' := ⟨_, _, _, [], rfl, Lo.HasQ.nil w', h, (fun p hp => by cases hp), g⟩
/-- What Decode and Encode return. -/
def DecR (n p r x : Nat) (E : Int) (a l : List Int) : Prop := (Ckd n p r E a ∧ Os.Dc n (p ^ E.toNat) x a l) ∨ (¬ Ckd n p r E a ∧ l = [])
def EncR (n p r x : Nat) (E : Int) (a l : List Int) : Prop := (Ckd n p r E a ∧ Os.Ec n (p ^ E.toNat) x a l) ∨ (¬ Ckd n p r E a ∧ l = [])
theorem DecR.unique {n p r x : Nat} {E : Int} {a l m : List Int} (h : DecR n p r x E a l) (k : DecR n p r x E a m) : l = m := by
  rcases h with ⟨h1, h2⟩ | ⟨h1, rfl⟩ <;> rcases k with ⟨k1, k2⟩ | ⟨k1, rfl⟩
  · exact h2.unique k2
  · exact absurd h1 k1
  · exact absurd k1 h1
  · rfl
/-- The modulus of an exponent. -/
theorem SN.low {n p r q x s : Nat} (h : SN n p r q x s) {e : Nat} (h1 : 1 ≤ e) (h2 : e ≤ r) : Os.Rt n p (p ^ e) x ∧ p ^ e ∣ q ∧ 2 ≤ p ^ e ∧ p ^ e ≤ 2147483647 ∧ p ^ e % 2 = 1 := by
  have hd : p ^ e ∣ q := by rw [h.hq]; exact Nat.pow_dvd_pow p h2
  have h3 := h.rt.down hd ⟨e, h1, rfl⟩
  have h4 := h3.pos
  exact ⟨h3, hd, by omega, Nat.le_trans (Nat.le_of_dvd (by have := h.rt.pos; omega) hd) h.le, odd_pow h.pl.odd e⟩
theorem EncR.unique {n p r q x s : Nat} (hN : SN n p r q x s) {E : Int} {a l m : List Int} (h : EncR n p r x E a l) (k : EncR n p r x E a m) : l = m := by
  rcases h with ⟨h1, h2⟩ | ⟨h1, rfl⟩ <;> rcases k with ⟨k1, k2⟩ | ⟨k1, rfl⟩
  · exact h2.unique (hN.low (e := E.toNat) (by have := h1.1; omega) (by have := h1.2.1; omega)).1 k2
  · exact absurd h1 k1
  · exact absurd k1 h1
  · rfl
theorem SN.dec {n p r q x s : Nat} (h : SN n p r q x s) {e : Nat} (h1 : 1 ≤ e) (h2 : e ≤ r) {a l : List Int} (hl : l.length = n)
    (hv : ∀ j, j < n → Op.cf l j = bal (Op.cf (Os.tl n q 1 (Os.kn n q x (Os.dg n)) (resL q a)) j % (p ^ e : Nat)) (p ^ e : Nat)) : Os.Dc n (p ^ e) x a l := by
  obtain ⟨k1, k2, k3, k4, k5⟩ := h.low h1 h2
  refine ⟨hl, fun j hj => ?_⟩
  rw [hv j hj]
  refine (bal_bl k3 k5).cg ?_
  rw [Os.cf_tl hj]
  have h3 := (at_C h.rt 1 (Os.dg n) a j).down k2
  rw [Int.one_mul] at h3
  exact h3
theorem SN.enc {n p r q x s : Nat} (h : SN n p r q x s) {e : Nat} (h1 : 1 ≤ e) (h2 : e ≤ r) {a l : List Int} (hl : l.length = n)
    (hv : ∀ j, j < n → Op.cf l j = bal (Op.cf (Os.tl n q s (Os.kn n q x (Os.eg n)) (resL q a)) j % (p ^ e : Nat)) (p ^ e : Nat)) : Os.Ec n (p ^ e) x a l := by
  obtain ⟨k1, k2, k3, k4, k5⟩ := h.low h1 h2
  refine ⟨hl, fun j hj => ?_⟩
  have hb := bal_bl (Q := p ^ e) (y := Op.cf (Os.tl n q s (Os.kn n q x (Os.eg n)) (resL q a)) j) k3 k5
  rw [← hv j hj] at hb
  refine ⟨?_, hb.2⟩
  have h3 := (at_C h.rt s (Os.eg n) a j).down k2
  have h4 := hb.1
  rw [Os.cf_tl hj] at h4
  have h5 := (Os.C.refl (p ^ e) (n : Int)).mul (h4.trans h3)
  refine h5.trans ?_
  have h6 : Os.C q ((n : Int) * s) 1 := by
    have := (Os.C.mod q ((n : Int) * s)).symm
    rwa [h.inv.2.2] at this
  have h7 := (h6.down k2).mul (Os.C.refl (p ^ e) (Op.S n (fun i => Op.cf a i * (x : Int) ^ Os.eg n i j)))
  rwa [Int.one_mul, Int.mul_assoc] at h7

set_option maxRecDepth 100000 in
set_option maxHeartbeats 2000000 in
theorem sDecode_any (n p r q x s T : Nat) (E : Int) (a : List Int) (v : Value) (w : World) (hN : SN n p r q x s) (h : IsSl w T n p r q x s) (hv : Lo.HasQ w v a) (hE : -9223372036854775808 ≤ E ∧ E ≤ 9223372036854775807) :
    Calls Try.prog 16 #[.pointer (some ⟨T, 0, none⟩), v, .int .i64 E] w (LstE (DecR n p r x E a) (chkE n p r E a) w) := by
  obtain ⟨d1, d2, d3, d4, d5, d6, d7, d8⟩ := hN.dims
  have HN := Lib.hid hN
  have H := Lib.hid h
  have HV := Lib.hid hv
  have HE := Lib.hid hE
  obtain ⟨-, xa, ca, rfl, a1, a2, -⟩ := hv
  obtain ⟨la, hla⟩ : ∃ la, la = a.length := ⟨_, rfl⟩
  have HLA := Lib.hid hla
  rw [← hla] at HV a1 ⊢
  clear hN h hE hla
  have HF := Lib.hid (show ExpF n 34 (Os.dg n) from .inl ⟨rfl, rfl⟩)
  go_enter Try.func16, Try.ntmps16
  go_wp2_with fail
  refine (scheck_any n p r q x s T E a _ _ HN.out (H.out.later (Gr.new w _)) (HV.out.later (Gr.new w _)) HE.out).mono ?_
  rintro e w1 ⟨rfl, hg⟩
  have HG := Lib.hid ((Gr.new w _).trans hg)
  have hb := hg.keeps (cell_new w (.pointer (some ⟨T, 0, none⟩)) 27)
  have HB := Lib.hid hb
  clear hg
  by_cases hc : Ckd n p r E a
  · have HCK := Lib.hid hc
    have HC := Lib.hid (chkE_yes hc)
    rw [HC.out]
    have hb0 := hb
    clear hb
    obtain ⟨en, rfl⟩ := Int.eq_ofNat_of_zero_le (show 0 ≤ E by have := hc.1; omega)
    have he1 : 1 ≤ en := by have := hc.1; omega
    have he2 : en ≤ r := by have := hc.2.1; omega
    have HLN := Lib.hid (show a.length = n from hc.2.2.1)
    obtain ⟨Q, hQ⟩ : ∃ Q, Q = p ^ en := ⟨_, rfl⟩
    have HQ := Lib.hid hQ
    obtain ⟨k1, k2, k3, k4, k5⟩ := HN.out.low he1 he2
    rw [← hQ] at k3 k4
    clear hc k1 k2 k5 hQ
    go_wp2_with fail
    refine (ssums_any n p r q x s T w.heap.size _ 1 a _ (Os.dg n) _ HF.out HN.out (H.out.later HG.out) HB.out HLN.out (HV.out.later HG.out) (by omega)).mono ?_
    rintro e w2 ⟨gs, ns, rfl, hns, hgs, hrow, hg2⟩
    rw [Os.tl_len] at hns
    obtain rfl : n = ns := hns.symm
    obtain ⟨b, hb⟩ : ∃ b, b = Os.tl n q 1 (Os.kn n q x (Os.dg n)) (resL q a) := ⟨_, rfl⟩
    have HBE := Lib.hid hb
    have hbl : b.length = n := by rw [hb, Os.tl_len]
    have hbr : ∀ i, 0 ≤ Op.cf b i ∧ Op.cf b i ≤ 2147483647 := fun i => by
      rw [hb]
      by_cases hi : i < n
      · rw [Os.cf_tl hi]
        have r0 := emod_lo (1 * (Op.S n (fun i_1 => Op.cf (resL q a) i_1 * Os.kn n q x (Os.dg n) i_1 i) % q)) q (by omega)
        have r1 := emod_hi (1 * (Op.S n (fun i_1 => Op.cf (resL q a) i_1 * Os.kn n q x (Os.dg n) i_1 i) % q)) q (by omega)
        unfold Os.at_
        omega
      · rw [Op.cf_out (by rw [Os.tl_len]; omega)]; omega
    rw [← hb] at hrow
    have hp := hrow.hasP (cap := n) (by rw [hbl]; exact Nat.le_refl _) (by omega)
    rw [hbl] at hp
    have HP := Lib.hid hp
    have HBL := Lib.hid hbl
    have HBR := Lib.hid hbr
    have HG2 := Lib.hid (HG.out.trans hg2)
    have hb := hg2.keeps hb0
    clear hp hbl hbr hrow hg2 hns
    go_wp2_with fail
    refine (sreduced_any n p r q x s T en Q b _ _ HN.out (H.out.later HG2.out) HQ.out k3 k4 HP.out HBR.out (by rw [HBL.out]; omega)).mono ?_
    rintro e w3 ⟨g3, m3, l, rfl, hm3, hl, hval, hg3, hrow, hg⟩
    have HROW := Lib.hid hrow
    have HR := Lib.hid (show DecR n p r x (en : Int) a l from .inl ⟨HCK.out, by
      rw [Int.toNat_natCast]
      refine HN.out.dec he1 he2 (by rw [hl]; exact HBL.out) (fun j hj => ?_)
      rw [hval j (by rw [HBL.out]; exact hj), HBE.out, HQ.out]⟩)
    have HG3 := Lib.hid (HG2.out.trans hg)
    have hgb := Nat.le_trans HG2.out.size hg3
    have HM := Lib.hid (show m3 = l.length by rw [hm3, hl])
    have HM2 := Lib.hid (show m3 ≤ 32 by rw [hm3, HBL.out]; omega)
    clear hm3 hl hval hg3 hrow hg
    go_wp2_with fail
    go_ret2
    rw [HC.out]
    refine ⟨some ⟨g3, 0, none⟩, m3, m3, l, rfl, ?_, HR.out, (fun p hp => by cases hp; exact hgb), HG3.out⟩
    have := HROW.out.hasQ (cap := m3) (by rw [← HM.out]; exact Nat.le_refl _) (by have := HM2.out; omega)
    rwa [← HM.out] at this
  · have HC := Lib.hid (chkE_no hc)
    have HR := Lib.hid (show DecR n p r x E a [] from .inr ⟨hc, rfl⟩)
    rw [HC.out]
    clear hc
    go_wp2_with fail
    go_ret2
    rw [HC.out]
    exact LstE.nil 2 HR.out HG.out
end Go.Proofs.Ytfmmkdmnondomaa
/- Package slots: Encode. -/
namespace Go.Proofs.Ytfmmkdmnondomaa
open Go.RowKit
set_option linter.unusedVariables false

set_option maxRecDepth 100000 in
set_option maxHeartbeats 2000000 in
theorem sEncode_any (n p r q x s T : Nat) (E : Int) (a : List Int) (v : Value) (w : World) (hN : SN n p r q x s) (h : IsSl w T n p r q x s) (hv : Lo.HasQ w v a) (hE : -9223372036854775808 ≤ E ∧ E ≤ 9223372036854775807) :
    Calls Try.prog 15 #[.pointer (some ⟨T, 0, none⟩), v, .int .i64 E] w (LstE (EncR n p r x E a) (chkE n p r E a) w) := by
  obtain ⟨d1, d2, d3, d4, d5, d6, d7, d8⟩ := hN.dims
  have HN := Lib.hid hN
  have H := Lib.hid h
  have HV := Lib.hid hv
  have HE := Lib.hid hE
  obtain ⟨-, xa, ca, rfl, a1, a2, -⟩ := hv
  obtain ⟨la, hla⟩ : ∃ la, la = a.length := ⟨_, rfl⟩
  have HLA := Lib.hid hla
  rw [← hla] at HV a1 ⊢
  clear hN h hE hla
  have HF := Lib.hid (show ExpF n 32 (Os.eg n) from .inr ⟨rfl, rfl⟩)
  go_enter Try.func15, Try.ntmps15
  go_wp2_with fail
  refine (scheck_any n p r q x s T E a _ _ HN.out (H.out.later (Gr.new w _)) (HV.out.later (Gr.new w _)) HE.out).mono ?_
  rintro e w1 ⟨rfl, hg⟩
  have HG := Lib.hid ((Gr.new w _).trans hg)
  have hb := hg.keeps (cell_new w (.pointer (some ⟨T, 0, none⟩)) 27)
  have HB := Lib.hid hb
  clear hg
  by_cases hc : Ckd n p r E a
  · have HCK := Lib.hid hc
    have HC := Lib.hid (chkE_yes hc)
    rw [HC.out]
    have hb0 := hb
    clear hb
    obtain ⟨en, rfl⟩ := Int.eq_ofNat_of_zero_le (show 0 ≤ E by have := hc.1; omega)
    have he1 : 1 ≤ en := by have := hc.1; omega
    have he2 : en ≤ r := by have := hc.2.1; omega
    have HLN := Lib.hid (show a.length = n from hc.2.2.1)
    obtain ⟨Q, hQ⟩ : ∃ Q, Q = p ^ en := ⟨_, rfl⟩
    have HQ := Lib.hid hQ
    obtain ⟨k1, k2, k3, k4, k5⟩ := HN.out.low he1 he2
    rw [← hQ] at k3 k4
    clear hc k1 k2 k5 hQ
    go_wp2_with fail
    have csh := (H.out.later HG.out).sh
    have HD := Lib.hid (show Gr w w1.drew from HG.out.drewN 1)
    have HSD := Lib.hid (H.out.later HD.out)
    have HBD := Lib.hid (show w1.drew.cell? ⟨w.heap.size, 0, none⟩ = some (.pointer (some ⟨T, 0, none⟩)) from HB.out)
    have HVD := Lib.hid (HV.out.later HD.out)
    have HSQ := Lib.hid (show 0 ≤ (s : Int) ∧ (s : Int) < (q : Int) by omega)
    go_region_held3 (fun wz => wz.cell? ⟨w.heap.size, 0, none⟩ = some (.pointer (some ⟨T, 0, none⟩)) ∧ wz.cell? ⟨T, 68, none⟩ = some (.int .u32 s)) (go_keep)
      (first | (go_at_call 31; refine (ssums_any n p r q x s T w.heap.size _ s a _ (Os.eg n) _ HF.out HN.out HSD.out HBD.out HLN.out HVD.out HSQ.out).mono ?_; rintro e w2 ⟨gs, ns, rfl, hns, hgs, hrow, hg2⟩; have HNS := Lib.hid hns; have HROW := Lib.hid hrow; have HGG := Lib.hid (HD.out.trans hg2); have hb2 := hg2.keeps HBD.out; have csh2 := hg2.keeps HSD.out.sh; clear hns hgs hrow hg2))
    have hns := HNS.out
    have hrow := HROW.out
    rw [Os.tl_len] at hns
    obtain rfl : n = ns := hns.symm
    obtain ⟨b, hb⟩ : ∃ b, b = Os.tl n q s (Os.kn n q x (Os.eg n)) (resL q a) := ⟨_, rfl⟩
    have HBE := Lib.hid hb
    have hbl : b.length = n := by rw [hb, Os.tl_len]
    have hbr : ∀ i, 0 ≤ Op.cf b i ∧ Op.cf b i ≤ 2147483647 := fun i => by
      rw [hb]
      by_cases hi : i < n
      · rw [Os.cf_tl hi]
        have r0 := emod_lo (s * (Op.S n (fun i_1 => Op.cf (resL q a) i_1 * Os.kn n q x (Os.eg n) i_1 i) % q)) q (by omega)
        have r1 := emod_hi (s * (Op.S n (fun i_1 => Op.cf (resL q a) i_1 * Os.kn n q x (Os.eg n) i_1 i) % q)) q (by omega)
        unfold Os.at_
        omega
      · rw [Op.cf_out (by rw [Os.tl_len]; omega)]; omega
    rw [← hb] at hrow
    have hp := hrow.hasP (cap := n) (by rw [hbl]; exact Nat.le_refl _) (by omega)
    rw [hbl] at hp
    have HP := Lib.hid hp
    have HBL := Lib.hid hbl
    have HBR := Lib.hid hbr
    have HG2 := HGG
    have hb := hb2
    clear hp hbl hbr hrow hns hb0 hb2 csh2 csh
    go_wp2_with fail
    refine (sreduced_any n p r q x s T en Q b _ _ HN.out (H.out.later HG2.out) HQ.out k3 k4 HP.out HBR.out (by rw [HBL.out]; omega)).mono ?_
    rintro e w3 ⟨g3, m3, l, rfl, hm3, hl, hval, hg3, hrow, hg⟩
    have HROW := Lib.hid hrow
    have HR := Lib.hid (show EncR n p r x (en : Int) a l from .inl ⟨HCK.out, by
      rw [Int.toNat_natCast]
      refine HN.out.enc he1 he2 (by rw [hl]; exact HBL.out) (fun j hj => ?_)
      rw [hval j (by rw [HBL.out]; exact hj), HBE.out, HQ.out]⟩)
    have HG3 := Lib.hid (HG2.out.trans hg)
    have hgb := Nat.le_trans HG2.out.size hg3
    have HM := Lib.hid (show m3 = l.length by rw [hm3, hl])
    have HM2 := Lib.hid (show m3 ≤ 32 by rw [hm3, HBL.out]; omega)
    clear hm3 hl hval hg3 hrow hg
    go_wp2_with fail
    go_ret2
    rw [HC.out]
    refine ⟨some ⟨g3, 0, none⟩, m3, m3, l, rfl, ?_, HR.out, (fun p hp => by cases hp; exact hgb), HG3.out⟩
    have := HROW.out.hasQ (cap := m3) (by rw [← HM.out]; exact Nat.le_refl _) (by have := HM2.out; omega)
    rwa [← HM.out] at this
  · have HC := Lib.hid (chkE_no hc)
    have HR := Lib.hid (show EncR n p r x E a [] from .inr ⟨hc, rfl⟩)
    rw [HC.out]
    clear hc
    go_wp2_with fail
    go_ret2
    rw [HC.out]
    exact LstE.nil 2 HR.out HG.out
end Go.Proofs.Ytfmmkdmnondomaa
