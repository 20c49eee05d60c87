import Derived.Test.YtjbfghnihnmpjaaLTB
import Derived.Deep.RegionHeld3
/- The reference of transform: New, Valid. -/
namespace Go.Proofs.Ytjbfghnihnmpjaa
open Go.RowKit
set_option linter.unusedVariables false

/-- A place that holds a table of the reference. -/
def IsRt (W : World) (R n q psi : Nat) : Prop :=
  W.cell? ⟨R, 0, none⟩ = some (.int .i64 n) ∧ W.cell? ⟨R, 1, none⟩ = some (.int .u32 q) ∧ W.cell? ⟨R, 2, none⟩ = some (.int .u32 psi)
theorem IsRt.later {W W' : World} {R n q psi : Nat} (h : IsRt W R n q psi) (g : Gr W W') : IsRt W' R n q psi := ⟨g.keeps h.1, g.keeps h.2.1, g.keeps h.2.2⟩
/-- What New of the reference returns. -/
def RNewT (n : Int) (q : Nat) (w : World) (e : Ending) (w' : World) : Prop :=
  Gr w w' ∧ ((∃ m psi R : Nat, n = m ∧ Fit n q ∧ Ob.LeastOrd q (2 * m) psi ∧ e = .returned (.tuple #[.pointer (some ⟨R, 0, none⟩), .int .i64 0]) ∧ IsRt w' R m q psi) ∨ (¬ Fit n q ∧ e = .returned (.tuple #[.pointer none, .int .i64 2])))
theorem fit_mod {n q : Nat} (h : Dim n) (hq : 2 ≤ q) : (q - 1) % (2 * n) = 0 ↔ q % (2 * n) = 1 := by
  rcases h with rfl | rfl | rfl | rfl | rfl <;> omega
theorem prime5_any (q : Nat) (w : World) (hq : q ≤ 4294967295) : Calls Try.prog 39 #[.int .u32 q] w (BoolPost (Ob.Pr q) w) := by
  go_enter Try.func39, Try.ntmps39
  go_wp2_with fail
  refine (rprime_any q _ hq).mono ?_
  rintro e w1 ⟨b, rfl, hb, hg⟩
  have HB := Lib.hid hb
  have HG := Lib.hid hg
  clear hb hg
  go_wp2_with fail
  go_ret
  exact ⟨b, rfl, HB.out.trans ((prm_iff q).symm.trans (prm_pr hq)), HG.out⟩

set_option maxRecDepth 100000 in
set_option maxHeartbeats 4000000 in
theorem rNew_any (n : Int) (q : Nat) (w : World) (hq : q ≤ 4294967295) : Calls Try.prog 24 #[.int .i64 n, .int .u32 q] w (RNewT n q w) := by
  by_cases hd : n = 2 ∨ n = 4 ∨ n = 8 ∨ n = 16 ∨ n = 32
  · have HD : ∃ m : Nat, n = m ∧ Dim m := ⟨n.toNat, by omega, by unfold Dim; omega⟩
    obtain ⟨m, rfl, hm⟩ := HD
    have h23 : 2 ≤ m ∧ m ≤ 32 := by unfold Dim at hm; omega
    obtain ⟨h2, h3⟩ := h23
    have HM := Lib.hid hm
    have hb : (((m : Int) != 2) = false) ∨ ((m : Int) != 2) = true ∧ (((m : Int) != 4) = false) ∨ ((m : Int) != 2) = true ∧ ((m : Int) != 4) = true ∧ (((m : Int) != 8) = false) ∨ ((m : Int) != 2) = true ∧ ((m : Int) != 4) = true ∧ ((m : Int) != 8) = true ∧ (((m : Int) != 16) = false) ∨ ((m : Int) != 2) = true ∧ ((m : Int) != 4) = true ∧ ((m : Int) != 8) = true ∧ ((m : Int) != 16) = true ∧ (((m : Int) != 32) = false) := by
      unfold Dim at hm; simp only [bne_eq_false_iff_eq, bne_iff_ne, ne_eq]; omega
    clear hd hm
    have r0 := emod_lo (q : Int) (2 * (m : Int)) (by omega)
    have r1 := emod_hi (q : Int) (2 * (m : Int)) (by omega)
    have er : (q : Int) % (2 * (m : Int)) = ((q % (2 * m) : Nat) : Int) := by simp
    obtain ⟨r, hr⟩ : ∃ r, r = q % (2 * m) := ⟨_, rfl⟩
    rw [← hr] at er
    have HR := Lib.hid hr
    clear hr
    rcases hb with b1 | ⟨b1, b2⟩ | ⟨b1, b2, b3⟩ | ⟨b1, b2, b3, b4⟩ | ⟨b1, b2, b3, b4, b5⟩
    all_goals
      by_cases c1 : 2147483647 < q
      · have i1 : (q : Int) > 2147483647 := by omega
        go_enter Try.func24, Try.ntmps24
        go_wp2_with fail
        go_ret2
        exact ⟨Gr.refl w, .inr ⟨fun ⟨_, _, _, h, _⟩ => by omega, rfl⟩⟩
      · have i1 : ¬ (q : Int) > 2147483647 := by omega
        by_cases c2 : r = 1
        · have i2 : ((r : Int) != 1) = false := by simp; omega
          have HC := Lib.hid c2
          clear c2
          go_enter Try.func24, Try.ntmps24
          go_wp2_with fail
          refine (prime5_any q _ hq).mono ?_
          rintro e w1 ⟨b, rfl, hb, hg⟩
          have HG := Lib.hid hg
          clear hg
          cases b with
          | false =>
            have HN := Lib.hid (show ¬ Fit m q from fun ⟨_, _, _, _, h, _⟩ => by have := hb.2 h; simp at this)
            clear hb
            go_wp2_with fail
            go_ret2
            exact ⟨HG.out, .inr ⟨HN.out, rfl⟩⟩
          | true =>
            have HP := Lib.hid (hb.1 rfl)
            have HDV := Lib.hid ((fit_mod HM.out HP.out.1).2 (by rw [← HR.out, HC.out]))
            clear hb
            go_wp2_with fail
            refine (rRoot_any m q _ HM.out HP.out (by omega) HDV.out).mono ?_
            rintro e w2 ⟨psi, rfl, hl, rfl⟩
            have HL := Lib.hid hl
            clear hl
            go_wp2_with fail
            go_ret2
            exact ⟨HG.out.alloc _, .inl ⟨m, psi, _, rfl, ⟨m, rfl, HM.out, by omega, HP.out, HDV.out⟩, HL.out, rfl, by simp [go_sem], by simp [go_sem], by simp [go_sem]⟩⟩
        · have i2 : ((r : Int) != 1) = true := by simp; omega
          have HC := Lib.hid c2
          clear c2
          go_enter Try.func24, Try.ntmps24
          go_wp2_with fail
          go_ret2
          exact ⟨Gr.refl w, .inr ⟨fun ⟨k, e, h1, _, h2, h3⟩ => by
            obtain rfl : m = k := by omega
            exact HC.out (by rw [HR.out]; exact (fit_mod h1 h2.1).1 h3), rfl⟩⟩
  · have HN := Lib.hid (show ¬ Fit n q from fun ⟨m, e, h, _⟩ => hd (by unfold Dim at h; omega))
    have b1 : (n != 2) = true := by simp; omega
    have b2 : (n != 4) = true := by simp; omega
    have b3 : (n != 8) = true := by simp; omega
    have b4 : (n != 16) = true := by simp; omega
    have b5 : (n != 32) = true := by simp; omega
    clear hd
    go_enter Try.func24, Try.ntmps24
    go_wp2_with fail
    go_ret2
    exact ⟨Gr.refl w, .inr ⟨HN.out, rfl⟩⟩

set_option maxRecDepth 100000 in
set_option maxHeartbeats 2000000 in
theorem rValid_any (n q psi R : Nat) (a : List Int) (v : Value) (w : World) (hn : n ≤ 32) (hq : q ≤ 2147483647) (h : IsRt w R n q psi) (hv : HasP w v a) :
    Calls Try.prog 29 #[.pointer (some ⟨R, 0, none⟩), v] w (IsB (isLB n q a) w) := by
  have H := Lib.hid h
  have HV := Lib.hid hv
  obtain ⟨hd, xa, cap, rfl, hl1, hl2, -⟩ := hv
  have HD := Lib.hid hd
  obtain ⟨la, hla⟩ : ∃ la, la = a.length := ⟨_, rfl⟩
  rw [← hla] at HV hl1 ⊢
  have HLA := Lib.hid hla
  have hlb : (la : Int) ≤ 9223372036854775807 := by omega
  clear h hd hla
  go_enter Try.func29, Try.ntmps29
  go_wp2_with fail
  go_loopw [5] (fun t wr => ∃ k : Nat, t = .int .i64 k ∧ k ≤ la ∧ k ≤ n ∧ (∀ i, i < k → Op.cf a i < q) ∧ Gr w wr) (fun t _ => la - (intOf t).toNat)
  case atStart => exact ⟨0, rfl, by omega, by omega, fun i hi => by omega, Gr.refl w⟩
  case round =>
    obtain ⟨k, rfl, hk, hkn, ht, hg⟩ := hrel
    have HT := Lib.hid ht
    have HG := Lib.hid hg
    obtain ⟨c0, c1, -⟩ := H.out.later hg
    clear ht hg
    by_cases hlt : k < la
    · by_cases hlt2 : k < n
      · have i1 : (k : Int) < (la : Int) := by omega
        have i2 : (k : Int) < (n : Int) := by omega
        have i3 : (0 : Int) ≤ (k : Int) := by omega
        obtain ⟨gx, ox, rfl, hcx⟩ : ∃ gx ox, xa = some ⟨gx, ox, none⟩ ∧ wr.cell? ⟨gx, ox + k, none⟩ = some (.int .u32 (Op.cf a k)) := by
          obtain ⟨_, b, c', e, _, _, h3⟩ := HV.out.later HG.out
          cases e
          obtain ⟨gx, ox, e, hc⟩ := h3 k (by have := HLA.out; omega)
          exact ⟨gx, ox, e, hc⟩
        have hx := HD.out.at_ k
        obtain ⟨x, hxe⟩ : ∃ x, x = Op.cf a k := ⟨_, rfl⟩
        rw [← hxe] at hcx hx
        obtain ⟨hx0, hx1⟩ := hx
        have HX := Lib.hid hxe
        clear hxe
        by_cases hz : (q : Int) ≤ x
        · have E := Lib.hid (isLB_false (show ¬ IsL n q a from fun h => by
            have := h.2 k (by have := HLA.out; omega)
            rw [← HX.out] at this
            omega))
          go_wp2_with fail
          go_quiet (fail)
          go_wp2_with fail
          go_ret
          exact ⟨by rw [E.out]; rfl, HG.out.drewN _⟩
        · go_wp2_with fail
          go_quiet (fail)
          go_wp2_with fail
          go_roundw
          case rel => exact ⟨k + 1, by go_num, by omega, by omega, fun i hi => by
            by_cases h : i < k
            · exact HT.out i h
            · obtain rfl : i = k := by omega
              rw [← HX.out]; omega, HG.out.drewN _⟩
          case measure => simp [intOf]; omega
      · obtain rfl : k = n := by omega
        have i1 : (k : Int) < (la : Int) := by omega
        have i2 : ¬ (k : Int) < (k : Int) := by omega
        have hb : ((la : Int) == (k : Int)) = false := by simp; omega
        have E := Lib.hid (isLB_false (show ¬ IsL k q a from fun h => by
          have := h.1
          have := HLA.out
          omega))
        go_wp2_with fail
        go_ret
        exact ⟨by rw [E.out]; rfl, HG.out⟩
    · obtain rfl : k = la := by omega
      have i1 : ¬ (k : Int) < (k : Int) := by omega
      by_cases he : k = n
      · have hb : ((k : Int) == (n : Int)) = true := by simp; omega
        have E := Lib.hid (isLB_true (show IsL n q a from ⟨by rw [← HLA.out, he], fun i hi => HT.out i (by have := HLA.out; omega)⟩))
        clear he
        go_wp2_with fail
        go_ret
        exact ⟨by rw [E.out]; rfl, HG.out⟩
      · have hb : ((k : Int) == (n : Int)) = false := by simp; omega
        have E := Lib.hid (isLB_false (show ¬ IsL n q a from fun h => he (by rw [HLA.out]; exact h.1)))
        clear he
        go_wp2_with fail
        go_ret
        exact ⟨by rw [E.out]; rfl, HG.out⟩
end Go.Proofs.Ytjbfghnihnmpjaa
/- The reference of transform: Forward, Inverse. -/
namespace Go.Proofs.Ytjbfghnihnmpjaa
open Go.RowKit
set_option linter.unusedVariables false

theorem tl_prefix {n q : Nat} {sc : Int} {g : Nat → Nat → Int} {a l : List Int} {k : Nat} {x : Int} (hl : l.length = k) (hv : ∀ i, i < k → Op.cf l i = Ot.at_ n q sc g a i) (hx : x = Ot.at_ n q sc g a k) : ∀ i, i < k + 1 → Op.cf (l ++ [x]) i = Ot.at_ n q sc g a i := fun i hi => by
  rw [Op.cf_append]
  by_cases h : i < l.length
  · rw [if_pos h]; exact hv i (by omega)
  · rw [if_neg h]
    obtain rfl : i = k := by omega
    rw [hl, Nat.sub_self, hx]; rfl
theorem Own1.drewN {W : World} {base : Nat} {v : Value} {l : List Int} (h : Own1 W base v l) (n : Nat) : Own1 (W.drewN n) base v l := h
theorem Num.rt {n q psi s : Nat} (h : Num n q psi s) : Ot.Rt n q psi := ⟨h.pr, by have := h.dims; omega, h.least.1⟩
theorem Num.lt {n q psi s : Nat} (h : Num n q psi s) : n < q := by
  have h1 := h.dims
  have := Nat.le_of_dvd (by omega) (Nat.dvd_of_mod_eq_zero h.div)
  omega
theorem share_eq {n q psi s : Nat} {b : Int} (h : Num n q psi s) (h0 : 0 ≤ b) (h1 : b < q) (h2 : (q : Int) ∣ n * b - 1) : b = s := by
  refine IsInv.unique (a := n) (n := q) ⟨h0, h1, ?_⟩ h.inv
  have h3 := (show Ot.C q (n * b) 1 from h2).emod
  rw [h3]
  exact Int.emod_eq_of_lt (by omega) (by have := h.dims; omega)
theorem ba_eq {n q psi : Nat} (h : Ot.Rt n q psi) {i j M : Nat} (hi : i < n) (hM : M = (2 * n - 1) * i * (2 * j + 1)) : ((psi ^ M % q : Nat) : Int) = Ot.ba n q psi j i := by
  unfold Ot.ba
  congr 1
  obtain ⟨Z, hZ⟩ : ∃ Z, Z = i * (2 * j + 1) := ⟨_, rfl⟩
  refine h.per_mod (X := 2 * j + 1) (Y := Z) ?_
  have e1 : M + Z = 2 * n * Z := by
    rw [hM, hZ, Nat.mul_assoc, ← Nat.succ_mul]
    congr 1; omega
  have e2 : (2 * n - i) * (2 * j + 1) + Z = 2 * n * (2 * j + 1) := by
    rw [hZ, ← Nat.add_mul]; congr 1; omega
  omega

set_option maxRecDepth 100000 in
set_option maxHeartbeats 4000000 in
theorem rFwd_any (n q psi s R : Nat) (a : List Int) (v : Value) (w : World) (hN : Num n q psi s) (h : IsRt w R n q psi) (hv : HasP w v a) :
    Calls Try.prog 17 #[.pointer (some ⟨R, 0, none⟩), v] w (ListE (fwL n q psi a) (chkT n q [a]) w) := by
  obtain ⟨hn1, hn2, hq1, hq2, hpsi, hs⟩ := hN.dims
  have hnq := hN.lt
  have HN := Lib.hid hN
  have H := Lib.hid h
  have HV := Lib.hid hv
  obtain ⟨hd, xa, cap, rfl, hl1, hl2, -⟩ := hv
  have HD := Lib.hid hd
  obtain ⟨la, hla⟩ : ∃ la, la = a.length := ⟨_, rfl⟩
  rw [← hla] at HV hl1 ⊢
  have HLA := Lib.hid hla
  have c0 := h.1
  have c1 := h.2.1
  clear hN h hd hla
  rcases chkT_one n q a with ⟨hl, hc⟩ | ⟨hl, hc⟩
  · have HC := Lib.hid hc
    have HL := Lib.hid hl
    have HE := Lib.hid (show fwL n q psi a = Ot.tl n q 1 (Ot.fo q psi) a from if_pos hl)
    have hln : la = n := by have := HLA.out; have := hl.1; omega
    obtain rfl : la = n := hln
    have HB := Lib.hid (isLB_true hl)
    clear hl hc
    go_enter Try.func17, Try.ntmps17
    go_wp2_with fail
    refine (rValid_any la q psi R a _ _ hn2 hq2 H.out HV.out).mono ?_
    rintro e w1 ⟨rfl, hg⟩
    have HG := Lib.hid hg
    rw [HB.out]
    have c0 := hg.keeps c0
    have c1 := hg.keeps c1
    clear hg
    go_wp2_with fail
    go_loopw [6, 7, 8, 9] (fun sv t _ _ wr => ∃ (k : Nat) (l : List Int), t = .int .i64 k ∧ k ≤ la ∧ l.length = k ∧ (∀ i, i < k → Op.cf l i = Ot.at_ la q 1 (Ot.fo q psi) a i) ∧ Own1 wr w.heap.size sv l ∧ Gr w wr) (fun _ t _ _ _ => la - (intOf t).toNat)
    case atStart => exact ⟨0, [], rfl, by omega, rfl, fun i hi => by omega, Own1.nil _ _, HG.out⟩
    case round =>
      obtain ⟨k, l, rfl, hk, hll, hval, hown, hg⟩ := hrel
      have HLL := Lib.hid hll
      have HVAL := Lib.hid hval
      have HO := Lib.hid hown
      have HG1 := Lib.hid hg
      have hsz := hg.size
      obtain ⟨vx, vc, rfl, -, -⟩ := hown.form
      obtain ⟨c0, c1, c2⟩ := H.out.later hg
      clear hll hval hown hg
      by_cases hlt : k < la
      · have i1 : (k : Int) < (la : Int) := by omega
        go_wp2_with fail
        go_loopw [8, 9] (fun z t wi => ∃ (j : Nat) (x : Int), z = .int .u64 x ∧ t = .int .i64 j ∧ j ≤ la ∧ 0 ≤ x ∧ x < q ∧ x = Op.S j (fun i => Op.cf a i * (Ot.fo q psi) i k) % q ∧ Own1 wi w.heap.size (.slice vx l.length vc) l ∧ Gr w wi) (fun _ t _ => la - (intOf t).toNat)
        case atStart => exact ⟨0, 0, rfl, rfl, by omega, by omega, by omega, by simp [Op.S], HO.out, HG1.out⟩
        case round =>
          obtain ⟨j, z, rfl, rfl, hj, hz0, hz1, hz, hoi, hgi⟩ := hrel
          have HZ := Lib.hid hz
          have HOI := Lib.hid hoi
          have HGI := Lib.hid hgi
          obtain ⟨c0, c1, c2⟩ := H.out.later hgi
          have hszi := hgi.size
          clear hz hoi hgi
          by_cases hjl : j < la
          · have i2 : (j : Int) < (la : Int) := by omega
            have i3 : (0 : Int) ≤ (j : Int) := by omega
            obtain ⟨gx, ox, rfl, hcx⟩ : ∃ gx ox, xa = some ⟨gx, ox, none⟩ ∧ wr.cell? ⟨gx, ox + j, none⟩ = some (.int .u32 (Op.cf a j)) := by
              obtain ⟨_, b, c', e, _, _, h3⟩ := HV.out.later HGI.out
              cases e
              obtain ⟨gx, ox, e, hc⟩ := h3 j (by have := HLA.out; omega)
              exact ⟨gx, ox, e, hc⟩
            have hx := HD.out.at_ j
            have hxb := HL.out.2 j (by have := HLA.out; omega)
            obtain ⟨x, hxe⟩ : ∃ x, x = Op.cf a j := ⟨_, rfl⟩
            rw [← hxe] at hcx hx hxb
            obtain ⟨hx0, -⟩ := hx
            have HX := Lib.hid hxe
            clear hxe
            obtain ⟨M, hM⟩ : ∃ M, M = j * (2 * k + 1) := ⟨_, rfl⟩
            have m1 := mul_small (a := j) (b := 2 * (k : Int) + 1) (by omega) (by omega) (by omega) (by omega)
            have eM : (j : Int) * (2 * (k : Int) + 1) = (M : Int) := by rw [hM]; simp
            have hM2 : M ≤ 40000 := by omega
            have hy := Ot.fo_lt (q := q) (psi := psi) (i := j) (k := k) (by omega)
            obtain ⟨y, hye⟩ : ∃ y, y = Ot.fo q psi j k := ⟨_, rfl⟩
            have HYP := Lib.hid (show ((psi ^ M % q : Nat) : Int) = y from by rw [hye, hM]; rfl)
            rw [← hye] at hy
            have HY := Lib.hid hye
            clear hM hye
            obtain ⟨y0, y1⟩ := hy
            have p0 := mul_lo hx0 y0
            have p1 : x * y ≤ 4611686014132420609 := by
              have h1 : x * y ≤ 2147483647 * y := Int.mul_le_mul_of_nonneg_right (by omega) y0
              omega
            have r0 := emod_lo (z + x * y) q (by omega)
            have r1 := emod_hi (z + x * y) q (by omega)
            have HS := Lib.hid (Ot.S_step q (fun i => Op.cf a i * (Ot.fo q psi) i k) j z x y HZ.out (by rw [HX.out, HY.out]))
            have w1 : IntKind.i64.wrap (2 * (k : Int)) = 2 * (k : Int) := IntWalk.i64_in _ (by omega)
            have w2 : IntKind.i64.wrap (2 * (k : Int) + 1) = 2 * (k : Int) + 1 := IntWalk.i64_in _ (by omega)
            have w3 : IntKind.i64.wrap ((j : Int) * (2 * (k : Int) + 1)) = (M : Int) := by rw [eM]; exact IntWalk.i64_in _ (by omega)
            have w4 : IntKind.u64.wrap (M : Int) = (M : Int) := IntWalk.u64_in _ (by omega)
            have w5 : IntKind.u64.wrap x = x := IntWalk.u64_in _ (by omega)
            have w6 : IntKind.u64.wrap (psi : Int) = psi := IntWalk.u64_in _ (by omega)
            have w7 : IntKind.u64.wrap (q : Int) = q := IntWalk.u64_in _ (by omega)
            have w8 : IntKind.u64.wrap (x * y) = x * y := IntWalk.u64_in _ (by omega)
            have w9 : IntKind.u64.wrap (z + x * y) = z + x * y := IntWalk.u64_in _ (by omega)
            have HPW := Lib.hid (fun W => show Calls Try.prog 30 #[.int .u64 psi, .int .u64 M, .int .u64 q] W (fun e w' => e = .returned (.int .u64 y) ∧ w' = W) from (rpow_any psi M q W (by omega) (by omega) hq1 hq2).mono (fun e w' ⟨he, hw⟩ => ⟨by rw [← HYP.out]; exact he, hw.symm⟩))
            clear m1 eM
            go_wp2_with fail
            go_quiet ((go_at_call 30; exact Calls.quiet_of_same (HPW.out _)))
            clear w1 w2 w3 w4 w5 w6 w7 w8 w9
            go_wp2_with fail
            go_roundw
            case rel => exact ⟨j + 1, (z + x * y) % q, rfl, by go_num, by omega, r0, r1, HS.out, HOI.out.drewN _, HGI.out.drewN _⟩
            case measure => simp [intOf]; omega
          · obtain rfl : j = la := by omega
            have i2 : ¬ (j : Int) < (j : Int) := by omega
            have X0 : 0 ≤ z ∧ z < 4294967296 := by omega
            have HXE := Lib.hid (show z = Ot.at_ j q 1 (Ot.fo q psi) a k from by
              unfold Ot.at_; rw [← HZ.out, Int.one_mul, Int.emod_eq_of_lt hz0 hz1])
            have HX0 := Lib.hid X0
            have HPL := Lib.hid (show l.length + [z].length ≤ 1000000 from by rw [HLL.out]; simp; omega)
            clear X0
            go_wp2_with (at_builtin; refine wpList_app rfl (.tmp 61) (.tmp 64) rfl rfl w.heap.size (.slice vx l.length vc) l rfl (HOI.out.alloc _) (.slice (some ⟨wr.heap.size, 0, none⟩) 1 1) [z] rfl (one_hasP' _ _ _ rfl HX0.out) HPL.out (Nat.le_trans hszi (Nat.le_of_lt (by simp))) ?_; intro v' w3 hown hgrow; have HO3 := Lib.hid hown; have HG3 := Lib.hid (show Gr w w3 from grown_own (HGI.out.alloc _) (HOI.out.alloc _) hgrow (Nat.le_refl _)); clear hown hgrow)
            go_roundw
            case rel => exact ⟨k + 1, l ++ [z], by go_num, by omega, by rw [List.length_append, HLL.out]; rfl, tl_prefix HLL.out HVAL.out HXE.out, HO3.out, HG3.out⟩
            case measure => simp [intOf]; omega
      · obtain rfl : k = la := by omega
        have i1 : ¬ (k : Int) < (k : Int) := by omega
        go_wp2_with fail
        go_ret2
        rw [HE.out, HC.out]
        have e := Ot.tl_ext HLL.out HVAL.out
        exact ⟨vx, l.length, vc, rfl, by rw [← e]; exact HO.out.hasP, HO.out.fresh rfl, HG1.out⟩
  · have HC := Lib.hid hc
    have HE := Lib.hid (show fwL n q psi a = [] from if_neg hl)
    have HB := Lib.hid (isLB_false hl)
    clear hl hc
    go_enter Try.func17, Try.ntmps17
    go_wp2_with fail
    refine (rValid_any n q psi R a _ _ hn2 hq2 H.out HV.out).mono ?_
    rintro e w1 ⟨rfl, hg⟩
    have HG := Lib.hid hg
    rw [HB.out]
    clear hg
    go_wp2_with fail
    go_ret2
    rw [HE.out, HC.out]
    exact ListE.nil 2 HG.out
set_option maxRecDepth 100000 in
set_option maxHeartbeats 4000000 in
theorem rInv_any (n q psi s R : Nat) (a : List Int) (v : Value) (w : World) (hN : Num n q psi s) (h : IsRt w R n q psi) (hv : HasP w v a) :
    Calls Try.prog 18 #[.pointer (some ⟨R, 0, none⟩), v] w (ListE (bwL n q psi s a) (chkT n q [a]) w) := by
  obtain ⟨hn1, hn2, hq1, hq2, hpsi, hs⟩ := hN.dims
  have hnq := hN.lt
  have HN := Lib.hid hN
  have H := Lib.hid h
  have HV := Lib.hid hv
  obtain ⟨hd, xa, cap, rfl, hl1, hl2, -⟩ := hv
  have HD := Lib.hid hd
  obtain ⟨la, hla⟩ : ∃ la, la = a.length := ⟨_, rfl⟩
  rw [← hla] at HV hl1 ⊢
  have HLA := Lib.hid hla
  have c0 := h.1
  have c1 := h.2.1
  clear hN h hd hla
  rcases chkT_one n q a with ⟨hl, hc⟩ | ⟨hl, hc⟩
  · have HC := Lib.hid hc
    have HL := Lib.hid hl
    have HE := Lib.hid (show bwL n q psi s a = Ot.tl n q s (Ot.ba n q psi) a from if_pos hl)
    have hln : la = n := by have := HLA.out; have := hl.1; omega
    obtain rfl : la = n := hln
    have HB := Lib.hid (isLB_true hl)
    clear hl hc
    go_enter Try.func18, Try.ntmps18
    go_wp2_with fail
    refine (rValid_any la q psi R a _ _ hn2 hq2 H.out HV.out).mono ?_
    rintro e w1 ⟨rfl, hg⟩
    have HG := Lib.hid hg
    rw [HB.out]
    have c0 := hg.keeps c0
    have c1 := hg.keeps c1
    clear hg
    go_wp2_with fail
    have em : (la : Int) % (q : Int) = la := Int.emod_eq_of_lt (by omega) (by omega)
    have HIV := Lib.hid (fun W => show Calls Try.prog 31 #[.int .u32 la, .int .u32 q] W (fun e w' => e = .returned (.tuple #[.int .u32 s, .bool true]) ∧ w' = W) from by
      refine (inverse5_any (q : Int) (la : Int) W (by omega) (by omega)).mono ?_
      rintro e w' (⟨b, rfl, -, b0, b1, b2, rfl⟩ | ⟨-, hu, -⟩)
      · rw [share_eq HN.out b0 b1 b2]; exact ⟨rfl, rfl⟩
      · exact absurd ⟨(s : Int), Ot.inv_C HN.out.inv.2.2⟩ hu)
    have w20 : IntKind.u32.wrap (la : Int) = la := IntWalk.u32_in _ (by omega)
    have w21 : (la : Int).tmod (q : Int) = la := by rw [Int.tmod_eq_emod_of_nonneg (by omega)]; exact em
    have em' := em
    go_quiet ((go_at_call 31; exact Calls.quiet_of_same (HIV.out _)))
    clear w20 w21 em em' c0 c1
    go_wp2_with fail
    go_loopw [8, 9, 10, 11] (fun sv t _ _ wr => ∃ (k : Nat) (l : List Int), t = .int .i64 k ∧ k ≤ la ∧ l.length = k ∧ (∀ i, i < k → Op.cf l i = Ot.at_ la q s (Ot.ba la q psi) a i) ∧ Own1 wr w.heap.size sv l ∧ Gr w wr) (fun _ t _ _ _ => la - (intOf t).toNat)
    case atStart => exact ⟨0, [], rfl, by omega, rfl, fun i hi => by omega, Own1.nil _ _, (HG.out.drewN _)⟩
    case round =>
      obtain ⟨k, l, rfl, hk, hll, hval, hown, hg⟩ := hrel
      have HLL := Lib.hid hll
      have HVAL := Lib.hid hval
      have HO := Lib.hid hown
      have HG1 := Lib.hid hg
      have hsz := hg.size
      obtain ⟨vx, vc, rfl, -, -⟩ := hown.form
      obtain ⟨c0, c1, c2⟩ := H.out.later hg
      clear hll hval hown hg
      by_cases hlt : k < la
      · have i1 : (k : Int) < (la : Int) := by omega
        go_wp2_with fail
        go_loopw [10, 11] (fun z t wi => ∃ (j : Nat) (x : Int), z = .int .u64 x ∧ t = .int .i64 j ∧ j ≤ la ∧ 0 ≤ x ∧ x < q ∧ x = Op.S j (fun i => Op.cf a i * (Ot.ba la q psi) i k) % q ∧ Own1 wi w.heap.size (.slice vx l.length vc) l ∧ Gr w wi) (fun _ t _ => la - (intOf t).toNat)
        case atStart => exact ⟨0, 0, rfl, rfl, by omega, by omega, by omega, by simp [Op.S], HO.out, HG1.out⟩
        case round =>
          obtain ⟨j, z, rfl, rfl, hj, hz0, hz1, hz, hoi, hgi⟩ := hrel
          have HZ := Lib.hid hz
          have HOI := Lib.hid hoi
          have HGI := Lib.hid hgi
          obtain ⟨c0, c1, c2⟩ := H.out.later hgi
          have hszi := hgi.size
          clear hz hoi hgi
          by_cases hjl : j < la
          · have i2 : (j : Int) < (la : Int) := by omega
            have i3 : (0 : Int) ≤ (j : Int) := by omega
            obtain ⟨gx, ox, rfl, hcx⟩ : ∃ gx ox, xa = some ⟨gx, ox, none⟩ ∧ wr.cell? ⟨gx, ox + j, none⟩ = some (.int .u32 (Op.cf a j)) := by
              obtain ⟨_, b, c', e, _, _, h3⟩ := HV.out.later HGI.out
              cases e
              obtain ⟨gx, ox, e, hc⟩ := h3 j (by have := HLA.out; omega)
              exact ⟨gx, ox, e, hc⟩
            have hx := HD.out.at_ j
            have hxb := HL.out.2 j (by have := HLA.out; omega)
            obtain ⟨x, hxe⟩ : ∃ x, x = Op.cf a j := ⟨_, rfl⟩
            rw [← hxe] at hcx hx hxb
            obtain ⟨hx0, -⟩ := hx
            have HX := Lib.hid hxe
            clear hxe
            obtain ⟨M0, hM0⟩ : ∃ M0, M0 = (2 * la - 1) * k := ⟨_, rfl⟩
            obtain ⟨M, hM⟩ : ∃ M, M = M0 * (2 * j + 1) := ⟨_, rfl⟩
            have m0 := mul_small (a := 2 * (la : Int) - 1) (b := k) (by omega) (by omega) (by omega) (by omega)
            have eM0 : (2 * (la : Int) - 1) * (k : Int) = (M0 : Int) := by rw [hM0, Int.natCast_mul, Int.natCast_sub (by omega)]; simp
            have hM02 : M0 ≤ 40000 := by omega
            have m1 : 0 ≤ (M0 : Int) * (2 * (j : Int) + 1) ∧ (M0 : Int) * (2 * (j : Int) + 1) ≤ 40000 * 200 := by
              have h1 := mul_lo (show (0 : Int) ≤ M0 by omega) (show (0 : Int) ≤ 2 * (j : Int) + 1 by omega)
              have h2 : (M0 : Int) * (2 * (j : Int) + 1) ≤ 40000 * (2 * (j : Int) + 1) := Int.mul_le_mul_of_nonneg_right (by omega) (by omega)
              omega
            have eM : (M0 : Int) * (2 * (j : Int) + 1) = (M : Int) := by rw [hM]; simp
            have hM2 : M ≤ 8000000 := by omega
            have hy := Ot.ba_lt (n := la) (q := q) (psi := psi) (j := j) (i := k) (by omega)
            obtain ⟨y, hye⟩ : ∃ y, y = Ot.ba la q psi j k := ⟨_, rfl⟩
            have HYP := Lib.hid (show ((psi ^ M % q : Nat) : Int) = y from by rw [hye]; exact ba_eq HN.out.rt hlt (by rw [hM, hM0]))
            rw [← hye] at hy
            have HY := Lib.hid hye
            clear hM hye
            obtain ⟨y0, y1⟩ := hy
            have p0 := mul_lo hx0 y0
            have p1 : x * y ≤ 4611686014132420609 := by
              have h1 : x * y ≤ 2147483647 * y := Int.mul_le_mul_of_nonneg_right (by omega) y0
              omega
            have r0 := emod_lo (z + x * y) q (by omega)
            have r1 := emod_hi (z + x * y) q (by omega)
            have HS := Lib.hid (Ot.S_step q (fun i => Op.cf a i * (Ot.ba la q psi) i k) j z x y HZ.out (by rw [HX.out, HY.out]))
            have w1 : IntKind.i64.wrap (2 * (j : Int)) = 2 * (j : Int) := IntWalk.i64_in _ (by omega)
            have w2 : IntKind.i64.wrap (2 * (j : Int) + 1) = 2 * (j : Int) + 1 := IntWalk.i64_in _ (by omega)
            have w3 : IntKind.i64.wrap ((M0 : Int) * (2 * (j : Int) + 1)) = (M : Int) := by rw [eM]; exact IntWalk.i64_in _ (by omega)
            have w10 : IntKind.i64.wrap (2 * (la : Int)) = 2 * (la : Int) := IntWalk.i64_in _ (by omega)
            have w11 : IntKind.i64.wrap (2 * (la : Int) - 1) = 2 * (la : Int) - 1 := IntWalk.i64_in _ (by omega)
            have w12 : IntKind.i64.wrap ((2 * (la : Int) - 1) * (k : Int)) = (M0 : Int) := by rw [eM0]; exact IntWalk.i64_in _ (by omega)
            have w4 : IntKind.u64.wrap (M : Int) = (M : Int) := IntWalk.u64_in _ (by omega)
            have w5 : IntKind.u64.wrap x = x := IntWalk.u64_in _ (by omega)
            have w6 : IntKind.u64.wrap (psi : Int) = psi := IntWalk.u64_in _ (by omega)
            have w7 : IntKind.u64.wrap (q : Int) = q := IntWalk.u64_in _ (by omega)
            have w8 : IntKind.u64.wrap (x * y) = x * y := IntWalk.u64_in _ (by omega)
            have w9 : IntKind.u64.wrap (z + x * y) = z + x * y := IntWalk.u64_in _ (by omega)
            have HPW := Lib.hid (fun W => show Calls Try.prog 30 #[.int .u64 psi, .int .u64 M, .int .u64 q] W (fun e w' => e = .returned (.int .u64 y) ∧ w' = W) from (rpow_any psi M q W (by omega) (by omega) hq1 hq2).mono (fun e w' ⟨he, hw⟩ => ⟨by rw [← HYP.out]; exact he, hw.symm⟩))
            clear m1 eM m0 eM0 hM0
            go_wp2_with fail
            go_quiet ((go_at_call 30; exact Calls.quiet_of_same (HPW.out _)))
            clear w1 w2 w3 w4 w5 w6 w7 w8 w9 w10 w11 w12
            go_wp2_with fail
            go_roundw
            case rel => exact ⟨j + 1, (z + x * y) % q, rfl, by go_num, by omega, r0, r1, HS.out, HOI.out.drewN _, HGI.out.drewN _⟩
            case measure => simp [intOf]; omega
          · obtain rfl : j = la := by omega
            have i2 : ¬ (j : Int) < (j : Int) := by omega
            have p0 := mul_lo hz0 (show (0 : Int) ≤ (s : Int) by omega)
            have p1 : z * (s : Int) ≤ 4611686014132420609 := by
              have h1 : z * (s : Int) ≤ 2147483647 * (s : Int) := Int.mul_le_mul_of_nonneg_right (by omega) (by omega)
              omega
            have r0 := emod_lo (z * (s : Int)) q (by omega)
            have r1 := emod_hi (z * (s : Int)) q (by omega)
            have X0 : 0 ≤ z * (s : Int) % q ∧ z * (s : Int) % q < 4294967296 := by omega
            have HXE := Lib.hid (show z * (s : Int) % q = Ot.at_ j q s (Ot.ba j q psi) a k from by
              unfold Ot.at_; rw [← HZ.out, Int.mul_comm])
            have HX0 := Lib.hid X0
            have HPL := Lib.hid (show l.length + [(z * (s : Int) % q)].length ≤ 1000000 from by rw [HLL.out]; simp; omega)
            clear X0
            go_wp2_with (at_builtin; refine wpList_app rfl (.tmp 88) (.tmp 100) rfl rfl w.heap.size (.slice vx l.length vc) l rfl (HOI.out.alloc _) (.slice (some ⟨wr.heap.size, 0, none⟩) 1 1) [(z * (s : Int) % q)] rfl (one_hasP' _ _ _ rfl HX0.out) HPL.out (Nat.le_trans hszi (Nat.le_of_lt (by simp))) ?_; intro v' w3 hown hgrow; have HO3 := Lib.hid hown; have HG3 := Lib.hid (show Gr w w3 from grown_own (HGI.out.alloc _) (HOI.out.alloc _) hgrow (Nat.le_refl _)); clear hown hgrow)
            go_roundw
            case rel => exact ⟨k + 1, l ++ [(z * (s : Int) % q)], by go_num, by omega, by rw [List.length_append, HLL.out]; rfl, tl_prefix HLL.out HVAL.out HXE.out, HO3.out, HG3.out⟩
            case measure => simp [intOf]; omega
      · obtain rfl : k = la := by omega
        have i1 : ¬ (k : Int) < (k : Int) := by omega
        go_wp2_with fail
        go_ret2
        rw [HE.out, HC.out]
        have e := Ot.tl_ext HLL.out HVAL.out
        exact ⟨vx, l.length, vc, rfl, by rw [← e]; exact HO.out.hasP, HO.out.fresh rfl, HG1.out⟩
  · have HC := Lib.hid hc
    have HE := Lib.hid (show bwL n q psi s a = [] from if_neg hl)
    have HB := Lib.hid (isLB_false hl)
    clear hl hc
    go_enter Try.func18, Try.ntmps18
    go_wp2_with fail
    refine (rValid_any n q psi R a _ _ hn2 hq2 H.out HV.out).mono ?_
    rintro e w1 ⟨rfl, hg⟩
    have HG := Lib.hid hg
    rw [HB.out]
    clear hg
    go_wp2_with fail
    go_ret2
    rw [HE.out, HC.out]
    exact ListE.nil 2 HG.out
end Go.Proofs.Ytjbfghnihnmpjaa
