import Derived.Test.YtfmmkdmnondomaaLSG
/- The law SlotsCodes. -/
namespace Go.Proofs.Ytfmmkdmnondomaa
open Go.RowKit
set_option linter.unusedVariables false

theorem not_own {W : World} {g b : Nat} {l : List Int} {a : Option Addr} {m c : Nat} (h : ∀ p, a = some p → b ≤ p.block) (hg : g < b) : (Value.slice a m c).ownBlock ≠ some g := by
  intro e
  cases a with
  | none => simp [Value.ownBlock] at e
  | some p =>
    have h1 := h p rfl
    simp [Value.ownBlock] at e
    omega
theorem LstE.len {n p r x : Nat} {E : Int} {a l : List Int} (h : EncR n p r x E a l) (hn : n ≤ 32) : l.length ≤ 1000000 := by
  rcases h with ⟨_, h⟩ | ⟨_, h⟩
  · rw [h.1]; omega
  · rw [h]; simp
theorem LstE.lend {n p r x : Nat} {E : Int} {a l : List Int} (h : DecR n p r x E a l) (hn : n ≤ 32) : l.length ≤ 1000000 := by
  rcases h with ⟨_, h⟩ | ⟨_, h⟩
  · rw [h.1]; omega
  · rw [h]; simp

set_option maxRecDepth 100000 in
set_option maxHeartbeats 4000000 in
theorem codes8_all (N : Int) (P : Nat) (R E : Int) (uA uB : Value) (A : List Int) (w : World) (hN0 : -9223372036854775808 ≤ N ∧ N ≤ 9223372036854775807) (hP : P ≤ 4294967295) (hR : -9223372036854775808 ≤ R ∧ R ≤ 9223372036854775807) (hE : -9223372036854775808 ≤ E ∧ E ≤ 9223372036854775807) (hA : Lo.HasQ w uA A) :
    Calls Try.prog 3 #[.agg #[.int .i64 N, .int .u32 P, .int .i64 R, .int .i64 E, uA, uB]] w (Truth w) := by
  have HA := Lib.hid hA
  have HE := Lib.hid hE
  have HR := Lib.hid hR
  have HN0 := Lib.hid hN0
  obtain ⟨-, xa, ca, rfl, a1, a2, -⟩ := hA
  obtain ⟨la, hla⟩ : ∃ la, la = A.length := ⟨_, rfl⟩
  have HLA := Lib.hid hla
  rw [← hla] at HA a1 ⊢
  have HCB := Lib.hid (CB.new w N P R E (.slice xa la ca) uB)
  have HGN := Lib.hid (Gr.new w (.cells #[.int .i64 N, .int .u32 P, .int .i64 R, .int .i64 E, .slice xa la ca, uB] 25))
  clear hla hE hR hN0
  by_cases h100 : 100 < la
  · have t1 : decide ((100 : Int) < (la : Int)) = true := by simp; omega
    have i0 : (100 : Int) < (la : Int) := by omega
    go_enter Try.func3, Try.ntmps3
    go_wp2_with fail
    refine (awake8_any _).mono ?_
    rintro e w8 ⟨rfl, hg8⟩
    have HG8 := Lib.hid (HGN.out.trans hg8)
    clear hg8
    go_wp2_with fail
    go_ret
    exact ⟨rfl, HG8.out⟩
  · have i0 : ¬ (100 : Int) < (la : Int) := by omega
    have HL1000 := Lib.hid (show A.length ≤ 1000 by rw [← HLA.out]; omega)
    have HLM := Lib.hid (show A.length ≤ 1000000 by rw [← HLA.out]; omega)
    go_enter Try.func3, Try.ntmps3
    go_wp2_with fail
    refine (made8_any N P R E (.slice xa la ca) uB _ HN0.out hP HR.out).mono ?_
    rintro e w1 ⟨hg, ⟨n, r, q, x, s, T, U, rfl, rfl, hN, rfl, hT, hU⟩ | rfl⟩
    · have HG := Lib.hid (HGN.out.trans hg)
      have HC := Lib.hid (HCB.out.later hg)
      have HN := Lib.hid hN
      have HT := Lib.hid hT
      have HU := Lib.hid hU
      have HN32 := Lib.hid hN.rt.dim.le.2
      have c3 := HC.out.c3
      have c4 := HC.out.c4
      clear hg hN hT hU
      go_wp2_with fail
      refine (lent8_any A _ _ (HA.out.later HG.out) HL1000.out).mono ?_
      rintro e w2 ⟨g, c, rfl, lc1, lc2, hgw, hrow, hg⟩
      rw [← HLA.out] at lc1 ⊢
      have HRW := Lib.hid hrow
      have HG12 := Lib.hid hg
      have HOWN := Lib.hid (show Lo.HasQ w2 (.slice (some ⟨g, 0, none⟩) la c) A from by
        have h := hrow.hasQ (cap := c) (by rw [List.length_append, ← HLA.out]; simp; omega) lc2
        have h2 := h.take (k := la) (by rw [List.length_append, ← HLA.out]; simp)
        rwa [HLA.out, List.take_left, ← HLA.out] at h2)
      have hglt : g < w2.heap.size := hrow.lt
      have c3 := hg.keeps c3
      have c4 := hg.keeps c4
      clear hrow hg
      go_wp2_with fail
      refine (sEncode_any n P r q x s T E A _ _ HN.out (HT.out.later HG12.out) HOWN.out HE.out).mono ?_
      rintro e w3 ⟨g3, m3, cp3, l3, rfl, hq3, hd3, hf3, hg3⟩
      have HQ3 := Lib.hid hq3
      have HD3 := Lib.hid hd3
      have HF3 := Lib.hid (not_own (W := w) (l := l3) (m := m3) (c := cp3) hf3 hglt)
      have HG23 := Lib.hid hg3
      obtain ⟨cc, hcc⟩ : ∃ cc, chkE n P r E A = cc := ⟨_, rfl⟩
      have HCC := Lib.hid hcc
      rw [hcc]
      have c3 := hg3.keeps c3
      have c4 := hg3.keeps c4
      clear hq3 hd3 hf3 hg3 hcc
      go_wp2_with fail
      refine (sDecode_any n P r q x s T E A _ _ HN.out (HT.out.later (HG12.out.trans HG23.out)) (HOWN.out.later HG23.out) HE.out).mono ?_
      rintro e w4 ⟨g4, m4, cp4, l4, rfl, hq4, hd4, hf4, hg4⟩
      rw [HCC.out]
      have HQ4 := Lib.hid hq4
      have HD4 := Lib.hid hd4
      have HF4 := Lib.hid (not_own (W := w) (l := l4) (m := m4) (c := cp4) hf4 (Nat.lt_of_lt_of_le hglt HG23.out.size))
      have HG24 := Lib.hid (HG23.out.trans hg4)
      have HQ34 := Lib.hid (HQ3.out.later hg4)
      have c3 := hg4.keeps c3
      have c4 := hg4.keeps c4
      clear hq4 hd4 hf4 hg4
      go_wp2_with fail
      refine (kept8_any g la c A _ _ HLA.out lc1 lc2 (HRW.out.later HG24.out) (HA.out.later ((HG.out.trans HG12.out).trans HG24.out)) HL1000.out).mono ?_
      rintro e w5 ⟨rfl, hg5⟩
      have HG25 := Lib.hid (HG24.out.trans hg5)
      have HQ35 := Lib.hid (HQ34.out.later hg5)
      have HQ45 := Lib.hid (HQ4.out.later hg5)
      have HRW5 := Lib.hid (HRW.out.later (HG24.out.trans hg5))
      have HG15 := Lib.hid (HG12.out.trans (HG24.out.trans hg5))
      have c3 := hg5.keeps c3
      have c4 := hg5.keeps c4
      clear hg5
      go_wp2_with fail
      go_loopw [11] (fun t wr => ∃ (k : Nat) (pre : List Int), t = .int .i64 k ∧ k ≤ la ∧ pre.length = k ∧ Lo.Upd g 0 pre w5 wr ∧ Gr w1 wr) (fun t _ => la - (intOf t).toNat)
      case atStart =>
        obtain ⟨_, cur, r1, r2, _⟩ := HRW5.out
        exact ⟨0, [], rfl, by omega, rfl, Lo.Upd.start r1 (by omega), HG15.out⟩
      case round =>
        obtain ⟨k, pre, rfl, hk, hpl, hup, hgr⟩ := hrel
        have HPL := Lib.hid hpl
        have HUP := Lib.hid hup
        have HGR := Lib.hid hgr
        clear hpl hup hgr
        by_cases hlt : k < la
        · have i1 : (k : Int) < (la : Int) := by omega
          have hc0 := HRW5.out.cell (j := k) (by rw [List.length_append, ← HLA.out]; omega)
          have hc1 : wr.cell? ⟨g, k, none⟩ = some (.int .i64 (Op.cf (A ++ [-9223372036854775808]) k)) := by
            rw [HUP.out.cell_out (j := k) (.inr (by rw [HPL.out]; omega))]; exact hc0
          have hf1 := HUP.out.frozen k
          have HST := Lib.hid (HUP.out.step (k := k) (d := 99) HPL.out (v := .int .i64 (Op.cf (A ++ [-9223372036854775808]) k)) (by rw [Nat.zero_add]; exact hc0))
          rw [Nat.zero_add] at HST
          have HGS := Lib.hid (HGR.out.setCell (p := ⟨g, k, none⟩) hgw (.int .i64 99))
          obtain ⟨y, hy⟩ : ∃ y, y = Op.cf (A ++ [-9223372036854775808]) k := ⟨_, rfl⟩
          rw [← hy] at hc1
          clear hc0 hy
          go_wp2_with fail
          go_roundw
          case rel => exact ⟨k + 1, pre ++ [99], by go_num, by omega, by rw [List.length_append, HPL.out]; rfl, HST.out, HGS.out⟩
          case measure => simp [intOf]; omega
        · obtain rfl : k = la := by omega
          have i1 : ¬ (k : Int) < (k : Int) := by omega
          have HQ36 := Lib.hid (HQ35.out.upd HUP.out (fun _ => HF3.out))
          have HQ46 := Lib.hid (HQ45.out.upd HUP.out (fun _ => HF4.out))
          have HC6 := Lib.hid (HC.out.later HGR.out)
          have c3 := HC6.out.c3
          have c4 := HC6.out.c4
          go_wp2_with fail
          refine (rEncode8_any n P r q x s U E A _ _ HN.out (HU.out.later HGR.out) (HA.out.later (HG.out.trans HGR.out)) HE.out).mono ?_
          rintro e w7 ⟨g7, m7, cp7, l7, rfl, hq7, hd7, hf7, hg7⟩
          obtain rfl := HD3.out.unique HN.out hd7
          rw [HCC.out]
          have HG7 := Lib.hid (HGR.out.trans hg7)
          have HQ37 := Lib.hid (HQ36.out.later hg7)
          have HQ47 := Lib.hid (HQ46.out.later hg7)
          have HQ7 := Lib.hid hq7
          have c3 := hg7.keeps c3
          have c4 := hg7.keeps c4
          clear hq7 hd7 hf7 hg7
          go_wp2_with fail
          refine (rDecode8_any n P r q x s U E A _ _ HN.out (HU.out.later HG7.out) (HA.out.later (HG.out.trans HG7.out)) HE.out).mono ?_
          rintro e w8 ⟨g8, m8, cp8, l8, rfl, hq8, hd8, hf8, hg8⟩
          obtain rfl := HD4.out.unique hd8
          rw [HCC.out]
          have HG8 := Lib.hid (HG7.out.trans hg8)
          have HQ38 := Lib.hid (HQ37.out.later hg8)
          have HQ48 := Lib.hid (HQ47.out.later hg8)
          have HQ78 := Lib.hid (HQ7.out.later hg8)
          have HQ8 := Lib.hid hq8
          have b1 : (cc == cc) = true := by simp
          have HL3 := Lib.hid (LstE.len HD3.out HN32.out)
          have HL4 := Lib.hid (LstE.lend HD4.out HN32.out)
          clear hq8 hd8 hf8 hg8
          go_wp2_with fail
          refine (lsame8_true l3 _ _ _ HQ38.out HQ78.out HL3.out).mono ?_
          rintro e w9 ⟨rfl, hg9⟩
          have HG9 := Lib.hid (HG8.out.trans hg9)
          have HQ49 := Lib.hid (HQ48.out.later hg9)
          have HQ89 := Lib.hid (HQ8.out.later hg9)
          clear hg9
          go_wp2_with fail
          refine (lsame8_true l4 _ _ _ HQ49.out HQ89.out HL4.out).mono ?_
          rintro e w10 ⟨rfl, hg10⟩
          have HG10 := Lib.hid (HG9.out.trans hg10)
          clear hg10
          go_wp2_with fail
          refine (awake8_any _).mono ?_
          rintro e w11 ⟨rfl, hg11⟩
          have HG11 := Lib.hid (HG.out.trans (HG10.out.trans hg11))
          clear hg11
          go_wp2_with fail
          go_ret
          exact ⟨rfl, HG11.out⟩
    · have HG := Lib.hid (HGN.out.trans hg)
      clear hg
      go_wp2_with fail
      refine (awake8_any _).mono ?_
      rintro e w8 ⟨rfl, hg8⟩
      have HG8 := Lib.hid (HG.out.trans hg8)
      clear hg8
      go_wp2_with fail
      go_ret
      exact ⟨rfl, HG8.out⟩
end Go.Proofs.Ytfmmkdmnondomaa
