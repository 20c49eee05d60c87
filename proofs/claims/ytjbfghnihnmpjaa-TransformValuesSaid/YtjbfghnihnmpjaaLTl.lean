import Derived.Test.YtjbfghnihnmpjaaLTk
/- The laws TransformMaps, TransformMuls. -/
namespace Go.Proofs.Ytjbfghnihnmpjaa
open Go.RowKit
set_option linter.unusedVariables false

/-- The block of a Case. -/
def CB (W : World) (C : Nat) (n q : Int) (u v : Value) : Prop := W.heap[C]? = some (.cells #[.int .i64 n, .int .u32 q, u, v] 29 (0, 0))
theorem CB.later {W W' : World} {C : Nat} {n q : Int} {u v : Value} (h : CB W C n q u v) (g : Gr W W') : CB W' C n q u v :=
  (g.block C (Array.getElem?_eq_some_iff.1 (show W.heap[C]? = _ from h)).1).trans h
theorem CB.new (w : World) (n q : Int) (u v : Value) : CB (w.alloc (.cells #[.int .i64 n, .int .u32 q, u, v] 29)) w.heap.size n q u v := heap_alloc_new w _
theorem CB.cells {W : World} {C : Nat} {n q : Int} {u v : Value} (h : CB W C n q u v) : W.cell? ⟨C, 0, none⟩ = some (.int .i64 n) ∧ W.cell? ⟨C, 1, none⟩ = some (.int .u32 q) ∧ W.cell? ⟨C, 2, none⟩ = some u ∧ W.cell? ⟨C, 3, none⟩ = some v := by
  have h' : W.heap[C]? = _ := h
  refine ⟨?_, ?_, ?_, ?_⟩ <;> simp [World.cell?, h']
theorem CB.lt {W : World} {C : Nat} {n q : Int} {u v : Value} (h : CB W C n q u v) : C < W.heap.size := (Array.getElem?_eq_some_iff.1 (show W.heap[C]? = _ from h)).1

set_option maxRecDepth 100000 in
set_option maxHeartbeats 4000000 in
theorem transformMaps_all (n : Int) (q : Nat) (a b : List Int) (u v : Value) (w : World) (hn : -9223372036854775808 ≤ n ∧ n ≤ 9223372036854775807) (hq : q ≤ 4294967295) (hu : HasP w u a) (hv : HasP w v b) :
    Calls Try.prog 4 #[.agg #[.int .i64 n, .int .u32 q, u, v]] w (Truth w) := by
  have HU := Lib.hid hu
  have HV := Lib.hid hv
  have HNN := Lib.hid hn
  obtain ⟨-, xa, ca, rfl, a1, a2, -⟩ := hu
  obtain ⟨-, xb, cb, rfl, b1, b2, -⟩ := hv
  obtain ⟨la, hla⟩ : ∃ la, la = a.length := ⟨_, rfl⟩
  obtain ⟨lb, hlb⟩ : ∃ lb, lb = b.length := ⟨_, rfl⟩
  rw [← hla] at HU a1 ⊢
  rw [← hlb] at HV b1 ⊢
  have HLA := Lib.hid hla
  obtain ⟨n1, n2⟩ := hn
  clear hla hlb
  by_cases hbig : 100 < la
  · have i1 : (la : Int) > 100 := by omega
    go_enter Try.func4, Try.ntmps4
    go_wp2_with fail
    refine (awake_any _).mono ?_
    rintro e w1 ⟨rfl, hg⟩
    have HG := Lib.hid ((Gr.new w _).trans hg)
    clear hg
    go_wp2_with fail
    go_ret
    exact ⟨rfl, HG.out⟩
  · have i1 : ¬ (la : Int) > 100 := by omega
    go_enter Try.func4, Try.ntmps4
    go_wp2_with fail
    obtain ⟨W, hW⟩ : ∃ W, W = w.alloc (.cells #[.int .i64 n, .int .u32 q, .slice xa la ca, .slice xb lb cb] 29) := ⟨_, rfl⟩
    have HG0 := Lib.hid (show Gr w W from by rw [hW]; exact Gr.new _ _)
    have c2 : W.cell? ⟨w.heap.size, 2, none⟩ = some (.slice xa la ca) := by rw [hW]; simp [go_sem]
    rw [← hW]
    have HUW := Lib.hid (show HasP W (.slice xa la ca) a from HU.out.later HG0.out)
    have HVW := Lib.hid (show HasP W (.slice xb lb cb) b from HV.out.later HG0.out)
    clear hW
    refine (lmade_any n q a b _ _ _ HNN.out hq HUW.out HVW.out).mono ?_
    rintro e wM ⟨hg, h⟩
    have c2 := hg.keeps c2
    have HG1 := Lib.hid (HG0.out.trans hg)
    have HUM := Lib.hid (HUW.out.later hg)
    clear hg
    rcases h with ⟨m, psi, s, T, R, rfl, hN, rfl, ht, hr⟩ | ⟨hf, rfl⟩
    · have HN := Lib.hid hN
      have HT := Lib.hid ht
      have HR := Lib.hid hr
      have hd := hN.dims
      have HQ := Lib.hid (show 1 ≤ q by omega)
      have HM := Lib.hid (show m ≤ 32 by omega)
      have HLB := Lib.hid (show a.length ≤ 1000 by have := HLA.out; omega)
      clear hN ht hr hd
      go_wp2_with fail
      refine (lent_any a _ _ HUM.out HLB.out).mono ?_
      rintro e wl ⟨gx, cx, rfl, hcx1, hcx2, hgx, hrx, hg⟩
      rw [← HLA.out] at hcx1 ⊢
      have c2l := hg.keeps c2
      have HGl := Lib.hid hg
      have HRX := Lib.hid hrx
      have HX := Lib.hid (lent_hasP hrx HLA.out hcx1 hcx2)
      have hgxl := hrx.lt
      clear hrx hg
      go_wp2_with fail
      refine (pFwd_any m q psi s T a _ _ HN.out (HT.out.later HGl.out) HX.out).mono ?_
      rintro e wf ⟨xf, nf, cf, rfl, hx, hfr, hg⟩
      have HF := Lib.hid hx
      have HFF := Lib.hid (show (Value.slice xf nf cf).ownBlock ≠ some gx from fresh_ne hfr hgxl)
      have HGf := Lib.hid (HGl.out.trans hg)
      have HXf := Lib.hid (HX.out.later hg)
      have HRXf := Lib.hid (HRX.out.later hg)
      have hgxf : gx < wf.heap.size := Nat.lt_of_lt_of_le hgxl hg.size
      have c2f := hg.keeps c2l
      clear hx hfr hg
      go_wp2_with fail
      refine (pInv_any m q psi s T a _ _ HN.out (HT.out.later HGf.out) HXf.out).mono ?_
      rintro e wi ⟨xi, ni, ci, rfl, hx, hfr, hg⟩
      have HI := Lib.hid hx
      have HFI := Lib.hid (show (Value.slice xi ni ci).ownBlock ≠ some gx from fresh_ne hfr hgxf)
      have HGi := Lib.hid (HGf.out.trans hg)
      have HFi := Lib.hid (HF.out.later hg)
      have HRXi := Lib.hid (HRXf.out.later hg)
      have c2i := hg.keeps c2f
      clear hx hfr hg
      go_wp2_with fail
      refine (kept_any gx la cx a _ _ HLA.out hcx1 hcx2 HRXi.out (HUM.out.later HGi.out) (by have := HLB.out; omega)).mono ?_
      rintro e wk ⟨rfl, hg⟩
      have HGk := Lib.hid (HGi.out.trans hg)
      have HIk := Lib.hid (HI.out.later hg)
      have HFk := Lib.hid (HFi.out.later hg)
      have HRXk := Lib.hid (HRXi.out.later hg)
      clear hg c2l c2f c2i
      go_wp2_with fail
      go_loopw [11] (fun t wr => ∃ (k : Nat) (pre : List Int), t = .int .i64 k ∧ k ≤ la ∧ pre.length = k ∧ Upd gx 0 pre wk wr) (fun t _ => la - (intOf t).toNat)
      case atStart =>
        obtain ⟨_, cur, h1, h2, _⟩ := HRXk.out
        exact ⟨0, [], rfl, by omega, rfl, Upd.start h1 (Nat.zero_le _)⟩
      case round =>
        obtain ⟨k, pre, rfl, hk, hp, hu⟩ := hrel
        have HP := Lib.hid hp
        have HUP := Lib.hid hu
        clear hp hu
        by_cases hlt : k < la
        · have hc0 := HRXk.out.cell (j := k) (by rw [List.length_append, ← HLA.out]; omega)
          have hc1 := (HUP.out.cell_out (j := k) (.inr (by rw [HP.out]; omega))).trans hc0
          have hf1 : wr.frozen? ⟨gx, k, none⟩ = false := HUP.out.frozen _
          have HS := Lib.hid (HUP.out.step (d := 4294967295) HP.out (by rw [Nat.zero_add]; exact hc0))
          have hlt' : (k : Int) < (la : Int) := by omega
          have hkc : (k : Int) < (cx : Int) := by omega
          clear hc0
          go_wp2_with fail
          go_roundw
          case rel => exact ⟨k + 1, pre ++ [4294967295], by go_num, by omega, by rw [List.length_append, HP.out]; rfl, by have h := HS.out; rw [Nat.zero_add] at h; exact h⟩
          case measure => simp [intOf]; omega
        · obtain rfl : k = la := by omega
          have hlt' : ¬ (k : Int) < (k : Int) := by omega
          have HGr := Lib.hid (HUP.out.gr HGk.out hgx)
          have HIr := Lib.hid (HIk.out.upd HUP.out (fun _ => HFI.out))
          have HFr := Lib.hid (HFk.out.upd HUP.out (fun _ => HFF.out))
          have c2r := HGr.out.keeps c2
          go_wp2_with fail
          refine (rFwd_any m q psi s R a _ _ HN.out (HR.out.later HGr.out) (HUM.out.later HGr.out)).mono ?_
          rintro e wg ⟨xg, ng, cg, rfl, hx, hfr, hg⟩
          have HGg := Lib.hid (HGr.out.trans hg)
          have HGg0 := Lib.hid hg
          have HXg := Lib.hid hx
          have c2g := hg.keeps c2r
          clear hx hfr hg
          go_wp2_with fail
          refine (rInv_any m q psi s R a _ _ HN.out (HR.out.later HGg.out) (HUM.out.later HGg.out)).mono ?_
          rintro e wh ⟨xh, nh, ch, rfl, hx, hfr, hg⟩
          have HGh := Lib.hid (HGg.out.trans hg)
          have HXh := Lib.hid hx
          have HXg2 := Lib.hid (HXg.out.later hg)
          have HFh := Lib.hid ((HFr.out.later HGg0.out).later hg)
          have HIh := Lib.hid ((HIr.out.later HGg0.out).later hg)
          have HL1 := Lib.hid (show (fwL m q psi a).length ≤ 1000000 by
            unfold fwL; split
            · rw [Ot.fw, Ot.tl_len]; have := HM.out; omega
            · simp)
          have HL2 := Lib.hid (show (bwL m q psi s a).length ≤ 1000000 by
            unfold bwL; split
            · rw [Ot.bw, Ot.tl_len]; have := HM.out; omega
            · simp)
          obtain ⟨E, hE⟩ : ∃ E, E = chkT m q [a] := ⟨_, rfl⟩
          have hEE : (E == E) = true := by simp
          rw [← hE]
          clear hx hfr hg hE
          go_wp2_with fail
          refine (lsame_any (fwL m q psi a) (fwL m q psi a) _ _ _ HFh.out HXg2.out HL1.out HL1.out).mono ?_
          rintro e ws ⟨rfl, hg⟩
          rw [show decide (fwL m q psi a = fwL m q psi a) = true from by simp]
          have HGs := Lib.hid (HGh.out.trans hg)
          have HIs := Lib.hid (HIh.out.later hg)
          have HXs := Lib.hid (HXh.out.later hg)
          clear hg
          go_wp2_with fail
          refine (lsame_any (bwL m q psi s a) (bwL m q psi s a) _ _ _ HIs.out HXs.out HL2.out HL2.out).mono ?_
          rintro e wt ⟨rfl, hg⟩
          rw [show decide (bwL m q psi s a = bwL m q psi s a) = true from by simp]
          have HGt := Lib.hid (HGs.out.trans hg)
          clear hg
          go_wp2_with fail
          refine (awake_any _).mono ?_
          rintro e wz ⟨rfl, hg⟩
          have HGz := Lib.hid (HG1.out.trans (HGt.out.trans hg))
          clear hg
          go_wp2_with fail
          go_ret
          exact ⟨rfl, HGz.out⟩
    · clear hf
      go_wp2_with fail
      refine (awake_any _).mono ?_
      rintro e w2 ⟨rfl, hg⟩
      have HG2 := Lib.hid (HG1.out.trans hg)
      clear hg
      go_wp2_with fail
      go_ret
      exact ⟨rfl, HG2.out⟩
end Go.Proofs.Ytjbfghnihnmpjaa
