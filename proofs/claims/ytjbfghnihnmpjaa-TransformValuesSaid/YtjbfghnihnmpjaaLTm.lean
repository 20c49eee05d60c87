import Derived.Test.YtjbfghnihnmpjaaLTl
/- The law TransformMuls. -/
namespace Go.Proofs.Ytjbfghnihnmpjaa
open Go.RowKit
set_option linter.unusedVariables false

set_option maxRecDepth 100000 in
set_option maxHeartbeats 4000000 in
theorem transformMuls_all (n : Int) (q : Nat) (a b : List Int) (u v : Value) (w : World) (hn : -9223372036854775808 ≤ n ∧ n ≤ 9223372036854775807) (hq : q ≤ 4294967295) (hu : HasP w u a) (hv : HasP w v b) :
    Calls Try.prog 5 #[.agg #[.int .i64 n, .int .u32 q, u, v]] w (Truth w) := by
  have HU := Lib.hid hu
  have HV := Lib.hid hv
  have HNN := Lib.hid hn
  obtain ⟨-, xa, ca, rfl, a1, a2, -⟩ := hu
  obtain ⟨-, xb, cb, rfl, b1, b2, -⟩ := hv
  obtain ⟨la, hla⟩ : ∃ la, la = a.length := ⟨_, rfl⟩
  obtain ⟨lb, hlb⟩ : ∃ lb, lb = b.length := ⟨_, rfl⟩
  rw [← hla] at HU a1 ⊢
  rw [← hlb] at HV b1 ⊢
  have HLA := Lib.hid hla
  have HLB := Lib.hid hlb
  obtain ⟨n1, n2⟩ := hn
  clear hla hlb
  have hcase : 100 < la ∨ (¬ 100 < la ∧ 100 < lb) ∨ (¬ 100 < la ∧ ¬ 100 < lb) := by omega
  rcases hcase with hbig | ⟨hb1, hbig⟩ | ⟨hb1, hb2⟩
  · have i1 : (la : Int) > 100 := by omega
    go_enter Try.func5, Try.ntmps5
    go_wp2_with fail
    refine (awake_any _).mono ?_
    rintro e w1 ⟨rfl, hg⟩
    have HG := Lib.hid ((Gr.new w _).trans hg)
    clear hg
    go_wp2_with fail
    go_ret
    exact ⟨rfl, HG.out⟩
  · have i1 : ¬ (la : Int) > 100 := by omega
    have i2 : (lb : Int) > 100 := by omega
    go_enter Try.func5, Try.ntmps5
    go_wp2_with fail
    refine (awake_any _).mono ?_
    rintro e w1 ⟨rfl, hg⟩
    have HG := Lib.hid ((Gr.new w _).trans hg)
    clear hg
    go_wp2_with fail
    go_ret
    exact ⟨rfl, HG.out⟩
  · have i1 : ¬ (la : Int) > 100 := by omega
    have i2 : ¬ (lb : Int) > 100 := by omega
    go_enter Try.func5, Try.ntmps5
    go_wp2_with fail
    obtain ⟨W, hW⟩ : ∃ W, W = w.alloc (.cells #[.int .i64 n, .int .u32 q, .slice xa la ca, .slice xb lb cb] 29) := ⟨_, rfl⟩
    have HG0 := Lib.hid (show Gr w W from by rw [hW]; exact Gr.new _ _)
    have c2 : W.cell? ⟨w.heap.size, 2, none⟩ = some (.slice xa la ca) := by rw [hW]; simp [go_sem]
    have c3 : W.cell? ⟨w.heap.size, 3, none⟩ = some (.slice xb lb cb) := by rw [hW]; simp [go_sem]
    rw [← hW]
    have HUW := Lib.hid (show HasP W (.slice xa la ca) a from HU.out.later HG0.out)
    have HVW := Lib.hid (show HasP W (.slice xb lb cb) b from HV.out.later HG0.out)
    clear hW
    refine (lmade_any n q a b _ _ _ HNN.out hq HUW.out HVW.out).mono ?_
    rintro e wM ⟨hg, h⟩
    have c2 := hg.keeps c2
    have c3 := hg.keeps c3
    have HG1 := Lib.hid (HG0.out.trans hg)
    have HUM := Lib.hid (HUW.out.later hg)
    have HVM := Lib.hid (HVW.out.later hg)
    clear hg
    rcases h with ⟨m, psi, s, T, R, rfl, hN, rfl, ht, hr⟩ | ⟨hf, rfl⟩
    · have HN := Lib.hid hN
      have HT := Lib.hid ht
      have HR := Lib.hid hr
      have hd := hN.dims
      have HQ := Lib.hid (show 1 ≤ q by omega)
      have HM := Lib.hid (show m ≤ 32 by omega)
      have HL1 := Lib.hid (show a.length ≤ 1000 by have := HLA.out; omega)
      have HL2 := Lib.hid (show b.length ≤ 1000 by have := HLB.out; omega)
      have HUD := Lib.hid (show HasP wM.drew (.slice xa la ca) a from HUM.out.later (Gr.refl wM).drew)
      clear hN ht hr hd
      go_wp2_with fail
      go_region_held3 (fun wz => wz.cell? ⟨w.heap.size, 2, none⟩ = some (.slice xa la ca) ∧ wz.cell? ⟨w.heap.size, 3, none⟩ = some (.slice xb lb cb)) (go_keep)
        (first
          | (go_at_call 13; ((with_reducible refine (lent_any a _ _ HUD.out HL1.out).mono ?_)); rintro e wl ⟨gx, cx, rfl, hcx1, hcx2, hgx, hrx, hg⟩; rw [← HLA.out] at hcx1 ⊢; have HGl := Lib.hid ((show Gr wM wM.drew from (Gr.refl wM).drew).trans hg); have c2 := HGl.out.keeps c2; have c3 := HGl.out.keeps c3; have HRX := Lib.hid hrx; have hgxl := hrx.lt; clear hrx hg)
          | (go_at_call 13; ((with_reducible refine (lent_any b _ _ (HVM.out.later HGl.out) HL2.out).mono ?_)); rintro e wl2 ⟨gy, cy, rfl, hcy1, hcy2, hgy, hry, hg⟩; rw [← HLB.out] at hcy1 ⊢; have HGm := Lib.hid (HGl.out.trans hg); have c2 := hg.keeps c2; have c3 := hg.keeps c3; have HRX2 := Lib.hid (HRX.out.later hg); have HRY := Lib.hid hry; clear hry hg))
      have HX := Lib.hid (lent_hasP HRX2.out HLA.out hcx1 hcx2)
      have HY := Lib.hid (lent_hasP HRY.out HLB.out hcy1 hcy2)
      go_wp2_with fail
      refine (pMul_any m q psi s T a b _ _ _ HN.out (HT.out.later HGm.out) HX.out HY.out).mono ?_
      rintro e wp ⟨xp, np, cp, rfl, hx, hfr, hg⟩
      have HP := Lib.hid hx
      have HGp := Lib.hid (HGm.out.trans hg)
      have HRXp := Lib.hid (HRX2.out.later hg)
      have HRYp := Lib.hid (HRY.out.later hg)
      have c2 := hg.keeps c2
      have c3 := hg.keeps c3
      clear hx hfr hg
      go_wp2_with fail
      refine (kept_any gx la cx a _ _ HLA.out hcx1 hcx2 HRXp.out (HUM.out.later HGp.out) (by have := HL1.out; omega)).mono ?_
      rintro e wk ⟨rfl, hg⟩
      have HGk := Lib.hid (HGp.out.trans hg)
      have HPk := Lib.hid (HP.out.later hg)
      have HRYk := Lib.hid (HRYp.out.later hg)
      have c2 := hg.keeps c2
      have c3 := hg.keeps c3
      clear hg
      go_wp2_with fail
      refine (kept_any gy lb cy b _ _ HLB.out hcy1 hcy2 HRYk.out (HVM.out.later HGk.out) (by have := HL2.out; omega)).mono ?_
      rintro e wk2 ⟨rfl, hg⟩
      have HGq := Lib.hid (HGk.out.trans hg)
      have HPq := Lib.hid (HPk.out.later hg)
      have c2 := hg.keeps c2
      have c3 := hg.keeps c3
      clear hg
      go_wp2_with fail
      refine (rMul_any m q psi s R a b _ _ _ HN.out (HR.out.later HGq.out) (HUM.out.later HGq.out) (HVM.out.later HGq.out)).mono ?_
      rintro e wr ⟨xr, nr, cr, rfl, hx, hfr, hg⟩
      have HRR := Lib.hid hx
      have HGr := Lib.hid (HGq.out.trans hg)
      have HPr := Lib.hid (HPq.out.later hg)
      have HLL := Lib.hid (show (mlL m q psi s a b).length ≤ 1000000 by
        unfold mlL; split
        · rw [Ot.ml, Ot.bw, Ot.tl_len]; have := HM.out; omega
        · simp)
      obtain ⟨E, hE⟩ : ∃ E, E = chkT m q [a, b] := ⟨_, rfl⟩
      have hEE : (E == E) = true := by simp
      rw [← hE]
      clear hx hfr hg hE
      go_wp2_with fail
      refine (lsame_any (mlL m q psi s a b) (mlL m q psi s a b) _ _ _ HPr.out HRR.out HLL.out HLL.out).mono ?_
      rintro e ws ⟨rfl, hg⟩
      rw [show decide (mlL m q psi s a b = mlL m q psi s a b) = true from by simp]
      have HGs := Lib.hid (HGr.out.trans hg)
      clear hg
      go_wp2_with fail
      refine (awake_any _).mono ?_
      rintro e wz ⟨rfl, hg⟩
      have HGz := Lib.hid (HG1.out.trans (HGs.out.trans hg))
      clear hg
      go_wp2_with fail
      go_ret
      exact ⟨rfl, HGz.out⟩
    · clear hf
      go_wp2_with fail
      refine (awake_any _).mono ?_
      rintro e w2 ⟨rfl, hg⟩
      have HG2 := Lib.hid (HG1.out.trans hg)
      clear hg
      go_wp2_with fail
      go_ret
      exact ⟨rfl, HG2.out⟩
end Go.Proofs.Ytjbfghnihnmpjaa
