import Derived.Test.YtjbfghnihnmpjaaLTk
/- The law TransformNone. -/
namespace Go.Proofs.Ytjbfghnihnmpjaa
open Go.RowKit
set_option linter.unusedVariables false

set_option maxRecDepth 200000 in
set_option maxHeartbeats 4000000 in
theorem transformNone_all (a b : List Int) (u v : Value) (w : World) (hu : HasP w u a) (hv : HasP w v b) :
    Calls Try.prog 6 #[u, v] w (Truth w) := by
  have HU := Lib.hid hu
  have HV := Lib.hid hv
  obtain ⟨-, xa, ca, rfl, -, -, -⟩ := hu
  obtain ⟨-, xb, cb, rfl, -, -, -⟩ := hv
  obtain ⟨la, hla⟩ : ∃ la, la = a.length := ⟨_, rfl⟩
  obtain ⟨lb, hlb⟩ : ∃ lb, lb = b.length := ⟨_, rfl⟩
  rw [← hla] at HU ⊢
  rw [← hlb] at HV ⊢
  clear hla hlb
  have hz := zero_table
  obtain ⟨L0, hL0⟩ : ∃ L0 : List Int, L0 = List.replicate 64 0 := ⟨_, rfl⟩
  have HL0 := Lib.hid (show L0.length = 64 by rw [hL0]; simp)
  rw [← hL0] at hz
  clear hL0
  obtain ⟨Z, hZ⟩ : ∃ Z, Z = tcells 0 0 L0 0 (.pointer none) := ⟨_, rfl⟩
  rw [← hZ] at hz
  have HZ := Lib.hid hZ
  clear hZ
  go_enter Try.func6, Try.ntmps6
  go_wp2_with fail
  obtain ⟨wL, hwL⟩ : ∃ wL, wL = (w.alloc (.cells Z 41)).alloc (.cells #[.pointer none, .pointer (some ⟨w.heap.size, 0, none⟩)] 23) := ⟨_, rfl⟩
  have HGL := Lib.hid (show Gr w wL from by rw [hwL]; exact (Gr.new w _).alloc _)
  have HT := Lib.hid (show NoTab wL (.pointer (some ⟨w.heap.size, 0, none⟩)) from .inr ⟨_, rfl, by
    have h := (TB.new w Z).later (Gr.new (w.alloc (.cells Z 41)) (.cells #[.pointer none, .pointer (some ⟨w.heap.size, 0, none⟩)] 23))
    rw [hwL, h.cell, HZ.out, tcells_v _ _ _ _ _ HL0.out]⟩)
  have HC := Lib.hid (show ∀ k : Nat, k < 2 → ∃ p, wL.cell? ⟨w.heap.size + 1, k, none⟩ = some (.pointer p) ∧ NoTab wL (.pointer p) from fun k hk => by
    rcases (show k = 0 ∨ k = 1 by omega) with rfl | rfl
    · exact ⟨none, by rw [hwL]; simp [go_sem], .inl rfl⟩
    · exact ⟨_, by rw [hwL]; simp [go_sem], HT.out⟩)
  rw [← hwL]
  clear hwL hz
  go_loopw [6, 7, 8, 9, 10, 11, 12] (fun t _ _ _ _ _ _ wr => ∃ k : Nat, t = .int .i64 k ∧ k ≤ 2 ∧ Gr wL wr) (fun t _ _ _ _ _ _ _ => 2 - (intOf t).toNat)
  case atStart => exact ⟨0, rfl, by omega, Gr.refl wL⟩
  case round =>
    obtain ⟨k, rfl, hk, hg⟩ := hrel
    have HG := Lib.hid hg
    by_cases hlt : k < 2
    · have i1 : (k : Int) < 2 := by omega
      have i2 : (0 : Int) ≤ (k : Int) := by omega
      obtain ⟨p, hc, hn⟩ := HC.out k hlt
      have hc := hg.keeps hc
      have HNO := Lib.hid hn
      clear hg hn
      go_wp2_with fail
      refine (pFwd_none _ _ a _ (HNO.out.later HG.out) (HU.out.later (HGL.out.trans HG.out))).mono ?_
      rintro e w1 ⟨x1, n1, k1, rfl, hx, -, hg⟩
      obtain rfl : n1 = 0 := hx.len.1
      have HG1 := Lib.hid (HG.out.trans hg)
      have hc := hg.keeps hc
      clear hg hx
      go_wp2_with fail
      refine (pInv_none _ _ a _ (HNO.out.later HG1.out) (HU.out.later (HGL.out.trans HG1.out))).mono ?_
      rintro e w2 ⟨x2, n2, k2, rfl, hx, -, hg⟩
      obtain rfl : n2 = 0 := hx.len.1
      have HG2 := Lib.hid (HG1.out.trans hg)
      have hc := hg.keeps hc
      clear hg hx
      go_wp2_with fail
      refine (pMul_none _ _ _ a b _ (HNO.out.later HG2.out) (HU.out.later (HGL.out.trans HG2.out)) (HV.out.later (HGL.out.trans HG2.out))).mono ?_
      rintro e w3 ⟨x3, n3, k3, rfl, hx, -, hg⟩
      obtain rfl : n3 = 0 := hx.len.1
      have HG3 := Lib.hid (HG2.out.trans hg)
      have hc := hg.keeps hc
      clear hg hx
      go_wp2_with fail
      refine (tRoot_none _ _ (HNO.out.later HG3.out)).mono ?_
      rintro e w4 ⟨rfl, hg⟩
      have HG4 := Lib.hid (HG3.out.trans hg)
      clear hg
      go_wp2_with fail
      go_roundw
      case rel => exact ⟨k + 1, by go_num, by omega, HG4.out⟩
      case measure => simp [intOf]; omega
    · obtain rfl : k = 2 := by omega
      clear hg
      go_wp2_with fail
      refine (awake_any _).mono ?_
      rintro e w1 ⟨rfl, hg⟩
      have HG1 := Lib.hid (HGL.out.trans (HG.out.trans hg))
      clear hg
      go_wp2_with fail
      go_ret
      exact ⟨rfl, HG1.out⟩
end Go.Proofs.Ytjbfghnihnmpjaa
