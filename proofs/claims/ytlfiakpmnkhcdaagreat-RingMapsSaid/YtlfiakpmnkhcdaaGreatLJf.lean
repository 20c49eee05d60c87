import Derived.Test.YtlfiakpmnkhcdaaGreatLJe
/- Package ring: products and automorphisms of rows. -/
namespace Oj
open Op
set_option linter.unusedVariables false
/-- What the program calculates with: the negative of a row, and the row. -/
def sg (n : Nat) (m : Int) (b : List Int) : List Int := Go.Proofs.YtlfiakpmnkhcdaaGreat.Mo.mulR n m (-1) b ++ b
end Oj
namespace Go.Proofs.YtlfiakpmnkhcdaaGreat.Mo
open Go.RowKit
set_option linter.unusedVariables false

theorem autoS_step (n : Nat) (m : Int) (k : Nat) (a : List Int) (i : Nat) : Oj.autoS n m k a (i + 1) = (Oj.autoS n m k a i).set (Oj.ps n k i) (Oj.vl n m k a i) := rfl
set_option maxRecDepth 100000 in
set_option maxHeartbeats 4000000 in
theorem mreplaced_any (m : Int) (k : Nat) (a : List Int) (u : Value) (w : World) (hm : okM' m) (hu : HasP w u a) (h1n : 1 ≤ a.length) (hl : a.length ≤ 1000) (hk : k ≤ 10000) :
    Calls Tryz.prog 55 #[.int .u32 m, u, .int .i64 k] w (OwnP (Oj.autoR a.length m k a) w) := by
  have ha32 := hu.1
  obtain ⟨-, xa, ca, rfl, a1, a2, -⟩ := id hu
  obtain ⟨n, hn⟩ : ∃ n, n = a.length := ⟨_, rfl⟩
  rw [← hn] at hu a1 hl h1n ⊢
  have HU := Lib.hid hu
  have HN := Lib.hid hn
  have HM := Lib.hid hm
  have HA3 := Lib.hid ha32
  have hmk := mk_row n (n : Int) rfl (by omega)
  clear hu hn hm ha32
  go_enter Tryz.func55, Tryz.ntmps55
  go_wp2_with fail
  refine (mmultiple_any m (-1) a _ _ HM.out ⟨by omega, by omega⟩ HU.out (by rw [← HN.out]; exact hl)).mono ?_
  rintro e w1 ⟨vm, rfl, hom, hg⟩
  rw [← HN.out] at hom
  obtain ⟨xm, cm, hvm, -, -⟩ := hom.form
  rw [mulR_len] at hvm
  subst hvm
  have HOM := Lib.hid hom.hasP
  have HOU := Lib.hid hom.1
  have HG1 := Lib.hid hg
  have hsz := hg.size
  clear hom hg
  go_wp2_with fail
  clear hmk
  obtain ⟨W, hW⟩ : ∃ W : World, W = w1.alloc (.cells (zrow n) 22) := ⟨_, rfl⟩
  rw [← hW]
  have HR0 := Lib.hid (show Own1 W w.heap.size (.slice (some ⟨w1.heap.size, 0, none⟩) n n) (List.replicate n 0) by rw [hW]; exact own_zeros w1 n _ hsz (by omega))
  have HG0 := Lib.hid (show Gr w W by rw [hW]; exact HG1.out.trans (Gr.new w1 _))
  have HOW := Lib.hid (show HasP W (.slice xm n cm) (mulR n m (-1) a) from HOM.out.later (by rw [hW]; exact Gr.new w1 _))
  obtain ⟨RB, hRB⟩ : ∃ RB, RB = w1.heap.size := ⟨_, rfl⟩
  rw [← hRB] at HR0 hsz ⊢
  have HSR := Lib.hid (show ∀ p, xm = some p → p.block < RB from fun p hp => by
    have h1 := HOM.out.lt (by rw [mulR_len]; exact h1n) p.block (by subst hp; rfl)
    rw [hRB]; exact h1)
  clear hW hRB
  go_loopw [10, 11, 21] (fun _ _ t wr => ∃ (i : Nat), t = .int .i64 i ∧ i ≤ n ∧ Own1 wr w.heap.size (.slice (some ⟨RB, 0, none⟩) n n) (Oj.autoS n m k a i) ∧ HasP wr (.slice xm n cm) (mulR n m (-1) a) ∧ Gr w wr) (fun _ _ t _ => n - (intOf t).toNat)
  case atStart => exact ⟨0, rfl, by omega, HR0.out, HOW.out, HG0.out⟩
  case round =>
    obtain ⟨i, rfl, hin, hrow, hneg, hg⟩ := hrel
    have HROW := Lib.hid hrow
    have HNEG := Lib.hid hneg
    have HG := Lib.hid hg
    have HAL := Lib.hid (Oj.autoS_len n m k a i)
    clear hrow hneg hg
    by_cases hlt : i < n
    · have hi1 : (i : Int) < (n : Int) := by omega
      obtain ⟨P, hP⟩ : ∃ P, P = i * k := ⟨_, rfl⟩
      have hPb : P ≤ 10000000 := by rw [hP]; exact Nat.le_trans (Nat.mul_le_mul (show i ≤ 1000 by omega) hk) (by omega)
      have hPi : (i : Int) * (k : Int) = (P : Int) := by rw [hP, Int.natCast_mul]
      obtain ⟨J, hJ⟩ : ∃ J, J = P % (2 * n) := ⟨_, rfl⟩
      have hJ2 : J < 2 * n := by rw [hJ]; exact Nat.mod_lt _ (by omega)
      have hJi : (P : Int) % (2 * (n : Int)) = (J : Int) := by rw [hJ, Int.natCast_emod, Int.natCast_mul]; rfl
      have hn2 : ¬ 2 * (n : Int) = 0 := by omega
      obtain ⟨gx, ox, rfl, hcx⟩ := (HU.out.later HG.out).at_ (i := i) (by rw [← HN.out]; exact hlt)
      obtain ⟨gy, oy, rfl, hcy⟩ := HNEG.out.at_ (i := i) (by rw [mulR_len]; exact hlt)
      obtain ⟨x0, x1⟩ := HA3.out.at_ i
      obtain ⟨y0, y1⟩ := HOU.out.at_ i
      have HYE := Lib.hid (show Op.cf (mulR n m (-1) a) i = (-(Op.cf a i)) % m by unfold mulR; rw [Oj.rowL_at _ _ hlt, show (-1 : Int) * Op.cf a i = - Op.cf a i by omega])
      obtain ⟨x, hx⟩ : ∃ x, x = Op.cf a i := ⟨_, rfl⟩
      obtain ⟨y, hy⟩ : ∃ y, y = Op.cf (mulR n m (-1) a) i := ⟨_, rfl⟩
      rw [← hx] at hcx x0 x1
      rw [← hy] at hcy y0 y1
      have HX := Lib.hid hx
      have HY := Lib.hid (hy.trans HYE.out)
      have HJP := Lib.hid (show i * k % (2 * n) = J by rw [hJ, hP])
      clear hx hy hP hJ
      by_cases hJn : J < n
      · have hj1 : (J : Int) < (n : Int) := by omega
        have hj0 : (0 : Int) ≤ (J : Int) := by omega
        have HPS := Lib.hid (show Oj.ps n k i = J by unfold Oj.ps; rw [HJP.out, if_pos hJn])
        have HVL := Lib.hid (show Oj.vl n m k a i = x by unfold Oj.vl; rw [HJP.out, if_pos hJn, HX.out])
        have hc := HROW.out.cell (j := J) (by rw [HAL.out]; exact hJn)
        have hfz := HROW.out.frz (by rw [HAL.out]; omega) J
        have HNW := Lib.hid (HROW.out.set (j := J) (by rw [HAL.out]; exact hJn) (x := x) (by omega))
        have HSN := Lib.hid (show HasP (wr.setCell ⟨RB, J, none⟩ (.int .u32 x)) (.slice (some ⟨gy, oy, none⟩) n cm) (mulR n m (-1) a) from HNEG.out.grown (grown_cell wr RB J _) (fun h0 p hp e => by
          have h1 := HSR.out _ rfl
          simp [Value.ownBlock] at hp
          simp at h1
          cases e; omega))
        go_wp2_with fail
        go_roundw
        case rel => exact ⟨i + 1, by go_num, by omega, by rw [autoS_step, HPS.out, HVL.out]; exact HNW.out.1, HSN.out, HG.out.setCell (show w.heap.size ≤ RB from hsz) _⟩
        case measure => simp [intOf]; omega
      · have hj1 : ¬ (J : Int) < (n : Int) := by omega
        obtain ⟨K, hK⟩ : ∃ K, K = J - n := ⟨_, rfl⟩
        have hKn : K < n := by omega
        have hKi : (J : Int) - (n : Int) = (K : Int) := by omega
        have hk0 : (0 : Int) ≤ (K : Int) := by omega
        have hk1 : (K : Int) < (n : Int) := by omega
        have HPS := Lib.hid (show Oj.ps n k i = K by unfold Oj.ps; rw [HJP.out, if_neg hJn, hK])
        have HVL := Lib.hid (show Oj.vl n m k a i = y by unfold Oj.vl; rw [HJP.out, if_neg hJn, HY.out])
        have hc := HROW.out.cell (j := K) (by rw [HAL.out]; exact hKn)
        have hfz := HROW.out.frz (by rw [HAL.out]; omega) K
        have HNW := Lib.hid (HROW.out.set (j := K) (by rw [HAL.out]; exact hKn) (x := y) (by omega))
        have HSN := Lib.hid (show HasP (wr.setCell ⟨RB, K, none⟩ (.int .u32 y)) (.slice (some ⟨gy, oy, none⟩) n cm) (mulR n m (-1) a) from HNEG.out.grown (grown_cell wr RB K _) (fun h0 p hp e => by
          have h1 := HSR.out _ rfl
          simp [Value.ownBlock] at hp
          simp at h1
          cases e; omega))
        clear hK
        go_wp2_with fail
        go_roundw
        case rel => exact ⟨i + 1, by go_num, by omega, by rw [autoS_step, HPS.out, HVL.out]; exact HNW.out.1, HSN.out, HG.out.setCell (show w.heap.size ≤ RB from hsz) _⟩
        case measure => simp [intOf]; omega
    · obtain rfl : i = n := by omega
      have hi1 : ¬ (i : Int) < (i : Int) := by omega
      go_wp2_with fail
      go_ret
      exact ⟨_, rfl, HROW.out, HG.out⟩
end Go.Proofs.YtlfiakpmnkhcdaaGreat.Mo
