/- order of integers. -/
import Derived.Test.YtgalgldnhdiggaaDoorNeg
namespace Go.Proofs.YtgalgldnhdiggaaDoor
open Go.RowKit
set_option linter.unusedVariables false

set_option maxRecDepth 100000 in
set_option maxHeartbeats 4000000 in
theorem order_any (M : Nat) (x y : Int) (u v : Value) (w : World) (hu : HasI M w u x) (hv : HasI M w v y) :
    Calls Tryd.prog 53 #[u, v] w (CmpPost (sgn x y) w) := by
  obtain ⟨s, l, rfl, hd, hn, hval, hlM⟩ := hu
  obtain ⟨t, m, rfl, hd', hn', hval', hmM⟩ := hv
  have HD := Lib.hid hd
  have HD' := Lib.hid hd'
  have HNm := Lib.hid hn
  have HNm' := Lib.hid hn'
  have HV := Lib.hid hval
  have HV' := Lib.hid hval'
  obtain ⟨nx, hnx⟩ : ∃ nx, nx = decide (x < 0) := ⟨_, rfl⟩
  obtain ⟨ny, hny⟩ : ∃ ny, ny = decide (y < 0) := ⟨_, rfl⟩
  rw [← hnx, ← hny]
  have HNX := Lib.hid hnx
  have HNY := Lib.hid hny
  clear hd hd' hn hn' hval hval' hlM hmM hnx hny
  obtain ⟨-, a, cap, rfl, -, -, -⟩ := id HD.out
  obtain ⟨-, a', cap', rfl, -, -, -⟩ := id HD'.out
  rcases nx with _ | _ <;> rcases ny with _ | _
  · have h1 : ¬ x < 0 := by simpa using HNX.out.symm
    have h2 : ¬ y < 0 := by simpa using HNY.out.symm
    have HS := Lib.hid (show sgn (Ow.val l : Int) (Ow.val m : Int) = sgn x y by rw [HV.out, HV'.out, show ((x.natAbs : Nat) : Int) = x by omega, show ((y.natAbs : Nat) : Int) = y by omega])
    clear h1 h2
    go_enter Tryd.func53, Tryd.ntmps53
    go_wp2_with fail
    refine (compare_any l m _ _ _ (HD.out.later ((Gr.new w _).alloc _)) (HD'.out.later ((Gr.new w _).alloc _)) HNm.out HNm'.out).mono ?_
    rintro e w2 ⟨rfl, g2⟩
    have HG := Lib.hid ((((Gr.new w _).alloc _)).trans g2)
    clear g2
    go_wp2_with fail
    go_ret
    exact ⟨by rw [HS.out]; rfl, HG.out⟩
  · have HS := Lib.hid (show sgn x y = 1 from sgn_gt (by have h1 : ¬ x < 0 := by simpa using HNX.out.symm
                                                         have h2 : y < 0 := by simpa using HNY.out.symm
                                                         omega))
    go_enter Tryd.func53, Tryd.ntmps53
    go_wp2_with fail
    go_ret
    exact ⟨by rw [HS.out]; rfl, (Gr.new w _).alloc _⟩
  · have HS := Lib.hid (show sgn x y = -1 from sgn_lt (by have h1 : x < 0 := by simpa using HNX.out.symm
                                                          have h2 : ¬ y < 0 := by simpa using HNY.out.symm
                                                          omega))
    go_enter Tryd.func53, Tryd.ntmps53
    go_wp2_with fail
    go_ret
    exact ⟨by rw [HS.out]; rfl, (Gr.new w _).alloc _⟩
  · have HS := Lib.hid (show sgn (Ow.val m : Int) (Ow.val l : Int) = sgn x y by
      have h1 : x < 0 := by simpa using HNX.out.symm
      have h2 : y < 0 := by simpa using HNY.out.symm
      rw [HV.out, HV'.out, show ((x.natAbs : Nat) : Int) = -x by omega, show ((y.natAbs : Nat) : Int) = -y by omega]
      unfold sgn
      by_cases a : x < y
      · rw [if_pos (by omega), if_pos a]
      · rw [if_neg (by omega), if_neg a]
        by_cases b : y < x
        · rw [if_pos (by omega), if_pos b]
        · rw [if_neg (by omega), if_neg b])
    go_enter Tryd.func53, Tryd.ntmps53
    go_wp2_with fail
    refine (compare_any m l _ _ _ (HD'.out.later ((Gr.new w _).alloc _)) (HD.out.later ((Gr.new w _).alloc _)) HNm'.out HNm.out).mono ?_
    rintro e w2 ⟨rfl, g2⟩
    have HG := Lib.hid ((((Gr.new w _).alloc _)).trans g2)
    clear g2
    go_wp2_with fail
    go_ret
    exact ⟨by rw [HS.out]; rfl, HG.out⟩
end Go.Proofs.YtgalgldnhdiggaaDoor
