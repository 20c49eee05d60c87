import Derived.Test.YtfpdemmdkiohhaaGreatLTD
import Derived.Test.YtfpdemmdkiohhaaGreatLZF
/- The law ResidueDivides. -/
namespace Go.Proofs.YtfpdemmdkiohhaaGreat.Mo
open Go.RowKit
set_option linter.unusedVariables false

set_option maxRecDepth 100000 in
set_option maxHeartbeats 16000000 in
theorem residueDivides_all (l r : List Int) (v u : Value) (t : Int) (w : World) (hv : HasP w v l) (hu : HasP w u r) (hl1 : l.length ≤ 9223372036854775807) (hl2 : r.length ≤ 9223372036854775807) (ht : 0 ≤ t ∧ t ≤ 4294967295) :
    Calls Tryz.prog 4 #[v, u, .int .u32 t] w (Tru w) := by
  obtain ⟨-, xv, cv, rfl, -, -, -⟩ := id hv
  obtain ⟨n, hn⟩ : ∃ n, n = l.length := ⟨_, rfl⟩
  rw [← hn] at hv hl1 ⊢
  have HV := Lib.hid hv
  have Nn := Lib.hid hn
  clear hv hn
  obtain ⟨-, xu, cu, rfl, -, -, -⟩ := id hu
  obtain ⟨m, hm⟩ : ∃ m, m = r.length := ⟨_, rfl⟩
  rw [← hm] at hu hl2 ⊢
  have HU := Lib.hid hu
  have Nm := Lib.hid hm
  clear hu hm
  have HG := Lib.hid (Gr.refl w)
  have HT := Lib.hid ht
  by_cases h1 : 40 < n
  · have i1 : (n : Int) > 40 := by omega
    go_enter Tryz.func4, Tryz.ntmps4
    go_wp2_with fail
    refine (shown_any _).mono ?_
    rintro e wz ⟨rfl, g⟩
    have HG := Lib.hid (HG.out.trans g)
    clear g
    go_wp2_with fail
    go_ret
    exact ⟨rfl, HG.out⟩
  have i1 : ¬ (n : Int) > 40 := by omega
  by_cases h2 : 60 < m
  · have i2 : (m : Int) > 60 := by omega
    go_enter Tryz.func4, Tryz.ntmps4
    go_wp2_with fail
    refine (shown_any _).mono ?_
    rintro e wz ⟨rfl, g⟩
    have HG := Lib.hid (HG.out.trans g)
    clear g
    go_wp2_with fail
    go_ret
    exact ⟨rfl, HG.out⟩
  have i2 : ¬ (m : Int) > 60 := by omega
  go_enter Tryz.func4, Tryz.ntmps4
  go_wp2_with fail
  refine (both_any l _ _ HV.out).mono ?_
  rintro e w1 ⟨g, hcase⟩
  have HG := Lib.hid (HG.out.trans g)
  have HV := Lib.hid (HV.out.later g)
  have HU := Lib.hid (HU.out.later g)
  clear g
  rcases hcase with ⟨hd, S, R, rfl, hs, hr⟩ | ⟨hnd, rfl⟩
  rotate_left
  · have HG := HG
    go_wp2_with fail
    refine (shown_any _).mono ?_
    rintro e wz ⟨rfl, g⟩
    have HG := Lib.hid (HG.out.trans g)
    clear g
    go_wp2_with fail
    go_ret
    exact ⟨rfl, HG.out⟩
  have HD0 := Lib.hid hd
  have HD := Lib.hid hd.sys
  have HS := Lib.hid hs
  have HR := Lib.hid hr
  clear hd hs hr
  go_wp2_with fail
  refine (lendK_any r _ _ HU.out (by have := Nm.out; omega)).mono ?_
  rintro e w2 ⟨ao, no, co, rfl, hp, hk, g⟩
  have HG := Lib.hid (HG.out.trans g)
  have HV := Lib.hid (HV.out.later g)
  have HU := Lib.hid (HU.out.later g)
  have HS := Lib.hid (HS.out.later g)
  have HR := Lib.hid (HR.out.later g)
  clear g
  have HO := Lib.hid hp
  have HK := Lib.hid hk
  have HGK := Lib.hid (Gr.refl w2)
  clear hp hk
  go_wp2_with fail
  refine (drop_any S l r _ _ HS.out HD.out HO.out).mono ?_
  rintro e w3 ⟨a1, n1, c1, row, d, E, rfl, hp, hr, g⟩
  have HG := Lib.hid (HG.out.trans g)
  have HV := Lib.hid (HV.out.later g)
  have HU := Lib.hid (HU.out.later g)
  have HS := Lib.hid (HS.out.later g)
  have HR := Lib.hid (HR.out.later g)
  have HO := Lib.hid (HO.out.later g)
  have HGK := Lib.hid (HGK.out.trans g)
  clear g
  have HP1 := Lib.hid hp
  have HR1 := Lib.hid hr
  clear hp hr
  go_wp2_with fail
  refine (rdrop_any R l r _ _ HR.out HD.out HU.out).mono ?_
  rintro e w4 ⟨a2, n2, c2, row', d', E', rfl, hp, hr, g⟩
  have HG := Lib.hid (HG.out.trans g)
  have HV := Lib.hid (HV.out.later g)
  have HU := Lib.hid (HU.out.later g)
  have HS := Lib.hid (HS.out.later g)
  have HR := Lib.hid (HR.out.later g)
  have HO := Lib.hid (HO.out.later g)
  have HGK := Lib.hid (HGK.out.trans g)
  have HP1 := Lib.hid (HP1.out.later g)
  clear g
  obtain ⟨hr1, hr2, hr3⟩ := HR1.out.det hr
  subst hr1 hr2 hr3
  have HP2 := Lib.hid hp
  have HLN := Lib.hid (HR1.out.len HD.out.2.2.2.2)
  clear hp hr
  go_wp2_with fail
  refine (same_any row row _ _ _ HP1.out HP2.out HLN.out HLN.out).mono ?_
  rintro e w5 ⟨rfl, g⟩
  rw [decide_eq_true (rfl : row = row)]
  have HG := Lib.hid (HG.out.trans g)
  have HV := Lib.hid (HV.out.later g)
  have HU := Lib.hid (HU.out.later g)
  have HS := Lib.hid (HS.out.later g)
  have HR := Lib.hid (HR.out.later g)
  have HO := Lib.hid (HO.out.later g)
  have HGK := Lib.hid (HGK.out.trans g)
  have HP1 := Lib.hid (HP1.out.later g)
  have HP2 := Lib.hid (HP2.out.later g)
  clear g
  go_wp2_with fail
  refine (scale_any S l r t _ _ HS.out HD.out HD0.out.primeL HO.out HT.out).mono ?_
  rintro e w6 ⟨a3, n3, c3, row3, F, rfl, hp, hr, g⟩
  have HG := Lib.hid (HG.out.trans g)
  have HV := Lib.hid (HV.out.later g)
  have HU := Lib.hid (HU.out.later g)
  have HS := Lib.hid (HS.out.later g)
  have HR := Lib.hid (HR.out.later g)
  have HO := Lib.hid (HO.out.later g)
  have HGK := Lib.hid (HGK.out.trans g)
  clear g
  have HP3 := Lib.hid hp
  have HR3 := Lib.hid hr
  clear hp hr
  go_wp2_with fail
  refine (rscale_any R l r t _ _ HR.out HD.out HD0.out.primeL HU.out HT.out).mono ?_
  rintro e w7 ⟨a4, n4, c4, row4, F', rfl, hp, hr, g⟩
  have HG := Lib.hid (HG.out.trans g)
  have HV := Lib.hid (HV.out.later g)
  have HU := Lib.hid (HU.out.later g)
  have HS := Lib.hid (HS.out.later g)
  have HR := Lib.hid (HR.out.later g)
  have HO := Lib.hid (HO.out.later g)
  have HGK := Lib.hid (HGK.out.trans g)
  have HP3 := Lib.hid (HP3.out.later g)
  clear g
  obtain ⟨hr1, hr2⟩ := HR3.out.det HD.out HD0.out.primeL hr
  subst hr1 hr2
  have HP4 := Lib.hid hp
  have HLN3 := Lib.hid (HR3.out.len HD.out.2.2.2.2)
  clear hp hr
  go_wp2_with fail
  refine (same_any row3 row3 _ _ _ HP3.out HP4.out HLN3.out HLN3.out).mono ?_
  rintro e w8 ⟨rfl, g⟩
  rw [decide_eq_true (rfl : row3 = row3)]
  have HG := Lib.hid (HG.out.trans g)
  have HV := Lib.hid (HV.out.later g)
  have HU := Lib.hid (HU.out.later g)
  have HS := Lib.hid (HS.out.later g)
  have HR := Lib.hid (HR.out.later g)
  have HO := Lib.hid (HO.out.later g)
  have HGK := Lib.hid (HGK.out.trans g)
  have HP3 := Lib.hid (HP3.out.later g)
  have HP4 := Lib.hid (HP4.out.later g)
  clear g
  go_wp2_with fail
  refine (HK.out _ HGK.out).mono ?_
  rintro e w9 ⟨rfl, g⟩
  have HG := Lib.hid (HG.out.trans g)
  have HV := Lib.hid (HV.out.later g)
  have HU := Lib.hid (HU.out.later g)
  have HS := Lib.hid (HS.out.later g)
  have HR := Lib.hid (HR.out.later g)
  have HO := Lib.hid (HO.out.later g)
  have HGK := Lib.hid (HGK.out.trans g)
  have HP3 := Lib.hid (HP3.out.later g)
  have HP4 := Lib.hid (HP4.out.later g)
  clear g
  go_wp2_with fail
  refine (shown_any _).mono ?_
  rintro e wz ⟨rfl, g⟩
  have HG := Lib.hid (HG.out.trans g)
  clear g
  go_wp2_with fail
  go_ret
  exact ⟨rfl, HG.out⟩
end Go.Proofs.YtfpdemmdkiohhaaGreat.Mo
