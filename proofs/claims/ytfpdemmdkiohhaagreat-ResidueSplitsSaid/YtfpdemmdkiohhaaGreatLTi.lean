import Derived.Test.YtfpdemmdkiohhaaGreatLTD
import Derived.Test.YtfpdemmdkiohhaaGreatLZF
/- The law ResidueSplits. -/
namespace Go.Proofs.YtfpdemmdkiohhaaGreat.Mo
open Go.RowKit
set_option linter.unusedVariables false

set_option maxRecDepth 100000 in
set_option maxHeartbeats 16000000 in
theorem residueSplits_all (l l' r : List Int) (v v' u : Value) (neg : Bool) (s : ByteArray) (w : World) (hv : HasP w v l) (hv' : HasP w v' l') (hu : HasP w u r) (hl1 : l.length ≤ 9223372036854775807) (hl3 : l'.length ≤ 9223372036854775807) (hl2 : r.length ≤ 9223372036854775807) (hs : s.size ≤ 9223372036854775807) :
    Calls Tryz.prog 3 #[.agg #[v, v', u, .bool neg, .string s]] w (Tru w) := by
  obtain ⟨-, xv, cv, rfl, -, -, -⟩ := id hv
  obtain ⟨n, hn⟩ : ∃ n, n = l.length := ⟨_, rfl⟩
  rw [← hn] at hv hl1 ⊢
  have HV := Lib.hid hv
  have Nn := Lib.hid hn
  clear hv hn
  obtain ⟨-, xv', cv', rfl, -, -, -⟩ := id hv'
  obtain ⟨n', hn'⟩ : ∃ n', n' = l'.length := ⟨_, rfl⟩
  rw [← hn'] at hv' hl3 ⊢
  have HV' := Lib.hid hv'
  have Nn' := Lib.hid hn'
  clear hv' hn'
  obtain ⟨-, xu, cu, rfl, -, -, -⟩ := id hu
  obtain ⟨m, hm⟩ : ∃ m, m = r.length := ⟨_, rfl⟩
  rw [← hm] at hu hl2 ⊢
  have HU := Lib.hid hu
  have Nm := Lib.hid hm
  clear hu hm
  go_enter Tryz.func3, Tryz.ntmps3
  go_wp2_with fail
  go_region
  have g : Gr w ((w.alloc (.cells #[.slice xv n cv, .slice xv' n' cv', .slice xu m cu, .bool neg, .string s] 26)).alloc (.cells #[.bool neg, .string s] 24)).drew := ((Gr.new w _).alloc _).drew
  have x0 : ((w.alloc (.cells #[.slice xv n cv, .slice xv' n' cv', .slice xu m cu, .bool neg, .string s] 26)).alloc (.cells #[.bool neg, .string s] 24)).drew.cell? ⟨w.heap.size + 1, 0, none⟩ = some (.bool neg) := by simp [go_sem]
  have x1 : ((w.alloc (.cells #[.slice xv n cv, .slice xv' n' cv', .slice xu m cu, .bool neg, .string s] 26)).alloc (.cells #[.bool neg, .string s] 24)).drew.cell? ⟨w.heap.size + 1, 1, none⟩ = some (.string s) := by simp [go_sem]
  generalize ((w.alloc (.cells #[.slice xv n cv, .slice xv' n' cv', .slice xu m cu, .bool neg, .string s] 26)).alloc (.cells #[.bool neg, .string s] 24)).drew = w0 at *
  generalize w.heap.size + 1 = XB at *
  have HG := Lib.hid g
  have HV := Lib.hid (HV.out.later g)
  have HV' := Lib.hid (HV'.out.later g)
  have HU := Lib.hid (HU.out.later g)
  clear g
  by_cases hi1 : 40 < n
  · have i1 : (n : Int) > 40 := by omega
    have HG := HG
    go_wp2_with fail
    refine (shown_any _).mono ?_
    rintro e wz ⟨rfl, g⟩
    have HG := Lib.hid (HG.out.trans g)
    clear g
    go_wp2_with fail
    go_ret
    exact ⟨rfl, HG.out⟩
  have i1 : ¬ (n : Int) > 40 := by omega
  by_cases hi2 : 40 < n'
  · have i2 : (n' : Int) > 40 := by omega
    have HG := HG
    go_wp2_with fail
    refine (shown_any _).mono ?_
    rintro e wz ⟨rfl, g⟩
    have HG := Lib.hid (HG.out.trans g)
    clear g
    go_wp2_with fail
    go_ret
    exact ⟨rfl, HG.out⟩
  have i2 : ¬ (n' : Int) > 40 := by omega
  by_cases hi3 : 60 < m
  · have i3 : (m : Int) > 60 := by omega
    have HG := HG
    go_wp2_with fail
    refine (shown_any _).mono ?_
    rintro e wz ⟨rfl, g⟩
    have HG := Lib.hid (HG.out.trans g)
    clear g
    go_wp2_with fail
    go_ret
    exact ⟨rfl, HG.out⟩
  have i3 : ¬ (m : Int) > 60 := by omega
  by_cases hi4 : 300 < s.size
  · have i4 : (s.size : Int) > 300 := by omega
    have HG := HG
    go_wp2_with fail
    refine (shown_any _).mono ?_
    rintro e wz ⟨rfl, g⟩
    have HG := Lib.hid (HG.out.trans g)
    clear g
    go_wp2_with fail
    go_ret
    exact ⟨rfl, HG.out⟩
  have i4 : ¬ (s.size : Int) > 300 := by omega
  go_wp2_with fail
  refine (both_any l _ _ HV.out).mono ?_
  rintro e w1 ⟨g, hcase⟩
  have HV := Lib.hid (HV.out.later g)
  have HV' := Lib.hid (HV'.out.later g)
  have HU := Lib.hid (HU.out.later g)
  have HG := Lib.hid (HG.out.trans g)
  have x0 := g.keeps x0
  have x1 := g.keeps x1
  clear g
  rcases hcase with ⟨hd, S, R, rfl, hs1, hr⟩ | ⟨hnd, rfl⟩
  rotate_left
  · have HG := HG
    go_wp2_with fail
    refine (both_any l' _ _ HV'.out).mono ?_
    rintro e w2 ⟨g, hcase⟩
    have HV := Lib.hid (HV.out.later g)
    have HV' := Lib.hid (HV'.out.later g)
    have HU := Lib.hid (HU.out.later g)
    have HG := Lib.hid (HG.out.trans g)
    have x0 := g.keeps x0
    have x1 := g.keeps x1
    clear g
    rcases hcase with ⟨hd, S, R, rfl, hs1, hr⟩ | ⟨hnd, rfl⟩
    · have HG := HG
      go_wp2_with fail
      refine (shown_any _).mono ?_
      rintro e wz ⟨rfl, g⟩
      have HG := Lib.hid (HG.out.trans g)
      clear g
      go_wp2_with fail
      go_ret
      exact ⟨rfl, HG.out⟩
    · have HG := HG
      go_wp2_with fail
      refine (shown_any _).mono ?_
      rintro e wz ⟨rfl, g⟩
      have HG := Lib.hid (HG.out.trans g)
      clear g
      go_wp2_with fail
      go_ret
      exact ⟨rfl, HG.out⟩
  have HD := Lib.hid hd.sys
  have HS := Lib.hid hs1
  have HR := Lib.hid hr
  clear hd hs1 hr
  go_wp2_with fail
  refine (both_any l' _ _ HV'.out).mono ?_
  rintro e w2 ⟨g, hcase⟩
  have HV := Lib.hid (HV.out.later g)
  have HV' := Lib.hid (HV'.out.later g)
  have HU := Lib.hid (HU.out.later g)
  have HG := Lib.hid (HG.out.trans g)
  have x0 := g.keeps x0
  have x1 := g.keeps x1
  have HS := Lib.hid (HS.out.later g)
  have HR := Lib.hid (HR.out.later g)
  clear g
  rcases hcase with ⟨hd, S2, R2, rfl, hs1, hr⟩ | ⟨hnd, rfl⟩
  rotate_left
  · have HG := HG
    go_wp2_with fail
    refine (shown_any _).mono ?_
    rintro e wz ⟨rfl, g⟩
    have HG := Lib.hid (HG.out.trans g)
    clear g
    go_wp2_with fail
    go_ret
    exact ⟨rfl, HG.out⟩
  have HD' := Lib.hid hd.sys
  have HS' := Lib.hid hs1
  have HR' := Lib.hid hr
  clear hd hs1 hr
  go_wp2_with fail
  refine (split_any S l neg s _ HS.out HD.out hs).mono ?_
  rintro e w3 ⟨a1, n1, c1, row, E, rfl, hp, hr, g⟩
  have HV := Lib.hid (HV.out.later g)
  have HV' := Lib.hid (HV'.out.later g)
  have HU := Lib.hid (HU.out.later g)
  have HG := Lib.hid (HG.out.trans g)
  have x0 := g.keeps x0
  have x1 := g.keeps x1
  have HS := Lib.hid (HS.out.later g)
  have HR := Lib.hid (HR.out.later g)
  have HS' := Lib.hid (HS'.out.later g)
  have HR' := Lib.hid (HR'.out.later g)
  clear g
  have HP1 := Lib.hid hp
  have HR1 := Lib.hid hr
  clear hp hr
  go_wp2_with fail
  refine (rsplit_any R l neg s _ HR.out HD.out.1 HD.out.2.2.2.2 hs).mono ?_
  rintro e w4 ⟨a2, n2, c2, row', E', rfl, hp, hr, g⟩
  have HV := Lib.hid (HV.out.later g)
  have HV' := Lib.hid (HV'.out.later g)
  have HU := Lib.hid (HU.out.later g)
  have HG := Lib.hid (HG.out.trans g)
  have HS := Lib.hid (HS.out.later g)
  have HR := Lib.hid (HR.out.later g)
  have HS' := Lib.hid (HS'.out.later g)
  have HR' := Lib.hid (HR'.out.later g)
  have HP1 := Lib.hid (HP1.out.later g)
  clear g
  obtain ⟨hr1, hr2⟩ := HR1.out.det hr
  subst hr1 hr2
  have HP2 := Lib.hid hp
  have HLN := Lib.hid (HR1.out.len HD.out.2.2.2.2)
  clear hp hr
  go_wp2_with fail
  refine (same_any row row _ _ _ HP1.out HP2.out HLN.out HLN.out).mono ?_
  rintro e w5 ⟨rfl, g⟩
  rw [decide_eq_true (rfl : row = row)]
  have HV := Lib.hid (HV.out.later g)
  have HV' := Lib.hid (HV'.out.later g)
  have HU := Lib.hid (HU.out.later g)
  have HG := Lib.hid (HG.out.trans g)
  have HS := Lib.hid (HS.out.later g)
  have HR := Lib.hid (HR.out.later g)
  have HS' := Lib.hid (HS'.out.later g)
  have HR' := Lib.hid (HR'.out.later g)
  have HP1 := Lib.hid (HP1.out.later g)
  have HP2 := Lib.hid (HP2.out.later g)
  clear g
  go_wp2_with fail
  refine (lendK_any r _ _ HU.out (by have := Nm.out; omega)).mono ?_
  rintro e w6 ⟨ao, no, co, rfl, hp, hk, g⟩
  have HV := Lib.hid (HV.out.later g)
  have HV' := Lib.hid (HV'.out.later g)
  have HU := Lib.hid (HU.out.later g)
  have HG := Lib.hid (HG.out.trans g)
  have HS := Lib.hid (HS.out.later g)
  have HR := Lib.hid (HR.out.later g)
  have HS' := Lib.hid (HS'.out.later g)
  have HR' := Lib.hid (HR'.out.later g)
  clear g
  have HO := Lib.hid hp
  have HK := Lib.hid hk
  have HGK := Lib.hid (Gr.refl w6)
  clear hp hk
  go_wp2_with fail
  refine (join_any S l r _ _ HS.out HD.out HO.out).mono ?_
  rintro e w7 ⟨X, c, rfl, hj, g⟩
  have HV := Lib.hid (HV.out.later g)
  have HV' := Lib.hid (HV'.out.later g)
  have HU := Lib.hid (HU.out.later g)
  have HG := Lib.hid (HG.out.trans g)
  have HS := Lib.hid (HS.out.later g)
  have HR := Lib.hid (HR.out.later g)
  have HS' := Lib.hid (HS'.out.later g)
  have HR' := Lib.hid (HR'.out.later g)
  have HO := Lib.hid (HO.out.later g)
  have HGK := Lib.hid (HGK.out.trans g)
  clear g
  have HJ := Lib.hid hj
  clear hj
  have g := Gr.new w7 (.cells #[.bool (decide (X < 0)), .string (bstr (X).natAbs)] 24)
  have b10 : (w7.alloc (.cells #[.bool (decide (X < 0)), .string (bstr (X).natAbs)] 24)).cell? ⟨w7.heap.size, 0, none⟩ = some (.bool (decide (X < 0))) := by simp [go_sem]
  have b11 : (w7.alloc (.cells #[.bool (decide (X < 0)), .string (bstr (X).natAbs)] 24)).cell? ⟨w7.heap.size, 1, none⟩ = some (.string (bstr (X).natAbs)) := by simp [go_sem]
  have HV := Lib.hid (HV.out.later g)
  have HV' := Lib.hid (HV'.out.later g)
  have HU := Lib.hid (HU.out.later g)
  have HG := Lib.hid (HG.out.trans g)
  have HS := Lib.hid (HS.out.later g)
  have HR := Lib.hid (HR.out.later g)
  have HS' := Lib.hid (HS'.out.later g)
  have HR' := Lib.hid (HR'.out.later g)
  have HO := Lib.hid (HO.out.later g)
  have HGK := Lib.hid (HGK.out.trans g)
  clear g
  unfold wv
  go_wp2_with fail
  generalize w7.alloc (.cells #[.bool (decide (X < 0)), .string (bstr (X).natAbs)] 24) = w8 at *
  generalize w7.heap.size = B1 at *
  refine (rjoin_any R l r _ _ HR.out HD.out HU.out).mono ?_
  rintro e w9 ⟨X', c', rfl, hj, g⟩
  have HV := Lib.hid (HV.out.later g)
  have HV' := Lib.hid (HV'.out.later g)
  have HU := Lib.hid (HU.out.later g)
  have HG := Lib.hid (HG.out.trans g)
  have HS := Lib.hid (HS.out.later g)
  have HR := Lib.hid (HR.out.later g)
  have HS' := Lib.hid (HS'.out.later g)
  have HR' := Lib.hid (HR'.out.later g)
  have HO := Lib.hid (HO.out.later g)
  have HGK := Lib.hid (HGK.out.trans g)
  have b10 := g.keeps b10
  have b11 := g.keeps b11
  clear g
  obtain ⟨hr1, hr2⟩ := HJ.out.det HD.out hj
  subst hr1 hr2
  clear hj
  have g := Gr.new w9 (.cells #[.bool (decide (X < 0)), .string (bstr (X).natAbs)] 24)
  have b20 : (w9.alloc (.cells #[.bool (decide (X < 0)), .string (bstr (X).natAbs)] 24)).cell? ⟨w9.heap.size, 0, none⟩ = some (.bool (decide (X < 0))) := by simp [go_sem]
  have b21 : (w9.alloc (.cells #[.bool (decide (X < 0)), .string (bstr (X).natAbs)] 24)).cell? ⟨w9.heap.size, 1, none⟩ = some (.string (bstr (X).natAbs)) := by simp [go_sem]
  have HV := Lib.hid (HV.out.later g)
  have HV' := Lib.hid (HV'.out.later g)
  have HU := Lib.hid (HU.out.later g)
  have HG := Lib.hid (HG.out.trans g)
  have HS := Lib.hid (HS.out.later g)
  have HR := Lib.hid (HR.out.later g)
  have HS' := Lib.hid (HS'.out.later g)
  have HR' := Lib.hid (HR'.out.later g)
  have HO := Lib.hid (HO.out.later g)
  have HGK := Lib.hid (HGK.out.trans g)
  have b10 := g.keeps b10
  have b11 := g.keeps b11
  clear g
  unfold wv
  go_wp2_with fail
  generalize w9.alloc (.cells #[.bool (decide (X < 0)), .string (bstr (X).natAbs)] 24) = w10 at *
  generalize w9.heap.size = B2 at *
  refine (HK.out _ HGK.out).mono ?_
  rintro e w11 ⟨rfl, g⟩
  have HV := Lib.hid (HV.out.later g)
  have HV' := Lib.hid (HV'.out.later g)
  have HU := Lib.hid (HU.out.later g)
  have HG := Lib.hid (HG.out.trans g)
  have HS := Lib.hid (HS.out.later g)
  have HR := Lib.hid (HR.out.later g)
  have HS' := Lib.hid (HS'.out.later g)
  have HR' := Lib.hid (HR'.out.later g)
  have HO := Lib.hid (HO.out.later g)
  have HGK := Lib.hid (HGK.out.trans g)
  clear g
  go_wp2_with fail
  refine (convert_any S S2 l l' r _ _ HS.out HS'.out HD.out HD'.out HO.out).mono ?_
  rintro e w12 ⟨a3, n3, c3, row3, F, rfl, hp, hr, g⟩
  have HV := Lib.hid (HV.out.later g)
  have HV' := Lib.hid (HV'.out.later g)
  have HU := Lib.hid (HU.out.later g)
  have HG := Lib.hid (HG.out.trans g)
  have HS := Lib.hid (HS.out.later g)
  have HR := Lib.hid (HR.out.later g)
  have HS' := Lib.hid (HS'.out.later g)
  have HR' := Lib.hid (HR'.out.later g)
  have HO := Lib.hid (HO.out.later g)
  have HGK := Lib.hid (HGK.out.trans g)
  clear g
  have HP3 := Lib.hid hp
  have HR3 := Lib.hid hr
  clear hp hr
  go_wp2_with fail
  refine (rconvert_any R R2 l l' r _ _ HR.out HR'.out HD.out HD'.out HU.out).mono ?_
  rintro e w13 ⟨a4, n4, c4, row4, F', rfl, hp, hr, g⟩
  have HV := Lib.hid (HV.out.later g)
  have HV' := Lib.hid (HV'.out.later g)
  have HU := Lib.hid (HU.out.later g)
  have HG := Lib.hid (HG.out.trans g)
  have HS := Lib.hid (HS.out.later g)
  have HR := Lib.hid (HR.out.later g)
  have HS' := Lib.hid (HS'.out.later g)
  have HR' := Lib.hid (HR'.out.later g)
  have HO := Lib.hid (HO.out.later g)
  have HGK := Lib.hid (HGK.out.trans g)
  have HP3 := Lib.hid (HP3.out.later g)
  clear g
  obtain ⟨hr1, hr2⟩ := HR3.out.det HD.out hr
  subst hr1 hr2
  have HP4 := Lib.hid hp
  have HLN3 := Lib.hid (HR3.out.len HD'.out.2.2.2.2)
  clear hp hr
  go_wp2_with fail
  refine (same_any row3 row3 _ _ _ HP3.out HP4.out HLN3.out HLN3.out).mono ?_
  rintro e w14 ⟨rfl, g⟩
  rw [decide_eq_true (rfl : row3 = row3)]
  have HV := Lib.hid (HV.out.later g)
  have HV' := Lib.hid (HV'.out.later g)
  have HU := Lib.hid (HU.out.later g)
  have HG := Lib.hid (HG.out.trans g)
  have HS := Lib.hid (HS.out.later g)
  have HR := Lib.hid (HR.out.later g)
  have HS' := Lib.hid (HS'.out.later g)
  have HR' := Lib.hid (HR'.out.later g)
  have HO := Lib.hid (HO.out.later g)
  have HGK := Lib.hid (HGK.out.trans g)
  have HP3 := Lib.hid (HP3.out.later g)
  have HP4 := Lib.hid (HP4.out.later g)
  clear g
  go_wp2_with fail
  refine (HK.out _ HGK.out).mono ?_
  rintro e w15 ⟨rfl, g⟩
  have HV := Lib.hid (HV.out.later g)
  have HV' := Lib.hid (HV'.out.later g)
  have HU := Lib.hid (HU.out.later g)
  have HG := Lib.hid (HG.out.trans g)
  have HS := Lib.hid (HS.out.later g)
  have HR := Lib.hid (HR.out.later g)
  have HS' := Lib.hid (HS'.out.later g)
  have HR' := Lib.hid (HR'.out.later g)
  have HO := Lib.hid (HO.out.later g)
  have HGK := Lib.hid (HGK.out.trans g)
  have HP3 := Lib.hid (HP3.out.later g)
  have HP4 := Lib.hid (HP4.out.later g)
  clear g
  go_wp2_with fail
  refine (shown_any _).mono ?_
  rintro e wz ⟨rfl, g⟩
  have HG := Lib.hid (HG.out.trans g)
  clear g
  go_wp2_with fail
  go_ret
  exact ⟨rfl, HG.out⟩
end Go.Proofs.YtfpdemmdkiohhaaGreat.Mo
