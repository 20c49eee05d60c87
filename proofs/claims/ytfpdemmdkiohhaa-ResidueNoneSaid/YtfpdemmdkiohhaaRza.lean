import Derived.Test.YtfpdemmdkiohhaaZF
import Derived.Test.YtfpdemmdkiohhaaZD
/- The law ResidueNone. -/
namespace Go.Proofs.Ytfpdemmdkiohhaa.Mo
open Go.RowKit
set_option linter.unusedVariables false
set_option maxRecDepth 100000 in
set_option maxHeartbeats 8000000 in
theorem residueNone_all (neg : Bool) (s : ByteArray) (vr : Value) (t : Int) (w : World) (hs : s.size ≤ 9223372036854775807) : Calls Try.prog 6 #[.agg #[.bool neg, .string s], vr, .int .u32 t] w (Tru w) := by
  go_enter Try.func6, Try.ntmps6
  go_wp2_with fail
  have x0 : (w.alloc (.cells #[.bool neg, .string s] 36)).cell? ⟨w.heap.size, 0, none⟩ = some (.bool neg) := by simp [go_sem]
  have x1 : (w.alloc (.cells #[.bool neg, .string s] 36)).cell? ⟨w.heap.size, 1, none⟩ = some (.string s) := by simp [go_sem]
  have hz : (w.alloc (.cells #[.bool neg, .string s] 36)).heap.size = w.heap.size + 1 := by simp [go_sem]
  have HG0 := Lib.hid (Gr.new w (.cells #[.bool neg, .string s] 36))
  generalize w.alloc (.cells #[.bool neg, .string s] 36) = w0 at *
  generalize w.heap.size = X at *
  have g := Gr.new w0 (.cells #[.int .u32 3, .int .u32 5] 33)
  refine (new_any [3, 5] _ _ (two_hasP' w0 3 5 (X + 1) hz.symm (by omega) (by omega))).mono ?_
  rintro e w1 ⟨hg, (⟨-, S, rfl, hsy, -⟩ | ⟨h, -⟩)⟩
  rotate_left
  · exact absurd dis35 h
  have x0 := (g.trans hg).keeps x0
  have x1 := (g.trans hg).keeps x1
  have HG1 := Lib.hid (HG0.out.trans (g.trans hg))
  have HS1 := Lib.hid hsy
  clear g hg hsy hz
  by_cases hlen : 300 < s.size
  · have hl : (300 : Int) < (s.size : Int) := by omega
    go_wp2_with fail
    refine (shown_any _).mono ?_
    rintro e w2 ⟨rfl, hg⟩
    have HG2 := Lib.hid (HG1.out.trans hg)
    clear hg
    go_wp2_with fail
    go_ret
    exact ⟨rfl, HG2.out⟩
  · have hl : ¬ (300 : Int) < (s.size : Int) := by omega
    go_wp2_with fail
    have g : Gr w1 ((w1.alloc (.cells #[.slice none 0 0, .pointer none] 61)).alloc (.cells #[.pointer none, .pointer (some ⟨w1.heap.size, 0, none⟩)] 62)) := (Gr.new _ _).alloc _
    have a0 : ((w1.alloc (.cells #[.slice none 0 0, .pointer none] 61)).alloc (.cells #[.pointer none, .pointer (some ⟨w1.heap.size, 0, none⟩)] 62)).cell? ⟨w1.heap.size + 1, 0, none⟩ = some (.pointer none) := by simp [go_sem]
    have a1 : ((w1.alloc (.cells #[.slice none 0 0, .pointer none] 61)).alloc (.cells #[.pointer none, .pointer (some ⟨w1.heap.size, 0, none⟩)] 62)).cell? ⟨w1.heap.size + 1, 1, none⟩ = some (.pointer (some ⟨w1.heap.size, 0, none⟩)) := by simp [go_sem]
    have z0 : ((w1.alloc (.cells #[.slice none 0 0, .pointer none] 61)).alloc (.cells #[.pointer none, .pointer (some ⟨w1.heap.size, 0, none⟩)] 62)).cell? ⟨w1.heap.size, 0, none⟩ = some (.slice none 0 0) := by simp [go_sem]
    have z1 : ((w1.alloc (.cells #[.slice none 0 0, .pointer none] 61)).alloc (.cells #[.pointer none, .pointer (some ⟨w1.heap.size, 0, none⟩)] 62)).cell? ⟨w1.heap.size, 1, none⟩ = some (.pointer none) := by simp [go_sem]
    generalize ((w1.alloc (.cells #[.slice none 0 0, .pointer none] 61)).alloc (.cells #[.pointer none, .pointer (some ⟨w1.heap.size, 0, none⟩)] 62)) = w2 at *
    have x0 := g.keeps x0
    have x1 := g.keeps x1
    have HG2 := Lib.hid (HG1.out.trans g)
    have HS2 := Lib.hid (HS1.out.later g)
    clear g
    generalize w1.heap.size = Z at *
    have HL := Lib.hid (show ∀ k : Nat, k < 2 → ∃ pv, w2.cell? ⟨Z + 1, k, none⟩ = some (.pointer pv) ∧ NoSys w2 (.pointer pv) from fun k hk => by
      have : k = 0 ∨ k = 1 := by omega
      rcases this with rfl | rfl
      · exact ⟨_, a0, _root_.Or.inl rfl⟩
      · exact ⟨_, a1, _root_.Or.inr ⟨Z, rfl, z0, z1⟩⟩)
    clear a0 a1 z0 z1
    have HX0 := Lib.hid x0
    have HX1 := Lib.hid x1
    clear x0 x1
    go_loopw [10] (fun t wr => ∃ k : Nat, t = .int .i64 k ∧ k ≤ 2 ∧ Gr w2 wr) (fun t _ => 2 - (intOf t).toNat)
    case atStart => exact ⟨0, rfl, by omega, Gr.refl _⟩
    case round =>
      obtain ⟨k, rfl, hk, hg⟩ := hrel
      by_cases hlt : k < 2
      · obtain ⟨pv, hc, hn⟩ := HL.out k hlt
        have hc := hg.keeps hc
        have HNS := Lib.hid (hn.later hg)
        have HG := Lib.hid hg
        have HC := Lib.hid hc
        have x0 := hg.keeps HX0.out
        have x1 := hg.keeps HX1.out
        have i0 : (0 : Int) ≤ (k : Int) := by omega
        have i1 : (k : Int) < 2 := by omega
        have gd : Gr wr wr.drew := (Gr.refl wr).drew
        have hc := gd.keeps hc
        have x0 := gd.keeps x0
        have x1 := gd.keeps x1
        have HNS := Lib.hid (HNS.out.later gd)
        have HG := Lib.hid (HG.out.trans gd)
        clear hg hn gd
        go_upto_region 8 with (fail)
        go_region_held3 (fun w' => w'.cell? ⟨Z + 1, k, none⟩ = some (.pointer pv) ∧ w'.cell? ⟨X, 0, none⟩ = some (.bool neg) ∧ w'.cell? ⟨X, 1, none⟩ = some (.string s)) (first | exact ⟨hc, x0, x1⟩ | go_keep)
          (first
            | (go_at_call 16; (with_reducible refine (split_no (.pointer pv) neg s _ HNS.out).mono ?_); rintro e w' ⟨_, _, _, _, _, rfl, _, ⟨_, rfl⟩, g⟩; have hc := g.keeps hc; have x0 := g.keeps x0; have x1 := g.keeps x1; have HNS := Lib.hid (HNS.out.later g); have HG := Lib.hid (HG.out.trans g); clear g))
        all_goals
          clear x0 x1
          go_wp2_with fail
          refine (join_no (.pointer pv) vr _ HNS.out).mono ?_
          rintro e w3 ⟨rfl, g⟩
          have hc := g.keeps hc
          try clear hcA
          have HNS := Lib.hid (HNS.out.later g)
          have HG := Lib.hid (HG.out.trans g)
          clear g
          have g := Gr.new w3 (.cells #[.bool false, .string ⟨#[]⟩] 36)
          have hcA := g.keeps hc
          go_wp2_with fail
          refine (convert_no pv vr S [3, 5] _ (HNS.out.later g) (HS2.out.later (HG.out.trans g))).mono ?_
          rintro e w4 ⟨_, _, _, _, _, rfl, _, ⟨_, rfl⟩, g4⟩
          have g := g.trans g4
          clear g4
          have hc := g.keeps hc
          try clear hcA
          have HNS := Lib.hid (HNS.out.later g)
          have HG := Lib.hid (HG.out.trans g)
          clear g
          go_wp2_with fail
          refine (drop_no (.pointer pv) vr _ HNS.out).mono ?_
          rintro e w5 ⟨_, _, _, _, _, _, rfl, _, ⟨_, rfl, rfl⟩, g⟩
          have hc := g.keeps hc
          try clear hcA
          have HNS := Lib.hid (HNS.out.later g)
          have HG := Lib.hid (HG.out.trans g)
          clear g
          go_wp2_with fail
          refine (scale_no (.pointer pv) vr t _ HNS.out).mono ?_
          rintro e w6 ⟨_, _, _, _, _, rfl, _, ⟨_, rfl⟩, g⟩
          have hc := g.keeps hc
          try clear hcA
          have HNS := Lib.hid (HNS.out.later g)
          have HG := Lib.hid (HG.out.trans g)
          clear g
          have g := Gr.new w6 (.cells #[.int .u32 1, .int .u32 1] 33)
          have hcA := g.keeps hc
          go_wp2_with fail
          refine (convert_noto (some ⟨S, 0, none⟩) _ (.pointer pv) _ (HNS.out.later g)).mono ?_
          rintro e w7 ⟨_, _, _, _, _, rfl, _, ⟨_, rfl⟩, g4⟩
          have g := g.trans g4
          clear g4
          have hc := g.keeps hc
          try clear hcA
          have HNS := Lib.hid (HNS.out.later g)
          have HG := Lib.hid (HG.out.trans g)
          clear g
          go_wp2_with fail
          refine (moduli_no (.pointer pv) _ HNS.out).mono ?_
          rintro e w8 ⟨rfl, g⟩
          have hc := g.keeps hc
          try clear hcA
          have HNS := Lib.hid (HNS.out.later g)
          have HG := Lib.hid (HG.out.trans g)
          clear g
          go_wp2_with fail
          refine (product_no (.pointer pv) _ HNS.out).mono ?_
          rintro e w9 ⟨rfl, g⟩
          have hc := g.keeps hc
          try clear hcA
          have HNS := Lib.hid (HNS.out.later g)
          have HG := Lib.hid (HG.out.trans g)
          clear g
          go_wp2_with fail
          exact ⟨⟨k + 1, by simp, by omega, HG.out⟩, by simp [intOf]; omega⟩
      · have i1 : ¬ (k : Int) < 2 := by omega
        have HG := Lib.hid hg
        clear hg
        go_wp2_with fail
        refine (shown_any _).mono ?_
        rintro e w3 ⟨rfl, g⟩
        have HG3 := Lib.hid ((HG2.out.trans HG.out).trans g)
        clear g
        go_wp2_with fail
        go_ret
        exact ⟨rfl, HG3.out⟩
end Go.Proofs.Ytfpdemmdkiohhaa.Mo
