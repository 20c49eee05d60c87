/- shown: the examples of the document. -/
import Derived.Test.YtmankcmmlcfbaaaVk
import Derived.Test.YtmankcmmlcfbaaaVl
import Derived.Test.YtmankcmmlcfbaaaVq
namespace Go.Proofs.Ytmankcmmlcfbaaa
open Go.RowKit Ov
set_option linter.unusedVariables false
def shS : ByteArray := ⟨#[165, 15]⟩
theorem sh1 : rBits shS 3 0 = (5, 0, 3) := by decide +kernel
theorem sh2 : rBelow shS 5 3 = (1, 0, 6) := by decide +kernel
theorem sh3 : rBelow shS 3 6 = (1, 0, 8) := by decide +kernel
theorem sh4 : rBits shS 9 8 = (0, 4, 8) := by decide +kernel
theorem sh5 : rTern shS 4 2 0 = ([0, -1, -1, 0], 0, 6) := by decide +kernel
theorem sh6 : nbits shS = 16 := by decide +kernel
theorem four8 (W : World) (g : Nat) (hg : g = W.heap.size) : L8.HasQ (W.alloc (.cells #[.int .i8 0, .int .i8 (-1), .int .i8 (-1), .int .i8 0] 50)) (.slice (some ⟨g, 0, none⟩) 4 4) [0, -1, -1, 0] := by
  subst hg
  refine ⟨fun x hx => by simp at hx; omega, _, 4, rfl, Nat.le_refl _, by omega, fun i hi => ⟨_, 0, rfl, ?_⟩⟩
  have h := World.cell?_alloc_mark W #[.int .i8 0, .int .i8 (-1), .int .i8 (-1), .int .i8 0] 50 (0, 0) (0 + i)
  rw [show W.alloc (.cells #[.int .i8 0, .int .i8 (-1), .int .i8 (-1), .int .i8 0] 50) = W.alloc (.cells #[.int .i8 0, .int .i8 (-1), .int .i8 (-1), .int .i8 0] 50 (0, 0)) from rfl, h]
  have : i = 0 ∨ i = 1 ∨ i = 2 ∨ i = 3 := by simp at hi; omega
  rcases this with rfl | rfl | rfl | rfl <;> rfl
set_option maxRecDepth 100000 in
set_option maxHeartbeats 4000000 in
theorem shown_any (w : World) : Calls Try.prog 7 #[] w (Truth w) := by
  have HNEW := Lib.hid (fun w => show Calls Try.prog 8 #[.string { data := #[165, 15] }] w (NewP shS w) from pNew_any shS w (by decide))
  go_enter Try.func7, Try.ntmps7
  go_wp2_with (go_at_call 8; refine (HNEW.out _).mono ?_; rintro e w1 ⟨b, g, c, rfl, hs1, hb1, hb2, hg1⟩)
  have HS1 := Lib.hid (show Calls Try.prog 21 #[.pointer (some ⟨b, 0, none⟩), .int .i64 3] w1 (fun e w' => e = .returned (.tuple #[.int .u64 5, .int .i64 0]) ∧ Sup w' b g c shS 3 ∧ Ex b w1 w') from by have h := pBits_any b g c shS 0 3 w1 hs1; rw [sh1] at h; exact h)
  have HG1 := Lib.hid hg1
  have HB := Lib.hid hb1
  have HBG := Lib.hid hb2
  clear hs1 hg1 hb1 hb2
  go_wp2_with (go_at_call 21; with_reducible refine HS1.out.mono ?_; rintro e w2 ⟨rfl, hs2, hx2⟩)
  have HS2 := Lib.hid (show Calls Try.prog 18 #[.pointer (some ⟨b, 0, none⟩), .int .u64 5] w2 (fun e w' => e = .returned (.tuple #[.int .u64 1, .int .i64 0]) ∧ Sup w' b g c shS 6 ∧ Ex b w2 w') from by have h := pBelow_any b g c shS 3 5 w2 hs2 (by omega); rw [sh2] at h; exact h)
  have HX2 := Lib.hid hx2
  clear hs2 hx2
  go_wp2_with (go_at_call 18; with_reducible refine HS2.out.mono ?_; rintro e w3 ⟨rfl, hs3, hx3⟩)
  have HS3 := Lib.hid (show Calls Try.prog 18 #[.pointer (some ⟨b, 0, none⟩), .int .u64 3] w3 (fun e w' => e = .returned (.tuple #[.int .u64 1, .int .i64 0]) ∧ Sup w' b g c shS 8 ∧ Ex b w3 w') from by have h := pBelow_any b g c shS 6 3 w3 hs3 (by omega); rw [sh3] at h; exact h)
  have HX3 := Lib.hid (HX2.out.trans hx3)
  clear hs3 hx3
  go_wp2_with (go_at_call 18; with_reducible refine HS3.out.mono ?_; rintro e w4 ⟨rfl, hs4, hx4⟩)
  have HS4 := Lib.hid (show Calls Try.prog 21 #[.pointer (some ⟨b, 0, none⟩), .int .i64 9] w4 (fun e w' => e = .returned (.tuple #[.int .u64 0, .int .i64 4]) ∧ Sup w' b g c shS 8 ∧ Ex b w4 w') from by have h := pBits_any b g c shS 8 9 w4 hs4; rw [sh4] at h; exact h)
  have HX4 := Lib.hid (HX3.out.trans hx4)
  clear hs4 hx4
  go_wp2_with (go_at_call 21; with_reducible refine HS4.out.mono ?_; rintro e w5 ⟨rfl, hs5, hx5⟩)
  have HSA := Lib.hid hs5
  have HG5 := Lib.hid (show Gr w w5 from (HX4.out.trans hx5).gr HG1.out HB.out)
  clear hs5 hx5
  go_wp2_with (go_at_call 8; refine (HNEW.out _).mono ?_; rintro e w6 ⟨b', g', c', rfl, hs6, hb6, hb7, hg6⟩)
  have HSB := Lib.hid (HSA.out.later hg6)
  have HG6 := Lib.hid (Gr.trans HG5.out hg6)
  have HB6 := Lib.hid (show b < b' ∧ g < b' from ⟨Nat.lt_of_lt_of_le HSA.out.lt.1 hb6, Nat.lt_of_lt_of_le HSA.out.lt.2 hb6⟩)
  have HB7 := Lib.hid (show w.heap.size ≤ b' from Nat.le_trans HG5.out.size hb6)
  have HS6 := Lib.hid (show Calls Try.prog 19 #[.pointer (some ⟨b', 0, none⟩), .int .i64 4, .int .i64 2] w6 (ResL8 b' g' c' shS ([0, -1, -1, 0], 0, 6) w6) from by have h := pTernary_any b' g' c' shS 0 4 2 w6 hs6; rw [sh5] at h; exact h)
  clear hs6 hg6 hb6 hb7
  go_wp2_with (go_at_call 19; refine HS6.out.mono ?_; rintro e w7 ⟨a, m, k, rfl, hq, _, hs7, hx7⟩)
  have HQ := Lib.hid hq
  have HT := Lib.hid hs7
  have HA := Lib.hid (HSB.out.ex hx7 (by have := HB6.out; omega) (by have := HB6.out; omega))
  have HG7 := Lib.hid (show Gr w w7 from hx7.gr HG6.out HB7.out)
  have HL := Lib.hid (show Calls Try.prog 11 #[.pointer (some ⟨b, 0, none⟩)] w7 (fun e w' => e = .returned (.int .i64 8) ∧ Gr w7 w') from by have h := left_any b g c shS 8 w7 HA.out; rw [sh6] at h; exact h)
  have HTK := Lib.hid (fun w8 (hg : Gr w7 w8) => show Calls Try.prog 13 #[.pointer (some ⟨b, 0, none⟩)] w8 (fun e w' => e = .returned (.int .i64 8) ∧ w' = w8) from taken_any b g c shS 8 w8 (HA.out.later hg))
  have HTK2 := Lib.hid (fun w8 (hg : Gr w7 w8) => show Calls Try.prog 13 #[.pointer (some ⟨b', 0, none⟩)] w8 (fun e w' => e = .returned (.int .i64 6) ∧ w' = w8) from taken_any b' g' c' shS 6 w8 (HT.out.later hg))
  clear hq hs7 hx7
  go_wp2_with (go_at_call 11; with_reducible refine HL.out.mono ?_; rintro e w8 ⟨rfl, hg8⟩)
  go_wp2_with (go_at_call 13; refine (HTK.out _ hg8).mono ?_; rintro e w9 ⟨rfl, rfl⟩)
  go_wp2_with (go_at_call 23; refine (sameL8_any _ _ [0, -1, -1, 0] _ (HQ.out.later (hg8.alloc _)) (four8 _ _ rfl)).mono ?_; rintro e w10 ⟨rfl, hg10⟩)
  go_wp2_with (go_at_call 13; refine (HTK2.out _ (Gr.trans (hg8.alloc _) hg10)).mono ?_; rintro e w11 ⟨rfl, rfl⟩)
  go_ret
  exact ⟨rfl, Gr.trans HG7.out (Gr.trans (hg8.alloc _) hg10)⟩
end Go.Proofs.Ytmankcmmlcfbaaa
