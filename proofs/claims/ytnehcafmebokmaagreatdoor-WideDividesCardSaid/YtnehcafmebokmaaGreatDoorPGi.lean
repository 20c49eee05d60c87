/- positive, inShift, Balanced, Cmp, Shl on forms. -/
import Derived.Test.YtnehcafmebokmaaGreatDoorPGh
import Derived.Test.YtnehcafmebokmaaGreatDoorPGg
import Derived.Lib.ItoaMem
import Derived.Lib.AppendIntMem
namespace Go.Proofs.YtnehcafmebokmaaGreatDoor
open Go.RowKit
set_option linter.unusedVariables false

theorem zOf_pos {neg : Bool} {s : ByteArray} (h : Form neg s) : 0 < zOf neg s ↔ (s.size ≠ 0 ∧ neg = false) := by
  rcases Nat.eq_zero_or_pos s.size with h0 | h0
  · have e := zOf_abs neg s
    have hl := list_len s
    rw [h0] at hl
    rw [List.length_eq_zero_iff.1 hl] at e
    simp [Ow.mg] at e
    simp [h0]; omega
  · have hp := form_pos h h0
    have : 0 < (zOf neg s).natAbs := Nat.lt_of_lt_of_le (Nat.pow_pos (by omega)) hp
    have hn := form_neg h
    constructor
    · intro hz; refine ⟨by omega, ?_⟩; rw [hn]; simp; omega
    · rintro ⟨_, rfl⟩
      have : ¬ (zOf false s < 0) := by simpa using hn.symm
      omega
def Pos (neg : Bool) (s : ByteArray) : Prop := Form neg s ∧ 0 < zOf neg s

set_option maxRecDepth 100000 in
set_option maxHeartbeats 1000000 in
theorem positive_any (neg : Bool) (s : ByteArray) (w : World) (hs : s.size ≤ 9223372036854775807) :
    Calls Tryz.prog 26 #[.agg #[.bool neg, .string s]] w (BoolPost (Pos neg s) w) := by
  by_cases hF : Form neg s
  · have hz := zOf_pos hF
    by_cases h0 : s.size = 0
    · have he : s.toList.isEmpty = true := by rw [empty_iff]; simpa using h0
      have HP := Lib.hid (show ¬ Pos neg s from fun h => (hz.1 h.2).1 h0)
      have HF := Lib.hid hF
      clear hF hz h0
      go_enter Tryz.func26, Tryz.ntmps26
      go_wp2_with fail
      refine (valid_any neg s _ hs).mono ?_
      rintro e w1 ⟨r, rfl, hr, g1⟩
      obtain rfl : r = true := hr.2 HF.out
      have k0 := g1.keeps (p := ⟨w.heap.size, 0, none⟩) (v := .bool neg) (by simp [go_sem])
      have k1 := g1.keeps (p := ⟨w.heap.size, 1, none⟩) (v := .string s) (by simp [go_sem])
      have HG := Lib.hid ((Gr.new w _).trans g1)
      clear hr g1
      go_wp2_with fail
      go_ret
      exact ⟨false, rfl, by simp [HP.out], HG.out⟩
    · have he : s.toList.isEmpty = false := by rw [empty_iff]; simpa using h0
      have HP := Lib.hid (show Pos neg s ↔ neg = false from ⟨fun h => (hz.1 h.2).2, fun h => ⟨hF, hz.2 ⟨h0, h⟩⟩⟩)
      have HF := Lib.hid hF
      clear hF hz h0
      go_enter Tryz.func26, Tryz.ntmps26
      go_wp2_with fail
      refine (valid_any neg s _ hs).mono ?_
      rintro e w1 ⟨r, rfl, hr, g1⟩
      obtain rfl : r = true := hr.2 HF.out
      have k0 := g1.keeps (p := ⟨w.heap.size, 0, none⟩) (v := .bool neg) (by simp [go_sem])
      have k1 := g1.keeps (p := ⟨w.heap.size, 1, none⟩) (v := .string s) (by simp [go_sem])
      have HG := Lib.hid ((Gr.new w _).trans g1)
      clear hr g1
      go_wp2_with fail
      go_ret
      exact ⟨!neg, rfl, by rw [HP.out]; simp, HG.out⟩
  · have HF := Lib.hid hF
    clear hF
    go_enter Tryz.func26, Tryz.ntmps26
    go_wp2_with fail
    refine (valid_any neg s _ hs).mono ?_
    rintro e w1 ⟨r, rfl, hr, g1⟩
    obtain rfl : r = false := by cases r; rfl; exact absurd (hr.1 rfl) HF.out
    have HG := Lib.hid ((Gr.new w _).trans g1)
    clear hr g1
    go_wp2_with fail
    go_ret
    exact ⟨false, rfl, by simp; exact fun h => HF.out h.1, HG.out⟩

set_option maxRecDepth 100000 in
set_option maxHeartbeats 1000000 in
theorem inShift_any (k : Int) (w : World) :
    Calls Tryz.prog 41 #[.int .i64 k] w (BoolPost (0 ≤ k ∧ k ≤ 4096) w) := by
  by_cases h : 0 ≤ k
  · have t1 : decide (0 ≤ k) = true := by simp [h]
    go_enter Tryz.func41, Tryz.ntmps41
    go_wp2_with fail
    go_ret
    exact ⟨decide (k ≤ 4096), rfl, by simp [h], Gr.refl _⟩
  · have t1 : decide (0 ≤ k) = false := by simp; omega
    go_enter Tryz.func41, Tryz.ntmps41
    go_wp2_with fail
    go_ret
    exact ⟨false, rfl, by simp; omega, Gr.refl _⟩

set_option maxRecDepth 100000 in
set_option maxHeartbeats 1000000 in
theorem balX_bad (neg : Bool) (s : ByteArray) (neg' : Bool) (s' : ByteArray) (w : World) (hs' : s'.size ≤ 9223372036854775807) (h : ¬ Pos neg' s') :
    Calls Tryz.prog 10 #[.agg #[.bool neg, .string s], .agg #[.bool neg', .string s']] w (Res false ⟨#[]⟩ 2 w) := by
  have HP := Lib.hid h
  clear h
  go_enter Tryz.func10, Tryz.ntmps10
  go_wp2_with fail
  refine (positive_any neg' s' _ hs').mono ?_
  rintro e w1 ⟨r, rfl, hr, g1⟩
  obtain rfl : r = false := by cases r; rfl; exact absurd (hr.1 rfl) HP.out
  have g0 : Gr w (((w.alloc (.cells #[.bool neg, .string s] 23)).alloc (.cells #[.bool neg', .string s'] 23)).alloc (.cells #[.bool false, .string ⟨#[]⟩] 23)) := ((Gr.new w _).alloc _).alloc _
  have r0 := g1.keeps (p := ⟨w.heap.size + 1 + 1, 0, none⟩) (v := .bool false) (by simp [go_sem])
  have r1 := g1.keeps (p := ⟨w.heap.size + 1 + 1, 1, none⟩) (v := .string ⟨#[]⟩) (by simp [go_sem])
  have f0 := g1.frozen (p := ⟨w.heap.size + 1 + 1, 0, none⟩) (v := .bool false) (by simp [go_sem]) (by simp [go_sem])
  have f1 := g1.frozen (p := ⟨w.heap.size + 1 + 1, 1, none⟩) (v := .string ⟨#[]⟩) (by simp [go_sem]) (by simp [go_sem])
  have HG := Lib.hid (g0.trans g1)
  clear g0 g1 hr
  go_wp2_with fail
  refine bodyPost_ret (v := .tuple #[.agg #[.bool false, .string ⟨#[]⟩], .int .i64 2]) (by simp [results, Tryz.results10, go_sem, r0, r1]) rfl ?_
  exact ⟨rfl, (HG.out.setCell (p := ⟨w.heap.size + 1 + 1, 0, none⟩) (by simp; omega) _).setCell (p := ⟨w.heap.size + 1 + 1, 1, none⟩) (by simp; omega) _⟩
set_option maxRecDepth 100000 in
set_option maxHeartbeats 1000000 in
theorem balX_of (neg : Bool) (s : ByteArray) (neg' : Bool) (s' : ByteArray) (A : Bool) (S : ByteArray) (C : Int) (w : World) (hs' : s'.size ≤ 9223372036854775807) (hp : Pos neg' s')
    (h : ∀ W, Calls Tryz.prog 27 #[.agg #[.bool neg, .string s], .agg #[.bool neg', .string s'], .func (.func 32) #[] #[]] W (Res A S C W)) :
    Calls Tryz.prog 10 #[.agg #[.bool neg, .string s], .agg #[.bool neg', .string s']] w (Res A S C w) := by
  have H := Lib.hid h
  have HP := Lib.hid hp
  clear h hp
  go_enter Tryz.func10, Tryz.ntmps10
  go_wp2_with fail
  refine (positive_any neg' s' _ hs').mono ?_
  rintro e w1 ⟨r, rfl, hr, g1⟩
  obtain rfl : r = true := hr.2 HP.out
  have g0 : Gr w (((w.alloc (.cells #[.bool neg, .string s] 23)).alloc (.cells #[.bool neg', .string s'] 23)).alloc (.cells #[.bool false, .string ⟨#[]⟩] 23)) := ((Gr.new w _).alloc _).alloc _
  have x0 := g1.keeps (p := ⟨w.heap.size, 0, none⟩) (v := .bool neg) (by simp [go_sem])
  have x1 := g1.keeps (p := ⟨w.heap.size, 1, none⟩) (v := .string s) (by simp [go_sem])
  have y0 := g1.keeps (p := ⟨w.heap.size + 1, 0, none⟩) (v := .bool neg') (by simp [go_sem])
  have y1 := g1.keeps (p := ⟨w.heap.size + 1, 1, none⟩) (v := .string s') (by simp [go_sem])
  have R0 := Lib.hid (g1.keeps (p := ⟨w.heap.size + 1 + 1, 0, none⟩) (v := .bool false) (by simp [go_sem]))
  have R1 := Lib.hid (g1.keeps (p := ⟨w.heap.size + 1 + 1, 1, none⟩) (v := .string ⟨#[]⟩) (by simp [go_sem]))
  have F0 := Lib.hid (g1.frozen (p := ⟨w.heap.size + 1 + 1, 0, none⟩) (v := .bool false) (by simp [go_sem]) (by simp [go_sem]))
  have F1 := Lib.hid (g1.frozen (p := ⟨w.heap.size + 1 + 1, 1, none⟩) (v := .string ⟨#[]⟩) (by simp [go_sem]) (by simp [go_sem]))
  have HG := Lib.hid (g0.trans g1)
  clear g0 g1 hr
  go_wp2_with fail
  refine (H.out _).mono ?_
  rintro e w2 ⟨rfl, g1⟩
  have r0 := g1.keeps R0.out
  have r1 := g1.keeps R1.out
  have f0 := g1.frozen R0.out F0.out
  have f1 := g1.frozen R1.out F1.out
  have HG := Lib.hid (HG.out.trans g1)
  clear g1
  go_wp2_with fail
  refine bodyPost_ret (v := .tuple #[.agg #[.bool A, .string S], .int .i64 C]) (by simp [results, Tryz.results10, go_sem, r0, r1]) rfl ?_
  exact ⟨rfl, (HG.out.setCell (p := ⟨w.heap.size + 1 + 1, 0, none⟩) (by simp; omega) _).setCell (p := ⟨w.heap.size + 1 + 1, 1, none⟩) (by simp; omega) _⟩
theorem balX_ok (neg : Bool) (s : ByteArray) (neg' : Bool) (s' : ByteArray) (w : World) (h : Form neg s) (h' : Pos neg' s') (hs' : s'.size ≤ 9223372036854775807) :
    Calls Tryz.prog 10 #[.agg #[.bool neg, .string s], .agg #[.bool neg', .string s']] w (Res (fNeg (bal (zOf neg s) (zOf neg' s'))) (fStr (bal (zOf neg s) (zOf neg' s'))) (fErr (bal (zOf neg s) (zOf neg' s'))) w) :=
  balX_of neg s neg' s' _ _ _ w hs' h' fun W => binary_ok 32 65 #[] (bal (zOf neg s) (zOf neg' s')) neg s neg' s' W h h'.1 (by omega) (enters_of Tryz.func32 (by kernel_rfl) (by kernel_rfl)) fun V u v _ hu hv => balanced_any _ _ u v V hu hv h'.2 (Ow.R_lt (form_range h'.1))
end Go.Proofs.YtnehcafmebokmaaGreatDoor

/- Shl and Cmp on forms. -/
namespace Go.Proofs.YtnehcafmebokmaaGreatDoor
open Go.RowKit
set_option linter.unusedVariables false

end Go.Proofs.YtnehcafmebokmaaGreatDoor
namespace Ow
theorem two_pow_le {k n : Nat} (h : k ≤ 32 * n) : 2 ^ k ≤ 4294967296 ^ n := by
  rw [show (4294967296 : Nat) = 2 ^ 32 from rfl, ← Nat.pow_mul]
  exact Nat.pow_le_pow_right (by omega) h
theorem R_shl {a k : Nat} (ha : a < R) (hk : k ≤ 4096) : a * 2 ^ k < 4294967296 ^ 256 := by
  rw [R_digits] at ha
  have h1 : 2 ^ k ≤ 4294967296 ^ 128 := two_pow_le (by omega)
  have h2 : a * 2 ^ k ≤ a * 4294967296 ^ 128 := Nat.mul_le_mul_left _ h1
  have h3 : a * 4294967296 ^ 128 < 4294967296 ^ 64 * 4294967296 ^ 128 := Nat.mul_lt_mul_of_pos_right ha (Nat.pow_pos (by omega))
  rw [← Nat.pow_add] at h3
  exact Nat.lt_of_le_of_lt h2 (Nat.lt_of_lt_of_le h3 (Nat.pow_le_pow_right (by omega) (by omega)))
end Ow
namespace Go.Proofs.YtnehcafmebokmaaGreatDoor
open Go.RowKit
set_option linter.unusedVariables false
theorem sg_times (z : Int) (p : Nat) (hp : 0 < p) : sg (decide (z < 0)) (z.natAbs * p) = z * (p : Int) := by
  unfold sg
  by_cases h : z < 0
  · have hz : (z.natAbs : Int) = -z := by omega
    simp [h, hz, Int.neg_mul]
  · have hz : (z.natAbs : Int) = z := by omega
    simp [h, hz]

set_option maxRecDepth 100000 in
set_option maxHeartbeats 3000000 in
theorem shl1_any (N k : Nat) (z : Int) (u : Value) (B : Nat) (w : World) (hu : HasI 64 w u z) (hB : w.cell? ⟨B, 0, none⟩ = some (.int .i64 k)) (hk : k ≤ 100000) (hN : z.natAbs * 2 ^ k < 4294967296 ^ N) :
    Calls Tryz.prog 43 #[u, .pointer (some ⟨B, 0, none⟩)] w (IntZ N (z * ((2 ^ k : Nat) : Int)) w) := by
  obtain ⟨s, l, rfl, hd, hn, hval, hl⟩ := hu
  have HD := Lib.hid hd
  have HV := Lib.hid hval
  have HN := Lib.hid hN
  have HSG := Lib.hid (sg_times z (2 ^ k) (Nat.pow_pos (by omega)))
  have hl5 : l.length ≤ 100000 := by omega
  obtain ⟨nx, hnx⟩ : ∃ nx, nx = decide (z < 0) := ⟨_, rfl⟩
  rw [← hnx] at HSG ⊢
  have hlt : B < w.heap.size := World.block_lt_of_cell? w _ hB
  clear hd hn hval hnx hN
  obtain ⟨-, a, cap, rfl, -, -, -⟩ := id HD.out
  go_enter Tryz.func43, Tryz.ntmps43
  go_wp2_with fail
  obtain ⟨W, hW⟩ : ∃ W : World, W = (w.alloc (.cells #[.bool nx, .slice a l.length cap] 44)).alloc (.cells #[.bool false, .slice none 0 0] 44) := ⟨_, rfl⟩
  rw [← hW]
  have g1 : Gr w W := by rw [hW]; exact (Gr.new w _).alloc _
  have x0 : W.drew.cell? ⟨w.heap.size, 0, none⟩ = some (.bool nx) := by rw [hW]; simp [go_sem]
  have x1 : W.drew.cell? ⟨w.heap.size, 1, none⟩ = some (.slice a l.length cap) := by rw [hW]; simp [go_sem]
  have kk : W.drew.cell? ⟨B, 0, none⟩ = some (.int .i64 k) := g1.keeps hB
  have R0 := Lib.hid (show W.drew.cell? ⟨w.heap.size + 1, 0, none⟩ = some (.bool false) by rw [hW]; simp [go_sem])
  have R1 := Lib.hid (show W.drew.cell? ⟨w.heap.size + 1, 1, none⟩ = some (.slice none 0 0) by rw [hW]; simp [go_sem])
  have F0 := Lib.hid (show W.drew.frozen? ⟨w.heap.size + 1, 0, none⟩ = false by rw [hW]; simp [go_sem])
  have F1 := Lib.hid (show W.drew.frozen? ⟨w.heap.size + 1, 1, none⟩ = false by rw [hW]; simp [go_sem])
  have HG := Lib.hid (show Gr w W.drew from Below.drew g1)
  have n1 : ¬ (w.heap.size = w.heap.size + 1) := by omega
  have n2 : ¬ (B = w.heap.size + 1) := by omega
  clear hW g1 hB
  go_region_held3 (fun w' => w'.cell? ⟨w.heap.size, 0, none⟩ = some (.bool nx) ∧ w'.cell? ⟨w.heap.size, 1, none⟩ = some (.slice a l.length cap) ∧ w'.cell? ⟨B, 0, none⟩ = some (.int .i64 k)) (first | exact ⟨x0, x1, kk⟩ | exact ⟨keep2 x0 n1, keep2 x1 n1, keep2 kk n2⟩ | go_keep)
    (first
      | (go_at_call 39; (with_reducible refine (signs_box _ _).mono ?_); rintro e w' ⟨p, rfl, hb, g⟩; have x0 := g.keeps x0; have x1 := g.keeps x1; have kk := g.keeps kk; have F0 := Lib.hid (g.frozen R0.out F0.out); have F1 := Lib.hid (g.frozen R1.out F1.out); have R0 := Lib.hid (g.keeps R0.out); have R1 := Lib.hid (g.keeps R1.out); have HB := Lib.hid hb; (try have HP := Lib.hid (HP.out.later g)); have HG := Lib.hid (HG.out.trans g); clear hb g)
      | (go_at_call 44; (with_reducible refine (up_any l _ k _ (HD.out.later HG.out) hl5 hk).mono ?_); rintro e w' ⟨gq, L, rfl, hL, hle, hlies, hvL, g⟩; have x0 := g.keeps x0; have x1 := g.keeps x1; have kk := g.keeps kk; have F0 := Lib.hid (g.frozen R0.out F0.out); have F1 := Lib.hid (g.frozen R1.out F1.out); have R0 := Lib.hid (g.keeps R0.out); have R1 := Lib.hid (g.keeps R1.out); (try have HB := Lib.hid (g.keeps HB.out)); have hPP : HasD w' (.slice (some ⟨gq, 0, none⟩) (l.length + k / 32 + 1) (l.length + k / 32 + 1)) L := (by have h := hlies.hasD (cap := L.length) (Nat.le_refl _) (by omega); rw [hL] at h; exact h); have HP := Lib.hid hPP; have HVQ := Lib.hid hvL; have HNQ := Lib.hid (show (Ow.tr L).length ≤ N from Ow.nm_len (Ow.nm_tr hlies.1) (by rw [Ow.val_tr, hvL, HV.out]; exact HN.out)); have HG := Lib.hid (HG.out.trans g); clear hlies hvL hPP g)
      | (go_at_call 62; (with_reducible refine (signs1_int _ L _ p N _ HP.out HB.out HNQ.out).mono ?_); rintro e w' ⟨t, rfl, ⟨s', l', rfl, hs, hnl, hvl, hln⟩, g⟩; have x0 := g.keeps x0; have x1 := g.keeps x1; have kk := g.keeps kk; have f0 := g.frozen R0.out F0.out; have f1 := g.frozen R1.out F1.out; have r0 := g.keeps R0.out; have r1 := g.keeps R1.out; have HGG := Lib.hid (HG.out.trans g); obtain ⟨nz, hnz⟩ : ∃ nz, nz = decide (sg nx (Ow.val L) < 0) := ⟨_, rfl⟩; rw [← hnz]; have HNZ := Lib.hid hnz; obtain ⟨-, a'', cap'', rfl, -, -, -⟩ := id hs; have HS := Lib.hid hs; have HE := Lib.hid (And.intro hnl (And.intro hvl hln)); clear hs hnl hvl hln hnz g))
  all_goals
    go_wp2_with fail
    refine bodyPost_ret (v := .agg #[.bool nz, .slice a'' l'.length cap'']) (by simp [results, Tryz.results43, go_sem, r0, r1]) rfl ?_
    exact intz_stored (by rw [HVQ.out, HV.out]; exact HSG.out) HNZ.out HS.out HE.out.1 HE.out.2.1 HE.out.2.2 HGG.out (by omega) r0 r1 (by simp) (by simp)

set_option maxRecDepth 100000 in
set_option maxHeartbeats 1000000 in
theorem shl_of (neg : Bool) (s : ByteArray) (k : Nat) (A : Bool) (S : ByteArray) (C : Int) (w : World) (hk : k ≤ 4096)
    (h : ∀ W p, W.cell? ⟨p, 0, none⟩ = some (.int .i64 k) → Calls Tryz.prog 42 #[.agg #[.bool neg, .string s], .func (.func 43) #[] #[.pointer (some ⟨p, 0, none⟩)]] W (Res A S C W)) :
    Calls Tryz.prog 17 #[.agg #[.bool neg, .string s], .int .i64 k] w (Res A S C w) := by
  have H := Lib.hid h
  clear h
  go_enter Tryz.func17, Tryz.ntmps17
  go_wp2_with fail
  refine (inShift_any k _).mono ?_
  rintro e w1 ⟨r, rfl, hr, g1⟩
  obtain rfl : r = true := hr.2 (by omega)
  have g0 : Gr w (((w.alloc (.cells #[.bool neg, .string s] 23)).alloc (.cells #[.int .i64 k] 3)).alloc (.cells #[.bool false, .string ⟨#[]⟩] 23)) := ((Gr.new w _).alloc _).alloc _
  have x0 := g1.keeps (p := ⟨w.heap.size, 0, none⟩) (v := .bool neg) (by simp [go_sem])
  have x1 := g1.keeps (p := ⟨w.heap.size, 1, none⟩) (v := .string s) (by simp [go_sem])
  have kk := g1.keeps (p := ⟨w.heap.size + 1, 0, none⟩) (v := .int .i64 k) (by simp [go_sem])
  have R0 := Lib.hid (g1.keeps (p := ⟨w.heap.size + 1 + 1, 0, none⟩) (v := .bool false) (by simp [go_sem]))
  have R1 := Lib.hid (g1.keeps (p := ⟨w.heap.size + 1 + 1, 1, none⟩) (v := .string ⟨#[]⟩) (by simp [go_sem]))
  have F0 := Lib.hid (g1.frozen (p := ⟨w.heap.size + 1 + 1, 0, none⟩) (v := .bool false) (by simp [go_sem]) (by simp [go_sem]))
  have F1 := Lib.hid (g1.frozen (p := ⟨w.heap.size + 1 + 1, 1, none⟩) (v := .string ⟨#[]⟩) (by simp [go_sem]) (by simp [go_sem]))
  have HG := Lib.hid (g0.trans g1)
  clear g0 g1 hr
  go_wp2_with fail
  refine (H.out _ (w.heap.size + 1) (by first | exact kk | simpa using kk)).mono ?_
  rintro e w2 ⟨rfl, g1⟩
  have r0 := g1.keeps R0.out
  have r1 := g1.keeps R1.out
  have f0 := g1.frozen R0.out F0.out
  have f1 := g1.frozen R1.out F1.out
  have HG := Lib.hid (HG.out.trans g1)
  clear g1
  go_wp2_with fail
  refine bodyPost_ret (v := .tuple #[.agg #[.bool A, .string S], .int .i64 C]) (by simp [results, Tryz.results17, go_sem, r0, r1]) rfl ?_
  exact ⟨rfl, (HG.out.setCell (p := ⟨w.heap.size + 1 + 1, 0, none⟩) (by simp; omega) _).setCell (p := ⟨w.heap.size + 1 + 1, 1, none⟩) (by simp; omega) _⟩
theorem shl_ok (neg : Bool) (s : ByteArray) (k : Nat) (w : World) (h : Form neg s) (hk : k ≤ 4096) :
    Calls Tryz.prog 17 #[.agg #[.bool neg, .string s], .int .i64 k] w (Res (fNeg (zOf neg s * ((2 ^ k : Nat) : Int))) (fStr (zOf neg s * ((2 ^ k : Nat) : Int))) (fErr (zOf neg s * ((2 ^ k : Nat) : Int))) w) :=
  shl_of neg s k _ _ _ w hk fun W p hp => unary_ok 43 256 #[.pointer (some ⟨p, 0, none⟩)] (zOf neg s * ((2 ^ k : Nat) : Int)) neg s W h (by omega) (enters_of Tryz.func43 (by kernel_rfl) (by kernel_rfl)) fun V v hg hv => shl1_any 256 k _ v p V hv (hg.keeps hp) (by omega) (Ow.R_shl (form_range h) hk)

end Go.Proofs.YtnehcafmebokmaaGreatDoor

/- Decimal digits; FormatUint. -/
namespace Ow
set_option linter.unusedVariables false
open Go.Lib
/-- The number that decimal digits stand for. -/
def dval (l : List UInt8) : Nat := l.foldl (fun a b => 10 * a + (b.toNat - 48)) 0
def Dec (l : List UInt8) : Prop := ∀ b ∈ l, 48 ≤ b.toNat ∧ b.toNat ≤ 57
theorem dval_snoc (l : List UInt8) (b : UInt8) : dval (l ++ [b]) = 10 * dval l + (b.toNat - 48) := by
  unfold dval; rw [List.foldl_append]; rfl
theorem dval_append : ∀ (k : Nat) (l m : List UInt8), m.length = k → dval (l ++ m) = dval l * 10 ^ k + dval m
  | 0, l, m, h => by
    rw [List.length_eq_zero_iff.1 h]; simp [dval]
  | k + 1, l, m, h => by
    rcases List.eq_nil_or_concat m with e | ⟨t, b, e⟩
    · subst e; simp at h
    · rw [List.concat_eq_append] at e
      subst e
      have ht : t.length = k := by simp at h; omega
      rw [← List.append_assoc, dval_snoc, dval_snoc, dval_append k l t ht, Nat.pow_succ, Nat.mul_add, ← Nat.mul_assoc]
      have : 10 * dval l * 10 ^ k = dval l * (10 ^ k * 10) := by
        rw [Nat.mul_comm 10, Nat.mul_assoc, Nat.mul_comm 10]
      omega
theorem dval_lt : ∀ (k : Nat) (l : List UInt8), l.length = k → Dec l → dval l < 10 ^ k
  | 0, l, h, _ => by rw [List.length_eq_zero_iff.1 h]; simp [dval]
  | k + 1, l, h, hd => by
    rcases List.eq_nil_or_concat l with e | ⟨t, b, e⟩
    · subst e; simp at h
    · rw [List.concat_eq_append] at e
      subst e
      have ht : t.length = k := by simp at h; omega
      have ih := dval_lt k t ht (fun x hx => hd x (by simp [hx]))
      have hb := hd b (by simp)
      rw [dval_snoc, Nat.pow_succ]
      omega
theorem dec_digits (n : Nat) : Dec (decDigits n) := by
  induction n using Nat.strongRecOn with
  | ind n ih =>
    rw [decDigits]
    split
    · intro b hb
      rw [List.mem_singleton.1 hb, UInt8.toNat_ofNat']
      omega
    · intro b hb
      rcases List.mem_append.1 hb with hb | hb
      · exact ih _ (by omega) b hb
      · rw [List.mem_singleton.1 hb, UInt8.toNat_ofNat']; omega
theorem dval_digits (n : Nat) : dval (decDigits n) = n := by
  induction n using Nat.strongRecOn with
  | ind n ih =>
    rw [decDigits]
    split
    · simp [dval]; omega
    · have : (UInt8.ofNat (48 + n % 10)).toNat = 48 + n % 10 := by rw [UInt8.toNat_ofNat']; omega
      rw [dval_snoc, ih _ (by omega), this]; omega
theorem digits_ne (n : Nat) : decDigits n ≠ [] := by
  rw [decDigits]; split <;> simp
/-- The first digit is 0 only of 0. -/
theorem digits_head (n : Nat) : ∀ b l, decDigits n = b :: l → b = 48 → n = 0 := by
  induction n using Nat.strongRecOn with
  | ind n ih =>
    intro b l h hb
    rw [decDigits] at h
    split at h
    · simp only [List.cons.injEq] at h
      have := congrArg UInt8.toNat (h.1.trans hb)
      rw [UInt8.toNat_ofNat'] at this
      have e : (48 : UInt8).toNat = 48 := rfl
      rw [e] at this; omega
    · cases hd : decDigits (n / 10) with
      | nil => exact absurd hd (digits_ne _)
      | cons c t =>
        rw [hd] at h
        simp only [List.cons_append, List.cons.injEq] at h
        have := ih _ (by omega) c t hd (h.1.trans hb)
        omega
theorem byte_of (b : UInt8) (h : 48 ≤ b.toNat) : UInt8.ofNat (48 + (b.toNat - 48)) = b := by
  rw [show 48 + (b.toNat - 48) = b.toNat by omega, UInt8.ofNat_toNat]
theorem lead_pos : ∀ (k : Nat) (l : List UInt8), l.length = k → (∀ b t, l = b :: t → b ≠ 48) → Dec l → l ≠ [] → 0 < dval l
  | 0, l, h, _, _, hn => absurd (List.length_eq_zero_iff.1 h) hn
  | k + 1, l, h, h0, hd, hn => by
    rcases List.eq_nil_or_concat l with e | ⟨t, b, e⟩
    · exact absurd e hn
    · rw [List.concat_eq_append] at e
      subst e
      have ht : t.length = k := by simp at h; omega
      rw [dval_snoc]
      cases t with
      | nil =>
        have h1 := h0 b [] (by simp)
        have h2 := hd b (by simp)
        have : b.toNat ≠ 48 := fun e => h1 (UInt8.toNat_inj.1 (by rw [e]; rfl))
        omega
      | cons c s =>
        have := lead_pos k (c :: s) ht (fun x y e => by
          have := h0 x (y ++ [b]) (by rw [e]; rfl)
          exact this) (fun x hx => hd x (List.mem_append_left _ hx)) (by simp)
        omega
/-- Decimal digits without a 0 in front are those of their number. -/
theorem digits_dval : ∀ (k : Nat) (l : List UInt8), l.length = k → l ≠ [] → Dec l → (∀ b t, l = b :: t → b = 48 → t = []) → decDigits (dval l) = l
  | 0, l, h, hn, _, _ => absurd (List.length_eq_zero_iff.1 h) hn
  | k + 1, l, h, hn, hd, h0 => by
    rcases List.eq_nil_or_concat l with e | ⟨t, b, e⟩
    · exact absurd e hn
    · rw [List.concat_eq_append] at e
      subst e
      have ht : t.length = k := by simp at h; omega
      have hb := hd b (by simp)
      rw [dval_snoc, decDigits]
      cases t with
      | nil =>
        rw [dif_pos (by simp [dval]; omega)]
        simp only [dval, List.foldl_nil, Nat.mul_zero, Nat.zero_add, List.nil_append]
        rw [byte_of b hb.1]
      | cons c s =>
        have hdt : Dec (c :: s) := fun x hx => hd x (List.mem_append_left _ hx)
        have hc : c ≠ 48 := fun e => by
          have := h0 c (s ++ [b]) rfl e
          simp at this
        have hp := lead_pos k (c :: s) ht (fun x y e => by simp only [List.cons.injEq] at e; rw [← e.1]; exact hc) hdt (by simp)
        have ih := digits_dval k (c :: s) ht (by simp) hdt (fun x y e hx => by simp only [List.cons.injEq] at e; exact absurd (e.1.trans hx) hc)
        rw [dif_neg (by omega), show (10 * dval (c :: s) + (b.toNat - 48)) / 10 = dval (c :: s) by omega, ih, show (10 * dval (c :: s) + (b.toNat - 48)) % 10 = b.toNat - 48 by omega, byte_of b hb.1]
end Ow
namespace Go.Proofs.YtnehcafmebokmaaGreatDoor
open Go.RowKit
set_option linter.unusedVariables false

/-- The table of powers of ten. -/
def Tab (w : World) : Prop := Lib.TabIs Tryz.prog w "internal/strconv.uint64pow10" .u64 Lib.pow10Tab
theorem Tab.later {w w' : World} (h : Tab w) (hg : Gr w w') : Tab w' := by
  unfold Tab Lib.TabIs World.var? at *
  cases hgl : Tryz.prog.globalNamed "internal/strconv.uint64pow10" with
  | none => simp [hgl] at h
  | some g =>
    simp only [hgl, Option.bind_some] at h ⊢
    have hlt : g < w.heap.size := by
      apply Classical.byContradiction; intro hn
      rw [show w.heap[g]? = none from by simp; omega] at h
      simp at h
    rw [hg.block g hlt]
    exact h
def Str (l : List UInt8) (w : World) (e : Ending) (w' : World) : Prop := e = .returned (.string ⟨l.toArray⟩) ∧ Gr w w'
theorem below_putRow {α : Type} [Inhabited α] (enc : α → Value) {w W : World} {g o : Nat} (h : Gr w W) (hg : w.heap.size ≤ g) (d : Array α) : Gr w (Sort.putRow enc W g o d) :=
  ⟨h.os, h.tape, h.output, by rw [Sort.size_putRow]; exact h.size, fun k hk => by
    rw [← h.block k hk]
    simp only [Sort.putRow, Sort.mapBlock, Array.getElem?_modify]
    rw [if_neg (by omega)]⟩

set_option maxRecDepth 100000 in
set_option maxHeartbeats 2000000 in
theorem ifmt_any (u : Nat) (hu : u < 18446744073709551616) (w : World) (htab : Tab w) :
    Calls Tryz.prog 77 #[.int .u64 u, .int .i64 10] w (Str (Lib.decDigits u) w) := by
  by_cases hs : u < 100
  · have i1 : (u : Int) < 100 := by omega
    go_enter Tryz.func77, Tryz.ntmps77
    go_wp2_with fail
    refine (Tryz.internal_strconv_small u hs _).mono ?_
    rintro e w' ⟨rfl, rfl⟩
    go_wp2_with fail
    go_ret
    exact ⟨rfl, Gr.refl _⟩
  · have hu1 : 1 ≤ u := by omega
    have hnd20 : Lib.nDigits u ≤ 20 := by have := Lib.numDigits_eq u hu1 hu; split at this <;> omega
    have i1 : ¬ (u : Int) < 100 := by omega
    have t1 : decide ((u : Int) < 100) = false := by simp; omega
    have t2 : decide (u < 100) = false := by simp; omega
    have hal : Tryz.prog.arrayLen 111 = 24 := by kernel_rfl
    have hsl1 : ∀ W, (Instr.sliceAt 111 (.pointer (some ⟨w.heap.size, 0, none⟩)) none (some (.int .i64 (Lib.nDigits u : Int))) none).run Tryz.prog W = .ok (.slice (some ⟨w.heap.size, 0, none⟩) (Lib.nDigits u) 24) W := fun W => by
      rw [run_sliceAt_array_h W 111 ⟨w.heap.size, 0, none⟩ (by simp [Program.arrayLen, Program.elem, Tryz.underlying111]) .i64 (Lib.nDigits u : Int) (by omega) (by rw [hal]; omega)]
      go_simp
    have hH0 := Lib.holds_zero0 w 111 (Lib.nDigits u) (by omega)
    have hfmt := Tryz.internal_strconv_formatBase10 w.heap.size 0 24 u (Array.replicate (Lib.nDigits u) 0) (w.alloc (.cells Lib.zeros24 111)) hH0 (by rw [Array.size_replicate]; exact Lib.lt_pow_nDigits u) hu (by rw [Array.size_replicate]; omega)
    rw [Array.size_replicate] at hfmt
    have HH0 := Lib.hid hH0
    have HFM := Lib.hid hfmt
    have HT := Lib.hid htab
    clear hH0 hal hfmt htab
    go_enter Tryz.func77, Tryz.ntmps77
    go_wp2_with fail
    refine (Tryz.internal_strconv_numDigits u hu1 hu _ (HT.out.later (Gr.new _ _))).mono ?_
    rintro e w' ⟨rfl, rfl⟩
    go_wp2_with fail
    refine HFM.out.mono ?_
    rintro e w' ⟨rfl, k, v', dk, rfl, hF⟩
    have hcv : (convert 81 9 (.slice (some ⟨w.heap.size, 0, none⟩) (Lib.nDigits u) 24)).run Tryz.prog ((Sort.putRow (fun (b : UInt8) => Value.int .u8 (b.toNat : Int)) (w.alloc (.cells Lib.zeros24 111)) w.heap.size 0 dk).drewN k) = .ok (.string ⟨(Lib.decDigits u).toArray⟩) ((Sort.putRow (fun (b : UInt8) => Value.int .u8 (b.toNat : Int)) (w.alloc (.cells Lib.zeros24 111)) w.heap.size 0 dk).drewN k) := by
      have h := run_convert_bytes_back (P := Tryz.prog) ((Sort.putRow (fun (b : UInt8) => Value.int .u8 (b.toNat : Int)) (w.alloc (.cells Lib.zeros24 111)) w.heap.size 0 dk).drewN k) 81 9 5 ⟨w.heap.size, 0, none⟩ 24 (Lib.decDigits u) Tryz.underlying81 Tryz.underlying5 Tryz.underlying9 (fun j hj => by
        rw [Lib.row_is_numeral hF j hj, Lib.add_plain, World.cell?_drewN]
        exact Sort.cell?_putRow (fun (b : UInt8) => Value.int .u8 (b.toNat : Int)) _ w.heap.size 0 _ dk HH0.out (by rw [hF.size, Array.size_replicate]) j (by rw [hF.size]; rw [Lib.decDigits_length] at hj; exact hj))
      rw [Lib.decDigits_length] at h
      exact h
    have HG := Lib.hid (show Gr w ((Sort.putRow (fun (b : UInt8) => Value.int .u8 (b.toNat : Int)) (w.alloc (.cells Lib.zeros24 111)) w.heap.size 0 dk).drewN k) from (below_putRow (fun (b : UInt8) => Value.int .u8 (b.toNat : Int)) (Gr.new w _) (Nat.le_refl _) dk).drewN k)
    clear hF
    go_wp2_with fail
    go_ret
    exact ⟨rfl, HG.out⟩
set_option maxRecDepth 100000 in
set_option maxHeartbeats 2000000 in
theorem fmt_any (u : Nat) (hu : u < 18446744073709551616) (w : World) (htab : Tab w) :
    Calls Tryz.prog 63 #[.int .u64 u, .int .i64 10] w (Str (Lib.decDigits u) w) := by
  have HT := Lib.hid htab
  clear htab
  go_enter Tryz.func63, Tryz.ntmps63
  go_wp2_with fail
  refine (ifmt_any u hu _ HT.out).mono ?_
  rintro e w' ⟨rfl, hg⟩
  have HG := Lib.hid hg
  clear hg
  go_wp2_with fail
  go_ret
  exact ⟨rfl, HG.out⟩
end Go.Proofs.YtnehcafmebokmaaGreatDoor

/- writeDigits, Text. -/
namespace Ow
set_option linter.unusedVariables false
open Go.Lib
/-- The decimal digits of a number, padded to nine. -/
def pad9 (n : Nat) : List UInt8 := List.replicate (9 - (decDigits n).length) 48 ++ decDigits n
theorem dec_len_le : ∀ (k n : Nat), n < 10 ^ (k + 1) → nDigits n ≤ k + 1
  | 0, n, hn => by rw [nDigits_small (by simpa using hn)]; omega
  | k + 1, n, hn => by
    by_cases hs : n < 10
    · rw [nDigits_small hs]; omega
    · rw [nDigits_big hs]
      have := dec_len_le k (n / 10) (by rw [Nat.div_lt_iff_lt_mul (by omega), ← Nat.pow_succ]; exact hn)
      omega
theorem dec_len_val {l : List Nat} (h : Dg l) (h0 : 0 < l.length) : (decDigits (val l)).length ≤ 10 * l.length := by
  rw [decDigits_length]
  obtain ⟨k, hk⟩ : ∃ k, 10 * l.length = k + 1 := ⟨10 * l.length - 1, by omega⟩
  rw [hk]
  apply dec_len_le
  rw [← hk, Nat.pow_mul]
  exact Nat.lt_of_lt_of_le (val_lt l h) (Nat.pow_le_pow_left (by omega) _)
theorem dec_len9 {n : Nat} (h : n < 1000000000) : (decDigits n).length ≤ 9 := by
  rw [decDigits_length]
  rcases Nat.lt_or_ge (nDigits n) 10 with h1 | h1
  · omega
  · exfalso
    have : ∀ k n, n < 10 ^ (k + 1) → nDigits n ≤ k + 1 := by
      intro k
      induction k with
      | zero => intro n hn; rw [nDigits_small (by simpa using hn)]; omega
      | succ k ih =>
        intro n hn
        by_cases hs : n < 10
        · rw [nDigits_small hs]; omega
        · rw [nDigits_big hs]
          have := ih (n / 10) (by rw [Nat.div_lt_iff_lt_mul (by omega), ← Nat.pow_succ]; exact hn)
          omega
    have := this 8 n (by simpa using h)
    omega
/-- Nine digits more. -/
theorem dec_group : ∀ (k q r : Nat), 0 < q → r < 10 ^ k → decDigits (q * 10 ^ k + r) = decDigits q ++ (List.range k).map (fun t => dg r (k - 1 - t))
  | 0, q, r, hq, hr => by simp at hr; simp [hr]
  | k + 1, q, r, hq, hr => by
    have h1 : 10 ≤ q * 10 ^ (k + 1) := by
      rw [Nat.pow_succ]
      have : 1 ≤ 10 ^ k := Nat.pow_pos (by omega)
      have : 1 * 1 ≤ q * 10 ^ k := Nat.mul_le_mul hq this
      rw [← Nat.mul_assoc]; omega
    rw [decDigits, dif_neg (by omega)]
    have e1 : (q * 10 ^ (k + 1) + r) / 10 = q * 10 ^ k + r / 10 := by
      rw [Nat.pow_succ, ← Nat.mul_assoc]; omega
    have e2 : (q * 10 ^ (k + 1) + r) % 10 = r % 10 := by
      rw [Nat.pow_succ, ← Nat.mul_assoc]; omega
    rw [e1, e2, dec_group k q (r / 10) hq (by rw [Nat.pow_succ] at hr; omega), List.range_succ, List.map_append, List.append_assoc]
    congr 1
    congr 1
    · apply List.map_congr_left
      intro t ht
      have ht := List.mem_range.1 ht
      unfold dg
      rw [show k + 1 - 1 - t = (k - 1 - t) + 1 by omega, Nat.pow_succ, Nat.mul_comm, Nat.div_div_eq_div_mul]
    · simp [dg]
theorem pad9_eq {r : Nat} (h : r < 1000000000) : pad9 r = (List.range 9).map (fun t => dg r (9 - 1 - t)) := by
  have hl := dec_len9 h
  unfold pad9
  rw [decDigits_length] at hl ⊢
  apply List.ext_getElem
  · simp [decDigits_length]; omega
  · intro i h1 h2
    simp only [List.length_map, List.length_range] at h2
    rw [List.getElem_map, List.getElem_range]
    by_cases hi : i < 9 - nDigits r
    · rw [List.getElem_append_left (by simpa using hi), List.getElem_replicate]
      have hz : r / 10 ^ (9 - 1 - i) = 0 := by
        apply Nat.div_eq_of_lt
        exact Nat.lt_of_lt_of_le (lt_pow_nDigits r) (Nat.pow_le_pow_right (by omega) (by omega))
      unfold dg
      rw [hz]; rfl
    · rw [List.getElem_append_right (by simpa using hi)]
      simp only [List.length_replicate]
      have := decDigits_eq r
      have hj : i - (9 - nDigits r) < nDigits r := by omega
      have e : (decDigits r)[i - (9 - nDigits r)]? = some (dg r (nDigits r - 1 - (i - (9 - nDigits r)))) := by
        rw [this, List.getElem?_map, List.getElem?_range hj]; rfl
      rw [List.getElem?_eq_getElem (by rw [decDigits_length]; exact hj)] at e
      rw [Option.some.inj e]
      congr 1; omega
theorem dec_nine {q r : Nat} (hq : 0 < q) (hr : r < 1000000000) : decDigits (q * 1000000000 + r) = decDigits q ++ pad9 r := by
  rw [pad9_eq hr]
  exact dec_group 9 q r hq (by simpa using hr)
end Ow
namespace Go.Proofs.YtnehcafmebokmaaGreatDoor
open Go.RowKit
set_option linter.unusedVariables false

theorem str_append (A B : List UInt8) : (⟨A.toArray⟩ : ByteArray) ++ ⟨B.toArray⟩ = ⟨(A ++ B).toArray⟩ := by
  apply ByteArray.ext
  simp
def strLen (v : Value) : Nat := match v with | .string s => s.size | _ => 0
/-- What is written of a number behind its groups: the rest, then the text. -/
def TextOk (n m : Nat) (t : List UInt8) : Prop := (0 < m → Lib.decDigits n = Lib.decDigits m ++ t) ∧ (m = 0 → Lib.decDigits n = t)
theorem TextOk.le {n m : Nat} {t : List UInt8} (h : TextOk n m t) : t.length ≤ (Lib.decDigits n).length := by
  rcases Nat.eq_zero_or_pos m with h0 | h0
  · rw [h.2 h0]; exact Nat.le_refl _
  · rw [h.1 h0]; simp
theorem TextOk.lt {n m : Nat} {t : List UInt8} (h : TextOk n m t) (hm : 0 < m) : t.length < (Lib.decDigits n).length := by
  rw [h.1 hm]
  have : (Lib.decDigits m).length ≠ 0 := fun e => Ow.digits_ne m (List.length_eq_zero_iff.1 e)
  simp; omega
theorem TextOk.len {n m k : Nat} {t : List UInt8} (h : TextOk n m t) (hk : (Lib.decDigits n).length ≤ 10 * k) (h1 : k ≤ 1000) : t.length ≤ 10000 := by
  have := h.le; omega
theorem TextOk.next {n m q r : Nat} {t : List UInt8} (h : TextOk n m t) (hm : 0 < m) (e : 1000000000 * q + r = m) (hr : r < 1000000000) (hq : 0 < q) : TextOk n q (Ow.pad9 r ++ t) := by
  refine ⟨fun _ => ?_, fun h0 => by omega⟩
  rw [h.1 hm, ← e, Nat.mul_comm, Ow.dec_nine hq hr, List.append_assoc]
theorem TextOk.last {n m r : Nat} {t : List UInt8} (h : TextOk n m t) (hm : 0 < m) (e : r = m) : TextOk n 0 (Lib.decDigits r ++ t) :=
  ⟨fun h0 => by omega, fun _ => by rw [h.1 hm, e]⟩
theorem rep48 : ∀ k, Lib.repeatL [48] k = List.replicate k 48
  | 0 => rfl
  | k + 1 => by
    have := rep48 k
    simp [Lib.repeatL, List.replicate_succ] at this ⊢
    try exact this
theorem pad_nine (r : Nat) (hr : r < 1000000000) : (⟨(Lib.repeatL [48] (9 - (Lib.decDigits r).length)).toArray⟩ : ByteArray) ++ ⟨(Lib.decDigits r).toArray⟩ = ⟨(Ow.pad9 r).toArray⟩ := by
  rw [str_append, rep48]; rfl
theorem strLen_list (l : List UInt8) : strLen (.string ⟨l.toArray⟩) = l.length := by simp [strLen, ByteArray.size]


set_option maxRecDepth 100000 in
set_option maxHeartbeats 2000000 in
theorem writeDigits_any (l : List Nat) (v : Value) (w : World) (hv : HasD w v l) (hn : Ow.Nm l) (hl : l.length ≤ 1000) (htab : Tab w) :
    Calls Tryz.prog 40 #[v] w (Str (Lib.decDigits (Ow.val l)) w) := by
  have HV := Lib.hid hv
  have HN := Lib.hid hn
  have HT := Lib.hid htab
  obtain ⟨-, a, cap, rfl, -, -, -⟩ := hv
  clear hn htab
  by_cases h0 : l.length = 0
  · have hz := List.length_eq_zero_iff.1 h0
    subst hz
    go_enter Tryz.func40, Tryz.ntmps40
    go_wp2_with fail
    go_ret
    refine ⟨?_, Gr.refl _⟩
    rw [show Ow.val [] = 0 from rfl, Lib.decDigits_one (by omega)]; rfl
  · have i0 : ((l.length : Int) == 0) = false := by rw [beq_eq_false_iff_ne]; omega
    have hpos : 0 < Ow.val l := (Ow.tr_pos HN.out.1).1 (by rw [HN.out.2]; omega)
    have HP := Lib.hid hpos
    have htot := Ow.dec_len_val HN.out.1 (by omega : 0 < l.length)
    clear h0 hpos
    go_enter Tryz.func40, Tryz.ntmps40
    go_wp2_with fail
    go_loopw [0, 3] (fun u s wr => ∃ v' m ts, u = v' ∧ s = .string ⟨List.toArray ts⟩ ∧ HasD wr v' m ∧ Ow.Nm m ∧ m.length ≤ l.length ∧ TextOk (Ow.val l) (Ow.val m) ts ∧ Gr w wr) (fun _ s _ => (Lib.decDigits (Ow.val l)).length - strLen s)
    case atStart => exact ⟨_, l, [], rfl, rfl, HV.out, HN.out, Nat.le_refl _, ⟨fun _ => by simp, fun h => by have := HP.out; omega⟩, Gr.refl _⟩
    case round =>
      obtain ⟨v', m, ts, rfl, rfl, hd, hnm, hml, hok, hg⟩ := hrel
      have HD := Lib.hid hd
      have HNM := Lib.hid hnm
      have HOK := Lib.hid hok
      have hts : ts.length ≤ 10000 := hok.len htot hl
      have HG := Lib.hid hg
      obtain ⟨-, a2, cap2, rfl, -, -, -⟩ := hd
      clear hnm hok hg
      by_cases hm : 0 < m.length
      · have t1 : decide ((0 : Int) < (m.length : Int)) = true := decide_eq_true (by omega)
        have t2 : decide (0 < m.length) = true := decide_eq_true hm
        have hmp : 0 < Ow.val m := (Ow.tr_pos HNM.out.1).1 (by rw [HNM.out.2]; exact hm)
        have HMP := Lib.hid hmp
        have hm5 : m.length ≤ 100000 := by omega
        clear hmp
        go_wp2_with fail
        refine (splitDigit_any m _ 1000000000 _ HD.out hm5 (by omega) (by omega)).mono ?_
        rintro e w1 ⟨vq, q, rfl, hdq, hnq, hvq, g1⟩
        have hr : Ow.val m % 1000000000 < 1000000000 := Nat.mod_lt _ (by omega)
        have HVQ := Lib.hid hvq
        have HDM := Lib.hid (Nat.div_add_mod (Ow.val m) 1000000000)
        obtain ⟨r, hre⟩ : ∃ r, r = Ow.val m % 1000000000 := ⟨_, rfl⟩
        rw [← hre] at hr
        have HRE := Lib.hid hre
        rw [← hre]
        have hql : q.length ≤ l.length := by
          refine Nat.le_trans (Ow.nm_len hnq (N := m.length) ?_) hml
          rw [hvq]
          exact Nat.lt_of_le_of_lt (Nat.div_le_self _ _) (Ow.val_lt m HNM.out.1)
        have HQD := Lib.hid hdq
        have HNQ := Lib.hid hnq
        obtain ⟨-, a3, cap3, rfl, -, -, -⟩ := hdq
        have HG := Lib.hid (HG.out.trans g1)
        clear hvq hre hnq g1
        go_wp2_with fail
        refine (fmt_any r (by omega) _ (HT.out.later HG.out)).mono ?_
        rintro e w2 ⟨rfl, g2⟩
        have HQD := Lib.hid (HQD.out.later g2)
        have HG := Lib.hid (HG.out.trans g2)
        have hl9 := Ow.dec_len9 hr
        clear g2
        by_cases hq : 0 < q.length
        · have t3 : decide ((0 : Int) < (q.length : Int)) = true := decide_eq_true (by omega)
          have t4 : decide (0 < q.length) = true := decide_eq_true hq
          have hnn : ((9 - (Lib.decDigits r).length : Nat) : Int) = 9 - ((Lib.decDigits r).length : Int) := by omega
          have HNN := Lib.hid hnn
          have HPN := Lib.hid (pad_nine r hr)
          have hpl : (Ow.pad9 r).length ≤ 9 := by unfold Ow.pad9; simp; omega
          have hqv : 0 < Ow.val q := (Ow.tr_pos HNQ.out.1).1 (by rw [HNQ.out.2]; exact hq)
          have HNX := Lib.hid (HOK.out.next HMP.out (q := Ow.val q) (r := r) (by rw [HVQ.out, HRE.out]; exact HDM.out) hr hqv)
          have HOKL := Lib.hid (HOK.out.lt HMP.out)
          clear hnn hqv
          go_wp2_with fail
          rw [← HNN.out]
          refine (Tryz.strings_Repeat ⟨[48].toArray⟩ (9 - (Lib.decDigits r).length) _ (by omega) (by show 1 * _ ≤ _; omega)).mono ?_
          rintro e w3 ⟨rfl, g3⟩
          have HQD := Lib.hid (HQD.out.later g3)
          have HG := Lib.hid (HG.out.trans g3)
          have hrl : (Lib.repeatL [48] (9 - (Lib.decDigits r).length)).length ≤ 9 := by rw [rep48, List.length_replicate]; omega
          have hpp : 1 ≤ (Ow.pad9 r).length := by
            have : (Lib.decDigits r).length ≠ 0 := fun e => Ow.digits_ne r (List.length_eq_zero_iff.1 e)
            unfold Ow.pad9; simp; omega
          clear g3
          go_wp2_with fail
          rw [HPN.out, str_append, strLen_list, strLen_list]
          refine ⟨⟨_, q, Ow.pad9 r ++ ts, rfl, rfl, HQD.out, HNQ.out, hql, HNX.out, HG.out⟩, ?_⟩
          have := HOKL.out
          rw [List.length_append]; omega
        · have t3 : decide ((0 : Int) < (q.length : Int)) = false := decide_eq_false (by omega)
          have t4 : decide (0 < q.length) = false := decide_eq_false hq
          have hz : q.length = 0 := by omega
          have hq0 : Ow.val q = 0 := by rw [List.length_eq_zero_iff.1 hz]; rfl
          have HQ0 := Lib.hid hq0
          have HRM := Lib.hid (show r = Ow.val m by
            have h1 := HDM.out
            rw [← HVQ.out, hq0, ← HRE.out] at h1
            omega)
          have HOKL := Lib.hid (HOK.out.lt HMP.out)
          have hpp : 1 ≤ (Lib.decDigits r).length := by
            have : (Lib.decDigits r).length ≠ 0 := fun e => Ow.digits_ne r (List.length_eq_zero_iff.1 e)
            omega
          clear hz hq0
          go_wp2_with fail
          rw [str_append, strLen_list, strLen_list]
          refine ⟨⟨_, q, Lib.decDigits r ++ ts, rfl, rfl, HQD.out, HNQ.out, hql, by rw [HQ0.out]; exact HOK.out.last HMP.out HRM.out, HG.out⟩, ?_⟩
          have := HOKL.out
          rw [List.length_append]; omega
      · have t1 : decide ((0 : Int) < (m.length : Int)) = false := decide_eq_false (by omega)
        have t2 : decide (0 < m.length) = false := decide_eq_false hm
        have hz : m.length = 0 := by omega
        have HFIN := Lib.hid (show Lib.decDigits (Ow.val l) = ts from HOK.out.2 (by rw [List.length_eq_zero_iff.1 hz]; rfl))
        clear hz
        go_wp2_with fail
        go_ret
        exact ⟨by rw [HFIN.out]; rfl, HG.out⟩

set_option maxRecDepth 100000 in
set_option maxHeartbeats 2000000 in
theorem text_bad (neg : Bool) (s : ByteArray) (w : World) (hs : s.size ≤ 9223372036854775807) (h : ¬ Form neg s) :
    Calls Tryz.prog 15 #[.agg #[.bool neg, .string s]] w fun e w' => e = .returned (.tuple #[.string ⟨#[]⟩, .int .i64 2]) ∧ Gr w w' := by
  have HF := Lib.hid h
  clear h
  go_enter Tryz.func15, Tryz.ntmps15
  go_wp2_with fail
  refine (valid_any neg s _ hs).mono ?_
  rintro e w1 ⟨r, rfl, hr, g1⟩
  obtain rfl : r = false := by cases r; rfl; exact absurd (hr.1 rfl) HF.out
  have HG := Lib.hid ((Gr.new w _).trans g1)
  clear hr g1
  go_wp2_with fail
  go_ret2
  exact ⟨rfl, HG.out⟩
theorem field_digits (b : Bool) (a : Option Addr) (n c : Nat) (W : World) : (Instr.field 44 (.agg #[.bool b, .slice a n c]) 1).run Tryz.prog W = .ok (.slice a n c) W := by
  unfold Instr.field
  rw [Sem.run_bind, run_underlying Tryz.underlying44 W]
  simp [part, isAgg, Sem.run_bind, run_underlying Tryz.underlying42, asAgg]
/-- The text of an integer. -/
def textOf (z : Int) : List UInt8 := (if z < 0 then [45] else []) ++ Lib.decDigits z.natAbs

set_option maxRecDepth 100000 in
set_option maxHeartbeats 2000000 in
theorem text_ok (neg : Bool) (s : ByteArray) (w : World) (h : Form neg s) (htab : Tab w) :
    Calls Tryz.prog 15 #[.agg #[.bool neg, .string s]] w fun e w' => e = .returned (.tuple #[.string ⟨(textOf (zOf neg s)).toArray⟩, .int .i64 0]) ∧ Gr w w' := by
  have HF := Lib.hid h
  have hs : s.size ≤ 256 := by rcases h with ⟨h0, _⟩ | ⟨_, h2, _⟩ <;> omega
  have HN := Lib.hid (form_neg h)
  have HT := Lib.hid htab
  clear h htab
  go_enter Tryz.func15, Tryz.ntmps15
  go_wp2_with fail
  refine (valid_any neg s _ (by omega)).mono ?_
  rintro e w1 ⟨r, rfl, hr, g1⟩
  obtain rfl : r = true := hr.2 HF.out
  have x0 := g1.keeps (p := ⟨w.heap.size, 0, none⟩) (v := .bool neg) (by simp [go_sem])
  have x1 := g1.keeps (p := ⟨w.heap.size, 1, none⟩) (v := .string s) (by simp [go_sem])
  have HG := Lib.hid ((Gr.new w _).trans g1)
  clear hr g1
  go_wp2_with fail
  refine (integerOf_form neg s _ HF.out).mono ?_
  rintro e w2 ⟨v, rfl, ⟨sv, l, rfl, hd, hnm, hval, hl⟩, g2⟩
  have x0 := g2.keeps x0
  have HG := Lib.hid (HG.out.trans g2)
  have HD := Lib.hid hd
  have HNM := Lib.hid hnm
  have HV := Lib.hid hval
  obtain ⟨nz, hnz⟩ : ∃ b, b = decide (zOf neg s < 0) := ⟨_, rfl⟩
  rw [← hnz]
  obtain ⟨-, a, cap, rfl, -, -, -⟩ := id hd
  have hfd := field_digits nz a l.length cap w2
  clear hd hnm hval g2 hnz
  go_wp2_with fail
  refine (writeDigits_any l _ _ HD.out HNM.out (by omega) (HT.out.later HG.out)).mono ?_
  rintro e w3 ⟨rfl, g3⟩
  rw [HV.out]
  have x0 := g3.keeps x0
  have HG := Lib.hid (HG.out.trans g3)
  have hdl : (Lib.decDigits (zOf neg s).natAbs).length ≤ 641 := by
    rw [← HV.out]
    rcases Nat.eq_zero_or_pos l.length with h0 | h0
    · rw [List.length_eq_zero_iff.1 h0, show Ow.val [] = 0 from rfl, Lib.decDigits_one (by omega)]; decide
    · have := Ow.dec_len_val HNM.out.1 h0; omega
  clear g3
  cases neg with
  | true =>
    go_wp2_with fail
    go_ret2
    refine ⟨?_, HG.out⟩
    have hz : zOf true s < 0 := by have := HN.out; simp at this; omega
    have e : (⟨#[45]⟩ : ByteArray) ++ ⟨(Lib.decDigits (zOf true s).natAbs).toArray⟩ = ⟨(textOf (zOf true s)).toArray⟩ := by
      unfold textOf; rw [if_pos hz]; exact str_append [45] _
    rw [← e]; rfl
  | false =>
    go_wp2_with fail
    go_ret2
    refine ⟨?_, HG.out⟩
    have hz : ¬ zOf false s < 0 := by have := HN.out; simpa using this.symm
    unfold textOf; rw [if_neg hz]; rfl
end Go.Proofs.YtnehcafmebokmaaGreatDoor

