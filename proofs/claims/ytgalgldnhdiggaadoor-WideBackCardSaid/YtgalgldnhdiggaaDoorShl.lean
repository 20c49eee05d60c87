/- Shl and Cmp on forms. -/
import Derived.Test.YtgalgldnhdiggaaDoorQuo
namespace Go.Proofs.YtgalgldnhdiggaaDoor
open Go.RowKit
set_option linter.unusedVariables false

end Go.Proofs.YtgalgldnhdiggaaDoor
namespace Ow
theorem two_pow_le {k n : Nat} (h : k ≤ 32 * n) : 2 ^ k ≤ 4294967296 ^ n := by
  rw [show (4294967296 : Nat) = 2 ^ 32 from rfl, ← Nat.pow_mul]
  exact Nat.pow_le_pow_right (by omega) h
theorem R_shl {a k : Nat} (ha : a < R) (hk : k ≤ 4096) : a * 2 ^ k < 4294967296 ^ 256 := by
  rw [R_digits] at ha
  have h1 : 2 ^ k ≤ 4294967296 ^ 128 := two_pow_le (by omega)
  have h2 : a * 2 ^ k ≤ a * 4294967296 ^ 128 := Nat.mul_le_mul_left _ h1
  have h3 : a * 4294967296 ^ 128 < 4294967296 ^ 64 * 4294967296 ^ 128 := Nat.mul_lt_mul_of_pos_right ha (Nat.pow_pos (by omega))
  rw [← Nat.pow_add] at h3
  exact Nat.lt_of_le_of_lt h2 (Nat.lt_of_lt_of_le h3 (Nat.pow_le_pow_right (by omega) (by omega)))
end Ow
namespace Go.Proofs.YtgalgldnhdiggaaDoor
open Go.RowKit
set_option linter.unusedVariables false
theorem sg_times (z : Int) (p : Nat) (hp : 0 < p) : sg (decide (z < 0)) (z.natAbs * p) = z * (p : Int) := by
  unfold sg
  by_cases h : z < 0
  · have hz : (z.natAbs : Int) = -z := by omega
    simp [h, hz, Int.neg_mul]
  · have hz : (z.natAbs : Int) = z := by omega
    simp [h, hz]

set_option maxRecDepth 100000 in
set_option maxHeartbeats 3000000 in
theorem shl1_any (N k : Nat) (z : Int) (u : Value) (B : Nat) (w : World) (hu : HasI 64 w u z) (hB : w.cell? ⟨B, 0, none⟩ = some (.int .i64 k)) (hk : k ≤ 100000) (hN : z.natAbs * 2 ^ k < 4294967296 ^ N) :
    Calls Tryd.prog 57 #[u, .pointer (some ⟨B, 0, none⟩)] w (IntZ N (z * ((2 ^ k : Nat) : Int)) w) := by
  obtain ⟨s, l, rfl, hd, hn, hval, hl⟩ := hu
  have HD := Lib.hid hd
  have HV := Lib.hid hval
  have HN := Lib.hid hN
  have HSG := Lib.hid (sg_times z (2 ^ k) (Nat.pow_pos (by omega)))
  have hl5 : l.length ≤ 100000 := by omega
  obtain ⟨nx, hnx⟩ : ∃ nx, nx = decide (z < 0) := ⟨_, rfl⟩
  rw [← hnx] at HSG ⊢
  have hlt : B < w.heap.size := World.block_lt_of_cell? w _ hB
  clear hd hn hval hnx hN
  obtain ⟨-, a, cap, rfl, -, -, -⟩ := id HD.out
  go_enter Tryd.func57, Tryd.ntmps57
  go_wp2_with fail
  obtain ⟨W, hW⟩ : ∃ W : World, W = (w.alloc (.cells #[.bool nx, .slice a l.length cap] 56)).alloc (.cells #[.bool false, .slice none 0 0] 56) := ⟨_, rfl⟩
  rw [← hW]
  have g1 : Gr w W := by rw [hW]; exact (Gr.new w _).alloc _
  have x0 : W.drew.cell? ⟨w.heap.size, 0, none⟩ = some (.bool nx) := by rw [hW]; simp [go_sem]
  have x1 : W.drew.cell? ⟨w.heap.size, 1, none⟩ = some (.slice a l.length cap) := by rw [hW]; simp [go_sem]
  have kk : W.drew.cell? ⟨B, 0, none⟩ = some (.int .i64 k) := g1.keeps hB
  have R0 := Lib.hid (show W.drew.cell? ⟨w.heap.size + 1, 0, none⟩ = some (.bool false) by rw [hW]; simp [go_sem])
  have R1 := Lib.hid (show W.drew.cell? ⟨w.heap.size + 1, 1, none⟩ = some (.slice none 0 0) by rw [hW]; simp [go_sem])
  have F0 := Lib.hid (show W.drew.frozen? ⟨w.heap.size + 1, 0, none⟩ = false by rw [hW]; simp [go_sem])
  have F1 := Lib.hid (show W.drew.frozen? ⟨w.heap.size + 1, 1, none⟩ = false by rw [hW]; simp [go_sem])
  have HG := Lib.hid (show Gr w W.drew from Below.drew g1)
  have n1 : ¬ (w.heap.size = w.heap.size + 1) := by omega
  have n2 : ¬ (B = w.heap.size + 1) := by omega
  clear hW g1 hB
  go_region_held3 (fun w' => w'.cell? ⟨w.heap.size, 0, none⟩ = some (.bool nx) ∧ w'.cell? ⟨w.heap.size, 1, none⟩ = some (.slice a l.length cap) ∧ w'.cell? ⟨B, 0, none⟩ = some (.int .i64 k)) (first | exact ⟨x0, x1, kk⟩ | exact ⟨keep2 x0 n1, keep2 x1 n1, keep2 kk n2⟩ | go_keep)
    (first
      | (go_at_call 34; (with_reducible refine (signs_box _ _).mono ?_); rintro e w' ⟨p, rfl, hb, g⟩; have x0 := g.keeps x0; have x1 := g.keeps x1; have kk := g.keeps kk; have F0 := Lib.hid (g.frozen R0.out F0.out); have F1 := Lib.hid (g.frozen R1.out F1.out); have R0 := Lib.hid (g.keeps R0.out); have R1 := Lib.hid (g.keeps R1.out); have HB := Lib.hid hb; (try have HP := Lib.hid (HP.out.later g)); have HG := Lib.hid (HG.out.trans g); clear hb g)
      | (go_at_call 58; (with_reducible refine (up_any l _ k _ (HD.out.later HG.out) hl5 hk).mono ?_); rintro e w' ⟨gq, L, rfl, hL, hle, hlies, hvL, g⟩; have x0 := g.keeps x0; have x1 := g.keeps x1; have kk := g.keeps kk; have F0 := Lib.hid (g.frozen R0.out F0.out); have F1 := Lib.hid (g.frozen R1.out F1.out); have R0 := Lib.hid (g.keeps R0.out); have R1 := Lib.hid (g.keeps R1.out); (try have HB := Lib.hid (g.keeps HB.out)); have hPP : HasD w' (.slice (some ⟨gq, 0, none⟩) (l.length + k / 32 + 1) (l.length + k / 32 + 1)) L := (by have h := hlies.hasD (cap := L.length) (Nat.le_refl _) (by omega); rw [hL] at h; exact h); have HP := Lib.hid hPP; have HVQ := Lib.hid hvL; have HNQ := Lib.hid (show (Ow.tr L).length ≤ N from Ow.nm_len (Ow.nm_tr hlies.1) (by rw [Ow.val_tr, hvL, HV.out]; exact HN.out)); have HG := Lib.hid (HG.out.trans g); clear hlies hvL hPP g)
      | (go_at_call 62; (with_reducible refine (signs1_int _ L _ p N _ HP.out HB.out HNQ.out).mono ?_); rintro e w' ⟨t, rfl, ⟨s', l', rfl, hs, hnl, hvl, hln⟩, g⟩; have x0 := g.keeps x0; have x1 := g.keeps x1; have kk := g.keeps kk; have f0 := g.frozen R0.out F0.out; have f1 := g.frozen R1.out F1.out; have r0 := g.keeps R0.out; have r1 := g.keeps R1.out; have HGG := Lib.hid (HG.out.trans g); obtain ⟨nz, hnz⟩ : ∃ nz, nz = decide (sg nx (Ow.val L) < 0) := ⟨_, rfl⟩; rw [← hnz]; have HNZ := Lib.hid hnz; obtain ⟨-, a'', cap'', rfl, -, -, -⟩ := id hs; have HS := Lib.hid hs; have HE := Lib.hid (And.intro hnl (And.intro hvl hln)); clear hs hnl hvl hln hnz g))
  all_goals
    go_wp2_with fail
    refine bodyPost_ret (v := .agg #[.bool nz, .slice a'' l'.length cap'']) (by simp [results, Tryd.results57, go_sem, r0, r1]) rfl ?_
    exact intz_stored (by rw [HVQ.out, HV.out]; exact HSG.out) HNZ.out HS.out HE.out.1 HE.out.2.1 HE.out.2.2 HGG.out (by omega) r0 r1 (by simp) (by simp)

set_option maxRecDepth 100000 in
set_option maxHeartbeats 1000000 in
theorem shl_of (neg : Bool) (s : ByteArray) (k : Nat) (A : Bool) (S : ByteArray) (C : Int) (w : World) (hk : k ≤ 4096)
    (h : ∀ W p, W.cell? ⟨p, 0, none⟩ = some (.int .i64 k) → Calls Tryd.prog 56 #[.agg #[.bool neg, .string s], .func (.func 57) #[] #[.pointer (some ⟨p, 0, none⟩)]] W (Res A S C W)) :
    Calls Tryd.prog 31 #[.agg #[.bool neg, .string s], .int .i64 k] w (Res A S C w) := by
  have H := Lib.hid h
  clear h
  go_enter Tryd.func31, Tryd.ntmps31
  go_wp2_with fail
  refine (inShift_any k _).mono ?_
  rintro e w1 ⟨r, rfl, hr, g1⟩
  obtain rfl : r = true := hr.2 (by omega)
  have g0 : Gr w (((w.alloc (.cells #[.bool neg, .string s] 23)).alloc (.cells #[.int .i64 k] 3)).alloc (.cells #[.bool false, .string ⟨#[]⟩] 23)) := ((Gr.new w _).alloc _).alloc _
  have x0 := g1.keeps (p := ⟨w.heap.size, 0, none⟩) (v := .bool neg) (by simp [go_sem])
  have x1 := g1.keeps (p := ⟨w.heap.size, 1, none⟩) (v := .string s) (by simp [go_sem])
  have kk := g1.keeps (p := ⟨w.heap.size + 1, 0, none⟩) (v := .int .i64 k) (by simp [go_sem])
  have R0 := Lib.hid (g1.keeps (p := ⟨w.heap.size + 1 + 1, 0, none⟩) (v := .bool false) (by simp [go_sem]))
  have R1 := Lib.hid (g1.keeps (p := ⟨w.heap.size + 1 + 1, 1, none⟩) (v := .string ⟨#[]⟩) (by simp [go_sem]))
  have F0 := Lib.hid (g1.frozen (p := ⟨w.heap.size + 1 + 1, 0, none⟩) (v := .bool false) (by simp [go_sem]) (by simp [go_sem]))
  have F1 := Lib.hid (g1.frozen (p := ⟨w.heap.size + 1 + 1, 1, none⟩) (v := .string ⟨#[]⟩) (by simp [go_sem]) (by simp [go_sem]))
  have HG := Lib.hid (g0.trans g1)
  clear g0 g1 hr
  go_wp2_with fail
  refine (H.out _ (w.heap.size + 1) (by first | exact kk | simpa using kk)).mono ?_
  rintro e w2 ⟨rfl, g1⟩
  have r0 := g1.keeps R0.out
  have r1 := g1.keeps R1.out
  have f0 := g1.frozen R0.out F0.out
  have f1 := g1.frozen R1.out F1.out
  have HG := Lib.hid (HG.out.trans g1)
  clear g1
  go_wp2_with fail
  refine bodyPost_ret (v := .tuple #[.agg #[.bool A, .string S], .int .i64 C]) (by simp [results, Tryd.results31, go_sem, r0, r1]) rfl ?_
  exact ⟨rfl, (HG.out.setCell (p := ⟨w.heap.size + 1 + 1, 0, none⟩) (by simp; omega) _).setCell (p := ⟨w.heap.size + 1 + 1, 1, none⟩) (by simp; omega) _⟩
theorem shl_ok (neg : Bool) (s : ByteArray) (k : Nat) (w : World) (h : Form neg s) (hk : k ≤ 4096) :
    Calls Tryd.prog 31 #[.agg #[.bool neg, .string s], .int .i64 k] w (Res (fNeg (zOf neg s * ((2 ^ k : Nat) : Int))) (fStr (zOf neg s * ((2 ^ k : Nat) : Int))) (fErr (zOf neg s * ((2 ^ k : Nat) : Int))) w) :=
  shl_of neg s k _ _ _ w hk fun W p hp => unary_ok 57 256 #[.pointer (some ⟨p, 0, none⟩)] (zOf neg s * ((2 ^ k : Nat) : Int)) neg s W h (by omega) (enters_of Tryd.func57 (by kernel_rfl) (by kernel_rfl)) fun V v hg hv => shl1_any 256 k _ v p V hv (hg.keeps hp) (by omega) (Ow.R_shl (form_range h) hk)

set_option maxRecDepth 100000 in
set_option maxHeartbeats 2000000 in
theorem cmp_bad (neg : Bool) (s : ByteArray) (neg' : Bool) (s' : ByteArray) (w : World) (hs : s.size ≤ 9223372036854775807) (hs' : s'.size ≤ 9223372036854775807) (h : ¬ (Form neg s ∧ Form neg' s')) :
    Calls Tryd.prog 26 #[.agg #[.bool neg, .string s], .agg #[.bool neg', .string s']] w (Pair (0, 2) w) := by
  have HF := Lib.hid h
  clear h
  go_enter Tryd.func26, Tryd.ntmps26
  go_wp2_with fail
  refine (valid_any neg s _ hs).mono ?_
  rintro e w1 ⟨r, rfl, hr, g1⟩
  have HR := Lib.hid hr
  clear hr
  have g0 : Gr w ((w.alloc (.cells #[.bool neg, .string s] 23)).alloc (.cells #[.bool neg', .string s'] 23)) := (Gr.new w _).alloc _
  have y0 := g1.keeps (p := ⟨w.heap.size + 1, 0, none⟩) (v := .bool neg') (by simp [go_sem])
  have y1 := g1.keeps (p := ⟨w.heap.size + 1, 1, none⟩) (v := .string s') (by simp [go_sem])
  have HG := Lib.hid (g0.trans g1)
  clear g0 g1
  cases r with
  | false =>
    go_wp2_with fail
    go_ret2
    exact ⟨rfl, HG.out⟩
  | true =>
    go_wp2_with fail
    refine (valid_any neg' s' _ hs').mono ?_
    rintro e w2 ⟨r, rfl, hr, g1⟩
    obtain rfl : r = false := by cases r; rfl; exact absurd ⟨HR.out.1 (by simp), hr.1 (by simp)⟩ HF.out
    have HG := Lib.hid (HG.out.trans g1)
    clear hr g1
    go_wp2_with fail
    go_ret2
    exact ⟨rfl, HG.out⟩

set_option maxRecDepth 100000 in
set_option maxHeartbeats 2000000 in
theorem cmp_ok (neg : Bool) (s : ByteArray) (neg' : Bool) (s' : ByteArray) (w : World) (h : Form neg s) (h' : Form neg' s') :
    Calls Tryd.prog 26 #[.agg #[.bool neg, .string s], .agg #[.bool neg', .string s']] w (Pair (sgn (zOf neg s) (zOf neg' s'), 0) w) := by
  have HF := Lib.hid h
  have HF' := Lib.hid h'
  have hs : s.size ≤ 256 := by rcases h with ⟨h0, _⟩ | ⟨_, h2, _⟩ <;> omega
  have hs' : s'.size ≤ 256 := by rcases h' with ⟨h0, _⟩ | ⟨_, h2, _⟩ <;> omega
  obtain ⟨sc, hsc⟩ : ∃ sc, sc = sgn (zOf neg s) (zOf neg' s') := ⟨_, rfl⟩
  rw [← hsc]
  have HSC := Lib.hid hsc
  clear h h' hsc
  go_enter Tryd.func26, Tryd.ntmps26
  go_wp2_with fail
  refine (valid_any neg s _ (by omega)).mono ?_
  rintro e w1 ⟨r, rfl, hr, g1⟩
  obtain rfl : r = true := hr.2 HF.out
  have g0 : Gr w ((w.alloc (.cells #[.bool neg, .string s] 23)).alloc (.cells #[.bool neg', .string s'] 23)) := (Gr.new w _).alloc _
  have x0 := g1.keeps (p := ⟨w.heap.size, 0, none⟩) (v := .bool neg) (by simp [go_sem])
  have x1 := g1.keeps (p := ⟨w.heap.size, 1, none⟩) (v := .string s) (by simp [go_sem])
  have y0 := g1.keeps (p := ⟨w.heap.size + 1, 0, none⟩) (v := .bool neg') (by simp [go_sem])
  have y1 := g1.keeps (p := ⟨w.heap.size + 1, 1, none⟩) (v := .string s') (by simp [go_sem])
  have HG := Lib.hid (g0.trans g1)
  clear g0 g1 hr
  go_wp2_with fail
  refine (valid_any neg' s' _ (by omega)).mono ?_
  rintro e w2 ⟨r, rfl, hr, g⟩
  obtain rfl : r = true := hr.2 HF'.out
  have g : Gr w1 w2.drew := Below.drew g
  have x0 := g.keeps x0
  have x1 := g.keeps x1
  have y0 := g.keeps y0
  have y1 := g.keeps y1
  have HG := Lib.hid (HG.out.trans g)
  clear hr g
  go_wp2_with fail
  go_region_held3 (fun w' => w'.cell? ⟨w.heap.size, 0, none⟩ = some (.bool neg) ∧ w'.cell? ⟨w.heap.size, 1, none⟩ = some (.string s) ∧ w'.cell? ⟨w.heap.size + 1, 0, none⟩ = some (.bool neg') ∧ w'.cell? ⟨w.heap.size + 1, 1, none⟩ = some (.string s')) (first | exact ⟨x0, x1, y0, y1⟩ | go_keep)
    (first
      | (go_at_call 43; (with_reducible refine (integerOf_form neg s _ HF.out).mono ?_); rintro e w' ⟨u, rfl, hv, g⟩; have x0 := g.keeps x0; have x1 := g.keeps x1; have y0 := g.keeps y0; have y1 := g.keeps y1; have HX := Lib.hid hv; (try have HY := Lib.hid (HY.out.later g)); have HG := Lib.hid (HG.out.trans g); clear hv g)
      | (go_at_call 43; (with_reducible refine (integerOf_form neg' s' _ HF'.out).mono ?_); rintro e w' ⟨v, rfl, hv, g⟩; have x0 := g.keeps x0; have x1 := g.keeps x1; have y0 := g.keeps y0; have y1 := g.keeps y1; (try have HX := Lib.hid (HX.out.later g)); have HY := Lib.hid hv; have HG := Lib.hid (HG.out.trans g); clear hv g)
      | (go_at_call 53; (with_reducible refine (order_any 64 _ _ _ _ _ HX.out HY.out).mono ?_); rintro e w' ⟨rfl, g⟩; have x0 := g.keeps x0; have x1 := g.keeps x1; have y0 := g.keeps y0; have y1 := g.keeps y1; rw [← HSC.out]; have HG := Lib.hid (HG.out.trans g); clear g))
  all_goals
    go_wp2_with fail
    go_ret2
    exact ⟨rfl, HG.out⟩
end Go.Proofs.YtgalgldnhdiggaaDoor
