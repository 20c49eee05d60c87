/- The law SupplyPlays. -/
import Derived.Test.YtmankcmmlcfbaaaVu
namespace Ov
set_option linter.unusedVariables false
def ofU (r : Nat × Int × Nat) : List Int × Int × Nat := ([(r.1 : Int)], r.2.1, r.2.2)
/-- The answer of an act, and the place behind it. -/
def act (s : ByteArray) (a : Nat × Int × Int × Nat) (p : Nat) : List Int × Int × Nat :=
  if a.1 % 5 = 0 then ofU (rBits s a.2.1 p) else if a.1 % 5 = 1 then ofU (rBelow s a.2.2.2 p) else if a.1 % 5 = 2 then rUni s a.2.1 (a.2.2.2 % 4294967296) p
  else if a.1 % 5 = 3 then rTern s a.2.1 a.2.2.1 p else rBnd s a.2.1 (a.2.2.2 % 4294967296) p
end Ov
namespace Go.Proofs.Ytmankcmmlcfbaaa
open Go.RowKit Ov
set_option linter.unusedVariables false
theorem does_any (b g c r : Nat) (s1 s2 : ByteArray) (p1 p2 : Nat) (a : Nat × Int × Int × Nat) (w0 w : World) (hS : Sup w b g c s1 p1) (hR : Rup w r s2 p2) (hg : Gr w0 w) (hb : w0.heap.size ≤ b) (hr : w0.heap.size ≤ r) (hbr : b ≠ r) (hgr : g ≠ r) (hQ : a.2.2.2 < 18446744073709551616)
    (hv : (act s1 a p1).1 = (act s2 a p2).1) (hc : (act s1 a p1).2.1 = (act s2 a p2).2.1) :
    Calls Try.prog 10 #[.pointer (some ⟨b, 0, none⟩), .pointer (some ⟨r, 0, none⟩), .agg #[.int .u8 (a.1 : Nat), .int .i64 a.2.1, .int .i64 a.2.2.1, .int .u64 (a.2.2.2 : Nat)]] w (DoesP w0 b g c r s1 s2 (act s1 a p1).2.2 (act s2 a p2).2.2) := by
  obtain ⟨W, N, H, Q⟩ := a
  dsimp only at hQ ⊢
  have e1 : ∀ s p, W % 5 = 0 → act s (W, N, H, Q) p = ofU (rBits s N p) := fun s p k => by unfold act; rw [if_pos k]
  have e2 : ∀ s p, W % 5 = 1 → act s (W, N, H, Q) p = ofU (rBelow s Q p) := fun s p k => by unfold act; rw [if_neg (show ¬ W % 5 = 0 by omega), if_pos k]
  have e3 : ∀ s p, W % 5 = 2 → act s (W, N, H, Q) p = rUni s N (Q % 4294967296) p := fun s p k => by unfold act; rw [if_neg (show ¬ W % 5 = 0 by omega), if_neg (show ¬ W % 5 = 1 by omega), if_pos k]
  have e4 : ∀ s p, W % 5 = 3 → act s (W, N, H, Q) p = rTern s N H p := fun s p k => by unfold act; rw [if_neg (show ¬ W % 5 = 0 by omega), if_neg (show ¬ W % 5 = 1 by omega), if_neg (show ¬ W % 5 = 2 by omega), if_pos k]
  have e5 : ∀ s p, W % 5 = 4 → act s (W, N, H, Q) p = rBnd s N (Q % 4294967296) p := fun s p k => by unfold act; rw [if_neg (show ¬ W % 5 = 0 by omega), if_neg (show ¬ W % 5 = 1 by omega), if_neg (show ¬ W % 5 = 2 by omega), if_neg (show ¬ W % 5 = 3 by omega)]
  have h5 : W % 5 = 0 ∨ W % 5 = 1 ∨ W % 5 = 2 ∨ W % 5 = 3 ∨ W % 5 = 4 := by omega
  rcases h5 with k | k | k | k | k
  · rw [e1 _ _ k, e1 _ _ k] at hv hc ⊢
    have h1 : (rBits s1 N p1).1 = (rBits s2 N p2).1 := by simp [ofU] at hv; omega
    have h2 : rBits s2 N p2 = ((rBits s1 N p1).1, (rBits s1 N p1).2.1, (rBits s2 N p2).2.2) := by rw [h1, show (rBits s1 N p1).2.1 = (rBits s2 N p2).2.1 from hc]
    exact does0_any b g c r s1 s2 p1 p2 _ _ _ _ W N H Q w0 w hS hR hg hb hr hbr hgr k hQ rfl h2
  · rw [e2 _ _ k, e2 _ _ k] at hv hc ⊢
    have h1 : (rBelow s1 Q p1).1 = (rBelow s2 Q p2).1 := by simp [ofU] at hv; omega
    have h2 : rBelow s2 Q p2 = ((rBelow s1 Q p1).1, (rBelow s1 Q p1).2.1, (rBelow s2 Q p2).2.2) := by rw [h1, show (rBelow s1 Q p1).2.1 = (rBelow s2 Q p2).2.1 from hc]
    exact does1_any b g c r s1 s2 p1 p2 _ _ _ _ W N H Q w0 w hS hR hg hb hr hbr hgr k hQ rfl h2
  · rw [e3 _ _ k, e3 _ _ k] at hv hc ⊢
    have h2 : rUni s2 N (Q % 4294967296) p2 = ((rUni s1 N (Q % 4294967296) p1).1, (rUni s1 N (Q % 4294967296) p1).2.1, (rUni s2 N (Q % 4294967296) p2).2.2) := by rw [hv, hc]
    exact does2_any b g c r s1 s2 p1 p2 _ _ _ _ W N H Q w0 w hS hR hg hb hr hbr hgr k hQ rfl h2
  · rw [e4 _ _ k, e4 _ _ k] at hv hc ⊢
    have h2 : rTern s2 N H p2 = ((rTern s1 N H p1).1, (rTern s1 N H p1).2.1, (rTern s2 N H p2).2.2) := by rw [hv, hc]
    exact does3_any b g c r s1 s2 p1 p2 _ _ _ _ W N H Q w0 w hS hR hg hb hr hbr hgr k hQ rfl h2
  · rw [e5 _ _ k, e5 _ _ k] at hv hc ⊢
    have h2 : rBnd s2 N (Q % 4294967296) p2 = ((rBnd s1 N (Q % 4294967296) p1).1, (rBnd s1 N (Q % 4294967296) p1).2.1, (rBnd s2 N (Q % 4294967296) p2).2.2) := by rw [hv, hc]
    exact does4_any b g c r s1 s2 p1 p2 _ _ _ _ W N H Q w0 w hS hR hg hb hr hbr hgr k hQ rfl h2
/-- A slice of acts. -/
def HasActs (w : World) (v : Value) (n : Nat) (A : Nat → Nat × Int × Int × Nat) : Prop := ∃ a cap, v = .slice a n cap ∧ n ≤ cap ∧ cap ≤ 9223372036854775807 ∧ ∀ i, i < n → ∃ g o, a = some ⟨g, o, none⟩ ∧ (A i).1 < 256 ∧ (A i).2.2.2 < 18446744073709551616 ∧
  w.cell? ⟨g, o + i * 4, none⟩ = some (.int .u8 ((A i).1 : Nat)) ∧ w.cell? ⟨g, o + i * 4 + 1, none⟩ = some (.int .i64 (A i).2.1) ∧ w.cell? ⟨g, o + i * 4 + 2, none⟩ = some (.int .i64 (A i).2.2.1) ∧ w.cell? ⟨g, o + i * 4 + 3, none⟩ = some (.int .u64 ((A i).2.2.2 : Nat))
set_option maxRecDepth 100000 in
set_option maxHeartbeats 4000000 in
theorem plays_law (s : ByteArray) (v : Value) (n : Nat) (A : Nat → Nat × Int × Int × Nat) (w : World) (hv : HasActs w v n A) (hs : s.size ≤ 9223372036854775807) : Calls Try.prog 3 #[.string s, v] w (Truth w) := by
  obtain ⟨a, cap, rfl, hn1, hn2, hA⟩ := hv
  have HA := Lib.hid hA
  obtain ⟨L, hL⟩ : ∃ L, L = s.size := ⟨_, rfl⟩
  have HL := Lib.hid hL
  have hLi : (s.size : Int) = (L : Int) := by omega
  have hL9 : L ≤ 9223372036854775807 := by omega
  clear hA hs hL
  have hc : (20000 < L ∧ L ≤ 1048576) ∨ (¬ (20000 < L ∧ L ≤ 1048576) ∧ 60 < n) ∨ (L ≤ 20000 ∧ n ≤ 60) ∨ (1048576 < L ∧ n ≤ 60) := by omega
  rcases hc with ⟨c1, c2⟩ | ⟨c1, c2⟩ | ⟨c1, c2⟩ | ⟨c1, c2⟩
  · have d1 : (20000 : Int) < (L : Int) := by omega
    have d2 : (L : Int) ≤ 1048576 := by omega
    go_enter Try.func3, Try.ntmps3
    go_wp2_with (go_at_call 7; refine (shown_any _).mono ?_; rintro e w1 ⟨rfl, hg⟩)
    go_ret
    exact ⟨rfl, hg⟩
  · have d3 : (60 : Int) < (n : Int) := by omega
    have hcc : ¬ 20000 < L ∨ (20000 < L ∧ ¬ L ≤ 1048576) := by omega
    clear c1
    rcases hcc with e1 | ⟨e1, e2⟩
    all_goals
      go_enter Try.func3, Try.ntmps3
      go_wp2_with (go_at_call 7; refine (shown_any _).mono ?_; rintro e w1 ⟨rfl, hg⟩)
      go_ret
      exact ⟨rfl, hg⟩
  · have d1 : ¬ (20000 : Int) < (L : Int) := by omega
    have d3 : ¬ (60 : Int) < (n : Int) := by omega
    have hn9 : (n : Int) ≤ 60 := by omega
    have HN1 := Lib.hid (pNew_any s w (by have := HL.out; omega))
    have HN2 := Lib.hid (fun w1 => rNew_any s w1 (by have := HL.out; omega))
    go_enter Try.func3, Try.ntmps3
    go_wp2_with (first | (go_at_call 8; refine HN1.out.mono ?_; rintro e w1 ⟨b, g, c, rfl, hs1, hb1, hb2, hg1⟩) | (go_at_call 9; refine (HN2.out _).mono ?_; rintro e w2 ⟨r, rfl, hr2, hr3, hg2⟩))
    have HB := Lib.hid (show w.heap.size ≤ b ∧ w.heap.size ≤ r ∧ b ≠ r ∧ g ≠ r from ⟨hb1, Nat.le_trans hg1.size hr3, by have := hs1.lt; omega, by have := hs1.lt; omega⟩)
    have HS0 := Lib.hid (hs1.later hg2)
    have HR0 := Lib.hid hr2
    have HG0 := Lib.hid (Gr.trans hg1 hg2)
    clear hs1 hb1 hb2 hg1 hr2 hr3 hg2
    go_loopw [7] (fun x wr => ∃ (k p : Nat), x = .int .i64 (k : Nat) ∧ k ≤ n ∧ Sup wr b g c s p ∧ Rup wr r s p ∧ Gr w wr) (fun x _ => n - (intOf x).toNat)
    case atStart => exact ⟨0, 0, rfl, by omega, HS0.out, HR0.out, HG0.out⟩
    case round =>
      obtain ⟨k, p, rfl, hk, hs, hr, hg⟩ := hrel
      have HS := Lib.hid hs
      have HR := Lib.hid hr
      have HG := Lib.hid hg
      have hcase : k < n ∨ ¬ k < n := Classical.em _
      rcases hcase with hc | hc
      · have hci : (k : Int) < (n : Int) := by omega
        obtain ⟨gA, oA, rfl, a1, a2, x0, x1, x2, x3⟩ := HA.out k hc
        have y0 := hg.keeps x0
        have y1 := hg.keeps x1
        have y2 := hg.keeps x2
        have y3 := hg.keeps x3
        have HD := Lib.hid (does_any b g c r s s p p (A k) w wr hs hr hg HB.out.1 HB.out.2.1 HB.out.2.2.1 HB.out.2.2.2 a2 rfl rfl)
        generalize (act s (A k) p).2.2 = q at HD
        generalize A k = ak at HD y0 y1 y2 y3 a1 a2
        obtain ⟨W, N, H, Q⟩ := ak
        obtain ⟨lf, hlf⟩ : ∃ lf : Int, lf = (nbits s : Nat) - (q : Nat) := ⟨_, rfl⟩
        have HLF := Lib.hid hlf
        clear hs hr hg x0 x1 x2 x3 a1 a2 hlf
        dsimp only at HD y0 y1 y2 y3
        go_wp2_with (first | (go_at_call 10; refine HD.out.mono ?_; rintro e w2 ⟨rfl, hs2, hr2, hg2⟩; (have HS2 := Lib.hid hs2; have HR2 := Lib.hid hr2; have HG2 := Lib.hid hg2); clear hs2 hr2 hg2) | (go_at_call 11; refine (left_any b g c s q w2 HS2.out).mono ?_; rintro e w3 ⟨rfl, hg3⟩; rw [← HLF.out]; (have HG3 := Lib.hid hg3); clear hg3) | (go_at_call 12; refine (rLeft_any r s q w3 (HR2.out.later HG3.out)).mono ?_; rintro e w4 ⟨rfl, hg4⟩; rw [← HLF.out]; (have HG4 := Lib.hid (Gr.trans HG3.out hg4)); clear hg4) | (go_at_call 13; refine (taken_any b g c s q w4 (HS2.out.later HG4.out)).mono ?_; rintro e w5 ⟨he, hw⟩; subst he; subst hw) | (go_at_call 14; refine (rTaken_any r s q w5 (HR2.out.later HG4.out)).mono ?_; rintro e w6 ⟨he, hw⟩; subst he; subst hw))
        go_roundw
        case rel => exact ⟨k + 1, q, by simp, by omega, HS2.out.later HG4.out, HR2.out.later HG4.out, Gr.trans HG2.out HG4.out⟩
        case measure => simp [intOf]; omega
      · obtain rfl : n = k := by omega
        clear hs hr hg
        go_wp2_with (go_at_call 7; refine (shown_any _).mono ?_; rintro e w1 ⟨rfl, hg1⟩)
        go_ret
        exact ⟨rfl, Gr.trans HG.out hg1⟩
  · have d1 : (20000 : Int) < (L : Int) := by omega
    have d2 : ¬ (L : Int) ≤ 1048576 := by omega
    have d3 : ¬ (60 : Int) < (n : Int) := by omega
    have HN1 := Lib.hid (pNew_big s w (by have := HL.out; omega))
    have HN2 := Lib.hid (rNew_big s w (by have := HL.out; omega))
    go_enter Try.func3, Try.ntmps3
    go_wp2_with (first | (go_at_call 8; refine HN1.out.mono ?_; rintro e w1 ⟨he, hw⟩; subst he; subst hw) | (go_at_call 9; refine HN2.out.mono ?_; rintro e w1 ⟨he, hw⟩; subst he; subst hw) | (go_at_call 7; refine (shown_any _).mono ?_; rintro e w1 ⟨rfl, hg⟩))
    go_ret
    exact ⟨rfl, hg⟩
end Go.Proofs.Ytmankcmmlcfbaaa
