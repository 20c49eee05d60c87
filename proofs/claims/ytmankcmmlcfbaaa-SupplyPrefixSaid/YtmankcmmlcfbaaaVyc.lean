/- succeeds: does the reference do an act without an error? -/
import Derived.Test.YtmankcmmlcfbaaaVyb
namespace Go.Proofs.Ytmankcmmlcfbaaa
open Go.RowKit Ov
set_option linter.unusedVariables false
set_option maxRecDepth 100000 in
set_option maxHeartbeats 2000000 in
theorem succ0_any (r : Nat) (s2 : ByteArray) (p2 q2 : Nat) (v : Nat) (cd : Int) (W : Nat) (N H : Int) (Q : Nat) (w0 w : World) (hR : Rup w r s2 p2) (hg : Gr w0 w) (hr : w0.heap.size ≤ r) (hW : W % 5 = 0) (hQ : Q < 18446744073709551616) (h2 : rBits s2 N p2 = (v, cd, q2)) :
    Calls Try.prog 16 #[.pointer (some ⟨r, 0, none⟩), .agg #[.int .u8 (W : Nat), .int .i64 N, .int .i64 H, .int .u64 (Q : Nat)]] w (fun e w' => e = .returned (.bool (decide (cd = 0))) ∧ Gr w0 w') := by
  have ht : (W : Int).tmod 5 = 0 := by rw [Int.tmod_eq_emod_of_nonneg (by omega)]; omega
  have HB := Lib.hid hr
  have HG1 := Lib.hid (Gr.new w (.cells #[.int .u8 (W : Nat), .int .i64 N, .int .i64 H, .int .u64 (Q : Nat)] 31))
  have HR := Lib.hid (hR.later HG1.out)
  have HG := Lib.hid (Gr.trans hg HG1.out)
  have HP := Lib.hid (show Calls _ _ _ (w.alloc (.cells #[.int .u8 (W : Nat), .int .i64 N, .int .i64 H, .int .u64 (Q : Nat)] 31)) (fun e w' => e = .returned (.tuple #[.int .u64 (v : Nat), .int .i64 cd]) ∧ Ex r (w.alloc (.cells #[.int .u8 (W : Nat), .int .i64 N, .int .i64 H, .int .u64 (Q : Nat)] 31)) w') from (rBits_any r s2 p2 N _ HR.out).mono (by rintro e w' ⟨he, hs, hx'⟩; rw [h2] at he; exact ⟨he, hx'⟩))
  have hcd : cd = 0 ∨ ¬ cd = 0 := Classical.em _
  clear hR hg hr hW hQ h2
  rcases hcd with hcd | hcd
  · subst hcd
    go_enter Try.func16, Try.ntmps16
    go_wp2_with (go_at_call 24; refine HP.out.mono ?_; rintro e w3 ⟨ rfl, hx3⟩)
    go_ret
    exact ⟨rfl, hx3.gr HG.out HB.out⟩
  · have hb : (cd == 0) = false := by simpa using hcd
    go_enter Try.func16, Try.ntmps16
    go_wp2_with (go_at_call 24; refine HP.out.mono ?_; rintro e w3 ⟨ rfl, hx3⟩)
    go_ret
    exact ⟨by rw [decide_eq_false hcd]; rfl, hx3.gr HG.out HB.out⟩
set_option maxRecDepth 100000 in
set_option maxHeartbeats 2000000 in
theorem succ1_any (r : Nat) (s2 : ByteArray) (p2 q2 : Nat) (v : Nat) (cd : Int) (W : Nat) (N H : Int) (Q : Nat) (w0 w : World) (hR : Rup w r s2 p2) (hg : Gr w0 w) (hr : w0.heap.size ≤ r) (hW : W % 5 = 1) (hQ : Q < 18446744073709551616) (h2 : rBelow s2 Q p2 = (v, cd, q2)) :
    Calls Try.prog 16 #[.pointer (some ⟨r, 0, none⟩), .agg #[.int .u8 (W : Nat), .int .i64 N, .int .i64 H, .int .u64 (Q : Nat)]] w (fun e w' => e = .returned (.bool (decide (cd = 0))) ∧ Gr w0 w') := by
  have ht : (W : Int).tmod 5 = 1 := by rw [Int.tmod_eq_emod_of_nonneg (by omega)]; omega
  have HB := Lib.hid hr
  have HG1 := Lib.hid (Gr.new w (.cells #[.int .u8 (W : Nat), .int .i64 N, .int .i64 H, .int .u64 (Q : Nat)] 31))
  have HR := Lib.hid (hR.later HG1.out)
  have HG := Lib.hid (Gr.trans hg HG1.out)
  have HP := Lib.hid (show Calls _ _ _ (w.alloc (.cells #[.int .u8 (W : Nat), .int .i64 N, .int .i64 H, .int .u64 (Q : Nat)] 31)) (fun e w' => e = .returned (.tuple #[.int .u64 (v : Nat), .int .i64 cd]) ∧ Ex r (w.alloc (.cells #[.int .u8 (W : Nat), .int .i64 N, .int .i64 H, .int .u64 (Q : Nat)] 31)) w') from (rBelow_any r s2 p2 Q _ HR.out hQ).mono (by rintro e w' ⟨he, hs, hx'⟩; rw [h2] at he; exact ⟨he, hx'⟩))
  have hcd : cd = 0 ∨ ¬ cd = 0 := Classical.em _
  clear hR hg hr hW hQ h2
  rcases hcd with hcd | hcd
  · subst hcd
    go_enter Try.func16, Try.ntmps16
    go_wp2_with (go_at_call 25; refine HP.out.mono ?_; rintro e w3 ⟨ rfl, hx3⟩)
    go_ret
    exact ⟨rfl, hx3.gr HG.out HB.out⟩
  · have hb : (cd == 0) = false := by simpa using hcd
    go_enter Try.func16, Try.ntmps16
    go_wp2_with (go_at_call 25; refine HP.out.mono ?_; rintro e w3 ⟨ rfl, hx3⟩)
    go_ret
    exact ⟨by rw [decide_eq_false hcd]; rfl, hx3.gr HG.out HB.out⟩
set_option maxRecDepth 100000 in
set_option maxHeartbeats 2000000 in
theorem succ2_any (r : Nat) (s2 : ByteArray) (p2 q2 : Nat) (v : List Int) (cd : Int) (W : Nat) (N H : Int) (Q : Nat) (w0 w : World) (hR : Rup w r s2 p2) (hg : Gr w0 w) (hr : w0.heap.size ≤ r) (hW : W % 5 = 2) (hQ : Q < 18446744073709551616) (h2 : rUni s2 N (Q % 4294967296) p2 = (v, cd, q2)) :
    Calls Try.prog 16 #[.pointer (some ⟨r, 0, none⟩), .agg #[.int .u8 (W : Nat), .int .i64 N, .int .i64 H, .int .u64 (Q : Nat)]] w (fun e w' => e = .returned (.bool (decide (cd = 0))) ∧ Gr w0 w') := by
  have ht : (W : Int).tmod 5 = 2 := by rw [Int.tmod_eq_emod_of_nonneg (by omega)]; omega
  have HB := Lib.hid hr
  obtain ⟨R, hR0⟩ : ∃ R : Nat, R = Q % 4294967296 := ⟨_, rfl⟩
  have hR4 : R < 4294967296 := by omega
  have hconv : IntKind.u32.wrap (Q : Int) = (R : Int) := by rw [IntKind.wrap_u32]; omega
  rw [← hR0] at h2
  clear hR0
  have HG1 := Lib.hid (Gr.new w (.cells #[.int .u8 (W : Nat), .int .i64 N, .int .i64 H, .int .u64 (Q : Nat)] 31))
  have HR := Lib.hid (hR.later HG1.out)
  have HG := Lib.hid (Gr.trans hg HG1.out)
  have HP := Lib.hid (show Calls _ _ _ (w.alloc (.cells #[.int .u8 (W : Nat), .int .i64 N, .int .i64 H, .int .u64 (Q : Nat)] 31)) (fun e w' => ∃ a m k, e = .returned (.tuple #[.slice a m k, .int .i64 cd]) ∧ Ex r (w.alloc (.cells #[.int .u8 (W : Nat), .int .i64 N, .int .i64 H, .int .u64 (Q : Nat)] 31)) w') from (rUniform_any r s2 p2 N R _ HR.out hR4).mono (by rintro e w' ⟨a, m, k, he, hq, _, hs, hx'⟩; rw [h2] at he; exact ⟨a, m, k, he, hx'⟩))
  have hcd : cd = 0 ∨ ¬ cd = 0 := Classical.em _
  clear hR hg hr hW hQ h2
  rcases hcd with hcd | hcd
  · subst hcd
    go_enter Try.func16, Try.ntmps16
    go_wp2_with (go_at_call 26; refine HP.out.mono ?_; rintro e w3 ⟨a, m, k, rfl, hx3⟩)
    go_ret
    exact ⟨rfl, hx3.gr HG.out HB.out⟩
  · have hb : (cd == 0) = false := by simpa using hcd
    go_enter Try.func16, Try.ntmps16
    go_wp2_with (go_at_call 26; refine HP.out.mono ?_; rintro e w3 ⟨a, m, k, rfl, hx3⟩)
    go_ret
    exact ⟨by rw [decide_eq_false hcd]; rfl, hx3.gr HG.out HB.out⟩
set_option maxRecDepth 100000 in
set_option maxHeartbeats 2000000 in
theorem succ3_any (r : Nat) (s2 : ByteArray) (p2 q2 : Nat) (v : List Int) (cd : Int) (W : Nat) (N H : Int) (Q : Nat) (w0 w : World) (hR : Rup w r s2 p2) (hg : Gr w0 w) (hr : w0.heap.size ≤ r) (hW : W % 5 = 3) (hQ : Q < 18446744073709551616) (h2 : rTern s2 N H p2 = (v, cd, q2)) :
    Calls Try.prog 16 #[.pointer (some ⟨r, 0, none⟩), .agg #[.int .u8 (W : Nat), .int .i64 N, .int .i64 H, .int .u64 (Q : Nat)]] w (fun e w' => e = .returned (.bool (decide (cd = 0))) ∧ Gr w0 w') := by
  have ht : (W : Int).tmod 5 = 3 := by rw [Int.tmod_eq_emod_of_nonneg (by omega)]; omega
  have HB := Lib.hid hr
  have HG1 := Lib.hid (Gr.new w (.cells #[.int .u8 (W : Nat), .int .i64 N, .int .i64 H, .int .u64 (Q : Nat)] 31))
  have HR := Lib.hid (hR.later HG1.out)
  have HG := Lib.hid (Gr.trans hg HG1.out)
  have HP := Lib.hid (show Calls _ _ _ (w.alloc (.cells #[.int .u8 (W : Nat), .int .i64 N, .int .i64 H, .int .u64 (Q : Nat)] 31)) (fun e w' => ∃ a m k, e = .returned (.tuple #[.slice a m k, .int .i64 cd]) ∧ Ex r (w.alloc (.cells #[.int .u8 (W : Nat), .int .i64 N, .int .i64 H, .int .u64 (Q : Nat)] 31)) w') from (rTernary_any r s2 p2 N H _ HR.out).mono (by rintro e w' ⟨a, m, k, he, hq, _, hs, hx'⟩; rw [h2] at he; exact ⟨a, m, k, he, hx'⟩))
  have hcd : cd = 0 ∨ ¬ cd = 0 := Classical.em _
  clear hR hg hr hW hQ h2
  rcases hcd with hcd | hcd
  · subst hcd
    go_enter Try.func16, Try.ntmps16
    go_wp2_with (go_at_call 28; refine HP.out.mono ?_; rintro e w3 ⟨a, m, k, rfl, hx3⟩)
    go_ret
    exact ⟨rfl, hx3.gr HG.out HB.out⟩
  · have hb : (cd == 0) = false := by simpa using hcd
    go_enter Try.func16, Try.ntmps16
    go_wp2_with (go_at_call 28; refine HP.out.mono ?_; rintro e w3 ⟨a, m, k, rfl, hx3⟩)
    go_ret
    exact ⟨by rw [decide_eq_false hcd]; rfl, hx3.gr HG.out HB.out⟩
set_option maxRecDepth 100000 in
set_option maxHeartbeats 2000000 in
theorem succ4_any (r : Nat) (s2 : ByteArray) (p2 q2 : Nat) (v : List Int) (cd : Int) (W : Nat) (N H : Int) (Q : Nat) (w0 w : World) (hR : Rup w r s2 p2) (hg : Gr w0 w) (hr : w0.heap.size ≤ r) (hW : W % 5 = 4) (hQ : Q < 18446744073709551616) (h2 : rBnd s2 N (Q % 4294967296) p2 = (v, cd, q2)) :
    Calls Try.prog 16 #[.pointer (some ⟨r, 0, none⟩), .agg #[.int .u8 (W : Nat), .int .i64 N, .int .i64 H, .int .u64 (Q : Nat)]] w (fun e w' => e = .returned (.bool (decide (cd = 0))) ∧ Gr w0 w') := by
  have ht : (W : Int).tmod 5 = 4 := by rw [Int.tmod_eq_emod_of_nonneg (by omega)]; omega
  have HB := Lib.hid hr
  obtain ⟨R, hR0⟩ : ∃ R : Nat, R = Q % 4294967296 := ⟨_, rfl⟩
  have hR4 : R < 4294967296 := by omega
  have hconv : IntKind.u32.wrap (Q : Int) = (R : Int) := by rw [IntKind.wrap_u32]; omega
  rw [← hR0] at h2
  clear hR0
  have HG1 := Lib.hid (Gr.new w (.cells #[.int .u8 (W : Nat), .int .i64 N, .int .i64 H, .int .u64 (Q : Nat)] 31))
  have HR := Lib.hid (hR.later HG1.out)
  have HG := Lib.hid (Gr.trans hg HG1.out)
  have HP := Lib.hid (show Calls _ _ _ (w.alloc (.cells #[.int .u8 (W : Nat), .int .i64 N, .int .i64 H, .int .u64 (Q : Nat)] 31)) (fun e w' => ∃ a m k, e = .returned (.tuple #[.slice a m k, .int .i64 cd]) ∧ Ex r (w.alloc (.cells #[.int .u8 (W : Nat), .int .i64 N, .int .i64 H, .int .u64 (Q : Nat)] 31)) w') from (rBounded_any r s2 p2 N R _ HR.out hR4).mono (by rintro e w' ⟨a, m, k, he, hq, _, hs, hx'⟩; rw [h2] at he; exact ⟨a, m, k, he, hx'⟩))
  have hcd : cd = 0 ∨ ¬ cd = 0 := Classical.em _
  clear hR hg hr hW hQ h2
  rcases hcd with hcd | hcd
  · subst hcd
    go_enter Try.func16, Try.ntmps16
    go_wp2_with (go_at_call 29; refine HP.out.mono ?_; rintro e w3 ⟨a, m, k, rfl, hx3⟩)
    go_ret
    exact ⟨rfl, hx3.gr HG.out HB.out⟩
  · have hb : (cd == 0) = false := by simpa using hcd
    go_enter Try.func16, Try.ntmps16
    go_wp2_with (go_at_call 29; refine HP.out.mono ?_; rintro e w3 ⟨a, m, k, rfl, hx3⟩)
    go_ret
    exact ⟨by rw [decide_eq_false hcd]; rfl, hx3.gr HG.out HB.out⟩
end Go.Proofs.Ytmankcmmlcfbaaa
