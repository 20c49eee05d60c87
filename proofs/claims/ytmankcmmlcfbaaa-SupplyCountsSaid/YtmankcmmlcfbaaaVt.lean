/- The law SupplyNone. -/
import Derived.Test.YtmankcmmlcfbaaaVs
import Derived.Test.YtmankcmmlcfbaaaL8
namespace Go.Proofs.Ytmankcmmlcfbaaa
open Go.RowKit Ov
set_option linter.unusedVariables false
theorem infoU8 : (Try.prog.info? 5).map (fun i => (i.zero, i.size, i.bytes)) = some (some (.int .u8 0), 1, 1) := by kernel_rfl
theorem mk_bytes (n : Nat) (L : Int) (hL : L = n) (hn : n ≤ 2000000) (w : World) : (Instr.makeSlice 39 (.int .i64 L) (.int .i64 L)).run Try.prog w = .ok (.slice (some ⟨w.heap.size, 0, none⟩) n n) (w.alloc (.cells (madeCells #[.int .u8 0] n) 5)) := by
  obtain ⟨i0, hi, hz0, hz1, hz2⟩ := info_parts infoU8
  subst hL
  have := run_make (P := Try.prog) w 39 5 i0 (.int .u8 0) Try.underlying39 hi hz0 .i64 .i64 (n : Int) (n : Int) (by omega) (Int.le_refl _) (by rw [hz2]; omega) (by omega)
  rw [this, hz1, Int.toNat_natCast, Nat.mul_one]
  rfl
theorem zeros_string (n : Nat) (w : World) (g : Nat) (hg : g = w.heap.size) : (convert 39 9 (.slice (some ⟨g, 0, none⟩) n n)).run Try.prog (w.alloc (.cells (madeCells #[.int .u8 0] n) 5)) = .ok (.string ⟨(List.replicate n (0 : UInt8)).toArray⟩) (w.alloc (.cells (madeCells #[.int .u8 0] n) 5)) := by
  subst hg
  have h := run_convert_bytes_back (w.alloc (.cells (madeCells #[.int .u8 0] n) 5)) 39 9 5 ⟨w.heap.size, 0, none⟩ n (List.replicate n (0 : UInt8)) Try.underlying39 Try.underlying5 Try.underlying9 (fun j hj => by
    rw [List.length_replicate] at hj
    rw [addr_add rfl ⟨w.heap.size, 0, none⟩ rfl, Nat.zero_add, cl_new]
    unfold madeCells
    rw [Array.getElem?_eq_getElem (by simpa using hj)]
    simp [Nat.mod_one])
  rw [List.length_replicate] at h
  exact h
set_option maxRecDepth 100000 in
set_option maxHeartbeats 4000000 in
theorem none_law (n q : Int) (w : World) (hq : 0 ≤ q ∧ q < 18446744073709551616) : Calls Try.prog 6 #[.int .i64 n, .int .u64 q] w (Truth w) := by
  obtain ⟨N, hN⟩ : ∃ N, N = 1048577 := ⟨_, rfl⟩
  have hNi : (1048577 : Int) = (N : Int) := by omega
  have HN := Lib.hid hN
  have hmk : ∀ w, (Instr.makeSlice 39 (.int .i64 1048577) (.int .i64 1048577)).run Try.prog w = .ok (.slice (some ⟨w.heap.size, 0, none⟩) N N) (w.alloc (.cells (madeCells #[.int .u8 0] N) 5)) := fun w => mk_bytes N 1048577 hNi (by omega) w
  have HMK := Lib.hid hmk
  have HCV := Lib.hid (fun w => zeros_string N w w.heap.size rfl)
  have HBIG := Lib.hid (fun w => pNew_big ⟨(List.replicate N (0 : UInt8)).toArray⟩ w (by show 1048576 < (List.replicate N (0 : UInt8)).toArray.size; simp; omega))
  clear hmk hN hNi
  obtain ⟨r, hr⟩ : ∃ r : Int, r = q % 4294967296 := ⟨_, rfl⟩
  have hconv : IntKind.u32.wrap q = r := by rw [hr]; exact IntKind.wrap_u32 q
  clear hr hq
  go_enter Try.func6, Try.ntmps6
  go_wp2_with fail
  have HW := Lib.hid (show Gr w ((w.alloc (Obj.cells #[Value.slice none 0 0, Value.int IntKind.i64 0, Value.pointer none] 53)).alloc (Obj.cells #[Value.pointer none, Value.pointer (some ⟨w.heap.size, 0, none⟩)] 54)) from (Gr.new w _).alloc _)
  have x0 := cl_new (w.alloc (Obj.cells #[Value.slice none 0 0, Value.int IntKind.i64 0, Value.pointer none] 53)) #[Value.pointer none, Value.pointer (some ⟨w.heap.size, 0, none⟩)] 54 0
  have x1 := cl_new (w.alloc (Obj.cells #[Value.slice none 0 0, Value.int IntKind.i64 0, Value.pointer none] 53)) #[Value.pointer none, Value.pointer (some ⟨w.heap.size, 0, none⟩)] 54 1
  have x2 := (Gr.new (w.alloc (Obj.cells #[Value.slice none 0 0, Value.int IntKind.i64 0, Value.pointer none] 53)) (Obj.cells #[Value.pointer none, Value.pointer (some ⟨w.heap.size, 0, none⟩)] 54)).keeps (show _ = some (.pointer none) from cl_new w #[Value.slice none 0 0, Value.int IntKind.i64 0, Value.pointer none] 53 2)
  rw [World.size_alloc] at x0 x1
  generalize ((w.alloc (Obj.cells #[Value.slice none 0 0, Value.int IntKind.i64 0, Value.pointer none] 53)).alloc (Obj.cells #[Value.pointer none, Value.pointer (some ⟨w.heap.size, 0, none⟩)] 54)) = W2 at HW x0 x1 x2 ⊢
  obtain ⟨A, hA⟩ : ∃ A, A = w.heap.size + 1 := ⟨_, rfl⟩
  rw [← hA] at x0 x1 ⊢
  have HX := Lib.hid (fun (k : Nat) (hk : k < 2) => show ∃ x : Option Addr, W2.cell? ⟨A, k, none⟩ = some (.pointer x) ∧ NotSup x W2 from by
    have : k = 0 ∨ k = 1 := by omega
    rcases this with rfl | rfl
    · exact ⟨none, x0, notSup_nil W2⟩
    · exact ⟨_, x1, notSup_zero _ W2 x2⟩)
  clear x0 x1 x2 hA
  go_loopw [6] (fun i wr => ∃ k : Nat, i = .int .i64 (k : Nat) ∧ k ≤ 2 ∧ Gr W2 wr) (fun i _ => 2 - (intOf i).toNat)
  case atStart => exact ⟨0, rfl, by omega, Gr.refl _⟩
  case round =>
    obtain ⟨k, rfl, hk, hg⟩ := hrel
    have HG0 := Lib.hid hg
    clear hg
    have hcase : k < 2 ∨ ¬ k < 2 := Classical.em _
    rcases hcase with hc | hc
    · have hki : (k : Int) < 2 := by omega
      obtain ⟨x, hx, hns⟩ := HX.out k hc
      have CX := Lib.hid hx
      have HNS := Lib.hid hns
      have c0 := HG0.out.keeps hx
      clear hx hns
      go_wp2_with (go_at_call 21; refine (nBits_any x n _ (HNS.out.later HG0.out)).mono ?_; rintro e w1 ⟨rfl, hg1⟩; (have HG1 := Lib.hid (Gr.trans HG0.out hg1)); (have c1 := HG1.out.keeps CX.out); clear hg1 c0)
      go_wp2_with (go_at_call 18; refine (nBelow_any x q _ (HNS.out.later HG1.out)).mono ?_; rintro e w2 ⟨rfl, hg2⟩; (have HG2 := Lib.hid (Gr.trans HG1.out hg2)); (have c2 := HG2.out.keeps CX.out); clear hg2 c1)
      go_wp2_with (go_at_call 22; refine (nUniform_any x n r _ (HNS.out.later HG2.out)).mono ?_; rintro e w3 ⟨rfl, hg3⟩; (have HG3 := Lib.hid (Gr.trans HG2.out hg3)); (have c3 := HG3.out.keeps CX.out); clear hg3 c2)
      go_wp2_with (go_at_call 19; refine (nTernary_any x n n _ (HNS.out.later HG3.out)).mono ?_; rintro e w4 ⟨rfl, hg4⟩; (have HG4 := Lib.hid (Gr.trans HG3.out hg4)); (have c4 := HG4.out.keeps CX.out); clear hg4 c3)
      go_wp2_with (go_at_call 20; refine (nBounded_any x n r _ (HNS.out.later HG4.out)).mono ?_; rintro e w5 ⟨rfl, hg5⟩; (have HG5 := Lib.hid (Gr.trans HG4.out hg5)); (have c5 := HG5.out.keeps CX.out); clear hg5 c4)
      go_wp2_with (go_at_call 11; refine (nLeft_any x _ (HNS.out.later HG5.out)).mono ?_; rintro e w6 ⟨he, hw⟩; subst he; subst hw)
      go_wp2_with (go_at_call 13; refine (nTaken_any x _ (HNS.out.later HG5.out)).mono ?_; rintro e w7 ⟨he, hw⟩; subst he; subst hw)
      go_roundw
      case rel => exact ⟨k + 1, by simp, by omega, HG5.out⟩
      case measure => simp [intOf]; omega
    · obtain rfl : 2 = k := by omega
      have hmk := HMK.out
      have hcv := HCV.out
      go_wp2_with (first | (go_at_call 8; refine (HBIG.out _).mono ?_; rintro e w6 ⟨he, hw⟩; subst he; subst hw) | (go_at_call 7; refine (shown_any _).mono ?_; rintro e w7 ⟨rfl, hg7⟩))
      go_ret
      exact ⟨rfl, Gr.trans HW.out (Gr.trans HG0.out (Gr.trans (Gr.new _ _) hg7))⟩
end Go.Proofs.Ytmankcmmlcfbaaa
