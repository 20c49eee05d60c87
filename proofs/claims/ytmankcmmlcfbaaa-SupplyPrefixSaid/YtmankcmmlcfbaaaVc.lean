/- The program: whether New returned it; how many bits are left, how many are taken; the function that takes bits. -/
import Derived.Test.YtmankcmmlcfbaaaVb
import Derived.Deep.RegionHeld3
import Derived.LaidEqlPtr
namespace Go.Proofs.Ytmankcmmlcfbaaa
open Go.RowKit Ov
set_option linter.unusedVariables false

theorem seql_self (w : World) (a : Addr) : (binOp .eql 24 (.pointer (some a)) (.pointer (some a))).run Try.prog w = .ok (.bool true) w := by
  obtain ⟨j, hj⟩ : ∃ j, Try.prog.info? 53 = some j := Option.isSome_iff_exists.1 (by kernel_rfl)
  exact run_eql_ptr_same w a Try.underlying24 hj
theorem seql_none (w : World) (a : Addr) : (binOp .eql 24 (.pointer none) (.pointer (some a))).run Try.prog w = .ok (.bool false) w := by
  have h : ∀ d : Nat, (Op.equalIn (d + 1) 24 (.pointer none) (.pointer (some a))).run Try.prog w = .ok false w := fun d => by
    simp [Op.equalIn, run_underlying Try.underlying24]
  simp only [binOp]
  simp [Op.equal, Op.maxDepth, h 9999]
theorem made_any (b g c : Nat) (s : ByteArray) (p : Nat) (w : World) (h : Sup w b g c s p) : Calls Try.prog 31 #[.pointer (some ⟨b, 0, none⟩)] w (fun e w' => e = .returned (.bool true) ∧ w' = w) := by
  have c2 := h.c2
  clear h
  have hq := fun w => seql_self w ⟨b, 0, none⟩
  go_enter Try.func31, Try.ntmps31
  go_wp2_with fail
  go_ret
  exact ⟨rfl, rfl⟩
theorem made_none (w : World) : Calls Try.prog 31 #[.pointer none] w (fun e w' => e = .returned (.bool false) ∧ w' = w) := by
  go_enter Try.func31, Try.ntmps31
  go_wp2_with fail
  go_ret
  exact ⟨rfl, rfl⟩
theorem made_zero (b : Nat) (w : World) (h : w.cell? ⟨b, 2, none⟩ = some (.pointer none)) : Calls Try.prog 31 #[.pointer (some ⟨b, 0, none⟩)] w (fun e w' => e = .returned (.bool false) ∧ w' = w) := by
  have hq := fun w => seql_none w ⟨b, 0, none⟩
  go_enter Try.func31, Try.ntmps31
  go_wp2_with fail
  go_ret
  exact ⟨rfl, rfl⟩
theorem taken_any (b g c : Nat) (s : ByteArray) (p : Nat) (w : World) (h : Sup w b g c s p) : Calls Try.prog 13 #[.pointer (some ⟨b, 0, none⟩)] w (fun e w' => e = .returned (.int .i64 p) ∧ w' = w) := by
  have c1 := h.c1
  have H := Lib.hid h
  clear h
  go_enter Try.func13, Try.ntmps13
  go_wp2_with (go_at_call 31; refine (made_any b g c s p w H.out).mono ?_; rintro e w' ⟨rfl, rfl⟩)
  go_ret
  exact ⟨rfl, rfl⟩
theorem left_any (b g c : Nat) (s : ByteArray) (p : Nat) (w : World) (h : Sup w b g c s p) : Calls Try.prog 11 #[.pointer (some ⟨b, 0, none⟩)] w (fun e w' => e = .returned (.int .i64 ((nbits s : Nat) - (p : Nat) : Int)) ∧ Gr w w') := by
  have c0 := h.c0
  have c1 := h.c1
  have hp := h.place
  have hl := h.len
  obtain ⟨n, hn⟩ : ∃ n, n = s.size := ⟨_, rfl⟩
  have hnb : nbits s = 8 * n := by unfold nbits; omega
  have H := Lib.hid h
  clear h
  rw [hnb] at hp ⊢
  rw [← hn] at c0 hl
  have HN := Lib.hid hn
  clear hn hnb
  go_enter Try.func11, Try.ntmps11
  go_wp2_with (go_at_call 31; refine (made_any b g c s p w H.out).mono ?_; rintro e w' ⟨rfl, rfl⟩)
  go_region
  go_wp2_with fail
  go_ret
  refine ⟨by first | rfl | (congr 2; omega), (Gr.refl _).drewN 1⟩
end Go.Proofs.Ytmankcmmlcfbaaa
