/- Chain of package primes. -/
import Derived.Test.YtdkpgocbdphneaaPf
import Derived.Test.YtdkpgocbdphneaaPg
namespace Go.Proofs.Ytdkpgocbdphneaa
open Go.RowKit Go.Shelf
set_option linter.unusedVariables false

set_option maxHeartbeats 1000000 in
theorem chain_bad (n : Int) (t : Nat) (c : Int) (w : World) (ht' : t ≤ 4294967295) (h : ¬ ChainOk n t c) :
    Calls Try.prog 13 #[.int .i64 n, .int .u32 t, .int .i64 c] w (ChainPost n t c w) := by
  have fin : ∀ w w' : World, Gr w w' → ChainPost n t c w (.returned (.tuple #[.slice none 0 0, .int .i64 2])) w' := fun w w' g => ⟨_, [], 2, rfl, HasW.nil w', .inl ⟨h, rfl, rfl⟩, g⟩
  have HF := Lib.hid fin
  clear fin
  by_cases hd : Dim n
  · have hh : ¬ (3 ≤ t ∧ t ≤ 2147483647 ∧ t % 2 = 1 ∧ 1 ≤ c ∧ c ≤ 25) := fun h' => h ⟨hd, h'⟩
    have HD := Lib.hid hd
    clear hd h
    by_cases h3 : t < 3
    · clear hh
      go_enter Try.func13, Try.ntmps13
      go_wp2_with fail
      refine (dim_any n _).mono ?_
      rintro e w1 ⟨r, rfl, hr, rfl⟩
      obtain rfl : r = true := hr.2 HD.out
      clear hr
      go_wp2_with fail
      go_ret2
      exact HF.out _ _ (Gr.new _ _)
    by_cases hm : 2147483647 < t
    · clear hh
      go_enter Try.func13, Try.ntmps13
      go_wp2_with fail
      refine (dim_any n _).mono ?_
      rintro e w1 ⟨r, rfl, hr, rfl⟩
      obtain rfl : r = true := hr.2 HD.out
      clear hr
      go_wp2_with fail
      go_ret2
      exact HF.out _ _ (Gr.new _ _)
    by_cases ho : t % 2 = 0
    · have t2 : ((t : Int) % 2 == 0) = true := by simp; omega
      clear hh ho
      go_enter Try.func13, Try.ntmps13
      go_wp2_with fail
      refine (dim_any n _).mono ?_
      rintro e w1 ⟨r, rfl, hr, rfl⟩
      obtain rfl : r = true := hr.2 HD.out
      clear hr
      go_wp2_with fail
      go_ret2
      exact HF.out _ _ (Gr.new _ _)
    have t2 : ((t : Int) % 2 == 0) = false := by simp; omega
    by_cases hc : c < 1
    · clear hh ho
      go_enter Try.func13, Try.ntmps13
      go_wp2_with fail
      refine (dim_any n _).mono ?_
      rintro e w1 ⟨r, rfl, hr, rfl⟩
      obtain rfl : r = true := hr.2 HD.out
      clear hr
      go_wp2_with fail
      go_ret2
      exact HF.out _ _ (Gr.new _ _)
    have hc2 : 25 < c := by omega
    clear hh ho
    go_enter Try.func13, Try.ntmps13
    go_wp2_with fail
    refine (dim_any n _).mono ?_
    rintro e w1 ⟨r, rfl, hr, rfl⟩
    obtain rfl : r = true := hr.2 HD.out
    clear hr
    go_wp2_with fail
    go_ret2
    exact HF.out _ _ (Gr.new _ _)
  · have HD := Lib.hid hd
    clear hd h
    go_enter Try.func13, Try.ntmps13
    go_wp2_with fail
    refine (dim_any n _).mono ?_
    rintro e w1 ⟨r, rfl, hr, rfl⟩
    obtain rfl : r = false := by cases r; rfl; exact absurd (hr.1 rfl) HD.out
    clear hr
    go_wp2_with fail
    go_ret2
    exact HF.out _ _ (Gr.new _ _)
end Go.Proofs.Ytdkpgocbdphneaa
