/- The methods of what is no supply. -/
import Derived.Test.YtmankcmmlcfbaaaVr
namespace Go.Proofs.Ytmankcmmlcfbaaa
open Go.RowKit Ov
set_option linter.unusedVariables false
/-- New did not return it. -/
def NotSup (x : Option Addr) (w : World) : Prop := ∀ w', Gr w w' → Calls Try.prog 31 #[.pointer x] w' (fun e w2 => e = .returned (.bool false) ∧ w2 = w')
theorem NotSup.later {x : Option Addr} {w w' : World} (h : NotSup x w) (g : Gr w w') : NotSup x w' := fun w2 k => h w2 (Gr.trans g k)
theorem notSup_nil (w : World) : NotSup none w := fun w' _ => made_none w'
theorem notSup_zero (b : Nat) (w : World) (h : w.cell? ⟨b, 2, none⟩ = some (.pointer none)) : NotSup (some ⟨b, 0, none⟩) w := fun w' g => made_zero b w' (g.keeps h)
theorem nTaken_any (x : Option Addr) (w : World) (h : NotSup x w) : Calls Try.prog 13 #[.pointer x] w (fun e w' => e = .returned (.int .i64 0) ∧ w' = w) := by
  have H := Lib.hid (h w (Gr.refl w))
  clear h
  go_enter Try.func13, Try.ntmps13
  go_wp2_with (go_at_call 31; refine H.out.mono ?_; rintro e w1 ⟨he, hw⟩; subst he; subst hw)
  go_ret
  exact ⟨rfl, rfl⟩
theorem nLeft_any (x : Option Addr) (w : World) (h : NotSup x w) : Calls Try.prog 11 #[.pointer x] w (fun e w' => e = .returned (.int .i64 0) ∧ w' = w) := by
  have H := Lib.hid (h w (Gr.refl w))
  clear h
  go_enter Try.func11, Try.ntmps11
  go_wp2_with (go_at_call 31; refine H.out.mono ?_; rintro e w1 ⟨he, hw⟩; subst he; subst hw)
  go_ret
  exact ⟨rfl, rfl⟩
set_option maxRecDepth 100000 in
theorem nBits_any (x : Option Addr) (n : Int) (w : World) (h : NotSup x w) : Calls Try.prog 21 #[.pointer x, .int .i64 n] w (fun e w' => e = .returned (.tuple #[.int .u64 0, .int .i64 1]) ∧ Gr w w') := by
  have hmf : ∀ (fn : Fn) (first cap : Array Value) (w : World), (Instr.makeFunc fn first cap).run Try.prog w = .ok (.func fn first cap) w := fun _ _ _ _ => rfl
  have HD := Lib.hid (fun val F w1 (hg : Gr w w1) => drawnilu_any x val F w1 (h.later hg))
  have HG := Lib.hid (show Gr w (w.alloc (.cells #[.int .i64 n] 3)) from Gr.new w _)
  clear h
  have hc : n < 1 ∨ (1 ≤ n ∧ n ≤ 64) ∨ (1 ≤ n ∧ ¬ n ≤ 64) := by omega
  rcases hc with hc | ⟨hc1, hc2⟩ | ⟨hc1, hc2⟩
  all_goals
    go_enter Try.func21, Try.ntmps21
    go_wp2_with (go_at_call 32; refine (HD.out _ _ _ HG.out).mono ?_; rintro e w2 ⟨rfl, hg2⟩)
    go_ret2
    exact ⟨rfl, Gr.trans HG.out hg2⟩
set_option maxRecDepth 100000 in
theorem nBelow_any (x : Option Addr) (n : Int) (w : World) (h : NotSup x w) : Calls Try.prog 18 #[.pointer x, .int .u64 n] w (fun e w' => e = .returned (.tuple #[.int .u64 0, .int .i64 1]) ∧ Gr w w') := by
  have hmf : ∀ (fn : Fn) (first cap : Array Value) (w : World), (Instr.makeFunc fn first cap).run Try.prog w = .ok (.func fn first cap) w := fun _ _ _ _ => rfl
  have HD := Lib.hid (fun val F w1 (hg : Gr w w1) => drawnilu_any x val F w1 (h.later hg))
  have HG := Lib.hid (show Gr w (w.alloc (.cells #[.int .u64 n] 29)) from Gr.new w _)
  clear h
  have hc : 0 < n ∨ ¬ 0 < n := Classical.em _
  rcases hc with hc | hc
  all_goals
    go_enter Try.func18, Try.ntmps18
    go_wp2_with (go_at_call 32; refine (HD.out _ _ _ HG.out).mono ?_; rintro e w2 ⟨rfl, hg2⟩)
    go_ret2
    exact ⟨rfl, Gr.trans HG.out hg2⟩
set_option maxRecDepth 100000 in
theorem nUniform_any (x : Option Addr) (n q : Int) (w : World) (h : NotSup x w) : Calls Try.prog 22 #[.pointer x, .int .i64 n, .int .u32 q] w (fun e w' => e = .returned (.tuple #[.slice none 0 0, .int .i64 1]) ∧ Gr w w') := by
  have hmf : ∀ (fn : Fn) (first cap : Array Value) (w : World), (Instr.makeFunc fn first cap).run Try.prog w = .ok (.func fn first cap) w := fun _ _ _ _ => rfl
  have HD := Lib.hid (fun val F w1 (hg : Gr w w1) => drawnilw_any x val F w1 (h.later hg))
  have HG := Lib.hid (show Gr w ((w.alloc (.cells #[.int .i64 n] 3)).alloc (.cells #[.int .u32 q] 49)) from (Gr.new w _).alloc _)
  clear h
  have hc : n < 0 ∨ (0 ≤ n ∧ ¬ n ≤ 4096) ∨ (0 ≤ n ∧ n ≤ 4096 ∧ 0 < q) ∨ (0 ≤ n ∧ n ≤ 4096 ∧ ¬ 0 < q) := by omega
  rcases hc with hc | ⟨hc1, hc2⟩ | ⟨hc1, hc2, hc3⟩ | ⟨hc1, hc2, hc3⟩
  all_goals
    go_enter Try.func22, Try.ntmps22
    go_wp2_with (go_at_call 43; refine (HD.out _ _ _ HG.out).mono ?_; rintro e w2 ⟨rfl, hg2⟩)
    go_ret2
    exact ⟨rfl, Gr.trans HG.out hg2⟩
set_option maxRecDepth 100000 in
theorem nBounded_any (x : Option Addr) (n q : Int) (w : World) (h : NotSup x w) : Calls Try.prog 20 #[.pointer x, .int .i64 n, .int .u32 q] w (fun e w' => e = .returned (.tuple #[.slice none 0 0, .int .i64 1]) ∧ Gr w w') := by
  have hmf : ∀ (fn : Fn) (first cap : Array Value) (w : World), (Instr.makeFunc fn first cap).run Try.prog w = .ok (.func fn first cap) w := fun _ _ _ _ => rfl
  have HD := Lib.hid (fun val F w1 (hg : Gr w w1) => drawnilo_any x val F w1 (h.later hg))
  have HG := Lib.hid (show Gr w ((w.alloc (.cells #[.int .i64 n] 3)).alloc (.cells #[.int .u32 q] 49)) from (Gr.new w _).alloc _)
  clear h
  have hc : n < 0 ∨ (0 ≤ n ∧ ¬ n ≤ 4096) ∨ (0 ≤ n ∧ n ≤ 4096 ∧ q ≤ 2147483647) ∨ (0 ≤ n ∧ n ≤ 4096 ∧ ¬ q ≤ 2147483647) := by omega
  rcases hc with hc | ⟨hc1, hc2⟩ | ⟨hc1, hc2, hc3⟩ | ⟨hc1, hc2, hc3⟩
  all_goals
    go_enter Try.func20, Try.ntmps20
    go_wp2_with (go_at_call 38; refine (HD.out _ _ _ HG.out).mono ?_; rintro e w2 ⟨rfl, hg2⟩)
    go_ret2
    exact ⟨rfl, Gr.trans HG.out hg2⟩
set_option maxRecDepth 100000 in
theorem nTernary_any (x : Option Addr) (n q : Int) (w : World) (h : NotSup x w) : Calls Try.prog 19 #[.pointer x, .int .i64 n, .int .i64 q] w (fun e w' => e = .returned (.tuple #[.slice none 0 0, .int .i64 1]) ∧ Gr w w') := by
  have hmf : ∀ (fn : Fn) (first cap : Array Value) (w : World), (Instr.makeFunc fn first cap).run Try.prog w = .ok (.func fn first cap) w := fun _ _ _ _ => rfl
  have HD := Lib.hid (fun val F w1 (hg : Gr w w1) => drawnil8_any x val F w1 (h.later hg))
  have HG := Lib.hid (show Gr w ((w.alloc (.cells #[.int .i64 n] 3)).alloc (.cells #[.int .i64 q] 3)) from (Gr.new w _).alloc _)
  clear h
  have hc : n < 1 ∨ (1 ≤ n ∧ ¬ n ≤ 4096) ∨ (1 ≤ n ∧ n ≤ 4096 ∧ q < 0) ∨ (1 ≤ n ∧ n ≤ 4096 ∧ 0 ≤ q ∧ q ≤ n) ∨ (1 ≤ n ∧ n ≤ 4096 ∧ 0 ≤ q ∧ ¬ q ≤ n) := by omega
  rcases hc with hc | ⟨hc1, hc2⟩ | ⟨hc1, hc2, hc3⟩ | ⟨hc1, hc2, hc3, hc4⟩ | ⟨hc1, hc2, hc3, hc4⟩
  all_goals
    go_enter Try.func19, Try.ntmps19
    go_wp2_with (go_at_call 35; refine (HD.out _ _ _ HG.out).mono ?_; rintro e w2 ⟨rfl, hg2⟩)
    go_ret2
    exact ⟨rfl, Gr.trans HG.out hg2⟩
end Go.Proofs.Ytmankcmmlcfbaaa
