/- Equal lists are found to be equal. -/
import Derived.Test.YtmankcmmlcfbaaaL8
import Derived.Test.YtmankcmmlcfbaaaLw
import Derived.Test.YtmankcmmlcfbaaaLo
namespace Go.Proofs.Ytmankcmmlcfbaaa
open Go.RowKit
set_option linter.unusedVariables false
set_option maxRecDepth 100000 in
set_option maxHeartbeats 1000000 in
theorem sameL8_any (x y : Value) (l : List Int) (w : World) (hx : L8.HasQ w x l) (hy : L8.HasQ w y l) : Calls Try.prog 23 #[x, y] w (Truth w) := by
  have HX := Lib.hid hx
  have HY := Lib.hid hy
  obtain ⟨_, ax, cx, rfl, x1, x2, -⟩ := hx
  obtain ⟨_, ay, cy, rfl, y1, y2, -⟩ := hy
  obtain ⟨n, hn⟩ : ∃ n, n = l.length := ⟨_, rfl⟩
  rw [← hn] at x1 y1 HX HY ⊢
  have hn2 : n ≤ 9223372036854775807 := by omega
  have HN := Lib.hid hn
  clear hn
  go_enter Try.func23, Try.ntmps23
  go_wp2_with fail
  go_loopw [5] (fun t wr => ∃ (k : Nat), t = .int .i64 (k : Nat) ∧ k ≤ n ∧ Gr w wr) (fun t _ => n - (intOf t).toNat)
  case atStart => exact ⟨0, rfl, by omega, Gr.refl w⟩
  case round =>
    obtain ⟨k, rfl, hk, hg⟩ := hrel
    have HG := Lib.hid hg
    have hcase : k < n ∨ ¬ k < n := Classical.em _
    rcases hcase with hc | hc
    · have hci : (k : Int) < (n : Int) := by omega
      obtain ⟨_, _, _, e1, -, -, f1⟩ := HX.out
      obtain ⟨g1, o1, rfl, z1⟩ := f1 k (by rw [← HN.out]; exact hc)
      obtain ⟨_, _, _, e2, -, -, f2⟩ := HY.out
      obtain ⟨g2, o2, rfl, z2⟩ := f2 k (by rw [← HN.out]; exact hc)
      simp only [Value.slice.injEq] at e1 e2
      obtain ⟨rfl, -, -⟩ := e1
      obtain ⟨rfl, -, -⟩ := e2
      clear f1 f2
      have z1' := hg.keeps z1
      have z2' := hg.keeps z2
      clear z1 z2 hg
      generalize Op.cf l k = v at z1' z2'
      go_wp2_with fail
      go_region
      go_wp2_with fail
      go_roundw
      case rel => exact ⟨k + 1, by simp, by omega, Below.drew HG.out⟩
      case measure => simp [intOf]; omega
    · obtain rfl : n = k := by omega
      clear hg
      go_wp2_with fail
      go_ret
      exact ⟨rfl, HG.out⟩
set_option maxRecDepth 100000 in
set_option maxHeartbeats 1000000 in
theorem sameLw_any (x y : Value) (l : List Int) (w : World) (hx : Lw.HasQ w x l) (hy : Lw.HasQ w y l) : Calls Try.prog 27 #[x, y] w (Truth w) := by
  have HX := Lib.hid hx
  have HY := Lib.hid hy
  obtain ⟨_, ax, cx, rfl, x1, x2, -⟩ := hx
  obtain ⟨_, ay, cy, rfl, y1, y2, -⟩ := hy
  obtain ⟨n, hn⟩ : ∃ n, n = l.length := ⟨_, rfl⟩
  rw [← hn] at x1 y1 HX HY ⊢
  have hn2 : n ≤ 9223372036854775807 := by omega
  have HN := Lib.hid hn
  clear hn
  go_enter Try.func27, Try.ntmps27
  go_wp2_with fail
  go_loopw [5] (fun t wr => ∃ (k : Nat), t = .int .i64 (k : Nat) ∧ k ≤ n ∧ Gr w wr) (fun t _ => n - (intOf t).toNat)
  case atStart => exact ⟨0, rfl, by omega, Gr.refl w⟩
  case round =>
    obtain ⟨k, rfl, hk, hg⟩ := hrel
    have HG := Lib.hid hg
    have hcase : k < n ∨ ¬ k < n := Classical.em _
    rcases hcase with hc | hc
    · have hci : (k : Int) < (n : Int) := by omega
      obtain ⟨_, _, _, e1, -, -, f1⟩ := HX.out
      obtain ⟨g1, o1, rfl, z1⟩ := f1 k (by rw [← HN.out]; exact hc)
      obtain ⟨_, _, _, e2, -, -, f2⟩ := HY.out
      obtain ⟨g2, o2, rfl, z2⟩ := f2 k (by rw [← HN.out]; exact hc)
      simp only [Value.slice.injEq] at e1 e2
      obtain ⟨rfl, -, -⟩ := e1
      obtain ⟨rfl, -, -⟩ := e2
      clear f1 f2
      have z1' := hg.keeps z1
      have z2' := hg.keeps z2
      clear z1 z2 hg
      generalize Op.cf l k = v at z1' z2'
      go_wp2_with fail
      go_region
      go_wp2_with fail
      go_roundw
      case rel => exact ⟨k + 1, by simp, by omega, Below.drew HG.out⟩
      case measure => simp [intOf]; omega
    · obtain rfl : n = k := by omega
      clear hg
      go_wp2_with fail
      go_ret
      exact ⟨rfl, HG.out⟩
set_option maxRecDepth 100000 in
set_option maxHeartbeats 1000000 in
theorem sameLo_any (x y : Value) (l : List Int) (w : World) (hx : Lo.HasQ w x l) (hy : Lo.HasQ w y l) : Calls Try.prog 30 #[x, y] w (Truth w) := by
  have HX := Lib.hid hx
  have HY := Lib.hid hy
  obtain ⟨_, ax, cx, rfl, x1, x2, -⟩ := hx
  obtain ⟨_, ay, cy, rfl, y1, y2, -⟩ := hy
  obtain ⟨n, hn⟩ : ∃ n, n = l.length := ⟨_, rfl⟩
  rw [← hn] at x1 y1 HX HY ⊢
  have hn2 : n ≤ 9223372036854775807 := by omega
  have HN := Lib.hid hn
  clear hn
  go_enter Try.func30, Try.ntmps30
  go_wp2_with fail
  go_loopw [5] (fun t wr => ∃ (k : Nat), t = .int .i64 (k : Nat) ∧ k ≤ n ∧ Gr w wr) (fun t _ => n - (intOf t).toNat)
  case atStart => exact ⟨0, rfl, by omega, Gr.refl w⟩
  case round =>
    obtain ⟨k, rfl, hk, hg⟩ := hrel
    have HG := Lib.hid hg
    have hcase : k < n ∨ ¬ k < n := Classical.em _
    rcases hcase with hc | hc
    · have hci : (k : Int) < (n : Int) := by omega
      obtain ⟨_, _, _, e1, -, -, f1⟩ := HX.out
      obtain ⟨g1, o1, rfl, z1⟩ := f1 k (by rw [← HN.out]; exact hc)
      obtain ⟨_, _, _, e2, -, -, f2⟩ := HY.out
      obtain ⟨g2, o2, rfl, z2⟩ := f2 k (by rw [← HN.out]; exact hc)
      simp only [Value.slice.injEq] at e1 e2
      obtain ⟨rfl, -, -⟩ := e1
      obtain ⟨rfl, -, -⟩ := e2
      clear f1 f2
      have z1' := hg.keeps z1
      have z2' := hg.keeps z2
      clear z1 z2 hg
      generalize Op.cf l k = v at z1' z2'
      go_wp2_with fail
      go_region
      go_wp2_with fail
      go_roundw
      case rel => exact ⟨k + 1, by simp, by omega, Below.drew HG.out⟩
      case measure => simp [intOf]; omega
    · obtain rfl : n = k := by omega
      clear hg
      go_wp2_with fail
      go_ret
      exact ⟨rfl, HG.out⟩
end Go.Proofs.Ytmankcmmlcfbaaa
