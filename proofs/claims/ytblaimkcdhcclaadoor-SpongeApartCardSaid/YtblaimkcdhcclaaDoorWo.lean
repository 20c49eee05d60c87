/- Functions of the kit: Pick, Long, SameStrings. -/
import Derived.Test.YtblaimkcdhcclaaDoorWn
namespace Go.Proofs.YtblaimkcdhcclaaDoor
open Go.RowKit Oz
set_option linter.unusedVariables false
set_option linter.unusedSimpArgs false
theorem wrap_nat {x : Int} {d : Nat} (e : x = d) (h : d < 9223372036854775808) : wrap64 x = d := by subst e; unfold wrap64; omega
theorem iwrap_nat {x : Int} {d : Nat} (e : x = d) (h : d < 9223372036854775808) : IntKind.i64.wrap x = d := by subst e; rw [IntKind.wrap_i64]; omega
theorem pick_any (n m : Int) (w : World) (hm : 1 ≤ m ∧ m ≤ 100000) (hn : -9223372036854775808 ≤ n ∧ n ≤ 9223372036854775807) : Calls Tryd.prog 20 #[.int .i64 n, .int .i64 m] w (fun e w' => (∃ r : Nat, e = .returned (.int .i64 (r : Nat)) ∧ (r : Int) < m) ∧ w' = w) := by
  obtain ⟨hm1, hm2⟩ := hm
  obtain ⟨t, ht⟩ : ∃ t, t = n.tmod m := ⟨_, rfl⟩
  have hlo : -m < t := by rw [ht]; exact Int.neg_lt_of_neg_lt (by have := Int.tmod_lt_of_pos (-n) (show 0 < m by omega); rw [Int.neg_tmod] at this; omega)
  have hhi : t < m := by rw [ht]; exact Int.tmod_lt_of_pos n (by omega)
  have hm0 : ¬ m = 0 := by omega
  have ht' : n.tmod m = t := ht.symm
  have HT := Lib.hid (And.intro hlo hhi)
  clear ht hn
  by_cases hz : t < 0
  · go_enter Tryd.func20, Tryd.ntmps20
    go_wp2_with fail
    go_ret
    refine ⟨⟨(t + m).toNat, ?_, by omega⟩, rfl⟩
    rw [show (((t + m).toNat : Nat) : Int) = t + m from by omega]; rfl
  · go_enter Tryd.func20, Tryd.ntmps20
    go_wp2_with fail
    go_ret
    refine ⟨⟨t.toNat, ?_, by omega⟩, rfl⟩
    rw [show ((t.toNat : Nat) : Int) = t from by omega]; rfl
/-- Whether strings are too long; if not, they weigh at most so much. -/
def LongP (S : Nat → ByteArray) (n M : Nat) (w : World) (e : Ending) (w' : World) : Prop := ∃ b, e = .returned (.bool b) ∧ (b = false → wsum S n ≤ M) ∧ Gr w w'
set_option maxRecDepth 100000 in
set_option maxHeartbeats 2000000 in
theorem long_any (v : Value) (n M : Nat) (S : Nat → ByteArray) (w : World) (hS : HasStr w v n S) (hM : M ≤ 1000000) (hsz : ∀ i, (S i).size ≤ 9223372036854775807) : Calls Tryd.prog 10 #[v, .int .i64 (M : Nat)] w (LongP S n M w) := by
  obtain ⟨a, cap, rfl, hn1, hn2, hA⟩ := hS
  have HA := Lib.hid hA
  have HSZ := Lib.hid hsz
  clear hA hsz
  go_enter Tryd.func10, Tryd.ntmps10
  go_wp2_with fail
  go_loopw [1, 5] (fun v1 v5 wr => ∃ i m : Nat, v5 = .int .i64 (i : Nat) ∧ v1 = .int .i64 (m : Nat) ∧ i ≤ n ∧ wsum S i + m = M ∧ wr = w) (fun _ v5 _ => n - (intOf v5).toNat)
  case atStart => exact ⟨0, M, rfl, rfl, by omega, by simp [wsum], rfl⟩
  case round =>
    obtain ⟨i, m, rfl, rfl, hi, hm, hw⟩ := hrel
    subst hw
    have HM := Lib.hid hm
    have hmM : (m : Int) ≤ 1000000 := by omega
    have hcase : i < n ∨ ¬ i < n := Classical.em _
    rcases hcase with hc | hc
    · have hci : (i : Int) < (n : Int) := by omega
      obtain ⟨gl, ol, rfl, hcell⟩ := HA.out i hc
      obtain ⟨L, hL⟩ : ∃ L, L = (S i).size := ⟨_, rfl⟩
      have hLi : ((S i).size : Int) = (L : Int) := by omega
      have hL9 : (L : Int) ≤ 9223372036854775807 := by have := HSZ.out i; omega
      have h3 := Lib.hid (show wsum S (i + 1) = wsum S i + L + 1 from by rw [hL]; rfl)
      obtain ⟨s, hs⟩ : ∃ s, s = S i := ⟨_, rfl⟩
      rw [← hs] at hcell hLi
      clear hm hL hs
      have hcase2 : m ≤ L ∨ ¬ m ≤ L := Classical.em _
      rcases hcase2 with hc2 | hc2
      · have hci2 : (m : Int) ≤ (L : Int) := by omega
        go_wp2_with fail
        go_ret
        exact ⟨true, rfl, (fun h => by cases h), Gr.refl _⟩
      · have hci2 : ¬ (m : Int) ≤ (L : Int) := by omega
        obtain ⟨q, hq⟩ : ∃ q, q = m - L - 1 := ⟨_, rfl⟩
        have hq1 : (m : Int) - (L : Int) - 1 = (q : Int) := by omega
        have hq2 : 0 ≤ (m : Int) - (L : Int) := by omega
        have HQ := Lib.hid (show q + L + 1 = m from by omega)
        clear hq
        go_wp2_with fail
        go_roundw
        case rel => exact ⟨i + 1, q, by simp, rfl, by omega, by rw [h3.out]; have := HM.out; have := HQ.out; omega, trivial⟩
        case measure => simp [intOf]; omega
    · obtain rfl : i = n := by omega
      have hci : ¬ (i : Int) < (i : Int) := by omega
      clear hm
      go_wp2_with fail
      go_ret
      exact ⟨false, rfl, fun _ => by have := HM.out; omega, Gr.refl _⟩
set_option maxRecDepth 100000 in
set_option maxHeartbeats 2000000 in
theorem sameStr_any (v u : Value) (n : Nat) (S : Nat → ByteArray) (w : World) (hv : HasStr w v n S) (hu : HasStr w u n S) : Calls Tryd.prog 19 #[v, u] w (Truth w) := by
  obtain ⟨a, cap, rfl, hn1, hn2, hA⟩ := hv
  obtain ⟨b, cap2, rfl, hm1, hm2, hB⟩ := hu
  have HA := Lib.hid hA
  have HB := Lib.hid hB
  clear hA hB
  go_enter Tryd.func19, Tryd.ntmps19
  go_wp2_with fail
  go_loopw [5] (fun v5 wr => ∃ i : Nat, v5 = .int .i64 (i : Nat) ∧ i ≤ n ∧ Gr w wr) (fun v5 _ => n - (intOf v5).toNat)
  case atStart => exact ⟨0, rfl, by omega, Gr.refl _⟩
  case round =>
    obtain ⟨i, rfl, hi, hg⟩ := hrel
    have HG := Lib.hid hg
    have hcase : i < n ∨ ¬ i < n := Classical.em _
    rcases hcase with hc | hc
    · have hci : (i : Int) < (n : Int) := by omega
      obtain ⟨gl, ol, rfl, hcell⟩ := HA.out i hc
      obtain ⟨gm, om, rfl, hcell2⟩ := HB.out i hc
      have c1 := hg.keeps hcell
      have c2 := hg.keeps hcell2
      obtain ⟨s, hs⟩ : ∃ s, s = S i := ⟨_, rfl⟩
      rw [← hs] at c1 c2
      clear hcell hcell2 hs hg
      go_wp2_with fail
      go_region
      go_wp2_with fail
      go_roundw
      case rel => exact ⟨i + 1, by simp, by omega, HG.out.drewN 1⟩
      case measure => simp [intOf]; omega
    · obtain rfl : i = n := by omega
      have hci : ¬ (i : Int) < (i : Int) := by omega
      clear hg
      go_wp2_with fail
      go_ret
      exact ⟨rfl, HG.out⟩
end Go.Proofs.YtblaimkcdhcclaaDoor
