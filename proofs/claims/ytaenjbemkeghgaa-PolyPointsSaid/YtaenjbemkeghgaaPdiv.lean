/- divisor, divide, rest. -/
import Derived.Test.YtaenjbemkeghgaaPwrap
import Derived.Deep.RegionHeld3
import Derived.Deep.QuietTactic
import Derived.BigQuiet
import Derived.StillTailTactics
namespace Op
set_option linter.unusedVariables false
theorem ld_cf {l : List Int} {n : Nat} (h : n = l.length) : cf l (n - 1) = ld l := by rw [h]; rfl
end Op
namespace Go.Proofs.Ytaenjbemkeghgaa
open Go.RowKit
set_option linter.unusedVariables false

/-- The last cell. -/
theorem HasP.cells0 {W : World} {a : Option Addr} {l : List Int} {n cap : Nat} (h : HasP W (.slice a n cap) l) (h0 : 0 < n) : ∃ g o, a = some ⟨g, o, none⟩ ∧ W.cell? ⟨g, o + (n - 1), none⟩ = some (.int .u32 (Op.cf l (n - 1))) := by
  obtain ⟨rfl, _⟩ := h.len
  obtain ⟨hd, a', cap', e, h1, h2, hc⟩ := h
  simp only [Value.slice.injEq] at e
  obtain ⟨rfl, -, rfl⟩ := e
  exact hc (l.length - 1) (by omega)
/-- The divisor that is returned. -/
def DvsP (m : Int) (v : Value) (b : List Int) (w : World) (e : Ending) (w' : World) : Prop :=
  ∃ r, e = .returned (.tuple #[.agg #[.int .u32 m, v, .int .u32 r], .int .i64 0]) ∧ 0 ≤ r ∧ r < m ∧ m ∣ Op.ld b * r - 1 ∧ Gr w w'
def DvsNo (w : World) (e : Ending) (w' : World) : Prop := ∃ p xa xn xc, e = .returned (.tuple #[.agg #[.int .u32 p, .slice xa xn xc, .int .u32 0], .int .i64 7]) ∧ Gr w w'

set_option maxRecDepth 100000 in
set_option maxHeartbeats 1000000 in
theorem divisor_ok (m : Int) (b : List Int) (v : Value) (w : World) (hm : 2 ≤ m ∧ m ≤ 2147483647) (hb : Op.Rs m b) (hne : b ≠ []) (hv : HasP w v b) (hu : Op.Un m (Op.ld b)) :
    Calls Try.prog 52 #[.int .u32 m, v] w (DvsP m v b w) := by
  have HM := Lib.hid hm
  obtain ⟨hd, a, cap, rfl, h1, h2, hc⟩ := hv
  have hpos : 0 < b.length := List.length_pos_iff.2 hne
  obtain ⟨g, o, rfl, hcell⟩ := hc (b.length - 1) (by omega)
  have hx := Op.rs_cf (show 0 < m from by omega) hb (b.length - 1)
  obtain ⟨n, hn⟩ : ∃ n, n = b.length := ⟨_, rfl⟩
  obtain ⟨x, hxe⟩ : ∃ x, x = Op.cf b (b.length - 1) := ⟨_, rfl⟩
  have HU := Lib.hid (show Op.Un m x from by rw [hxe]; exact hu)
  rw [← hxe] at hcell hx
  rw [← hn] at hpos h1 hcell ⊢
  have HX := Lib.hid (show x = Op.ld b from hxe)
  have HXB := Lib.hid hx
  have e1 : ((n - 1 : Nat) : Int) = (n : Int) - 1 := by omega
  have e2 : ((n : Int) - 1).toNat = n - 1 := by omega
  have hp0 : (0 : Int) < (n : Int) := by omega
  have hb0 : ((n : Int) == 0) = false := by simp; omega
  have hlt : g < w.heap.size := World.block_lt_of_cell? w _ hcell
  have hn1 : ¬ (g = w.heap.size) := by omega
  have hn2 : ¬ (w.heap.size = g) := by omega
  clear hu hc hd hn hxe hb hne hm hx
  go_enter Try.func52, Try.ntmps52
  go_wp2_with fail
  refine (inv_ok m x _ HM.out HXB.out HU.out).mono ?_
  rintro e w1 ⟨r, rfl, hr0, hr1, hr2, hg⟩
  have HR2 := Lib.hid hr2
  have HG := Lib.hid ((Gr.new w _).trans hg)
  have hc0 := hg.keeps (p := ⟨w.heap.size, 0, none⟩) (v := .int .u32 0) (by simp [go_sem])
  have hc1 := hg.keeps (p := ⟨w.heap.size, 1, none⟩) (v := .slice none 0 0) (by simp [go_sem])
  have hc2 := hg.keeps (p := ⟨w.heap.size, 2, none⟩) (v := .int .u32 0) (by simp [go_sem])
  have hf : ∀ j, w1.frozen? ⟨w.heap.size, j, none⟩ = false := fun j => (hg.frozen (p := ⟨w.heap.size, j, none⟩) (by simp)).trans (by simp [go_sem])
  have hf0 := hf 0
  have hf1 := hf 1
  have hf2 := hf 2
  clear hr2 hg hf
  go_wp2_with fail
  refine bodyPost_ret (v := .tuple #[.agg #[.int .u32 m, .slice (some ⟨g, o, none⟩) n cap, .int .u32 r], .int .i64 0]) (by simp [results, Try.results52, go_sem, hc0, hc1, hc2]) rfl ?_
  exact ⟨r, rfl, hr0, hr1, by rw [← HX.out]; exact HR2.out, ((HG.out.setCell (p := ⟨w.heap.size, 0, none⟩) (Nat.le_refl _) _).setCell (p := ⟨w.heap.size, 1, none⟩) (Nat.le_refl _) _).setCell (p := ⟨w.heap.size, 2, none⟩) (Nat.le_refl _) _⟩

set_option maxRecDepth 100000 in
set_option maxHeartbeats 1000000 in
theorem divisor_empty (m : Int) (v : Value) (w : World) (hv : HasP w v []) :
    Calls Try.prog 52 #[.int .u32 m, v] w (DvsNo w) := by
  obtain ⟨hd, a, cap, rfl, h1, h2, hc⟩ := hv
  clear hc hd
  go_enter Try.func52, Try.ntmps52
  go_wp2_with fail
  refine bodyPost_ret (v := .tuple #[.agg #[.int .u32 0, .slice none 0 0, .int .u32 0], .int .i64 7]) (by simp [results, Try.results52, go_sem]) rfl ?_
  exact ⟨_, _, _, _, rfl, Gr.new w _⟩

set_option maxRecDepth 100000 in
set_option maxHeartbeats 1000000 in
theorem divisor_none (m : Int) (b : List Int) (v : Value) (w : World) (hm : 2 ≤ m ∧ m ≤ 2147483647) (hb : Op.Rs m b) (hne : b ≠ []) (hv : HasP w v b) (hu : ¬ Op.Un m (Op.ld b)) :
    Calls Try.prog 52 #[.int .u32 m, v] w (DvsNo w) := by
  have HM := Lib.hid hm
  obtain ⟨hd, a, cap, rfl, h1, h2, hc⟩ := hv
  have hpos : 0 < b.length := List.length_pos_iff.2 hne
  obtain ⟨g, o, rfl, hcell⟩ := hc (b.length - 1) (by omega)
  have hx := Op.rs_cf (show 0 < m from by omega) hb (b.length - 1)
  obtain ⟨n, hn⟩ : ∃ n, n = b.length := ⟨_, rfl⟩
  obtain ⟨x, hxe⟩ : ∃ x, x = Op.cf b (b.length - 1) := ⟨_, rfl⟩
  have HU := Lib.hid (show ¬ Op.Un m x from by rw [hxe]; exact hu)
  rw [← hxe] at hcell hx
  rw [← hn] at hpos h1 hcell ⊢
  have HX := Lib.hid (show x = Op.ld b from hxe)
  have HXB := Lib.hid hx
  have e1 : ((n - 1 : Nat) : Int) = (n : Int) - 1 := by omega
  have e2 : ((n : Int) - 1).toNat = n - 1 := by omega
  have hp0 : (0 : Int) < (n : Int) := by omega
  have hb0 : ((n : Int) == 0) = false := by simp; omega
  have hlt : g < w.heap.size := World.block_lt_of_cell? w _ hcell
  have hn1 : ¬ (g = w.heap.size) := by omega
  have hn2 : ¬ (w.heap.size = g) := by omega
  clear hu hc hd hn hxe hb hne hm hx
  go_enter Try.func52, Try.ntmps52
  go_wp2_with fail
  refine (inv_none m x _ HM.out HXB.out HU.out).mono ?_
  rintro e w1 ⟨rfl, hg⟩
  have HG := Lib.hid ((Gr.new w _).trans hg)
  have hc0 := hg.keeps (p := ⟨w.heap.size, 0, none⟩) (v := .int .u32 0) (by simp [go_sem])
  have hc1 := hg.keeps (p := ⟨w.heap.size, 1, none⟩) (v := .slice none 0 0) (by simp [go_sem])
  have hc2 := hg.keeps (p := ⟨w.heap.size, 2, none⟩) (v := .int .u32 0) (by simp [go_sem])
  have hf : ∀ j, w1.frozen? ⟨w.heap.size, j, none⟩ = false := fun j => (hg.frozen (p := ⟨w.heap.size, j, none⟩) (by simp)).trans (by simp [go_sem])
  have hf0 := hf 0
  have hf1 := hf 1
  have hf2 := hf 2
  clear hg hf
  go_wp2_with fail
  refine bodyPost_ret (v := .tuple #[.agg #[.int .u32 m, .slice (some ⟨g, o, none⟩) n cap, .int .u32 0], .int .i64 7]) (by simp [results, Try.results52, go_sem, hc0, hc1, hc2]) rfl ?_
  exact ⟨_, _, _, _, rfl, ((HG.out.setCell (p := ⟨w.heap.size, 0, none⟩) (Nat.le_refl _) _).setCell (p := ⟨w.heap.size, 1, none⟩) (Nat.le_refl _) _).setCell (p := ⟨w.heap.size, 2, none⟩) (Nat.le_refl _) _⟩
end Go.Proofs.Ytaenjbemkeghgaa
