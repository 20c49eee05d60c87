/- New, of the program and of the reference. -/
import Derived.Test.YtmankcmmlcfbaaaVb
import Derived.Laws.IdiomStrings
namespace Go.Proofs.Ytmankcmmlcfbaaa
open Go.RowKit Ov
set_option linter.unusedVariables false

theorem bytes_new (w : World) (s : ByteArray) : ∃ cap row fr, (convert 9 39 (.string s)).run Try.prog w = .ok (.slice (some ⟨w.heap.size, 0, none⟩) s.size cap) (w.drew.alloc (.cells row 5 fr)) ∧ Byts (w.drew.alloc (.cells row 5 fr)) w.heap.size s := by
  refine ⟨_, _, _, run_bytes_of_string w 9 39 5 s Try.underlying9 Try.underlying39 Try.underlying5, fun j hj => ?_⟩
  have h := World.cell?_alloc_mark w.drew (bytesRow s (grownCap w s.size 0 5)) 5 ((bytesRow s (grownCap w s.size 0 5)).size, (bytesRow s (grownCap w s.size 0 5)).size + 1) j
  rw [bytesRow_at s _ j hj, ← byt_at hj] at h
  exact h
theorem fz_new (W : World) (C : Array Value) (T : TypeId) (j : Nat) : (W.alloc (.cells C T)).frozen? ⟨W.heap.size, j, none⟩ = false := by
  have h := World.frozen?_alloc_mark W C T 0 0 j
  rw [show (W.alloc (.cells C T)) = W.alloc (.cells C T (0, 0)) from rfl, h]; simp
theorem cl_new (W : World) (C : Array Value) (T : TypeId) (j : Nat) : (W.alloc (.cells C T)).cell? ⟨W.heap.size, j, none⟩ = C[j]? := World.cell?_alloc_mark W C T (0, 0) j
theorem Sup.new {W : World} {b g c : Nat} {s : ByteArray} {T : TypeId} (hb : b = W.heap.size) (hg : g < W.heap.size) (hy : Byts W g s) (hs : s.size ≤ 1048576) :
    Sup (W.alloc (.cells #[.slice (some ⟨g, 0, none⟩) s.size c, .int .i64 0, .pointer (some ⟨b, 0, none⟩)] T)) b g c s 0 := by
  subst hb
  exact ⟨by omega, by simp; omega, cl_new W _ T 0, cl_new W _ T 1, cl_new W _ T 2, fun j => fz_new W _ T j, hy.of_block ((Gr.new W _).block g hg), hs, by simp⟩
theorem Rup.new {W : World} {b : Nat} {s : ByteArray} {T : TypeId} (hb : b = W.heap.size) (hs : s.size ≤ 1048576) :
    Rup (W.alloc (.cells #[.string s, .int .i64 0] T)) b s 0 := by
  subst hb
  exact ⟨by simp, cl_new W _ T 0, cl_new W _ T 1, fun j => fz_new W _ T j, hs, by simp⟩
/-- A new supply. -/
def NewP (s : ByteArray) (w : World) (e : Ending) (w' : World) : Prop := ∃ b g c, e = .returned (.pointer (some ⟨b, 0, none⟩)) ∧ Sup w' b g c s 0 ∧ w.heap.size ≤ b ∧ w.heap.size ≤ g ∧ Gr w w'
set_option maxRecDepth 100000 in
set_option maxHeartbeats 1000000 in
theorem pNew_any (s : ByteArray) (w : World) (hs : s.size ≤ 1048576) : Calls Try.prog 8 #[.string s] w (NewP s w) := by
  obtain ⟨cap, row, fr, hcv, hby⟩ := bytes_new w s
  have HB := Lib.hid hby
  obtain ⟨n, hn⟩ : ∃ n, n = s.size := ⟨_, rfl⟩
  rw [← hn] at hcv hs
  have HN := Lib.hid hn
  have hs2 : ¬ (1048576 : Int) < (n : Int) := by omega
  have hs3 : ¬ 1048576 < n := by omega
  clear hby
  go_enter Try.func8, Try.ntmps8
  have hsz : (w.drew.alloc (.cells row 5 fr)).heap.size = w.heap.size + 1 := by simp
  generalize hW : w.drew.alloc (.cells row 5 fr) = W at hcv HB hsz ⊢
  have HG := Lib.hid (show Gr w W from by rw [← hW]; exact (Below.drew (Gr.refl w)).alloc (Nat.le_refl _) _)
  clear hW
  go_wp2_with fail
  go_ret
  exact ⟨w.heap.size + 1, w.heap.size, cap, rfl, Sup.new hsz.symm (by omega) HB.out (by have := HN.out; omega), by omega, Nat.le_refl _, HG.out.alloc _⟩
theorem pNew_big (s : ByteArray) (w : World) (hs : 1048576 < s.size) : Calls Try.prog 8 #[.string s] w (fun e w' => e = .returned (.pointer none) ∧ w' = w) := by
  have hs2 : (1048576 : Int) < (s.size : Int) := by omega
  go_enter Try.func8, Try.ntmps8
  go_wp2_with fail
  go_ret
  exact ⟨rfl, rfl⟩
/-- A new supply of the reference. -/
def RNewP (s : ByteArray) (w : World) (e : Ending) (w' : World) : Prop := ∃ b, e = .returned (.pointer (some ⟨b, 0, none⟩)) ∧ Rup w' b s 0 ∧ w.heap.size ≤ b ∧ Gr w w'
theorem rNew_any (s : ByteArray) (w : World) (hs : s.size ≤ 1048576) : Calls Try.prog 9 #[.string s] w (RNewP s w) := by
  have HS := Lib.hid hs
  have hs2 : ¬ (1048576 : Int) < (s.size : Int) := by omega
  have hs3 : ¬ 1048576 < s.size := by omega
  go_enter Try.func9, Try.ntmps9
  go_wp2_with fail
  go_ret
  exact ⟨w.heap.size, rfl, Rup.new rfl HS.out, Nat.le_refl _, Gr.new w _⟩
theorem rNew_big (s : ByteArray) (w : World) (hs : 1048576 < s.size) : Calls Try.prog 9 #[.string s] w (fun e w' => e = .returned (.pointer none) ∧ w' = w) := by
  have hs2 : (1048576 : Int) < (s.size : Int) := by omega
  go_enter Try.func9, Try.ntmps9
  go_wp2_with fail
  go_ret
  exact ⟨rfl, rfl⟩
end Go.Proofs.Ytmankcmmlcfbaaa
