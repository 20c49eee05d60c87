/- The table of the constants; a round, of the program. -/
import Derived.Test.YtblaimkcdhcclaaDoorWe
import Derived.Lib.LaidTab
import Derived.BigQuiet
namespace Go.Proofs.YtblaimkcdhcclaaDoor
open Go.RowKit Oz
set_option linter.unusedVariables false
set_option linter.unusedSimpArgs false
def csTab : List Int := [240, 225, 210, 195, 180, 165, 150, 135, 120, 105, 90, 75]
/-- The constants of the rounds, as the program's text lays them. -/
def Tab (w : World) : Prop := Lib.TabIs Tryd.prog w "obscura/sponge.constants" .u64 csTab
theorem gCst : Tryd.prog.globalNamed "obscura/sponge.constants" = some 0 := by kernel_rfl
theorem Tab.block {w : World} (h : Tab w) : 0 < w.heap.size ∧ ∀ j, j < 12 → w.cell? ⟨0, j, none⟩ = some (.int .u64 (240 - 15 * (j : Int))) := by
  unfold Tab Lib.TabIs World.var? at h
  rw [gCst] at h
  simp only [Option.bind_some] at h
  have hlt : 0 < w.heap.size := by
    apply Classical.byContradiction; intro hn
    rw [Array.getElem?_eq_none (Nat.le_of_not_lt hn)] at h
    cases h
  refine ⟨hlt, fun j hj => ?_⟩
  simp only [World.cell?]
  split at h
  · rename_i cs _ _ hc
    rw [hc]
    obtain rfl := Option.some.inj h
    have hcs : j = 0 ∨ j = 1 ∨ j = 2 ∨ j = 3 ∨ j = 4 ∨ j = 5 ∨ j = 6 ∨ j = 7 ∨ j = 8 ∨ j = 9 ∨ j = 10 ∨ j = 11 := by omega
    rcases hcs with rfl | rfl | rfl | rfl | rfl | rfl | rfl | rfl | rfl | rfl | rfl | rfl <;> rfl
  · cases h
theorem Tab.same {w w' : World} (h : Tab w) (k : w'.heap[0]? = w.heap[0]?) : Tab w' := by
  unfold Tab Lib.TabIs World.var? at *
  rw [gCst] at *
  simp only [Option.bind_some] at h ⊢
  rw [k]
  exact h
theorem Tab.later {w w' : World} (h : Tab w) (hg : Gr w w') : Tab w' := h.same (hg.block _ h.block.1)
theorem lo63 : ∀ k : Nat, k < 64 → 0 < k → bits .and .u64 (18446744073709551616 - (k : Int)) 63 = 64 - (k : Int) := by decide
set_option maxHeartbeats 4000000 in
theorem rotl_any (x : BitVec 64) (k : Nat) (hk0 : 0 < k) (hk : k < 64) (w : World) : Calls Tryd.prog 40 #[.int .u64 (nv x), .int .i64 (-(k : Int))] w (fun e w' => e = .returned (.int .u64 (nv (rotr x k))) ∧ w' = w) := by
  obtain ⟨l, hl⟩ : ∃ l, l = 64 - k := ⟨_, rfl⟩
  have HR := Lib.hid (show x <<< l ||| x >>> k = rotr x k from by rw [hl, BitVec.or_comm]; rfl)
  have hw : IntKind.u64.wrap (-(k : Int)) = 18446744073709551616 - (k : Int) := by rw [IntKind.wrap_u64]; omega
  have hli : bits .and .u64 (18446744073709551616 - (k : Int)) 63 = (l : Int) := by rw [lo63 k hk hk0]; omega
  have hki : IntKind.u64.wrap (64 - (l : Int)) = (k : Int) := by rw [IntKind.wrap_u64]; omega
  have hl64 : (l : Int) ≤ 64 := by omega
  have hk64 : (k : Int) ≤ 64 := by omega
  clear hl
  have e1 : nv x / 2 ^ k = nv (x >>> k) := nv_shr x k
  have e2 : IntKind.u64.wrap (nv x * 2 ^ l) = nv (x <<< l) := nv_shl x l
  have e3 : ∀ x y, bits .or .u64 (nv x) (nv y) = nv (x ||| y) := nv_or
  go_enter Tryd.func40, Tryd.ntmps40
  go_wp2_with fail
  rw [HR.out]
  go_ret
  exact ⟨rfl, rfl⟩
set_option maxHeartbeats 4000000 in
theorem right_any (x : BitVec 64) (k : Nat) (hk0 : 0 < k) (hk : k < 64) (w : World) : Calls Tryd.prog 35 #[.int .u64 (nv x), .int .i64 (k : Nat)] w (fun e w' => e = .returned (.int .u64 (nv (rotr x k))) ∧ w' = w) := by
  have HC := Lib.hid (rotl_any x k hk0 hk w)
  have hw : wrap64 (-(k : Int)) = -(k : Int) := by unfold wrap64; omega
  go_enter Tryd.func35, Tryd.ntmps35
  go_wp2_with (go_at_call 40; refine HC.out.mono ?_; rintro y w1 ⟨rfl, rfl⟩)
  go_ret
  exact ⟨rfl, rfl⟩
theorem right_k (k : Nat) (z : Int) (hz : z = (k : Int)) (hk0 : 0 < k) (hk : k < 64) : ∀ (x : BitVec 64) (w : World), Calls Tryd.prog 35 #[.int .u64 (nv x), .int .i64 z] w (fun e w' => e = .returned (.int .u64 (nv (rotr x k))) ∧ w' = w) := fun x w => by
  rw [hz]
  exact right_any x k hk0 hk w
set_option maxRecDepth 100000 in
set_option maxHeartbeats 4000000 in
theorem round_any (s : St) (k : BitVec 64) (w : World) : Calls Tryd.prog 30 #[stv s, .int .u64 (nv k)] w (fun y w' => y = .returned (stv (rnd s k)) ∧ Gr w w') := by
  have e1 : ∀ x y, bits .xor .u64 (nv x) (nv y) = nv (x ^^^ y) := nv_xor
  have e2 : ∀ x y, bits .and .u64 (nv x) (nv y) = nv (x &&& y) := nv_and
  have e3 : ∀ x, bits .xor .u64 (if IntKind.u64.signed = true then -1 else IntKind.u64.max) (nv x) = nv (~~~x) := nv_not
  obtain ⟨a, b, c, d, e⟩ := s
  obtain ⟨g, hg⟩ : ∃ g, g = w.heap.size := ⟨_, rfl⟩
  unfold stv
  go_enter Tryd.func30, Tryd.ntmps30
  go_wp2_with fail
  rw [← hg]
  obtain ⟨W, hW⟩ : ∃ W, W = ((w.alloc (.cells #[.int .u64 (nv a), .int .u64 (nv b), .int .u64 (nv c), .int .u64 (nv d), .int .u64 (nv e)] 23)).alloc (.cells #[.int .u64 0, .int .u64 0, .int .u64 0, .int .u64 0, .int .u64 0] 23)) := ⟨_, rfl⟩
  rw [← hW]
  have HX := Lib.hid (show ArrS W g ⟨a, b, c, d, e⟩ from by rw [hW]; exact (Arr.new hg).later (Gr.new _ _))
  have HR := Lib.hid (show ArrS W (g + 1) ⟨0, 0, 0, 0, 0⟩ from by rw [hW]; exact ArrS.new0 (W := w.alloc _) (by simp; omega))
  have HG := Lib.hid (show Gr w W ∧ w.heap.size = g from ⟨by rw [hW]; exact ((Gr.refl w).alloc _).alloc _, hg.symm⟩)
  clear hW hg
  have c0 := HX.out.c0
  have c1 := HX.out.c1
  have c2 := HX.out.c2
  have c3 := HX.out.c3
  have c4 := HX.out.c4
  simp only at c0 c1 c2 c3 c4
  go_region
  have R19 := Lib.hid (right_k 19 19 rfl (by decide) (by decide))
  have R28 := Lib.hid (right_k 28 28 rfl (by decide) (by decide))
  have R61 := Lib.hid (right_k 61 61 rfl (by decide) (by decide))
  have R39 := Lib.hid (right_k 39 39 rfl (by decide) (by decide))
  have R1 := Lib.hid (right_k 1 1 rfl (by decide) (by decide))
  have R6 := Lib.hid (right_k 6 6 rfl (by decide) (by decide))
  have R10 := Lib.hid (right_k 10 10 rfl (by decide) (by decide))
  have R17 := Lib.hid (right_k 17 17 rfl (by decide) (by decide))
  have R7 := Lib.hid (right_k 7 7 rfl (by decide) (by decide))
  have R41 := Lib.hid (right_k 41 41 rfl (by decide) (by decide))
  clear c0 c1 c2 c3 c4
  obtain ⟨V, hV⟩ : ∃ V, V = W.drew := ⟨_, rfl⟩
  rw [← hV]
  have HS := Lib.hid (show ArrS V (g + 1) ⟨0, 0, 0, 0, 0⟩ from by rw [hV]; exact HR.out.later ((Gr.refl W).drewN 1))
  have HV := Lib.hid (show Gr w V from by rw [hV]; exact HG.out.1.drewN 1)
  have c0 := HS.out.c0
  have f0 := HS.out.fz 0
  have c1 := HS.out.c1
  have f1 := HS.out.fz 1
  have c2 := HS.out.c2
  have f2 := HS.out.fz 2
  have c3 := HS.out.c3
  have f3 := HS.out.fz 3
  have c4 := HS.out.c4
  have f4 := HS.out.fz 4
  clear hV
  go_wp2_with (go_at_call 35; (first | with_reducible refine (R19.out _ _).mono ?_ | with_reducible refine (R28.out _ _).mono ?_ | with_reducible refine (R61.out _ _).mono ?_ | with_reducible refine (R39.out _ _).mono ?_ | with_reducible refine (R1.out _ _).mono ?_ | with_reducible refine (R6.out _ _).mono ?_ | with_reducible refine (R10.out _ _).mono ?_ | with_reducible refine (R17.out _ _).mono ?_ | with_reducible refine (R7.out _ _).mono ?_ | with_reducible refine (R41.out _ _).mono ?_); rintro y w1 ⟨rfl, rfl⟩)
  change bodyPost Tryd.prog Tryd.f30 (fun y w' => y = .returned (stv (rnd ⟨a, b, c, d, e⟩ k)) ∧ Gr w w') Exit.ret _ (put5 w1 (g + 1) (rnd ⟨a, b, c, d, e⟩ k))
  generalize rnd ⟨a, b, c, d, e⟩ k = t
  have hz := HS.out.put t
  have hg := HV.out.put5 (g := g + 1) (by have := HG.out.2; omega) t
  generalize put5 w1 (g + 1) t = WF at hz hg ⊢
  have z0 := hz.c0
  have z1 := hz.c1
  have z2 := hz.c2
  have z3 := hz.c3
  have z4 := hz.c4
  exact bodyPost_ret (v := stv t) (by unfold stv; simp [results, Tryd.results30, z0, z1, z2, z3, z4, go_sem]) rfl ⟨rfl, hg⟩
end Go.Proofs.YtblaimkcdhcclaaDoor
