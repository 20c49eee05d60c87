import Derived.Test.YtlfiakpmnkhcdaaLJr
import Derived.Test.YtlfiakpmnkhcdaaLWO
namespace Go.Proofs.Ytlfiakpmnkhcdaa.Mo
open Go.RowKit Go.Shelf
set_option linter.unusedVariables false
theorem four_hasQ (W : World) (x y z t : Int) (g : Nat) (hg : g = W.heap.size) (hx : Lo.I64 [x, y, z, t]) : Lo.HasQ (W.alloc (.cells #[.int .i64 x, .int .i64 y, .int .i64 z, .int .i64 t] 2)) (.slice (some ⟨g, 0, none⟩) 4 4) [x, y, z, t] := by
  subst hg
  refine ⟨hx, _, 4, rfl, Nat.le_refl _, by omega, fun i hi => ⟨_, 0, rfl, ?_⟩⟩
  have : i = 0 ∨ i = 1 ∨ i = 2 ∨ i = 3 := by simp at hi; omega
  rcases this with rfl | rfl | rfl | rfl <;> simp [go_sem]
theorem i64_dec {l : List Int} (h : ∀ x ∈ l, -100 ≤ x ∧ x ≤ 100) : Lo.I64 l := fun x hx => by have := h x hx; omega
theorem u32_dec {l : List Int} (h : ∀ x ∈ l, 0 ≤ x ∧ x ≤ 1000) : U32 l := fun x hx => by have := h x hx; omega
theorem two_hasP (W : World) (x y : Int) (g : Nat) (hg : g = W.heap.size) (hx : U32 [x, y]) : HasP (W.alloc (.cells #[.int .u32 x, .int .u32 y] 22)) (.slice (some ⟨g, 0, none⟩) 2 2) [x, y] := by
  subst hg
  refine ⟨hx, _, 2, rfl, Nat.le_refl _, by omega, fun i hi => ⟨_, 0, rfl, ?_⟩⟩
  have : i = 0 ∨ i = 1 := by simp at hi; omega
  rcases this with rfl | rfl <;> simp [go_sem]
theorem vp17 : VP 4 [17, 97] 41 := by decide +kernel
theorem mods17 : Oj.mods [17, 97] 41 2 false = [17, 97] := by decide +kernel
theorem rows17 : rwA (Oj.mods [17, 97] 41 2 false) (fun _ m => resR 4 m [1, -1, 20, 0]) = [[1, 16, 3, 0], [1, 96, 20, 0]] := by decide +kernel
theorem fi17 : fiE 4 [17, 97] 41 2 false 4 = 0 := by decide +kernel
theorem ev17 : EV 4 [17, 97] 41 2 false [[1, 16, 3, 0], [1, 96, 20, 0]] := by decide +kernel
theorem prm17 : Prm 17 := .inr ⟨by decide, by decide, .inr ⟨1, 4, by decide, by decide, .inr ⟨2, by decide, by decide +kernel⟩⟩, .inr ⟨1, 4, by decide, by decide, .inr ⟨3, by decide, by decide +kernel⟩⟩, .inr ⟨1, 4, by decide, by decide, .inr ⟨3, by decide, by decide +kernel⟩⟩⟩
theorem prm97 : Prm 97 := .inr ⟨by decide, by decide, .inr ⟨3, 5, by decide, by decide, .inr ⟨3, by decide, by decide +kernel⟩⟩, .inr ⟨3, 5, by decide, by decide, .inr ⟨4, by decide, by decide +kernel⟩⟩, .inr ⟨3, 5, by decide, by decide, .inl (by decide +kernel)⟩⟩
theorem dis17 : Dis [17, 97] := by
  refine ⟨by decide, by decide, fun i hi => ?_⟩
  have : i = 0 ∨ i = 1 := by simp at hi; omega
  rcases this with rfl | rfl
  · exact ⟨by decide, by decide, prm17, by decide⟩
  · exact ⟨by decide, by decide, prm97, by decide⟩
instance (l r : List Int) (X : Int) : Decidable (JoinV l r X) := by unfold JoinV; infer_instance
theorem wdOK17 : WdOK 4 [17, 97] 41 2 false [[1, 16, 3, 0], [1, 96, 20, 0]] := ⟨⟨vp17, ev17⟩, by rw [show ((2 : Int).toNat) = 2 from rfl, mods17]; exact dis17⟩
theorem list_four {zs : List Int} {a b c d : Int} (hl : zs.length = 4) (h0 : Op.cf zs 0 = a) (h1 : Op.cf zs 1 = b) (h2 : Op.cf zs 2 = c) (h3 : Op.cf zs 3 = d) : zs = [a, b, c, d] := by
  apply Op.ext_cf (by rw [hl]; rfl)
  intro i
  by_cases hi : i < 4
  · have : i = 0 ∨ i = 1 ∨ i = 2 ∨ i = 3 := by omega
    rcases this with rfl | rfl | rfl | rfl
    · exact h0
    · exact h1
    · exact h2
    · exact h3
  · rw [Op.cf_out (by omega), Op.cf_out (by simp; omega)]
theorem wdZ17 {zs : List Int} (h : WdZ 4 (Oj.mods [17, 97] 41 (2 : Int).toNat false) [[1, 16, 3, 0], [1, 96, 20, 0]] zs) : zs = [1, -1, 20, 0] := by
  rw [show ((2 : Int).toNat) = 2 from rfl, mods17] at h
  have hl : zs.length = 4 := by have := h.1; omega
  have hs := dis17.sys
  exact list_four hl ((h.2 0 (by omega)).unique hs (by decide +kernel)) ((h.2 1 (by omega)).unique hs (by decide +kernel)) ((h.2 2 (by omega)).unique hs (by decide +kernel)) ((h.2 3 (by omega)).unique hs (by decide +kernel))
theorem norm17 {X c : Int} (h : (WdOK 4 [17, 97] 41 2 false [[1, 16, 3, 0], [1, 96, 20, 0]] ∧ c = 0 ∧ ∃ zs, WdZ 4 (Oj.mods [17, 97] 41 (2 : Int).toNat false) [[1, 16, 3, 0], [1, 96, 20, 0]] zs ∧ X = nrm zs) ∨ (¬ WdOK 4 [17, 97] 41 2 false [[1, 16, 3, 0], [1, 96, 20, 0]] ∧ c = 2 ∧ X = 0)) : c = 0 ∧ X = 20 := by
  rcases h with ⟨_, h1, zs, h2, h3⟩ | ⟨h1, _⟩
  · rw [wdZ17 h2] at h3
    exact ⟨h1, h3.trans (by decide)⟩
  · exact absurd wdOK17 h1
theorem resE_ok {lv : Int} {sp : Bool} {ls : List (List Int)} {w w' : World} {e : Ending} (h : ResE 0 lv sp ls w e w') : ∃ x c, e = .returned (.tuple #[.agg #[.int .i64 lv, .bool sp, .slice x ls.length c], .int .i64 0]) ∧ HasB w' w.heap.size w'.heap.size (.slice x ls.length c) ls ∧ Gr w w' := by
  obtain ⟨lv', sp', ls', u, rfl, h1, h2, h3⟩ := h
  rcases h1 with ⟨_, rfl, rfl, rfl⟩ | ⟨h, _⟩
  · obtain ⟨x, c, rfl⟩ := h2.form
    exact ⟨x, c, rfl, h2, h3⟩
  · exact absurd h (by decide)
theorem two_hasR {W : World} {g1 g2 g3 : Nat} {l1 l2 : List Int} (n1 n2 c1 c2 : Nat) (e1 : n1 = l1.length) (e2 : n2 = l2.length) (h1 : HasP W (.slice (some ⟨g1, 0, none⟩) n1 c1) l1) (h2 : HasP W (.slice (some ⟨g2, 0, none⟩) n2 c2) l2) (h3 : g3 < W.heap.size) (h4 : g1 < W.heap.size) (h5 : g2 < W.heap.size) (h6 : W.cell? ⟨g3, 0, none⟩ = some (.slice (some ⟨g1, 0, none⟩) n1 c1)) (h7 : W.cell? ⟨g3, 1, none⟩ = some (.slice (some ⟨g2, 0, none⟩) n2 c2)) : HasR W (.slice (some ⟨g3, 0, none⟩) 2 2) [l1, l2] := by
  subst e1 e2
  refine ⟨_, _, rfl, Nat.le_refl _, by omega, fun i hi => ?_⟩
  have : i = 0 ∨ i = 1 := by simp at hi; omega
  rcases this with rfl | rfl
  · exact ⟨g3, 0, _, c1, rfl, Nat.zero_le _, h3, h6, h1, fun _ p hp => by cases hp; exact ⟨Nat.zero_le _, h4⟩⟩
  · exact ⟨g3, 0, _, c2, rfl, Nat.zero_le _, h3, h7, h2, fun _ p hp => by cases hp; exact ⟨Nat.zero_le _, h5⟩⟩
theorem four_hasP (W : World) (x y z t : Int) (g : Nat) (hg : g = W.heap.size) (hx : U32 [x, y, z, t]) : HasP (W.alloc (.cells #[.int .u32 x, .int .u32 y, .int .u32 z, .int .u32 t] 22)) (.slice (some ⟨g, 0, none⟩) 4 4) [x, y, z, t] := by
  subst hg
  refine ⟨hx, _, 4, rfl, Nat.le_refl _, by omega, fun i hi => ⟨_, 0, rfl, ?_⟩⟩
  have : i = 0 ∨ i = 1 ∨ i = 2 ∨ i = 3 := by simp at hi; omega
  rcases this with rfl | rfl | rfl | rfl <;> simp [go_sem]
theorem newrows (W : World) (g : Nat) (hg : g = W.heap.size) (x y z t x' y' z' t' : Int) (h1 : U32 [x, y, z, t]) (h2 : U32 [x', y', z', t']) :
    HasR (((W.alloc (.cells #[.int .u32 x, .int .u32 y, .int .u32 z, .int .u32 t] 22)).alloc (.cells #[.int .u32 x', .int .u32 y', .int .u32 z', .int .u32 t'] 22)).alloc (.cells #[.slice (some ⟨g, 0, none⟩) 4 4, .slice (some ⟨g + 1, 0, none⟩) 4 4] 23)) (.slice (some ⟨g + 1 + 1, 0, none⟩) 2 2) [[x, y, z, t], [x', y', z', t']] :=
  two_hasR 4 4 4 4 rfl rfl (((four_hasP W x y z t g hg h1).later (Gr.new _ _)).later (Gr.new _ _)) ((four_hasP _ x' y' z' t' (g + 1) (by subst hg; simp) h2).later (Gr.new _ _)) (by subst hg; simp) (by subst hg; simp; omega) (by subst hg; simp) (by subst hg; simp [go_sem]) (by subst hg; simp [go_sem])
theorem newrows' (W : World) (g : Nat) (hg : g = W.heap.size) (x y z t x' y' z' t' : Int) (h1 : U32 [x, y, z, t]) (h2 : U32 [x', y', z', t']) :
    HasR (((W.alloc (.cells #[.int .u32 x', .int .u32 y', .int .u32 z', .int .u32 t'] 22)).alloc (.cells #[.int .u32 x, .int .u32 y, .int .u32 z, .int .u32 t] 22)).alloc (.cells #[.slice (some ⟨g + 1, 0, none⟩) 4 4, .slice (some ⟨g, 0, none⟩) 4 4] 23)) (.slice (some ⟨g + 1 + 1, 0, none⟩) 2 2) [[x, y, z, t], [x', y', z', t']] :=
  two_hasR 4 4 4 4 rfl rfl ((four_hasP _ x y z t (g + 1) (by subst hg; simp) h1).later (Gr.new _ _)) (((four_hasP W x' y' z' t' g hg h2).later (Gr.new _ _)).later (Gr.new _ _)) (by subst hg; simp) (by subst hg; simp) (by subst hg; simp; omega) (by subst hg; simp [go_sem]) (by subst hg; simp [go_sem])
theorem from17_any (xC : Option Addr) (uL : Value) (w : World) (hC : HasP w (.slice xC 2 2) [17, 97]) (hL : Lo.HasQ w uL [1, -1, 20, 0]) : Calls Try.prog 6 #[.agg #[.int .i64 4, .int .u32 0, .int .i64 0, .slice xC 2 2, .int .u32 41, .int .i64 0, .int .u32 0], .int .i64 2, .bool false, uL] w (ResE 0 2 false [[1, 16, 3, 0], [1, 96, 20, 0]] w) := by
  have h := rFromInts_any 4 0 0 xC 2 2 41 0 0 2 false [17, 97] uL [1, -1, 20, 0] w (by decide) hC (by decide) hL
  have e1 : fiE 4 [17, 97] 41 2 false [(1 : Int), -1, 20, 0].length = 0 := fi17
  have e2 : rwA (Oj.mods [17, 97] 41 (2 : Int).toNat false) (fun _ m => resR [(1 : Int), -1, 20, 0].length m [1, -1, 20, 0]) = [[1, 16, 3, 0], [1, 96, 20, 0]] := rows17
  rw [e1, e2] at h
  exact h
theorem norm17_any (xC : Option Addr) (uA : Value) (w : World) (hC : HasP w (.slice xC 2 2) [17, 97]) (hA : HasR w uA [[1, 16, 3, 0], [1, 96, 20, 0]]) : Calls Try.prog 11 #[.agg #[.int .i64 4, .int .u32 0, .int .i64 0, .slice xC 2 2, .int .u32 41, .int .i64 0, .int .u32 0], .agg #[.int .i64 2, .bool false, uA]] w (fun e w' => e = .returned (.tuple #[wv 20, .int .i64 0]) ∧ Gr w w') := by
  refine (norm_any 4 0 0 xC 2 2 41 0 0 2 false [17, 97] uA _ w (by decide) hC (by decide) hA).mono ?_
  rintro e w' ⟨X, c, rfl, hg, h⟩
  obtain ⟨rfl, rfl⟩ := norm17 h
  exact ⟨rfl, hg⟩
theorem same17_any (u v : Value) (w : World) (hu : HasR w u [[1, 16, 3, 0], [1, 96, 20, 0]]) (hv : HasR w v [[1, 16, 3, 0], [1, 96, 20, 0]]) : Calls Try.prog 12 #[.agg #[.int .i64 2, .bool false, u], .agg #[.int .i64 2, .bool false, v]] w (fun e w' => e = .returned (.bool true) ∧ Gr w w') := by
  refine (rSame_any 2 false 2 false _ _ u v w hu hv ⟨by decide, by decide⟩ ⟨by decide, by decide⟩).mono ?_
  rintro e w' ⟨rfl, hg⟩
  exact ⟨by rw [show decide (SameE 2 false [[1, 16, 3, 0], [1, 96, 20, 0]] 2 false [[1, 16, 3, 0], [1, 96, 20, 0]]) = true from by decide], hg⟩
theorem nsame17_any (u : Value) (w : World) (hu : HasR w u [[1, 16, 3, 0], [1, 96, 20, 0]]) : Calls Try.prog 12 #[.agg #[.int .i64 2, .bool false, u], .agg #[.int .i64 0, .bool false, .slice none 0 0]] w (fun e w' => e = .returned (.bool false) ∧ Gr w w') := by
  refine (rSame_any 2 false 0 false _ [] u _ w hu (HasR.nil w) ⟨by decide, by decide⟩ ⟨by decide, by decide⟩).mono ?_
  rintro e w' ⟨rfl, hg⟩
  exact ⟨by rw [show decide (SameE 2 false [[1, 16, 3, 0], [1, 96, 20, 0]] 0 false []) = false from by decide], hg⟩
set_option maxRecDepth 100000 in
set_option maxHeartbeats 4000000 in
theorem awake9_any (w : World) : Calls Try.prog 5 #[] w (Truth w) := by
  have HU1 := Lib.hid (i64_dec (l := [1, -1, 20, 0]) (by decide))
  have HU2 := Lib.hid (u32_dec (l := [17, 97]) (by decide))
  go_enter Try.func5, Try.ntmps5
  go_wp2_with fail
  obtain ⟨W3, hW3⟩ : ∃ W3, W3 = ((w.alloc (.cells #[.int .u32 17, .int .u32 97] 22)).alloc (.cells #[.int .i64 4, .int .u32 0, .int .i64 0, .slice (some ⟨w.heap.size, 0, none⟩) 2 2, .int .u32 41, .int .i64 0, .int .u32 0] 25)).alloc (.cells #[.int .i64 1, .int .i64 (-1), .int .i64 20, .int .i64 0] 2) := ⟨_, rfl⟩
  have HG3 := Lib.hid (show Gr w W3 by rw [hW3]; exact ((Gr.new w _).alloc _).alloc _)
  have HC3 := Lib.hid (show HasP W3 (.slice (some ⟨w.heap.size, 0, none⟩) 2 2) [17, 97] by rw [hW3]; exact (two_hasP w 17 97 _ rfl HU2.out).later ((Gr.new _ _).alloc _))
  have HL3 := Lib.hid (show Lo.HasQ W3 (.slice (some ⟨w.heap.size + 1 + 1, 0, none⟩) 4 4) [1, -1, 20, 0] by rw [hW3]; exact four_hasQ _ 1 (-1) 20 0 _ (by simp) HU1.out)
  have HP3 := Lib.hid (show Blk W3 (w.heap.size + 1) 25 #[.int .i64 4, .int .u32 0, .int .i64 0, .slice (some ⟨w.heap.size, 0, none⟩) 2 2, .int .u32 41, .int .i64 0, .int .u32 0] by rw [hW3]; exact (Blk.newk _ _ (by simp)).gr (Gr.new _ _))
  rw [← hW3]
  clear hW3
  refine (from17_any _ _ _ HC3.out HL3.out).mono ?_
  intro e w1 hres
  obtain ⟨x1, c1, rfl, hb1, hg1⟩ := resE_ok hres
  have hg2 := Gr.new w1 (.cells #[.int .i64 2, .bool false, .slice x1 2 c1] 28)
  have HG2 := Lib.hid ((HG3.out.trans hg1).trans hg2)
  have HC2 := Lib.hid (HC3.out.later (hg1.trans hg2))
  have HP2 := Lib.hid (HP3.out.gr (hg1.trans hg2))
  have HA2 := Lib.hid (hb1.hasR.later hg2)
  have HE2 := Lib.hid (Blk.new w1 28 #[.int .i64 2, .bool false, .slice x1 2 c1])
  obtain ⟨q0, q1, q2, q3, q4, q5, q6⟩ := HP2.out.p7
  clear hres hb1 hg1 hg2
  rw [show [[(1 : Int), 16, 3, 0], [1, 96, 20, 0]].length = 2 from rfl] at *
  go_wp2_with fail
  refine (norm17_any _ _ _ HC2.out HA2.out).mono ?_
  rintro e w3 ⟨rfl, hg3⟩
  obtain ⟨s, hs⟩ : ∃ s, s = bstr 20 := ⟨_, rfl⟩
  rw [show wv 20 = .agg #[.bool false, .string s] by rw [hs]; rfl]
  have hg4 := Gr.new w3 (.cells #[.bool false, .string s] 42)
  have HG4 := Lib.hid ((HG2.out.trans hg3).trans hg4)
  have HA4 := Lib.hid (HA2.out.later (hg3.trans hg4))
  have HE4 := Lib.hid (HE2.out.gr (hg3.trans hg4))
  have HN4 := Lib.hid (Blk.new w3 42 #[.bool false, .string s])
  have HOF := Lib.hid (show ∀ W, Calls Try.prog 9 #[.int .i64 20] W (fun e w' => e = .returned (.agg #[.bool false, .string s]) ∧ Gr W w') from fun W => (rof_any 20 W (by decide) (by decide)).mono (by rintro e w' ⟨rfl, hg⟩; exact ⟨by rw [hs]; rfl, hg⟩))
  have HU3 := Lib.hid (u32_dec (l := [1, 16, 3, 0]) (by decide))
  have HU4 := Lib.hid (u32_dec (l := [1, 96, 20, 0]) (by decide))
  clear hs hg3 hg4 q0 q1 q2 q3 q4 q5 q6
  obtain ⟨k0, k1, k2⟩ := HE4.out.p3
  go_wp2_with fail
  obtain ⟨ka0, kb0, kc0⟩ := (HE4.out.gr ((Gr.refl (w3.alloc (.cells #[.bool false, .string s] 42))).alloc (.cells #[.int .u32 1, .int .u32 16, .int .u32 3, .int .u32 0] 22))).p3
  obtain ⟨ka1, kb1, kc1⟩ := (HE4.out.gr ((Gr.refl (w3.alloc (.cells #[.bool false, .string s] 42))).alloc (.cells #[.int .u32 1, .int .u32 96, .int .u32 20, .int .u32 0] 22))).p3
  obtain ⟨ka2, kb2, kc2⟩ := (HE4.out.gr (((Gr.refl (w3.alloc (.cells #[.bool false, .string s] 42))).alloc (.cells #[.int .u32 1, .int .u32 16, .int .u32 3, .int .u32 0] 22)).alloc (.cells #[.int .u32 1, .int .u32 96, .int .u32 20, .int .u32 0] 22))).p3
  obtain ⟨ka3, kb3, kc3⟩ := (HE4.out.gr (((Gr.refl (w3.alloc (.cells #[.bool false, .string s] 42))).alloc (.cells #[.int .u32 1, .int .u32 96, .int .u32 20, .int .u32 0] 22)).alloc (.cells #[.int .u32 1, .int .u32 16, .int .u32 3, .int .u32 0] 22))).p3
  obtain ⟨ka4, kb4, kc4⟩ := (HE4.out.gr ((((Gr.refl (w3.alloc (.cells #[.bool false, .string s] 42))).alloc (.cells #[.int .u32 1, .int .u32 16, .int .u32 3, .int .u32 0] 22)).alloc (.cells #[.int .u32 1, .int .u32 96, .int .u32 20, .int .u32 0] 22)).alloc (.cells #[.slice (some ⟨w3.heap.size + 1, 0, none⟩) 4 4, .slice (some ⟨w3.heap.size + 1 + 1, 0, none⟩) 4 4] 23))).p3
  obtain ⟨ka5, kb5, kc5⟩ := (HE4.out.gr ((((Gr.refl (w3.alloc (.cells #[.bool false, .string s] 42))).alloc (.cells #[.int .u32 1, .int .u32 96, .int .u32 20, .int .u32 0] 22)).alloc (.cells #[.int .u32 1, .int .u32 16, .int .u32 3, .int .u32 0] 22)).alloc (.cells #[.slice (some ⟨w3.heap.size + 1 + 1, 0, none⟩) 4 4, .slice (some ⟨w3.heap.size + 1, 0, none⟩) 4 4] 23))).p3
  have HSZ := Lib.hid (show w3.heap.size + 1 = (w3.alloc (.cells #[.bool false, .string s] 42)).heap.size by simp)
  obtain ⟨n0, n1⟩ := HN4.out.p2
  go_region_held3 (fun wz => wz.cell? ⟨w1.heap.size, 0, none⟩ = some (.int .i64 2) ∧ wz.cell? ⟨w1.heap.size, 1, none⟩ = some (.bool false) ∧ wz.cell? ⟨w1.heap.size, 2, none⟩ = some (.slice x1 2 c1) ∧ wz.cell? ⟨w3.heap.size, 0, none⟩ = some (.bool false) ∧ wz.cell? ⟨w3.heap.size, 1, none⟩ = some (.string s)) (go_keep)
    ((first
    | (go_at_call 9; refine (HOF.out _).mono ?_; rintro e w6 ⟨rfl, g⟩; have HX := Lib.hid (Gr.trans HX.out g); clear g; obtain ⟨k0, k1, k2⟩ := (HE4.out.gr HX.out).p3; obtain ⟨n0, n1⟩ := (HN4.out.gr HX.out).p2)
    | (go_at_call 12; with_reducible refine (nsame17_any _ _ (HA4.out.later HX.out)).mono ?_; rintro e w6 ⟨rfl, g⟩; have HX := Lib.hid (Gr.trans HX.out g); clear g; obtain ⟨k0, k1, k2⟩ := (HE4.out.gr HX.out).p3; obtain ⟨n0, n1⟩ := (HN4.out.gr HX.out).p2)
    | (go_at_call 12; refine (same17_any _ _ _ (HA4.out.later (Below.drew ((((Gr.refl _).alloc _).alloc _).alloc _))) ((newrows _ _ HSZ.out 1 16 3 0 1 96 20 0 HU3.out HU4.out).later (Below.drew (Gr.refl _)))).mono ?_; rintro e w5 ⟨rfl, g⟩; have HX := Lib.hid (Gr.trans (Below.drew ((((Gr.refl (w3.alloc (.cells #[.bool false, .string s] 42))).alloc _).alloc _).alloc _)) g); clear g; obtain ⟨k0, k1, k2⟩ := (HE4.out.gr HX.out).p3; obtain ⟨n0, n1⟩ := (HN4.out.gr HX.out).p2)
    | (go_at_call 12; refine (same17_any _ _ _ (HA4.out.later (Below.drew ((((Gr.refl _).alloc _).alloc _).alloc _))) ((newrows' _ _ HSZ.out 1 16 3 0 1 96 20 0 HU3.out HU4.out).later (Below.drew (Gr.refl _)))).mono ?_; rintro e w5 ⟨rfl, g⟩; have HX := Lib.hid (Gr.trans (Below.drew ((((Gr.refl (w3.alloc (.cells #[.bool false, .string s] 42))).alloc _).alloc _).alloc _)) g); clear g; obtain ⟨k0, k1, k2⟩ := (HE4.out.gr HX.out).p3; obtain ⟨n0, n1⟩ := (HN4.out.gr HX.out).p2)))
  all_goals go_wp2_with fail
  all_goals go_ret
  all_goals exact ⟨rfl, HG4.out.trans HX.out⟩
end Go.Proofs.Ytlfiakpmnkhcdaa.Mo
