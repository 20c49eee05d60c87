/- The law's own functions: same, large, lent, kept, spoil, awake. -/
import Derived.Test.YtaenjbemkeghgaaPrd
namespace Op
set_option linter.unusedVariables false
theorem cg_nf {m : Int} {a b : List Int} (h : nf m a = nf m b) : Cg m a b := (nf_cg m a).symm.trans (by rw [h]; exact nf_cg m b)
end Op
namespace Go.Proofs.Ytaenjbemkeghgaa
open Go.RowKit
set_option linter.unusedVariables false

theorem lsame_any (a b : List Int) (u v : Value) (w : World) (hu : HasP w u a) (hv : HasP w v b) (hla : a.length ≤ 1000000) (hlb : b.length ≤ 1000000) :
    Calls Try.prog 28 #[u, v] w (fun e w' => e = .returned (.bool (decide (a = b))) ∧ Gr w w') := by
  have HU := Lib.hid hu
  have HV := Lib.hid hv
  clear hu hv
  obtain ⟨B, hB⟩ : ∃ B, B = decide (a = b) := ⟨_, rfl⟩
  rw [← hB]
  have HB := Lib.hid hB
  clear hB
  go_enter Try.func28, Try.ntmps28
  go_wp2_with fail
  refine (same_any a b _ _ _ HU.out HV.out hla hlb).mono ?_
  rintro e w1 ⟨rfl, hg⟩
  have HG := Lib.hid hg
  clear hg
  rw [← HB.out]
  go_wp2_with fail
  go_ret
  exact ⟨rfl, HG.out⟩

/-- One is longer than is tried. -/
def bigB (ls : List (List Int)) : Bool := ls.any (fun a => decide (300 < a.length))
theorem bigB_no {ls : List (List Int)} (h : ∀ i (hi : i < ls.length), ls[i].length ≤ 300) : bigB ls = false := by
  unfold bigB
  rw [List.any_eq_false]
  intro x hx
  obtain ⟨i, hi, rfl⟩ := List.mem_iff_getElem.1 hx
  have := h i hi
  simp; omega
theorem bigB_yes {ls : List (List Int)} {i : Nat} (hi : i < ls.length) (h : 300 < ls[i].length) : bigB ls = true := by
  unfold bigB
  rw [List.any_eq_true]
  exact ⟨_, List.getElem_mem hi, by simpa using h⟩
set_option maxHeartbeats 1000000 in
theorem large_any (g n : Nat) (vs : List Value) (ls : List (List Int)) (w : World) (h : HasLL w g n vs ls) (hn : n ≤ 100) (hl : ∀ a ∈ ls, a.length ≤ 9223372036854775807) :
    Calls Try.prog 15 #[.slice (some ⟨g, 0, none⟩) n n] w (fun e w' => e = .returned (.bool (bigB ls)) ∧ w = w') := by
  have H := Lib.hid h
  have HN := Lib.hid h.1
  have HL := Lib.hid hl
  obtain ⟨B, hB⟩ : ∃ B, B = bigB ls := ⟨_, rfl⟩
  rw [← hB]
  have HB := Lib.hid hB
  clear h hl hB
  go_enter Try.func15, Try.ntmps15
  go_wp2_with fail
  go_loop [3] (fun t => ∃ k : Nat, t = .int .i64 k ∧ k ≤ n ∧ ∀ i (hi : i < ls.length), i < k → ls[i].length ≤ 300) (fun t => n - (intOf t).toNat)
  case atStart => exact ⟨0, rfl, by omega, fun i _ hi => by omega⟩
  case round =>
    obtain ⟨k, rfl, hk, ht⟩ := hrel
    have HT := Lib.hid ht
    clear ht
    by_cases hlt : k < n
    · have hkl : k < ls.length := by rw [← HN.out]; exact hlt
      obtain ⟨x, j, c, hcell, hp⟩ := H.out.2.2 k hkl
      have hjl := hp.len.1
      have hjb : j ≤ 9223372036854775807 := by have := HL.out _ (List.getElem_mem hkl); omega
      have hlt' : (k : Int) < (n : Int) := by omega
      by_cases h300 : 300 < j
      · have HB2 := Lib.hid (show B = true from by rw [HB.out]; exact bigB_yes hkl (by omega))
        clear hp hjl hkl
        go_wp2_with fail
        go_ret
        exact ⟨by rw [HB2.out]; rfl, rfl⟩
      · have HT2 := Lib.hid (show ∀ i (hi : i < ls.length), i < k + 1 → ls[i].length ≤ 300 from fun i hi h => by
          by_cases he : i < k
          · exact HT.out i hi he
          · obtain rfl : i = k := by omega
            omega)
        clear hp hjl hkl
        go_wp2_with fail
        go_round
        case rel => exact ⟨k + 1, by go_num, by omega, HT2.out⟩
        case measure => simp [intOf]; omega
    · have HB2 := Lib.hid (show B = false from by rw [HB.out]; exact bigB_no (fun i hi => HT.out i hi (by have := HN.out; omega)))
      go_wp2_with fail
      go_ret
      exact ⟨by rw [HB2.out]; rfl, rfl⟩

/-- A copy with a mark behind it. -/
def LentP (l : List Int) (w : World) (e : Ending) (w' : World) : Prop :=
  ∃ g c, e = .returned (.slice (some ⟨g, 0, none⟩) l.length c) ∧ l.length + 1 ≤ c ∧ c ≤ 9223372036854775807 ∧ w.heap.size ≤ g ∧ Row w' g (l ++ [4294967295]) ∧ Gr w w'
theorem mk_cap (n : Nat) (L : Int) (hL : L = n) (hn : n ≤ 1000000) (w : World) : (Instr.makeSlice 23 (.int .i64 0) (.int .i64 L)).run Try.prog w = .ok (.slice (some ⟨w.heap.size, 0, none⟩) 0 n) (w.alloc (.cells (zrow n) 22)) := by
  obtain ⟨i0, hi, hz0, hz1, hz2⟩ := info_parts infoU32
  subst hL
  have := run_make (P := Try.prog) w 23 22 i0 (.int .u32 0) Try.underlying23 hi hz0 .i64 .i64 0 (n : Int) (by omega) (by omega) (by rw [hz2]; omega) (by omega)
  rw [this, hz1, Int.toNat_natCast, Nat.mul_one]
  rfl
theorem own_cap (w : World) (n base : Nat) (hb : base ≤ w.heap.size) (hn : n ≤ 1000000) : Own1 (w.alloc (.cells (zrow n) 22)) base (.slice (some ⟨w.heap.size, 0, none⟩) 0 n) [] :=
  ⟨U32.nil, rfl, .inr ⟨w.heap.size, n, zrow n, rfl, hb, heap_alloc_new w _, Nat.zero_le _, by unfold maxLen; omega, by rw [zrow_size, Nat.mul_one], rfl⟩⟩

set_option maxRecDepth 100000 in
set_option maxHeartbeats 1000000 in
theorem lent_any (l : List Int) (v : Value) (w : World) (h : HasP w v l) (hl : l.length ≤ 1000) :
    Calls Try.prog 17 #[v] w (LentP l w) := by
  have HV := Lib.hid h
  obtain ⟨-, a, cap, rfl, h1, h2, -⟩ := h
  obtain ⟨n, hn⟩ : ∃ n, n = l.length := ⟨_, rfl⟩
  rw [← hn] at HV hl h1 ⊢
  have HN := Lib.hid hn
  have hmk := mk_cap (n + 1) ((n : Int) + 1) (by omega) (by omega)
  have HL1 := Lib.hid (show ([] : List Int).length + l.length ≤ 1000000 from by simp; omega)
  have HL2 := Lib.hid (show ([] ++ l : List Int).length + [(4294967295 : Int)].length ≤ 1000000 from by simp; omega)
  clear hn
  unfold LentP
  rw [← HN.out]
  go_enter Try.func17, Try.ntmps17
  go_wp2_with (first
    | (at_builtin; refine wpList_app rfl (.tmp 7) (.tmp 8) rfl rfl w.heap.size (.slice (some ⟨w.heap.size, 0, none⟩) 0 (n + 1)) [] rfl (own_cap w (n + 1) _ (Nat.le_refl _) (by omega)) (.slice a n cap) l rfl (HV.out.later (Gr.new w _)) HL1.out (Nat.le_of_lt (by simp)) ?_; intro v' w2 hown hgrow; rw [List.nil_append] at hown; have HO := Lib.hid hown; have HG := Lib.hid (show Gr w w2 from grown_own (Gr.new w _) (own_cap w (n + 1) w.heap.size (Nat.le_refl _) (by omega)) hgrow (Nat.le_refl _)); have hs2 := HG.out.size; obtain ⟨va, vc, rfl, -, -⟩ := hown.form; clear hown hgrow)
    | (at_builtin; refine wpList_app rfl (.tmp 10) (.tmp 11) rfl rfl w.heap.size (.slice va l.length vc) l rfl (HO.out.alloc _) (.slice (some ⟨w2.heap.size, 0, none⟩) 1 1) [4294967295] rfl (one_hasP' _ _ _ rfl (by omega)) HL2.out (Nat.le_trans hs2 (Nat.le_of_lt (by simp))) ?_; intro v' w3 hown hgrow; have HO3 := Lib.hid hown; have HG3 := Lib.hid (show Gr w w3 from grown_own (HG.out.alloc _) (HO.out.alloc _) hgrow (Nat.le_refl _)); obtain ⟨g3, c3, rfl, hg1, hg2, hg3, hrow⟩ := hown.row (by simp); have HR3 := Lib.hid hrow; have hc3 : n + 1 ≤ c3 := (by have h := HN.out; rw [List.length_append] at hg2; simp at hg2; omega); clear hown hgrow hg2 hrow))
  go_ret
  exact ⟨g3, c3, rfl, hc3, hg3, hg1, HR3.out, HG3.out⟩

set_option maxRecDepth 100000 in
set_option maxHeartbeats 1000000 in
theorem kept_any (g n c : Nat) (l : List Int) (v : Value) (w : World) (hn : n = l.length) (hc : n + 1 ≤ c) (hc2 : c ≤ 9223372036854775807) (hr : Row w g (l ++ [4294967295])) (h : HasP w v l) (hl : l.length ≤ 1000) :
    Calls Try.prog 23 #[.slice (some ⟨g, 0, none⟩) n c, v] w (fun e w' => e = .returned (.bool true) ∧ Gr w w') := by
  have HV := Lib.hid h
  obtain ⟨-, a, cap, rfl, h1, h2, -⟩ := h
  rw [← hn] at HV hl h1 ⊢
  have HN := Lib.hid hn
  have HR := Lib.hid hr
  have HF := Lib.hid (show HasP w (.slice (some ⟨g, 0, none⟩) n c) l from by
    have h := hr.hasP (cap := c) (by rw [List.length_append]; simp; omega) hc2
    have h2 := h.take (k := n) (by rw [List.length_append]; simp; omega)
    rw [hn, List.take_left] at h2
    rw [hn]; exact h2)
  have HCELL := Lib.hid (show w.cell? ⟨g, n, none⟩ = some (.int .u32 4294967295) from by
    have h := hr.cell (j := n) (by rw [List.length_append, hn]; simp)
    rw [Op.cf_append, if_neg (by omega), hn, Nat.sub_self] at h
    rw [hn]; exact h)
  clear hn hr
  go_enter Try.func23, Try.ntmps23
  go_wp2_with (go_at_call 28; refine (lsame_any l l _ _ _ HF.out HV.out (by rw [← HN.out]; omega) (by rw [← HN.out]; omega)).mono ?_; rintro e w1 ⟨rfl, hg⟩; have HG := Lib.hid hg; have hcell := hg.keeps HCELL.out; rw [show decide (l = l) = true from by simp]; clear hg)
  go_ret
  exact ⟨rfl, HG.out⟩

set_option maxRecDepth 100000 in
set_option maxHeartbeats 1000000 in
theorem spoil_any (g n c : Nat) (l : List Int) (w : World) (hc : n ≤ c) (hc2 : c ≤ 9223372036854775807) (hr : Row w g l) (hn : n ≤ l.length) :
    Calls Try.prog 24 #[.slice (some ⟨g, 0, none⟩) n c] w (fun e w' => e = .returned (.tuple #[]) ∧ ∃ pre, Upd g 0 pre w w') := by
  have HR := Lib.hid hr
  have HN := Lib.hid hn
  clear hr hn
  go_enter Try.func24, Try.ntmps24
  go_wp2_with fail
  go_loopw [2] (fun t wr => ∃ (k : Nat) (pre : List Int), t = .int .i64 k ∧ k ≤ n ∧ pre.length = k ∧ Upd g 0 pre w wr) (fun t _ => n - (intOf t).toNat)
  case atStart =>
    obtain ⟨_, cur, h1, h2, _⟩ := HR.out
    exact ⟨0, [], rfl, by omega, rfl, Upd.start h1 (Nat.zero_le _)⟩
  case round =>
    obtain ⟨k, pre, rfl, hk, hp, hu⟩ := hrel
    have HP := Lib.hid hp
    have HU := Lib.hid hu
    clear hp hu
    by_cases hlt : k < n
    · have hc0 := HR.out.cell (j := k) (by have := HN.out; omega)
      have hc1 : wr.cell? ⟨g, k, none⟩ = some (.int .u32 (Op.cf l k)) := (HU.out.cell_out (j := k) (.inr (by rw [HP.out]; omega))).trans hc0
      have hf1 : wr.frozen? ⟨g, k, none⟩ = false := HU.out.frozen _
      have HS := Lib.hid (HU.out.step (d := 4294967295) HP.out (v := .int .u32 (Op.cf l k)) (by rw [Nat.zero_add]; exact hc0))
      have hlt' : (k : Int) < (n : Int) := by omega
      clear hc0
      go_wp2_with fail
      go_roundw
      case rel => exact ⟨k + 1, pre ++ [4294967295], by go_num, by omega, by rw [List.length_append, HP.out]; rfl, by have h := HS.out; rw [Nat.zero_add] at h; exact h⟩
      case measure => simp [intOf]; omega
    · obtain rfl : k = n := by omega
      go_wp2_with fail
      go_end0
      exact ⟨rfl, pre, HU.out⟩

theorem four_hasP' (W : World) (x y z t : Int) (g : Nat) (hg : g = W.heap.size) (hx : U32 [x, y, z, t]) : HasP (W.alloc (.cells #[.int .u32 x, .int .u32 y, .int .u32 z, .int .u32 t] 22)) (.slice (some ⟨g, 0, none⟩) 4 4) [x, y, z, t] := by
  subst hg
  refine ⟨hx, _, 4, rfl, Nat.le_refl _, by omega, fun i hi => ⟨_, 0, rfl, ?_⟩⟩
  have : i = 0 ∨ i = 1 ∨ i = 2 ∨ i = 3 := by simp at hi; omega
  rcases this with rfl | rfl | rfl | rfl <;> simp [go_sem]
theorem three_hasP' (W : World) (x y z : Int) (g : Nat) (hg : g = W.heap.size) (hx : U32 [x, y, z]) : HasP (W.alloc (.cells #[.int .u32 x, .int .u32 y, .int .u32 z] 22)) (.slice (some ⟨g, 0, none⟩) 3 3) [x, y, z] := by
  subst hg
  refine ⟨hx, _, 3, rfl, Nat.le_refl _, by omega, fun i hi => ⟨_, 0, rfl, ?_⟩⟩
  have : i = 0 ∨ i = 1 ∨ i = 2 := by simp at hi; omega
  rcases this with rfl | rfl | rfl <;> simp [go_sem]
theorem u32_dec {l : List Int} (h : l.all (fun x => decide (0 ≤ x) && decide (x < 4294967296)) = true) : U32 l := fun x hx => by
  have := List.all_eq_true.1 h x hx
  simpa using this

theorem aw_mul : mulE 17 [1, 1] [16, 1] = 0 ∧ mulL 17 [1, 1] [16, 1] = [16, 0, 1] := by decide +kernel
theorem nf_dec {m : Int} {l : List Int} (h : l.all (fun x => decide (0 ≤ x) && decide (x < m)) = true) (k : Op.tz l = l) : Op.Nf m l := ⟨fun x hx => by
  have := List.all_eq_true.1 h x hx
  simpa using this, k⟩
theorem aw_div : DivR 17 [2, 0, 0, 1] [1, 1] [1, 16, 1] [1] 0 :=
  .inr (.inr ⟨by decide +kernel, ⟨by decide, 1, ⟨0, by decide⟩⟩, rfl, nf_dec (by decide +kernel) (by decide +kernel), nf_dec (by decide +kernel) (by decide +kernel), by decide, Op.cg_nf (by decide +kernel)⟩)

set_option maxRecDepth 100000 in
set_option maxHeartbeats 1000000 in
theorem awake_any (w : World) : Calls Try.prog 16 #[] w (Truth w) := by
  have HM := Lib.hid aw_mul
  go_enter Try.func16, Try.ntmps16
  go_wp2_with fail
  refine (pMul_any 17 [1, 1] [16, 1] _ _ _ ((two_hasP' w 1 1 _ rfl (by omega) (by omega)).later (Gr.new _ _)) (two_hasP' _ 16 1 _ (by simp) (by omega) (by omega)) (by decide) (by decide)).mono ?_
  rintro e w1 ⟨x, n, c, rfl, hx, hfr, hg⟩
  rw [HM.out.1]
  rw [HM.out.2] at hx
  have HX := Lib.hid hx
  have HG := Lib.hid (((Gr.new w _).alloc _).trans hg)
  clear hx hfr hg
  go_wp2_with fail
  refine (pDivMod_any 17 [2, 0, 0, 1] [1, 1] _ _ _ ((four_hasP' w1 2 0 0 1 _ rfl (u32_dec (by decide))).later (Gr.new _ _)) (two_hasP' _ 1 1 _ (by simp) (by omega) (by omega)) (by decide) (by decide)).mono ?_
  rintro e w2 ⟨x1, n1, c1, x2, n2, c2, q, r, E, rfl, hq, hr, hdr, hf1, hf2, hg2⟩
  obtain ⟨rfl, rfl, rfl⟩ := DivR.unique (u32_dec (by decide)) (u32_dec (by decide)) hdr aw_div
  have HQ := Lib.hid hq
  have HR := Lib.hid hr
  have HG1 := Lib.hid (((Gr.new w1 _).alloc _).trans hg2)
  have HG2 := Lib.hid (HG.out.trans HG1.out)
  have HX2 := Lib.hid (HX.out.later HG1.out)
  clear hq hr hdr hf1 hf2 hg2
  go_wp2_with fail
  refine (lsame_any [16, 0, 1] [16, 0, 1] _ _ _ (HX2.out.later (Gr.new _ _)) (three_hasP' _ 16 0 1 _ rfl (u32_dec (by decide))) (by decide) (by decide)).mono ?_
  rintro e w3 ⟨rfl, hg3⟩
  rw [show decide (([16, 0, 1] : List Int) = [16, 0, 1]) = true from by simp]
  have HG3 := Lib.hid ((Gr.new w2 _).trans hg3)
  clear hg3
  go_wp2_with fail
  refine (lsame_any [1, 16, 1] [1, 16, 1] _ _ _ (HQ.out.later (HG3.out.alloc _)) (three_hasP' _ 1 16 1 _ rfl (u32_dec (by decide))) (by decide) (by decide)).mono ?_
  rintro e w4 ⟨rfl, hg4⟩
  rw [show decide (([1, 16, 1] : List Int) = [1, 16, 1]) = true from by simp]
  have HG4 := Lib.hid ((HG3.out.alloc _).trans hg4)
  clear hg4
  go_wp2_with fail
  refine (lsame_any [1] [1] _ _ _ (HR.out.later (HG4.out.alloc _)) (one_hasP' _ 1 _ rfl (by omega)) (by decide) (by decide)).mono ?_
  rintro e w5 ⟨rfl, hg5⟩
  rw [show decide (([1] : List Int) = [1]) = true from by simp]
  have HG5 := Lib.hid ((HG4.out.alloc _).trans hg5)
  clear hg5
  go_wp2_with fail
  go_ret
  exact ⟨rfl, HG2.out.trans HG5.out⟩
end Go.Proofs.Ytaenjbemkeghgaa
