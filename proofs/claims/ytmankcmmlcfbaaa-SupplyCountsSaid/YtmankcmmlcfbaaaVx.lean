/- The law SupplyCounts. -/
import Derived.Test.YtmankcmmlcfbaaaVxa
namespace Go.Proofs.Ytmankcmmlcfbaaa
open Go.RowKit Ov
set_option linter.unusedVariables false
theorem infoB : (Try.prog.info? 4).map (fun i => (i.zero, i.size, i.bytes)) = some (some (.bool false), 1, 1) := by kernel_rfl
theorem mk_bools (n : Nat) (L : Int) (hL : L = n) (hn : n ≤ 1000000) (w : World) : (Instr.makeSlice 38 (.int .i64 L) (.int .i64 L)).run Try.prog w = .ok (.slice (some ⟨w.heap.size, 0, none⟩) n n) (w.alloc (.cells (madeCells #[.bool false] n) 4)) := by
  obtain ⟨i0, hi, hz0, hz1, hz2⟩ := info_parts infoB
  subst hL
  have := run_make (P := Try.prog) w 38 4 i0 (.bool false) Try.underlying38 hi hz0 .i64 .i64 (n : Int) (n : Int) (by omega) (Int.le_refl _) (by rw [hz2]; omega) (by omega)
  rw [this, hz1, Int.toNat_natCast, Nat.mul_one]
  rfl
/-- The first c of n marks are set. -/
def Marks (w : World) (G n c : Nat) : Prop := ∀ j, j < n → w.cell? ⟨G, j, none⟩ = some (.bool (decide (j < c))) ∧ w.frozen? ⟨G, j, none⟩ = false
theorem Marks.new (w : World) (n : Nat) : Marks (w.alloc (.cells (madeCells #[.bool false] n) 4)) w.heap.size n 0 := fun j hj => by
  refine ⟨?_, fz_new w _ _ j⟩
  rw [cl_new]
  unfold madeCells
  rw [Array.getElem?_eq_getElem (by simpa using hj)]
  simp [Nat.mod_one]
theorem Marks.same {w w' : World} {G n c : Nat} (h : Marks w G n c) (e : w'.heap[G]? = w.heap[G]?) : Marks w' G n c := fun j hj => by
  rw [World.cell?_of_block (w := w) (a := ⟨G, j, none⟩) e, World.frozen?_of_block (w := w) (a := ⟨G, j, none⟩) e]; exact h j hj
theorem Marks.set {w : World} {G n c : Nat} (h : Marks w G n c) (hc : c < n) : Marks (w.setCell ⟨G, c, none⟩ (.bool true)) G n (c + 1) := fun j hj => by
  refine ⟨?_, by rw [World.frozen?_setCell]; exact (h j hj).2⟩
  by_cases e : j = c
  · subst e
    rw [World.cell?_setCell_same _ _ _ (h j hj).1, decide_eq_true (show j < j + 1 by omega)]
  · rw [World.cell?_setCell_other _ _ _ _ (by intro e2; cases e2; exact e rfl), (h j hj).1]
    congr 2
    exact decide_eq_decide.2 (by omega)
theorem one_string (b : Nat) (hb : b < 256) (w : World) (g : Nat) (hg : g = w.heap.size) : (convert 39 9 (.slice (some ⟨g, 0, none⟩) 1 1)).run Try.prog (w.alloc (.cells #[.int .u8 (b : Nat)] 5)) = .ok (.string ⟨#[UInt8.ofNat b]⟩) (w.alloc (.cells #[.int .u8 (b : Nat)] 5)) := by
  subst hg
  exact run_convert_bytes_back (w.alloc (.cells #[.int .u8 (b : Nat)] 5)) 39 9 5 ⟨w.heap.size, 0, none⟩ 1 [UInt8.ofNat b] Try.underlying39 Try.underlying5 Try.underlying9 (fun j hj => by
    obtain rfl : j = 0 := by simpa using hj
    rw [addr_add rfl ⟨w.heap.size, 0, none⟩ rfl, Nat.zero_add, cl_new]
    simp; omega)
theorem tern_res (s : ByteArray) (m r : Nat) (h1 : 1 ≤ m) (h2 : m ≤ 200) (h3 : r ≤ m) : ∃ O cd q, rTern s (m : Nat) (r : Nat) 0 = (O, cd, q) ∧ ((cd = 0 ∧ O.length = m ∧ nz O = r ∧ ∀ x ∈ O, -1 ≤ x ∧ x ≤ 1) ∨ (cd = 4 ∧ O = [])) := by
  unfold rTern
  rw [if_pos ⟨by omega, by omega, by omega, by omega⟩, Int.toNat_natCast, Int.toNat_natCast]
  cases hh : tern s m 0 r with
  | none => exact ⟨_, _, _, rfl, .inr ⟨rfl, rfl⟩⟩
  | some y =>
    obtain ⟨L, O, q⟩ := y
    have T := ternI (by omega) h3 hh
    exact ⟨O, 0, q, rfl, .inl ⟨rfl, T.lo, T.cnt, T.small⟩⟩
theorem bnd_res (s : ByteArray) (m r : Nat) (h2 : m ≤ 200) (h3 : r ≤ m) : ∃ l cd q, rBnd s (m : Nat) r 0 = (l, cd, q) ∧ ((cd = 0 ∧ l.length = m) ∨ (cd = 4 ∧ l = [])) ∧ ∀ x ∈ l, -(r : Int) ≤ x ∧ x ≤ (r : Int) := by
  unfold rBnd
  rw [if_pos ⟨by omega, by omega, by omega⟩]
  unfold rMany
  rw [Int.toNat_natCast]
  cases hh : many s (2 * r + 1) 0 m with
  | none => exact ⟨_, _, _, rfl, .inr ⟨rfl, rfl⟩, fun x hx => by cases hx⟩
  | some y =>
    obtain ⟨l, q⟩ := y
    have T := many_some (Nat.zero_le _) hh
    refine ⟨_, _, _, rfl, .inl ⟨rfl, by rw [List.length_map]; exact T.1⟩, fun x hx => ?_⟩
    obtain ⟨v, hv, rfl⟩ := List.mem_map.1 hx
    have := T.2.1 v hv
    omega
theorem nz_take (l : List Int) (i : Nat) (hi : i < l.length) : nz (l.take (i + 1)) = nz (l.take i) + (if Op.cf l i = 0 then 0 else 1) := by
  rw [List.take_add_one, nz_append, List.getElem?_eq_getElem hi]
  have e : Op.cf l i = l[i] := by rw [← Op.cf_at]; simp [hi]
  rw [e]; simp [nz]
theorem HasQ8_at {w : World} {a : Option Addr} {m k : Nat} {l : List Int} (h : L8.HasQ w (.slice a m k) l) {i : Nat} (hi : i < l.length) : ∃ g o, a = some ⟨g, o, none⟩ ∧ w.cell? ⟨g, o + i, none⟩ = some (.int .i8 (Op.cf l i)) := by
  obtain ⟨_, a', _, e, _, _, h3⟩ := h
  simp only [Value.slice.injEq] at e
  obtain ⟨g, o, e2, hc⟩ := h3 i hi
  exact ⟨g, o, e.1.trans e2, hc⟩
theorem HasQo_at {w : World} {a : Option Addr} {m k : Nat} {l : List Int} (h : Lo.HasQ w (.slice a m k) l) {i : Nat} (hi : i < l.length) : ∃ g o, a = some ⟨g, o, none⟩ ∧ w.cell? ⟨g, o + i, none⟩ = some (.int .i64 (Op.cf l i)) := by
  obtain ⟨_, a', _, e, _, _, h3⟩ := h
  simp only [Value.slice.injEq] at e
  obtain ⟨g, o, e2, hc⟩ := h3 i hi
  exact ⟨g, o, e.1.trans e2, hc⟩
set_option maxRecDepth 100000 in
set_option maxHeartbeats 4000000 in
theorem counts_law (n h : Int) (s : ByteArray) (w : World) (hn : -9223372036854775808 ≤ n ∧ n ≤ 9223372036854775807) (hh : -9223372036854775808 ≤ h ∧ h ≤ 9223372036854775807) (hs : s.size ≤ 9223372036854775807) : Calls Try.prog 5 #[.int .i64 n, .int .i64 h, .string s] w (Truth w) := by
  obtain ⟨L, hL⟩ : ∃ L, L = s.size := ⟨_, rfl⟩
  have HL := Lib.hid hL
  have hLi : (s.size : Int) = (L : Int) := by omega
  have hL9 : L ≤ 9223372036854775807 := by omega
  have HH := Lib.hid hh
  have HP1 := Lib.hid (pick_any n 200 w (by omega) hn)
  clear hs hL hn hh
  by_cases hc : 5000 < L
  · have d1 : (5000 : Int) < (L : Int) := by omega
    go_enter Try.func5, Try.ntmps5
    go_wp2_with (go_at_call 7; refine (shown_any _).mono ?_; rintro e w1 ⟨rfl, hg⟩)
    go_ret
    exact ⟨rfl, hg⟩
  · have d1 : ¬ (5000 : Int) < (L : Int) := by omega
    go_enter Try.func5, Try.ntmps5
    go_wp2_with (go_at_call 17; refine HP1.out.mono ?_; rintro e w1 ⟨⟨r, rfl, hr⟩, hw⟩; subst hw; obtain ⟨m, hm⟩ : ∃ m : Nat, m = 1 + r := ⟨_, rfl⟩; (have hmi : (1 : Int) + (r : Int) = (m : Int) := by omega); (have hmb : 1 ≤ m ∧ m ≤ 200 := by omega); (have HMB := Lib.hid hmb); clear hm hr; (have hmw : wrap64 (m : Int) = m := wrap_nat rfl (by omega)); (have hmw2 : IntKind.i64.wrap (m : Int) = m := iwrap_nat rfl (by clear hmw; omega)); clear hmb)
    obtain ⟨hm1, hm2⟩ := HMB.out
    clear hmi hmw hmw2
    go_loopw [8] (fun x wr => ∃ k : Nat, x = .int .i64 (k : Nat) ∧ k ≤ 8 ∧ (∀ j, j < k → 2 ^ j < m) ∧ wr = w1) (fun x _ => 8 - (intOf x).toNat)
    case atStart => exact ⟨0, rfl, by omega, fun j hj => absurd hj (by omega), rfl⟩
    case round =>
      obtain ⟨k, rfl, hk, hj, hw⟩ := hrel
      obtain rfl : w1 = wr := hw.symm
      have HJ := Lib.hid hj
      clear hj
      obtain ⟨E, hE⟩ : ∃ E, E = 2 ^ k := ⟨_, rfl⟩
      have hE256 : E ≤ 256 := by rw [hE]; exact Nat.pow_le_pow_right (show 0 < 2 by omega) hk
      have hEi : (2 : Int) ^ k = (E : Int) := by rw [hE]; simp
      have HE := Lib.hid hE
      have HEI := Lib.hid hEi
      clear hE hEi
      have EK := Lib.hid (show IntKind.i64.wrap ((2 : Int) ^ k) = (E : Int) from by rw [HEI.out]; exact iwrap_nat rfl (by omega))
      have EK2 := Lib.hid (show wrap64 ((2 : Int) ^ k) = (E : Int) from by rw [HEI.out]; exact wrap_nat rfl (by omega))
      have hcase : E < m ∨ ¬ E < m := Classical.em _
      rcases hcase with he | he
      · have hei : (E : Int) < (m : Int) := by omega
        have hk8 : k < 8 := by
          apply Classical.byContradiction; intro hn
          obtain rfl : k = 8 := by omega
          have := HE.out
          omega
        have ek := EK.out
        have ek2 := EK2.out
        go_wp2_with fail
        clear ek ek2
        go_roundw
        case rel => exact ⟨k + 1, by simp, by omega, fun j hj => by
          rcases Nat.lt_or_ge j k with h1 | h1
          · exact HJ.out j h1
          · obtain rfl : j = k := by omega
            rw [← HE.out]; exact he, trivial⟩
        case measure => simp [intOf]; omega
      · have hei : ¬ (E : Int) < (m : Int) := by omega
        have HW := Lib.hid (wid_is hm1 hm2 (by rw [← HE.out]; omega) HJ.out)
        have hmk := fun w => mk_bools m (m : Int) rfl (by omega) w
        have ek := EK.out
        have ek2 := EK2.out
        go_wp2_with fail
        clear ek ek2 hmk
        obtain ⟨G, hG⟩ : ∃ G, G = w1.heap.size := ⟨_, rfl⟩
        have HMK0 := Lib.hid (Marks.new w1 m)
        have HGW := Lib.hid (Gr.new w1 (.cells (madeCells #[.bool false] m) 4))
        have HSW := Lib.hid (show w1.heap.size < (w1.alloc (.cells (madeCells #[.bool false] m) 4)).heap.size from by simp)
        generalize w1.alloc (.cells (madeCells #[.bool false] m) 4) = W at HMK0 HGW HSW ⊢
        rw [← hG] at HMK0 HSW ⊢
        have HG0 := Lib.hid hG
        clear hG
        go_loopw [10, 11] (fun mv xv wq => ∃ x c : Nat, mv = .int .i64 (c : Nat) ∧ xv = .int .i64 (x : Nat) ∧ x ≤ E ∧ c = min x m ∧ Marks wq G m c ∧ G < wq.heap.size ∧ Gr w1 wq) (fun _ xv _ => E - (intOf xv).toNat)
        case atStart => exact ⟨0, 0, rfl, rfl, by omega, by omega, HMK0.out, HSW.out, HGW.out⟩
        case round =>
          obtain ⟨x, c, rfl, rfl, hxE, hcm, hmarks, hsz, hgq⟩ := hrel
          have HMK := Lib.hid hmarks
          have HSZ := Lib.hid hsz
          have HGQ := Lib.hid hgq
          have HCM := Lib.hid hcm
          clear hmarks hsz hgq hcm
          have hcase : x < E ∨ ¬ x < E := Classical.em _
          rcases hcase with hx | hx
          · have hxi : (x : Int) < (E : Int) := by omega
            obtain ⟨u, hu⟩ : ∃ u, u = 8 - k := ⟨_, rfl⟩
            have hui : (8 : Int) - (k : Int) = (u : Int) := by omega
            obtain ⟨B, hB⟩ : ∃ B, B = x * 2 ^ (8 - k) := ⟨_, rfl⟩
            have hB256 : B < 256 := by
              have h1 : x * 2 ^ (8 - k) < 2 ^ k * 2 ^ (8 - k) := Nat.mul_lt_mul_of_pos_right (by rw [← HE.out]; exact hx) (Nat.two_pow_pos _)
              rw [← Nat.pow_add, show k + (8 - k) = 8 from by omega] at h1
              omega
            have hBi : (x : Int) * (2 : Int) ^ u = (B : Int) := by rw [hB, hu]; simp
            have HBI := Lib.hid hBi
            have HBB := Lib.hid hB
            have HU := Lib.hid hu
            clear hBi hB hu
            have hxk : x < 2 ^ k := by rw [← HE.out]; exact hx
            have HXK := Lib.hid hxk
            have HST := Lib.hid (fun w => one_string B hB256 w w.heap.size rfl)
            have HNEW := Lib.hid (fun w => show Calls Try.prog 8 #[.string ⟨#[UInt8.ofNat B]⟩] w (NewP (one x k) w) from by rw [HBB.out]; exact pNew_any (one x k) w (by show 1 ≤ 1048576; omega))
            have ES := Lib.hid (show IntKind.i64.wrap ((x : Int) * (2 : Int) ^ u) = (B : Int) from by rw [HBI.out]; exact iwrap_nat rfl (by omega))
            have ES2 := Lib.hid (show wrap64 ((x : Int) * (2 : Int) ^ u) = (B : Int) from by rw [HBI.out]; exact wrap_nat rfl (by omega))
            have EU := Lib.hid (show IntKind.u8.wrap (B : Int) = (B : Int) from by rw [IntKind.wrap_u8]; omega)
            have hk64 : (k : Int) ≤ 8 := by omega
            clear hxk
            have hst := HST.out
            have ek := EK.out
            have ek2 := EK2.out
            have es := ES.out
            have es2 := ES2.out
            have eu := EU.out
            go_wp2_with fail
            clear es es2 eu ek ek2 hst
            have hcs : x < m ∨ (¬ x < m ∧ bel (one x k) m 0 = none) ∨ (¬ x < m ∧ ∃ v q, bel (one x k) m 0 = some (v, q)) := by
              rcases Nat.lt_or_ge x m with h1 | h1
              · exact .inl h1
              · cases hh : bel (one x k) m 0 with
                | none => exact .inr (.inl ⟨by omega, rfl⟩)
                | some y => exact .inr (.inr ⟨by omega, y.1, y.2, rfl⟩)
            rcases hcs with h1 | ⟨h1, h2⟩ | ⟨h1, v, q, h2⟩
            · have HRB := Lib.hid (show rBelow (one x k) m 0 = (x, 0, k) from by unfold rBelow; rw [if_neg (by omega), bel_hit hk HW.out HXK.out h1])
              obtain rfl : x = c := by have := HCM.out; omega
              have hxmi : (x : Int) < (m : Int) := by omega
              have hxm2 : ¬ (m : Int) ≤ (x : Int) := by omega
              go_wp2_with (first | (go_at_call 8; refine (HNEW.out _).mono ?_; rintro e w2 ⟨b, g, c', rfl, hs2, hb1, hb2, hg2⟩; (have HS2 := Lib.hid hs2; have HB := Lib.hid hb1; have HG2 := Lib.hid (Gr.trans (Gr.new wr _) hg2)); (have HBL := Lib.hid (show G < b from by have := HSZ.out; simp at hb1; omega)); clear hs2 hb1 hb2 hg2) | (go_at_call 18; refine (pBelow_any b g c' (one x k) 0 m w2 HS2.out (by omega)).mono ?_; rintro e w3 ⟨he, hs3, hx3⟩; rw [HRB.out] at he hs3; subst he; (have HS3 := Lib.hid hs3; have HX3 := Lib.hid hx3); (have HM3 := Lib.hid (show Marks w3 G m x from (HMK.out.same (HG2.out.block G HSZ.out)).same (HX3.out.block G (Nat.lt_of_lt_of_le HSZ.out HG2.out.size) (by have := HBL.out; omega)))); (have c1 := (HM3.out x h1).1; have f1 := (HM3.out x h1).2); rw [decide_eq_false (show ¬ x < x by omega)] at c1; clear hs3 hx3) | (go_at_call 13; refine (taken_any b g c' (one x k) k w3 HS3.out).mono ?_; rintro e w4 ⟨he, hw⟩; subst he; subst hw))
              go_roundw
              case rel => exact ⟨x + 1, x + 1, by simp, by simp, by omega, by omega, HM3.out.set h1, by have := HX3.out.size; have := HG2.out.size; have := HSZ.out; simp; omega, (HX3.out.gr (Gr.trans HGQ.out HG2.out) (by have := HBL.out; have := HG0.out; omega)).setCell (by show w1.heap.size ≤ G; have := HG0.out; omega) _⟩
              case measure => simp [intOf]; omega
            · have HRB := Lib.hid (show rBelow (one x k) m 0 = (0, 4, 0) from by unfold rBelow; rw [if_neg (by omega), h2])
              clear h2
              go_wp2_with (first | (go_at_call 8; refine (HNEW.out _).mono ?_; rintro e w2 ⟨b, g, c', rfl, hs2, hb1, hb2, hg2⟩; (have HS2 := Lib.hid hs2; have HB := Lib.hid hb1; have HG2 := Lib.hid (Gr.trans (Gr.new wr _) hg2)); (have HBL := Lib.hid (show G < b from by have := HSZ.out; simp at hb1; omega)); clear hs2 hb1 hb2 hg2) | (go_at_call 18; refine (pBelow_any b g c' (one x k) 0 m w2 HS2.out (by omega)).mono ?_; rintro e w3 ⟨he, hs3, hx3⟩; rw [HRB.out] at he hs3; subst he; (have HS3 := Lib.hid hs3; have HX3 := Lib.hid hx3); (have HM3 := Lib.hid (show Marks w3 G m c from (HMK.out.same (HG2.out.block G HSZ.out)).same (HX3.out.block G (Nat.lt_of_lt_of_le HSZ.out HG2.out.size) (by have := HBL.out; omega)))); clear hs3 hx3) | (go_at_call 13; refine (taken_any b g c' (one x k) 0 w3 HS3.out).mono ?_; rintro e w4 ⟨he, hw⟩; subst he; subst hw))
              go_roundw
              case rel => exact ⟨x + 1, c, by simp, by simp, by omega, by have := HCM.out; omega, HM3.out, by have := HX3.out.size; have := HG2.out.size; have := HSZ.out; omega, HX3.out.gr (Gr.trans HGQ.out HG2.out) (by have := HBL.out; have := HG0.out; omega)⟩
              case measure => simp [intOf]; omega
            · have HRB := Lib.hid (show rBelow (one x k) m 0 = (v, 0, q) from by unfold rBelow; rw [if_neg (by omega), h2])
              have hqk := bel_miss hm1 hm2 hk HW.out HXK.out h1 h2
              have hqki : ¬ (q : Int) = (k : Int) := by omega
              clear h2
              go_wp2_with (first | (go_at_call 8; refine (HNEW.out _).mono ?_; rintro e w2 ⟨b, g, c', rfl, hs2, hb1, hb2, hg2⟩; (have HS2 := Lib.hid hs2; have HB := Lib.hid hb1; have HG2 := Lib.hid (Gr.trans (Gr.new wr _) hg2)); (have HBL := Lib.hid (show G < b from by have := HSZ.out; simp at hb1; omega)); clear hs2 hb1 hb2 hg2) | (go_at_call 18; refine (pBelow_any b g c' (one x k) 0 m w2 HS2.out (by omega)).mono ?_; rintro e w3 ⟨he, hs3, hx3⟩; rw [HRB.out] at he hs3; subst he; (have HS3 := Lib.hid hs3; have HX3 := Lib.hid hx3); (have HM3 := Lib.hid (show Marks w3 G m c from (HMK.out.same (HG2.out.block G HSZ.out)).same (HX3.out.block G (Nat.lt_of_lt_of_le HSZ.out HG2.out.size) (by have := HBL.out; omega)))); clear hs3 hx3) | (go_at_call 13; refine (taken_any b g c' (one x k) q w3 HS3.out).mono ?_; rintro e w4 ⟨he, hw⟩; subst he; subst hw))
              go_roundw
              case rel => exact ⟨x + 1, c, by simp, by simp, by omega, by have := HCM.out; omega, HM3.out, by have := HX3.out.size; have := HG2.out.size; have := HSZ.out; omega, HX3.out.gr (Gr.trans HGQ.out HG2.out) (by have := HBL.out; have := HG0.out; omega)⟩
              case measure => simp [intOf]; omega
          · obtain rfl : E = x := by omega
            have hcm : c = m := by
              have h1 := HCM.out
              omega
            subst hcm
            obtain ⟨M1, hM1⟩ : ∃ M1 : Int, M1 = (c : Int) + 1 := ⟨_, rfl⟩
            have HP2 := Lib.hid (fun w => pick_any h M1 w (by omega) HH.out)
            have HN := Lib.hid (fun w => pNew_any s w (by have := HL.out; omega))
            have hM1' : (c : Int) + 1 = M1 := hM1.symm
            have HM1 := Lib.hid hM1
            clear hM1
            have ek := EK.out
            have ek2 := EK2.out
            go_wp2_with (first | (go_at_call 17; refine (HP2.out _).mono ?_; rintro e wp ⟨⟨r2, rfl, hr2⟩, hw⟩; subst hw; clear ek ek2; (have HR2 := Lib.hid (show r2 ≤ c from by have := HM1.out; omega)); clear hr2; (have hr3 : (r2 : Int) ≤ 200 := by have := HR2.out; omega)) | (go_at_call 8; refine (HN.out _).mono ?_; rintro e w2 ⟨b, g, c', rfl, hs2, hb1, hb2, hg2⟩; (have HS2 := Lib.hid hs2; have HB2 := Lib.hid hb1; have HG2 := Lib.hid hg2); clear hs2 hb1 hb2 hg2) | (go_at_call 19; (obtain ⟨O, cd, q, hT, hTc⟩ := tern_res s c r2 hm1 hm2 HR2.out); refine (pTernary_any b g c' s 0 (c : Nat) (r2 : Nat) w2 HS2.out).mono ?_; rw [hT]; rintro e w3 ⟨a1, m1, k1, rfl, hq1, _, hs3, hx3⟩; (have hl1 := hq1.len.1); (have HQ1 := Lib.hid hq1; have HG3 := Lib.hid (hx3.gr HG2.out HB2.out)); clear hq1 hs3 hx3 hT; rcases hTc with ⟨rfl, t1, t2, t3⟩ | ⟨rfl, rfl⟩; (obtain rfl : c = m1 := by dsimp only at hl1; omega); (have HT1 := Lib.hid t1; have HT2 := Lib.hid t2; have HT3 := Lib.hid t3); clear t1 t2 t3 hl1; rotate_left; (obtain rfl : 0 = m1 := by simpa using hl1.symm); clear hl1; rotate_left) | (go_at_call 20; (obtain ⟨l2, cd2, q2, hT, hTc, hTb⟩ := bnd_res s c r2 hm2 HR2.out); refine (pBounded_any b g c' s 0 (c : Nat) r2 w2 HS2.out (by have := HR2.out; omega)).mono ?_; rw [hT]; rintro e w5 ⟨a2, m2, k2, rfl, hq2, _, hs3, hx3⟩; (have hl2 := hq2.len.1); (have HQ2 := Lib.hid hq2; have HTB := Lib.hid hTb; have HG5 := Lib.hid (hx3.gr HG2.out HB2.out)); clear hq2 hs3 hx3 hT hTb; rcases hTc with ⟨rfl, t4⟩ | ⟨rfl, rfl⟩; (obtain rfl : c = m2 := by dsimp only at hl2; omega); (have HT4 := Lib.hid t4); clear t4 hl2; rotate_left; (obtain rfl : 0 = m2 := by simpa using hl2.symm); clear hl2; rotate_left))
            · go_loopw [20, 21] (fun y x wr => ∃ i cn : Nat, y = .int .i64 (cn : Nat) ∧ x = .int .i64 (i : Nat) ∧ i ≤ c ∧ cn = nz (O.take i) ∧ cn ≤ i ∧ Gr w5 wr) (fun _ x _ => c - (intOf x).toNat)
              case atStart => exact ⟨0, 0, rfl, rfl, by omega, rfl, by omega, Gr.refl _⟩
              case round =>
                obtain ⟨i, cn, rfl, rfl, hi, hcn, hcn2, hg⟩ := hrel
                have HGI := Lib.hid hg
                have HCN := Lib.hid hcn
                clear hcn
                have hcase : i < c ∨ ¬ i < c := Classical.em _
                rcases hcase with hc | hc
                · have hci : (i : Int) < (c : Int) := by omega
                  obtain ⟨gg, oo, rfl, hcl⟩ := HasQ8_at (HQ1.out.later HG5.out) (i := i) (by rw [HT1.out]; exact hc)
                  have hcl2 := hg.keeps hcl
                  have hzb := HT3.out _ (Op.cf_mem (l := O) (i := i) (by rw [HT1.out]; exact hc))
                  have hnz := nz_take O i (by rw [HT1.out]; exact hc)
                  have HNZ := Lib.hid hnz
                  obtain ⟨z, hz⟩ : ∃ z, z = Op.cf O i := ⟨_, rfl⟩
                  rw [← hz] at hcl2 hzb
                  have HZ := Lib.hid hz
                  obtain ⟨hz1, hz2⟩ := hzb
                  clear hg hcl hnz hz
                  have hz1' : ¬ z < -1 := by omega
                  have hz2' : ¬ 1 < z := by omega
                  by_cases hz0 : z = 0
                  · subst hz0
                    go_wp2_with fail
                    go_roundw
                    case rel => exact ⟨i + 1, cn, rfl, by simp, by omega, by rw [HNZ.out, ← HZ.out, if_pos rfl, HCN.out]; rfl, by omega, HGI.out⟩
                    case measure => simp [intOf]; omega
                  · go_wp2_with fail
                    go_roundw
                    case rel => exact ⟨i + 1, cn + 1, by simp, by simp, by omega, by rw [HNZ.out, ← HZ.out, if_neg hz0, HCN.out], by omega, HGI.out⟩
                    case measure => simp [intOf]; omega
                · obtain rfl : c = i := by omega
                  have hcr : cn = r2 := by rw [HCN.out, List.take_of_length_le (by rw [HT1.out]; omega)]; exact HT2.out
                  obtain rfl : r2 = cn := hcr.symm
                  clear hg hcr HCN
                  have HG5' := Lib.hid (Gr.trans HG5.out HGI.out)
                  go_wp2_with fail
                  go_loopw [22] (fun x wr => ∃ i : Nat, x = .int .i64 (i : Nat) ∧ i ≤ c ∧ Gr w5 wr) (fun x _ => c - (intOf x).toNat)
                  case atStart => exact ⟨0, rfl, by omega, HGI.out⟩
                  case round =>
                    obtain ⟨i, rfl, hi, hg⟩ := hrel
                    have HGJ := Lib.hid hg
                    have hcase : i < c ∨ ¬ i < c := Classical.em _
                    rcases hcase with hc | hc
                    · have hci : (i : Int) < (c : Nat) := by omega
                      obtain ⟨gg, oo, rfl, hcl⟩ := HasQo_at HQ2.out (i := i) (by rw [HT4.out]; exact hc)
                      have hcl2 := hg.keeps hcl
                      have hzb := HTB.out _ (Op.cf_mem (l := l2) (i := i) (by rw [HT4.out]; exact hc))
                      generalize Op.cf l2 i = z at hcl2 hzb
                      obtain ⟨hz1, hz2⟩ := hzb
                      clear hg hcl
                      have hz1' : ¬ z < -(r2 : Int) := by omega
                      have hz2' : ¬ (r2 : Int) < z := by omega
                      go_wp2_with fail
                      go_roundw
                      case rel => exact ⟨i + 1, by simp, by omega, HGJ.out⟩
                      case measure => simp [intOf]; omega
                    · obtain rfl : c = i := by omega
                      clear hg
                      go_wp2_with (go_at_call 7; refine (shown_any _).mono ?_; rintro e w9 ⟨rfl, hg9⟩)
                      go_ret
                      exact ⟨rfl, Gr.trans (Gr.trans HGQ.out (Gr.trans HG3.out HG5.out)) (Gr.trans HGJ.out hg9)⟩
            · go_loopw [20, 21] (fun y x wr => ∃ i cn : Nat, y = .int .i64 (cn : Nat) ∧ x = .int .i64 (i : Nat) ∧ i ≤ c ∧ cn = nz (O.take i) ∧ cn ≤ i ∧ Gr w5 wr) (fun _ x _ => c - (intOf x).toNat)
              case atStart => exact ⟨0, 0, rfl, rfl, by omega, rfl, by omega, Gr.refl _⟩
              case round =>
                obtain ⟨i, cn, rfl, rfl, hi, hcn, hcn2, hg⟩ := hrel
                have HGI := Lib.hid hg
                have HCN := Lib.hid hcn
                clear hcn
                have hcase : i < c ∨ ¬ i < c := Classical.em _
                rcases hcase with hc | hc
                · have hci : (i : Int) < (c : Int) := by omega
                  obtain ⟨gg, oo, rfl, hcl⟩ := HasQ8_at (HQ1.out.later HG5.out) (i := i) (by rw [HT1.out]; exact hc)
                  have hcl2 := hg.keeps hcl
                  have hzb := HT3.out _ (Op.cf_mem (l := O) (i := i) (by rw [HT1.out]; exact hc))
                  have hnz := nz_take O i (by rw [HT1.out]; exact hc)
                  have HNZ := Lib.hid hnz
                  obtain ⟨z, hz⟩ : ∃ z, z = Op.cf O i := ⟨_, rfl⟩
                  rw [← hz] at hcl2 hzb
                  have HZ := Lib.hid hz
                  obtain ⟨hz1, hz2⟩ := hzb
                  clear hg hcl hnz hz
                  have hz1' : ¬ z < -1 := by omega
                  have hz2' : ¬ 1 < z := by omega
                  by_cases hz0 : z = 0
                  · subst hz0
                    go_wp2_with fail
                    go_roundw
                    case rel => exact ⟨i + 1, cn, rfl, by simp, by omega, by rw [HNZ.out, ← HZ.out, if_pos rfl, HCN.out]; rfl, by omega, HGI.out⟩
                    case measure => simp [intOf]; omega
                  · go_wp2_with fail
                    go_roundw
                    case rel => exact ⟨i + 1, cn + 1, by simp, by simp, by omega, by rw [HNZ.out, ← HZ.out, if_neg hz0, HCN.out], by omega, HGI.out⟩
                    case measure => simp [intOf]; omega
                · obtain rfl : c = i := by omega
                  have hcr : cn = r2 := by rw [HCN.out, List.take_of_length_le (by rw [HT1.out]; omega)]; exact HT2.out
                  obtain rfl : r2 = cn := hcr.symm
                  clear hg hcr HCN
                  have HG5' := Lib.hid (Gr.trans HG5.out HGI.out)
                  go_wp2_with fail
                  go_loopw [22] (fun x wr => x = .int .i64 0 ∧ Gr w5 wr) (fun x _ => 0)
                  case atStart => exact ⟨rfl, HGI.out⟩
                  case round =>
                    obtain ⟨rfl, hg⟩ := hrel
                    have HGJ := Lib.hid hg
                    clear hg
                    go_wp2_with (go_at_call 7; refine (shown_any _).mono ?_; rintro e w9 ⟨rfl, hg9⟩)
                    go_ret
                    exact ⟨rfl, Gr.trans (Gr.trans HGQ.out (Gr.trans HG3.out HG5.out)) (Gr.trans HGJ.out hg9)⟩
            · go_loopw [22] (fun x wr => ∃ i : Nat, x = .int .i64 (i : Nat) ∧ i ≤ c ∧ Gr w5 wr) (fun x _ => c - (intOf x).toNat)
              case atStart => exact ⟨0, rfl, by omega, Gr.refl _⟩
              case round =>
                obtain ⟨i, rfl, hi, hg⟩ := hrel
                have HGI := Lib.hid hg
                have hcase : i < c ∨ ¬ i < c := Classical.em _
                rcases hcase with hc | hc
                · have hci : (i : Int) < (c : Nat) := by omega
                  obtain ⟨gg, oo, rfl, hcl⟩ := HasQo_at HQ2.out (i := i) (by rw [HT4.out]; exact hc)
                  have hcl2 := hg.keeps hcl
                  have hzb := HTB.out _ (Op.cf_mem (l := l2) (i := i) (by rw [HT4.out]; exact hc))
                  generalize Op.cf l2 i = z at hcl2 hzb
                  obtain ⟨hz1, hz2⟩ := hzb
                  clear hg hcl
                  have hz1' : ¬ z < -(r2 : Int) := by omega
                  have hz2' : ¬ (r2 : Int) < z := by omega
                  go_wp2_with fail
                  go_roundw
                  case rel => exact ⟨i + 1, by simp, by omega, HGI.out⟩
                  case measure => simp [intOf]; omega
                · obtain rfl : c = i := by omega
                  clear hg
                  go_wp2_with (go_at_call 7; refine (shown_any _).mono ?_; rintro e w9 ⟨rfl, hg9⟩)
                  go_ret
                  exact ⟨rfl, Gr.trans (Gr.trans HGQ.out (Gr.trans HG3.out HG5.out)) (Gr.trans HGI.out hg9)⟩
            · go_loopw [22] (fun x wr => x = .int .i64 0 ∧ Gr w5 wr) (fun x _ => 0)
              case atStart => exact ⟨rfl, Gr.refl _⟩
              case round =>
                obtain ⟨rfl, hg⟩ := hrel
                have HGI := Lib.hid hg
                clear hg
                go_wp2_with (go_at_call 7; refine (shown_any _).mono ?_; rintro e w9 ⟨rfl, hg9⟩)
                go_ret
                exact ⟨rfl, Gr.trans (Gr.trans HGQ.out (Gr.trans HG3.out HG5.out)) (Gr.trans HGI.out hg9)⟩
end Go.Proofs.Ytmankcmmlcfbaaa
