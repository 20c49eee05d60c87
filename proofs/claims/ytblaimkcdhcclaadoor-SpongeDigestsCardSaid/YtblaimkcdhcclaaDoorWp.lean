/- The law SpongeDigests. -/
import Derived.Test.YtblaimkcdhcclaaDoorWo
namespace Go.Proofs.YtblaimkcdhcclaaDoor
open Go.RowKit Oz
set_option linter.unusedVariables false
set_option linter.unusedSimpArgs false
theorem infoStr : (Tryd.prog.info? 9).map (fun i => (i.zero, i.size, i.bytes)) = some (some (.string ByteArray.empty), 1, 16) := by kernel_rfl
theorem info_str : ∃ i : TypeInfo, Tryd.prog.info? 9 = some i ∧ i.zero = some (.string ByteArray.empty) ∧ i.size = 1 ∧ i.bytes = 16 := by
  have h := infoStr
  cases hi : Tryd.prog.info? 9 with
  | none => rw [hi] at h; cases h
  | some i =>
    rw [hi] at h
    simp only [Option.map_some, Option.some.injEq, Prod.mk.injEq] at h
    exact ⟨i, rfl, h.1, h.2.1, h.2.2⟩
def scells (n : Nat) (S : Nat → ByteArray) : List Value := (List.range n).map fun i => .string (S i)
theorem scells_at (n : Nat) (S : Nat → ByteArray) (j : Nat) (u : Value) (h : (scells n S)[j]? = some u) : j < n ∧ u = .string (S j) := by
  have hj : j < n := by
    have := (List.getElem?_eq_some_iff.1 h).1
    simpa [scells] using this
  refine ⟨hj, ?_⟩
  simp [scells, List.getElem?_map, List.getElem?_range hj] at h
  exact h.symm
/-- A copy: append to a new, empty slice of strings. -/
theorem run_copyStr (w : World) (g : Nat) (hg : w.heap[g]? = some (.cells #[] 9 (0, 0))) (base : Nat) (hb1 : base ≤ g) (u : Value) (n : Nat) (S : Nat → ByteArray) (hu : HasStr w u n S) (hn : n ≤ 1000000) :
    ∃ v' w', (Builtin.append_ #[29, 29] 29 #[.slice (some ⟨g, 0, none⟩) 0 0, u]).run Tryd.prog w = .ok v' w' ∧ HasStr w' v' n S ∧ w.grownBy w' (some g) := by
  obtain ⟨i, hi, hz, h1, hby⟩ := info_str
  have hglt : g < w.heap.size := (Array.getElem?_eq_some_iff.1 hg).1
  obtain ⟨a, cap, rfl, hc1, hc2, hc⟩ := hu
  rcases a with _ | ad
  · obtain rfl : n = 0 := by
      rcases n with _ | n
      · rfl
      · obtain ⟨g', o, e, _⟩ := hc 0 (by omega)
        cases e
    refine ⟨.slice (some ⟨g, 0, none⟩) 0 0, w, ?_, ⟨_, 0, rfl, Nat.le_refl _, by omega, fun i hi => by omega⟩, World.grownBy.refl w _⟩
    simp [Builtin.append_, run_underlying Tryd.underlying29, sizeOf, typeInfo, hi, Builtin.lenOf, Builtin.firstCells, storeCells]
  · have hl : (scells n S).length = n * 1 := by simp [scells]
    have hnews : ∀ j x, (scells n S)[j]? = some x → w.cell? (ad.add j) = some x := by
      intro j x hx
      obtain ⟨hj, rfl⟩ := scells_at n S j x hx
      obtain ⟨g', o, e, hcell⟩ := hc j hj
      obtain rfl := Option.some.inj e
      rw [show (⟨g', o, none⟩ : Addr).add j = ⟨g', o + j, none⟩ from by unfold Addr.add; split <;> simp_all]
      exact hcell
    obtain ⟨v', w', hr, h5, h6, _⟩ := run_append_own (P := Tryd.prog) w base 29 29 9 i (.string ByteArray.empty) 1 16 Tryd.underlying29 hi hz h1 hby rfl (by decide) (.slice (some ⟨g, 0, none⟩) 0 0) 0 []
      ⟨by simp, .inr ⟨g, 0, #[], rfl, hb1, hg, Nat.le_refl _, by unfold maxLen; omega, by simp, by simp⟩⟩ ad n cap (scells n S) hl hnews (fun x hx => by
        obtain ⟨j, _, rfl⟩ := List.mem_map.1 hx
        rfl) (by unfold maxLen; omega) (by omega) (by omega)
    refine ⟨v', w', hr, ?_, h6⟩
    rw [List.nil_append, Nat.zero_add] at h5
    obtain ⟨_, h5⟩ := h5
    rcases h5 with ⟨rfl, rfl⟩ | ⟨g', cap', cur, rfl, hb', hg', hn', hm', hcs, ht⟩
    · exact ⟨none, 0, rfl, Nat.le_refl _, by omega, fun i hi => by omega⟩
    · refine ⟨_, cap', rfl, hn', by unfold maxLen at hm'; omega, fun j hj => ⟨g', 0, rfl, ?_⟩⟩
      rw [Nat.zero_add, cell_of_row w' g' j cur _ (0, 0) hg']
      have h7 : (scells n S)[j]? = some (.string (S j)) := by simp [scells, List.getElem?_map, List.getElem?_range hj]
      rw [← ht, List.getElem?_take, Nat.mul_one, if_pos hj] at h7
      simpa using h7
/-- append of strings, as a step of the walk. -/
theorem wpList_copyStr {ops : Array Oper} {rest : List Oper} {o : Oper} {a : Act} {w : World} {Q : Exit → Act → World → Prop} (hgd : o.guard = none) (s x : Operand)
    (ho : o.op = .call { callee := .builtin .append, args := #[s, x], argTypes := #[29, 29] }) (hty : o.type = 29)
    (g : Nat) (hg : w.heap[g]? = some (.cells #[] 9 (0, 0))) (base : Nat) (hb1 : base ≤ g) (hs : a.eval s = .slice (some ⟨g, 0, none⟩) 0 0) (u : Value) (n : Nat) (S : Nat → ByteArray) (hx : a.eval x = u) (hu : HasStr w u n S) (hn : n ≤ 1000000)
    (h : ∀ v' w', HasStr w' v' n S → w.grownBy w' (some g) → wpList Tryd.prog ops Q rest (a.put o.dst v') w') : wpList Tryd.prog ops Q (o :: rest) a w :=
  wpList_plain hgd fun _ hK => by
    obtain ⟨v', w', hr, h2, h3⟩ := run_copyStr w g hg base hb1 u n S hu hn
    unfold Oper.wp execOp
    simp only [ho, hty, resolve, invoke, builtin, Sem.run_bind, Sem.run_pure, Result.andThen_ok, List.map_toArray, List.map_cons, List.map_nil, hs, hx, hr]
    exact hK _ _ (h v' w' h2 h3)
set_option maxRecDepth 100000 in
set_option maxHeartbeats 8000000 in
theorem digests_law (hP : PermOK) (hS : StrmOK) (hD : DigOK) (hT : ShrtOK) (hL : ListOK) (d : Nat) (v : Value) (n : Nat) (S : Nat → ByteArray) (k : Int) (w : World) (hd : d < 256) (hv : HasStr w v n S) (hsz : ∀ i, (S i).size ≤ 9223372036854775807) (htab : Tab w) :
    Calls Tryd.prog 4 #[.int .u8 (d : Nat), v, .int .i64 k] w (Truth w) := by
  have HTB := Lib.hid htab
  clear htab
  have HSH := Lib.hid (shown_any hP hS hD hT)
  have HLO := Lib.hid (long_any v n 20000 S w hv (by omega) hsz)
  have HV := Lib.hid hv
  obtain ⟨a, cap, rfl, hn1, hn2, hA⟩ := hv
  have HA := Lib.hid hA
  clear hA
  go_enter Tryd.func4, Tryd.ntmps4
  go_wp2_with fail
  refine HLO.out.mono ?_
  rintro e w1 ⟨b, rfl, hb, hg1⟩
  have HG1 := Lib.hid hg1
  clear hg1 HLO
  cases b with
  | true =>
    clear hb
    go_wp2_with (go_at_call 9; refine (HSH.out _ (HTB.out.later HG1.out)).mono ?_; rintro e w2 ⟨rfl, hg2⟩)
    go_ret
    exact ⟨rfl, Gr.trans HG1.out hg2⟩
  | false =>
    have hw := hb rfl
    clear hb
    have hcase : (20000 < k ∧ k ≤ 1048576) ∨ k ≤ 20000 ∨ (20000 < k ∧ ¬ k ≤ 1048576) := by omega
    rcases hcase with ⟨h1, h2⟩ | h1
    · go_wp2_with (go_at_call 9; refine (HSH.out _ (HTB.out.later HG1.out)).mono ?_; rintro e w2 ⟨rfl, hg2⟩)
      go_ret
      exact ⟨rfl, Gr.trans HG1.out hg2⟩
    · obtain ⟨s, hs, hsn⟩ : ∃ s : ByteArray, s.size ≤ 200000 ∧ (n = 0 ∧ s = ⟨#[]⟩ ∨ 0 < n ∧ s = S 0) := by
        rcases Nat.eq_zero_or_pos n with h0 | h0
        · exact ⟨⟨#[]⟩, by decide, .inl ⟨h0, rfl⟩⟩
        · exact ⟨S 0, by have h5 := wsum_mono S (show 1 ≤ n by omega); have h6 : wsum S 1 = 0 + (S 0).size + 1 := rfl; omega, .inr ⟨h0, rfl⟩⟩
      have hk : ¬ (20000 < k ∧ k ≤ 1048576) := by omega
      obtain ⟨x1, hx1⟩ : ∃ x1, x1 = strmS s k := ⟨_, rfl⟩
      obtain ⟨k1, hk1⟩ : ∃ k1, k1 = strmE k := ⟨_, rfl⟩
      obtain ⟨x2, hx2⟩ : ∃ x2, x2 = spS s 0 32 := ⟨_, rfl⟩
      obtain ⟨x3, hx3⟩ : ∃ x3, x3 = spS s 0 8 := ⟨_, rfl⟩
      obtain ⟨x4, hx4⟩ : ∃ x4, x4 = spS (lstB d n S) 0 32 := ⟨_, rfl⟩
      have HA1 := Lib.hid (fun w (ht : Tab w) => by have := hS s k w ht hs hk; rw [← hx1, ← hk1] at this; exact this)
      have HB1 := Lib.hid (fun w => by have := rStream_any s k hs hk w; rw [← hx1, ← hk1] at this; exact this)
      have HA2 := Lib.hid (fun w (ht : Tab w) => by have := hD s w ht hs; rw [← hx2] at this; exact this)
      have HB2 := Lib.hid (fun w => by have := rDigest_any s hs w; rw [← hx2] at this; exact this)
      have HA3 := Lib.hid (fun w (ht : Tab w) => by have := hT s w ht hs; rw [← hx3] at this; exact this)
      have HB3 := Lib.hid (fun w => by have := rShort_any s hs w; rw [← hx3] at this; exact this)
      have HA4 := Lib.hid (fun v w (ht : Tab w) (h : HasStr w v n S) => by have := hL d n v S w ht hd h (by omega); rw [← hx4] at this; exact this)
      have HB4 := Lib.hid (fun v w (h : HasStr w v n S) => by have := rList_any d n v S w hd h (by omega); rw [← hx4] at this; exact this)
      have hnw := wsum_le S n
      have hn6 : n ≤ 1000000 := by omega
      have HN6 := Lib.hid hn6
      clear hx1 hk1 hx2 hx3 hx4 hP hS hD hT hL hw hnw hn6 hs
      have HNEW := Lib.hid (show (w1.alloc (.cells #[] 9)).heap[w1.heap.size]? = some (.cells #[] 9 (0, 0)) from heap_alloc_new w1 _)
      have HGN := Lib.hid (show Gr w (w1.alloc (.cells #[] 9)) from HG1.out.alloc _)
      have HV1 := Lib.hid (HV.out.later HGN.out)
      rcases h1 with h1 | ⟨h1, h2⟩ <;> rcases hsn with ⟨h0, hs⟩ | ⟨h0, hs⟩
      · subst hs
        subst h0
        go_wp2_with (first
          | (at_builtin; refine wpList_copyStr rfl (.tmp 30) (.tmp 31) rfl rfl w1.heap.size HNEW.out w1.heap.size (Nat.le_refl _) rfl (.slice _ 0 cap) 0 S rfl HV1.out HN6.out ?_; intro v2 w2 hcp hgrow; (have HCP := Lib.hid hcp); (have HG2 := Lib.hid (show Gr w w2 from Below.grown HGN.out hgrow HGN.out.size (fun j ej => by cases ej; exact HG1.out.size))); clear hcp hgrow)
          | (go_at_call 11; refine (HA1.out _ (HTB.out.later HG2.out)).mono ?_; rintro e w3 ⟨rfl, hg3⟩; (have HR3 := Lib.hid hg3); clear hg3)
          | (go_at_call 12; refine (HB1.out _).mono ?_; rintro e w4 ⟨rfl, hg4⟩; (have HR4 := Lib.hid (Gr.trans HR3.out hg4)); clear hg4)
          | (go_at_call 13; refine (HA2.out _ (HTB.out.later (Gr.trans HG2.out HR4.out))).mono ?_; rintro e w5 ⟨rfl, hg5⟩; (have HR5 := Lib.hid (Gr.trans HR4.out hg5)); clear hg5)
          | (go_at_call 14; refine (HB2.out _).mono ?_; rintro e w6 ⟨rfl, hg6⟩; (have HR6 := Lib.hid (Gr.trans HR5.out hg6)); clear hg6)
          | (go_at_call 15; refine (HA3.out _ (HTB.out.later (Gr.trans HG2.out HR6.out))).mono ?_; rintro e w7 ⟨rfl, hg7⟩; (have HR7 := Lib.hid (Gr.trans HR6.out hg7)); clear hg7)
          | (go_at_call 16; refine (HB3.out _).mono ?_; rintro e w8 ⟨rfl, hg8⟩; (have HR8 := Lib.hid (Gr.trans HR7.out hg8)); clear hg8)
          | (go_at_call 17; refine (HA4.out _ _ (HTB.out.later (Gr.trans HG2.out HR8.out)) (HCP.out.later HR8.out)).mono ?_; rintro e w9 ⟨rfl, hg9⟩; (have HR9 := Lib.hid (Gr.trans HR8.out hg9)); clear hg9)
          | (go_at_call 18; refine (HB4.out _ _ (HV.out.later (Gr.trans HG2.out HR9.out))).mono ?_; rintro e w10 ⟨rfl, hg10⟩; (have HR10 := Lib.hid (Gr.trans HR9.out hg10)); clear hg10)
          | (go_at_call 19; refine (sameStr_any _ _ 0 S _ (HCP.out.later HR10.out) (HV.out.later (Gr.trans HG2.out HR10.out))).mono ?_; rintro e w11 ⟨rfl, hg11⟩; (have HR11 := Lib.hid (Gr.trans HR10.out hg11)); clear hg11)
          | (go_at_call 9; refine (HSH.out _ (HTB.out.later (Gr.trans HG2.out HR11.out))).mono ?_; rintro e w12 ⟨rfl, hg12⟩; (have HR12 := Lib.hid (Gr.trans HR11.out hg12)); clear hg12))
        go_ret
        exact ⟨rfl, Gr.trans HG2.out HR12.out⟩
      · subst hs
        have h0i : (0 : Int) < (n : Int) := by omega
        obtain ⟨gl, ol, rfl, hcell⟩ := HA.out 0 h0
        rw [Nat.add_zero] at hcell
        have hc1 := HG1.out.keeps hcell
        clear hcell h0
        go_wp2_with (first
          | (at_builtin; refine wpList_copyStr rfl (.tmp 30) (.tmp 31) rfl rfl w1.heap.size HNEW.out w1.heap.size (Nat.le_refl _) rfl (.slice _ n cap) n S rfl HV1.out HN6.out ?_; intro v2 w2 hcp hgrow; (have HCP := Lib.hid hcp); (have HG2 := Lib.hid (show Gr w w2 from Below.grown HGN.out hgrow HGN.out.size (fun j ej => by cases ej; exact HG1.out.size))); clear hcp hgrow)
          | (go_at_call 11; refine (HA1.out _ (HTB.out.later HG2.out)).mono ?_; rintro e w3 ⟨rfl, hg3⟩; (have HR3 := Lib.hid hg3); clear hg3)
          | (go_at_call 12; refine (HB1.out _).mono ?_; rintro e w4 ⟨rfl, hg4⟩; (have HR4 := Lib.hid (Gr.trans HR3.out hg4)); clear hg4)
          | (go_at_call 13; refine (HA2.out _ (HTB.out.later (Gr.trans HG2.out HR4.out))).mono ?_; rintro e w5 ⟨rfl, hg5⟩; (have HR5 := Lib.hid (Gr.trans HR4.out hg5)); clear hg5)
          | (go_at_call 14; refine (HB2.out _).mono ?_; rintro e w6 ⟨rfl, hg6⟩; (have HR6 := Lib.hid (Gr.trans HR5.out hg6)); clear hg6)
          | (go_at_call 15; refine (HA3.out _ (HTB.out.later (Gr.trans HG2.out HR6.out))).mono ?_; rintro e w7 ⟨rfl, hg7⟩; (have HR7 := Lib.hid (Gr.trans HR6.out hg7)); clear hg7)
          | (go_at_call 16; refine (HB3.out _).mono ?_; rintro e w8 ⟨rfl, hg8⟩; (have HR8 := Lib.hid (Gr.trans HR7.out hg8)); clear hg8)
          | (go_at_call 17; refine (HA4.out _ _ (HTB.out.later (Gr.trans HG2.out HR8.out)) (HCP.out.later HR8.out)).mono ?_; rintro e w9 ⟨rfl, hg9⟩; (have HR9 := Lib.hid (Gr.trans HR8.out hg9)); clear hg9)
          | (go_at_call 18; refine (HB4.out _ _ (HV.out.later (Gr.trans HG2.out HR9.out))).mono ?_; rintro e w10 ⟨rfl, hg10⟩; (have HR10 := Lib.hid (Gr.trans HR9.out hg10)); clear hg10)
          | (go_at_call 19; refine (sameStr_any _ _ n S _ (HCP.out.later HR10.out) (HV.out.later (Gr.trans HG2.out HR10.out))).mono ?_; rintro e w11 ⟨rfl, hg11⟩; (have HR11 := Lib.hid (Gr.trans HR10.out hg11)); clear hg11)
          | (go_at_call 9; refine (HSH.out _ (HTB.out.later (Gr.trans HG2.out HR11.out))).mono ?_; rintro e w12 ⟨rfl, hg12⟩; (have HR12 := Lib.hid (Gr.trans HR11.out hg12)); clear hg12))
        go_ret
        exact ⟨rfl, Gr.trans HG2.out HR12.out⟩
      · subst hs
        subst h0
        go_wp2_with (first
          | (at_builtin; refine wpList_copyStr rfl (.tmp 30) (.tmp 31) rfl rfl w1.heap.size HNEW.out w1.heap.size (Nat.le_refl _) rfl (.slice _ 0 cap) 0 S rfl HV1.out HN6.out ?_; intro v2 w2 hcp hgrow; (have HCP := Lib.hid hcp); (have HG2 := Lib.hid (show Gr w w2 from Below.grown HGN.out hgrow HGN.out.size (fun j ej => by cases ej; exact HG1.out.size))); clear hcp hgrow)
          | (go_at_call 11; refine (HA1.out _ (HTB.out.later HG2.out)).mono ?_; rintro e w3 ⟨rfl, hg3⟩; (have HR3 := Lib.hid hg3); clear hg3)
          | (go_at_call 12; refine (HB1.out _).mono ?_; rintro e w4 ⟨rfl, hg4⟩; (have HR4 := Lib.hid (Gr.trans HR3.out hg4)); clear hg4)
          | (go_at_call 13; refine (HA2.out _ (HTB.out.later (Gr.trans HG2.out HR4.out))).mono ?_; rintro e w5 ⟨rfl, hg5⟩; (have HR5 := Lib.hid (Gr.trans HR4.out hg5)); clear hg5)
          | (go_at_call 14; refine (HB2.out _).mono ?_; rintro e w6 ⟨rfl, hg6⟩; (have HR6 := Lib.hid (Gr.trans HR5.out hg6)); clear hg6)
          | (go_at_call 15; refine (HA3.out _ (HTB.out.later (Gr.trans HG2.out HR6.out))).mono ?_; rintro e w7 ⟨rfl, hg7⟩; (have HR7 := Lib.hid (Gr.trans HR6.out hg7)); clear hg7)
          | (go_at_call 16; refine (HB3.out _).mono ?_; rintro e w8 ⟨rfl, hg8⟩; (have HR8 := Lib.hid (Gr.trans HR7.out hg8)); clear hg8)
          | (go_at_call 17; refine (HA4.out _ _ (HTB.out.later (Gr.trans HG2.out HR8.out)) (HCP.out.later HR8.out)).mono ?_; rintro e w9 ⟨rfl, hg9⟩; (have HR9 := Lib.hid (Gr.trans HR8.out hg9)); clear hg9)
          | (go_at_call 18; refine (HB4.out _ _ (HV.out.later (Gr.trans HG2.out HR9.out))).mono ?_; rintro e w10 ⟨rfl, hg10⟩; (have HR10 := Lib.hid (Gr.trans HR9.out hg10)); clear hg10)
          | (go_at_call 19; refine (sameStr_any _ _ 0 S _ (HCP.out.later HR10.out) (HV.out.later (Gr.trans HG2.out HR10.out))).mono ?_; rintro e w11 ⟨rfl, hg11⟩; (have HR11 := Lib.hid (Gr.trans HR10.out hg11)); clear hg11)
          | (go_at_call 9; refine (HSH.out _ (HTB.out.later (Gr.trans HG2.out HR11.out))).mono ?_; rintro e w12 ⟨rfl, hg12⟩; (have HR12 := Lib.hid (Gr.trans HR11.out hg12)); clear hg12))
        go_ret
        exact ⟨rfl, Gr.trans HG2.out HR12.out⟩
      · subst hs
        have h0i : (0 : Int) < (n : Int) := by omega
        obtain ⟨gl, ol, rfl, hcell⟩ := HA.out 0 h0
        rw [Nat.add_zero] at hcell
        have hc1 := HG1.out.keeps hcell
        clear hcell h0
        go_wp2_with (first
          | (at_builtin; refine wpList_copyStr rfl (.tmp 30) (.tmp 31) rfl rfl w1.heap.size HNEW.out w1.heap.size (Nat.le_refl _) rfl (.slice _ n cap) n S rfl HV1.out HN6.out ?_; intro v2 w2 hcp hgrow; (have HCP := Lib.hid hcp); (have HG2 := Lib.hid (show Gr w w2 from Below.grown HGN.out hgrow HGN.out.size (fun j ej => by cases ej; exact HG1.out.size))); clear hcp hgrow)
          | (go_at_call 11; refine (HA1.out _ (HTB.out.later HG2.out)).mono ?_; rintro e w3 ⟨rfl, hg3⟩; (have HR3 := Lib.hid hg3); clear hg3)
          | (go_at_call 12; refine (HB1.out _).mono ?_; rintro e w4 ⟨rfl, hg4⟩; (have HR4 := Lib.hid (Gr.trans HR3.out hg4)); clear hg4)
          | (go_at_call 13; refine (HA2.out _ (HTB.out.later (Gr.trans HG2.out HR4.out))).mono ?_; rintro e w5 ⟨rfl, hg5⟩; (have HR5 := Lib.hid (Gr.trans HR4.out hg5)); clear hg5)
          | (go_at_call 14; refine (HB2.out _).mono ?_; rintro e w6 ⟨rfl, hg6⟩; (have HR6 := Lib.hid (Gr.trans HR5.out hg6)); clear hg6)
          | (go_at_call 15; refine (HA3.out _ (HTB.out.later (Gr.trans HG2.out HR6.out))).mono ?_; rintro e w7 ⟨rfl, hg7⟩; (have HR7 := Lib.hid (Gr.trans HR6.out hg7)); clear hg7)
          | (go_at_call 16; refine (HB3.out _).mono ?_; rintro e w8 ⟨rfl, hg8⟩; (have HR8 := Lib.hid (Gr.trans HR7.out hg8)); clear hg8)
          | (go_at_call 17; refine (HA4.out _ _ (HTB.out.later (Gr.trans HG2.out HR8.out)) (HCP.out.later HR8.out)).mono ?_; rintro e w9 ⟨rfl, hg9⟩; (have HR9 := Lib.hid (Gr.trans HR8.out hg9)); clear hg9)
          | (go_at_call 18; refine (HB4.out _ _ (HV.out.later (Gr.trans HG2.out HR9.out))).mono ?_; rintro e w10 ⟨rfl, hg10⟩; (have HR10 := Lib.hid (Gr.trans HR9.out hg10)); clear hg10)
          | (go_at_call 19; refine (sameStr_any _ _ n S _ (HCP.out.later HR10.out) (HV.out.later (Gr.trans HG2.out HR10.out))).mono ?_; rintro e w11 ⟨rfl, hg11⟩; (have HR11 := Lib.hid (Gr.trans HR10.out hg11)); clear hg11)
          | (go_at_call 9; refine (HSH.out _ (HTB.out.later (Gr.trans HG2.out HR11.out))).mono ?_; rintro e w12 ⟨rfl, hg12⟩; (have HR12 := Lib.hid (Gr.trans HR11.out hg12)); clear hg12))
        go_ret
        exact ⟨rfl, Gr.trans HG2.out HR12.out⟩
end Go.Proofs.YtblaimkcdhcclaaDoor
