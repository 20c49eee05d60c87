/- The reference's Bits, Below, Uniform, Bounded. -/
import Derived.Test.YtmankcmmlcfbaaaVn
import Derived.Test.YtmankcmmlcfbaaaVj
namespace Go.Proofs.Ytmankcmmlcfbaaa
open Go.RowKit Ov
set_option linter.unusedVariables false
def RResU (b : Nat) (s : ByteArray) (r : Nat × Int × Nat) (w : World) (e : Ending) (w' : World) : Prop :=
  e = .returned (.tuple #[.int .u64 (r.1 : Nat), .int .i64 r.2.1]) ∧ Rup w' b s r.2.2 ∧ Ex b w w'
theorem rresu {b : Nat} {s : ByteArray} {r : Nat × Int × Nat} {w w' : World} {v : Nat} {c : Int} {q : Nat} (hr : r = (v, c, q)) {e : Ending} (he : e = .returned (.tuple #[.int .u64 (v : Nat), .int .i64 c])) (h : Rup w' b s q) (hx : Ex b w w') : RResU b s r w e w' := by
  subst hr; exact ⟨he, h, hx⟩
set_option maxRecDepth 100000 in
theorem rBits_any (b : Nat) (s : ByteArray) (p : Nat) (n : Int) (w : World) (h : Rup w b s p) : Calls Try.prog 24 #[.pointer (some ⟨b, 0, none⟩), .int .i64 n] w (RResU b s (rBits s n p) w) := by
  have H := Lib.hid h
  have c1 := h.c1
  by_cases hv : 1 ≤ n ∧ n ≤ 64
  · obtain ⟨m, rfl⟩ : ∃ m : Nat, n = m := ⟨n.toNat, by omega⟩
    obtain ⟨h1, h2⟩ := hv
    have HS := Lib.hid (rsome_any b s p m w h (by omega))
    have HR1 := Lib.hid (show p + m ≤ nbits s → rBits s m p = (num s p m, 0, p + m) from fun h => by unfold rBits; rw [if_pos ⟨h1, h2⟩, Int.toNat_natCast, if_pos h])
    have HR2 := Lib.hid (show nbits s < p + m → rBits s m p = (0, 4, p) from fun h => by unfold rBits; rw [if_pos ⟨h1, h2⟩, Int.toNat_natCast, if_neg (by omega)])
    generalize rBits s m p = R at HR1 HR2 ⊢
    have h3 : ¬ (m : Int) < 1 := by omega
    have h4 : ¬ (64 : Int) < (m : Int) := by omega
    have h5 : 1 ≤ m := by omega
    have h6 : m ≤ 64 := by omega
    clear h
    go_enter Try.func24, Try.ntmps24
    go_wp2_with (go_at_call 47; refine HS.out.mono ?_; rintro e w2 (⟨hok, rfl, hs2, hx2⟩ | ⟨hno, rfl, ⟨q, hs2⟩, hx2⟩); rotate_left; (have c2 := hs2.c1; have f2 := hs2.fz 1); rotate_left)
    · go_ret2
      exact rresu (HR1.out hok) rfl hs2 hx2
    · go_ret2
      exact rresu (HR2.out hno) rfl (hs2.set rfl H.out.place) (hx2.setCell (.inl rfl) _)
  · have hr : rBits s n p = (0, 2, p) := by unfold rBits; rw [if_neg hv]
    have HR := Lib.hid hr
    have hc : n < 1 ∨ (¬ n < 1 ∧ 64 < n) := by omega
    clear h hr hv
    rcases hc with hc | ⟨hc1, hc2⟩
    all_goals
      go_enter Try.func24, Try.ntmps24
      go_wp2_with fail
      go_ret2
      exact rresu HR.out rfl H.out (Ex.refl b w)
set_option maxRecDepth 100000 in
theorem rBelow_any (b : Nat) (s : ByteArray) (p : Nat) (n : Nat) (w : World) (h : Rup w b s p) (hn : n < 18446744073709551616) : Calls Try.prog 25 #[.pointer (some ⟨b, 0, none⟩), .int .u64 (n : Nat)] w (RResU b s (rBelow s n p) w) := by
  have H := Lib.hid h
  have c1 := h.c1
  by_cases hv : n = 0
  · subst hv
    have HR := Lib.hid (show rBelow s 0 p = (0, 2, p) from by unfold rBelow; rw [if_pos rfl])
    clear h hn
    go_enter Try.func25, Try.ntmps25
    go_wp2_with fail
    go_ret2
    exact rresu HR.out rfl H.out (Ex.refl b w)
  · have HS := Lib.hid (rbelow_any b s n p w h ⟨by omega, hn⟩)
    have HR1 := Lib.hid (fun v q => show bel s n p = some (v, q) → rBelow s n p = (v, 0, q) from fun h => by unfold rBelow; rw [if_neg hv, h])
    have HR2 := Lib.hid (show bel s n p = none → rBelow s n p = (0, 4, p) from fun h => by unfold rBelow; rw [if_neg hv, h])
    generalize rBelow s n p = R at HR1 HR2 ⊢
    clear h hn
    go_enter Try.func25, Try.ntmps25
    go_wp2_with (go_at_call 48; refine HS.out.mono ?_; rintro e w2 (⟨v, q, hok, rfl, hs2, hx2⟩ | ⟨hno, rfl, ⟨q, hs2⟩, hx2⟩); rotate_left; (have c2 := hs2.c1; have f2 := hs2.fz 1); rotate_left)
    · go_ret2
      exact rresu (HR1.out _ _ hok) rfl hs2 hx2
    · go_ret2
      exact rresu (HR2.out hno) rfl (hs2.set rfl H.out.place) (hx2.setCell (.inl rfl) _)
def RResLw (b : Nat) (s : ByteArray) (r : List Int × Int × Nat) (w : World) (e : Ending) (w' : World) : Prop :=
  ∃ a m k, e = .returned (.tuple #[.slice a m k, .int .i64 r.2.1]) ∧ Lw.HasQ w' (.slice a m k) r.1 ∧ (∀ x, a = some x → w.heap.size ≤ x.block) ∧ Rup w' b s r.2.2 ∧ Ex b w w'
theorem own_baseLw {W : World} {base : Nat} {v : Value} {l : List Int} (h : Lw.Own1 W base v l) : ∀ k, v.ownBlock = some k → base ≤ k := by
  intro k hk
  rcases h.2.2 with ⟨rfl, _⟩ | ⟨g, cap, cur, rfl, hb, _⟩
  · simp [Value.ownBlock] at hk
  · obtain rfl : g = k := by simpa [Value.ownBlock] using hk
    exact hb
theorem rresLw {b : Nat} {s : ByteArray} {r : List Int × Int × Nat} {w w' : World} {l : List Int} {c : Int} {q : Nat} (hr : r = (l, c, q)) {a : Option Addr} {m k : Nat} {e : Ending} (he : e = .returned (.tuple #[.slice a m k, .int .i64 c])) (hq : Lw.HasQ w' (.slice a m k) l) (hf : ∀ x, a = some x → w.heap.size ≤ x.block) (h : Rup w' b s q) (hx : Ex b w w') : RResLw b s r w e w' := by
  subst hr; exact ⟨a, m, k, he, hq, hf, h, hx⟩
def RResL8 (b : Nat) (s : ByteArray) (r : List Int × Int × Nat) (w : World) (e : Ending) (w' : World) : Prop :=
  ∃ a m k, e = .returned (.tuple #[.slice a m k, .int .i64 r.2.1]) ∧ L8.HasQ w' (.slice a m k) r.1 ∧ (∀ x, a = some x → w.heap.size ≤ x.block) ∧ Rup w' b s r.2.2 ∧ Ex b w w'
theorem own_baseL8 {W : World} {base : Nat} {v : Value} {l : List Int} (h : L8.Own1 W base v l) : ∀ k, v.ownBlock = some k → base ≤ k := by
  intro k hk
  rcases h.2.2 with ⟨rfl, _⟩ | ⟨g, cap, cur, rfl, hb, _⟩
  · simp [Value.ownBlock] at hk
  · obtain rfl : g = k := by simpa [Value.ownBlock] using hk
    exact hb
theorem rresL8 {b : Nat} {s : ByteArray} {r : List Int × Int × Nat} {w w' : World} {l : List Int} {c : Int} {q : Nat} (hr : r = (l, c, q)) {a : Option Addr} {m k : Nat} {e : Ending} (he : e = .returned (.tuple #[.slice a m k, .int .i64 c])) (hq : L8.HasQ w' (.slice a m k) l) (hf : ∀ x, a = some x → w.heap.size ≤ x.block) (h : Rup w' b s q) (hx : Ex b w w') : RResL8 b s r w e w' := by
  subst hr; exact ⟨a, m, k, he, hq, hf, h, hx⟩
def RResLo (b : Nat) (s : ByteArray) (r : List Int × Int × Nat) (w : World) (e : Ending) (w' : World) : Prop :=
  ∃ a m k, e = .returned (.tuple #[.slice a m k, .int .i64 r.2.1]) ∧ Lo.HasQ w' (.slice a m k) r.1 ∧ (∀ x, a = some x → w.heap.size ≤ x.block) ∧ Rup w' b s r.2.2 ∧ Ex b w w'
theorem own_baseLo {W : World} {base : Nat} {v : Value} {l : List Int} (h : Lo.Own1 W base v l) : ∀ k, v.ownBlock = some k → base ≤ k := by
  intro k hk
  rcases h.2.2 with ⟨rfl, _⟩ | ⟨g, cap, cur, rfl, hb, _⟩
  · simp [Value.ownBlock] at hk
  · obtain rfl : g = k := by simpa [Value.ownBlock] using hk
    exact hb
theorem rresLo {b : Nat} {s : ByteArray} {r : List Int × Int × Nat} {w w' : World} {l : List Int} {c : Int} {q : Nat} (hr : r = (l, c, q)) {a : Option Addr} {m k : Nat} {e : Ending} (he : e = .returned (.tuple #[.slice a m k, .int .i64 c])) (hq : Lo.HasQ w' (.slice a m k) l) (hf : ∀ x, a = some x → w.heap.size ≤ x.block) (h : Rup w' b s q) (hx : Ex b w w') : RResLo b s r w e w' := by
  subst hr; exact ⟨a, m, k, he, hq, hf, h, hx⟩
set_option maxRecDepth 100000 in
set_option maxHeartbeats 2000000 in
theorem rUniform_any (b : Nat) (s : ByteArray) (p : Nat) (n : Int) (lim : Nat) (w : World) (h : Rup w b s p) (hQ : lim < 4294967296) : Calls Try.prog 26 #[.pointer (some ⟨b, 0, none⟩), .int .i64 n, .int .u32 (lim : Nat)] w (RResLw b s (rUni s n lim p) w) := by
  have H := Lib.hid h
  have c1 := h.c1
  by_cases hv : 0 ≤ n ∧ n ≤ 4096 ∧ 1 ≤ lim
  · obtain ⟨m, rfl⟩ : ∃ m : Nat, n = m := ⟨n.toNat, by omega⟩
    have HR1 := Lib.hid (fun l q => show many s lim p m = some (l, q) → rUni s m lim p = (l.map (fun (v : Nat) => (v : Int)), 0, q) from fun h => by unfold rUni; rw [if_pos hv]; unfold rMany; rw [Int.toNat_natCast, h])
    have HR2 := Lib.hid (show many s lim p m = none → rUni s m lim p = ([], 4, p) from fun h => by unfold rUni; rw [if_pos hv]; unfold rMany; rw [Int.toNat_natCast, h])
    generalize rUni s m lim p = R at HR1 HR2 ⊢
    obtain ⟨h1, h2, h3⟩ := hv
    have h4 : ¬ (m : Int) < 0 := by omega
    have h5 : ¬ (4096 : Int) < (m : Int) := by omega
    have h6 : m ≤ 4096 := by omega
    have h7 : ¬ (lim : Int) < 1 := by omega
    have HQ := Lib.hid hQ
    have HLT := Lib.hid h.lt
    have HPL := Lib.hid h.place
    have h8 : 1 ≤ lim := h3
    have h9 : (lim : Int) < 4294967296 := by omega
    clear h hQ
    go_enter Try.func26, Try.ntmps26
    go_wp2_with fail
    go_loopw [9, 10] (fun x t wr => ∃ (i q : Nat) (l : List Nat), t = .int .i64 (i : Nat) ∧ i ≤ m ∧ many s lim p i = some (l, q) ∧ Lw.Own1 wr w.heap.size x (l.map (fun (v : Nat) => (v : Int))) ∧ Rup wr b s q ∧ Ex b w wr) (fun _ t _ => m - (intOf t).toNat)
    case atStart => exact ⟨0, p, [], rfl, by omega, rfl, Lw.Own1.nil _ _, H.out, Ex.refl b w⟩
    case round =>
      obtain ⟨i, q, l, rfl, hi, hm, hown, hs, hx⟩ := hrel
      have hlen := (many_some HPL.out hm).1
      have HM := Lib.hid hm
      have HO := Lib.hid hown
      have HS := Lib.hid hs
      have HX := Lib.hid hx
      have HLEN := Lib.hid hlen
      clear hm hown hs hx hlen
      have hcase : i < m ∨ ¬ i < m := Classical.em _
      rcases hcase with hc | hc
      · have hci : (i : Int) < (m : Int) := by omega
        have HB := Lib.hid (rbelow_any b s lim q _ HS.out ⟨by omega, by have := HQ.out; omega⟩)
        have hbc : (∃ v q', bel s lim q = some (v, q')) ∨ bel s lim q = none := by
          cases hh : bel s lim q with
          | none => exact .inr rfl
          | some x => exact .inl ⟨x.1, x.2, rfl⟩
        rcases hbc with ⟨v, q', hbel⟩ | hbel
        · have HBEL := Lib.hid hbel
          have hvl := (bel_some hbel).1
          have HVL := Lib.hid hvl
          clear hbel
          have hv4 : (v : Int) < 4294967296 := by have := HQ.out; omega
          clear hvl
          go_wp2_with (first | (go_at_call 48; refine HB.out.mono ?_; rintro e w2 (⟨v2, q2, hb2, rfl, hs2, hx2⟩ | ⟨h0, _⟩); rotate_left; (exfalso; have := HBEL.out; rw [h0] at this; cases this); (have hb3 := hb2.symm.trans HBEL.out; cases hb3; clear hb2); (have HS2 := Lib.hid hs2; have HX2 := Lib.hid hx2); (have HO2 := Lib.hid (HO.out.same (w' := w2) (fun k hk hk2 => hx2.block k hk2 (by have := HLT.out; omega)))); clear hs2 hx2) | (at_builtin; refine Lw.wpList_app rfl (.tmp 45) (.tmp 48) rfl rfl w.heap.size _ (l.map (fun (v : Nat) => (v : Int))) rfl (HO2.out.alloc _) (.slice (some ⟨_, 0, none⟩) 1 1) [(fun (v : Nat) => (v : Int)) v] rfl (Lw.one_hasQ' _ _ _ rfl (by have := HVL.out; have := HQ.out; (try dsimp only); omega)) (by rw [List.length_map, HLEN.out]; simp; omega) (Nat.le_trans (HX.out.trans HX2.out).size (Nat.le_of_lt (by simp))) ?_; intro v' w3 hown hgrow))
          have hb3 := own_baseLw (HO2.out.alloc (.cells #[.int .u32 ((fun (v : Nat) => (v : Int)) v)] 49))
          go_roundw
          case rel =>
            refine ⟨i + 1, q', l ++ [v], by simp, by omega, many_step HM.out HBEL.out, by rw [List.map_append]; exact hown, ?_, ?_⟩
            · refine (HS2.out.later (Gr.new w2 _)).same (hgrow.block b (by have := (HS2.out.later (Gr.new w2 (.cells #[.int .u32 ((fun (v : Nat) => (v : Int)) v)] 49))).lt; exact this) (fun e => ?_)) hgrow.size
              have := hb3 b e.symm
              have := HLT.out; omega
            · exact ((HX.out.trans HX2.out).alloc _).grown hgrow hb3
          case measure => simp [intOf]; omega
        · have HBEL := Lib.hid hbel
          clear hbel
          go_wp2_with (go_at_call 48; refine HB.out.mono ?_; rintro e w2 (⟨v2, q2, hb2, _⟩ | ⟨h0, rfl, ⟨q2, hs2⟩, hx2⟩); (exfalso; have := HBEL.out; rw [hb2] at this; cases this); (have c2 := hs2.c1; have f2 := hs2.fz 1))
          go_ret2
          exact rresLw (HR2.out (many_none (show i + 1 ≤ m from by omega) (many_stop HM.out HBEL.out))) rfl (Lw.HasQ.nil _) (fun x hx => by cases hx) (hs2.set rfl HPL.out) ((HX.out.trans hx2).setCell (.inl rfl) _)
      · obtain rfl : m = i := by omega
        obtain ⟨a, kk, rfl, _, _⟩ := HO.out.form
        go_wp2_with fail
        go_ret2
        exact rresLw (HR1.out _ _ HM.out) rfl HO.out.hasQ (HO.out.fresh rfl) HS.out HX.out
  · have HR := Lib.hid (show rUni s n lim p = ([], 2, p) from by unfold rUni; rw [if_neg hv])
    have hc : n < 0 ∨ (¬ n < 0 ∧ 4096 < n) ∨ (¬ n < 0 ∧ ¬ 4096 < n ∧ (lim : Int) < 1) := by omega
    clear h hv hQ
    rcases hc with hc | ⟨hc1, hc2⟩ | ⟨hc1, hc2, hc3⟩
    all_goals
      go_enter Try.func26, Try.ntmps26
      go_wp2_with fail
      go_ret2
      exact rresLw HR.out rfl (Lw.HasQ.nil _) (fun x hx => by cases hx) H.out (Ex.refl b w)
set_option maxRecDepth 100000 in
set_option maxHeartbeats 2000000 in
theorem rBounded_any (b : Nat) (s : ByteArray) (p : Nat) (n : Int) (B : Nat) (w : World) (h : Rup w b s p) (hQ : B < 4294967296) : Calls Try.prog 29 #[.pointer (some ⟨b, 0, none⟩), .int .i64 n, .int .u32 (B : Nat)] w (RResLo b s (rBnd s n B p) w) := by
  have H := Lib.hid h
  have c1 := h.c1
  by_cases hv : 0 ≤ n ∧ n ≤ 4096 ∧ B ≤ 2147483647
  · obtain ⟨m, rfl⟩ : ∃ m : Nat, n = m := ⟨n.toNat, by omega⟩
    obtain ⟨lim, hlim⟩ : ∃ lim, lim = 2 * B + 1 := ⟨_, rfl⟩
    have HR1 := Lib.hid (fun l q => show many s lim p m = some (l, q) → rBnd s m B p = (l.map (fun (v : Nat) => (v : Int) - (B : Int)), 0, q) from fun h => by unfold rBnd; rw [if_pos hv]; unfold rMany; rw [Int.toNat_natCast, ← hlim, h])
    have HR2 := Lib.hid (show many s lim p m = none → rBnd s m B p = ([], 4, p) from fun h => by unfold rBnd; rw [if_pos hv]; unfold rMany; rw [Int.toNat_natCast, ← hlim, h])
    generalize rBnd s m B p = R at HR1 HR2 ⊢
    obtain ⟨h1, h2, h3⟩ := hv
    have h4 : ¬ (m : Int) < 0 := by omega
    have h5 : ¬ (4096 : Int) < (m : Int) := by omega
    have h6 : m ≤ 4096 := by omega
    have h7 : ¬ (2147483647 : Int) < (B : Int) := by omega
    have HQ := Lib.hid hQ
    have HLT := Lib.hid h.lt
    have HPL := Lib.hid h.place
    have h8 : (B : Int) ≤ 2147483647 := by omega
    have h9 : (2 : Int) * (B : Int) + 1 = (lim : Int) := by omega
    have h10 : (lim : Int) ≤ 4294967295 := by omega
    have h11 : 1 ≤ lim := by omega
    clear hlim
    clear h hQ
    go_enter Try.func29, Try.ntmps29
    go_wp2_with fail
    go_loopw [9, 10] (fun x t wr => ∃ (i q : Nat) (l : List Nat), t = .int .i64 (i : Nat) ∧ i ≤ m ∧ many s lim p i = some (l, q) ∧ Lo.Own1 wr w.heap.size x (l.map (fun (v : Nat) => (v : Int) - (B : Int))) ∧ Rup wr b s q ∧ Ex b w wr) (fun _ t _ => m - (intOf t).toNat)
    case atStart => exact ⟨0, p, [], rfl, by omega, rfl, Lo.Own1.nil _ _, H.out, Ex.refl b w⟩
    case round =>
      obtain ⟨i, q, l, rfl, hi, hm, hown, hs, hx⟩ := hrel
      have hlen := (many_some HPL.out hm).1
      have HM := Lib.hid hm
      have HO := Lib.hid hown
      have HS := Lib.hid hs
      have HX := Lib.hid hx
      have HLEN := Lib.hid hlen
      clear hm hown hs hx hlen
      have hcase : i < m ∨ ¬ i < m := Classical.em _
      rcases hcase with hc | hc
      · have hci : (i : Int) < (m : Int) := by omega
        have HB := Lib.hid (rbelow_any b s lim q _ HS.out ⟨by omega, by have := HQ.out; omega⟩)
        have hbc : (∃ v q', bel s lim q = some (v, q')) ∨ bel s lim q = none := by
          cases hh : bel s lim q with
          | none => exact .inr rfl
          | some x => exact .inl ⟨x.1, x.2, rfl⟩
        rcases hbc with ⟨v, q', hbel⟩ | hbel
        · have HBEL := Lib.hid hbel
          have hvl := (bel_some hbel).1
          have HVL := Lib.hid hvl
          clear hbel
          have hv4 : (v : Int) < 4294967296 := by omega
          clear hvl
          go_wp2_with (first | (go_at_call 48; refine HB.out.mono ?_; rintro e w2 (⟨v2, q2, hb2, rfl, hs2, hx2⟩ | ⟨h0, _⟩); rotate_left; (exfalso; have := HBEL.out; rw [h0] at this; cases this); (have hb3 := hb2.symm.trans HBEL.out; cases hb3; clear hb2); (have HS2 := Lib.hid hs2; have HX2 := Lib.hid hx2); (have HO2 := Lib.hid (HO.out.same (w' := w2) (fun k hk hk2 => hx2.block k hk2 (by have := HLT.out; omega)))); clear hs2 hx2) | (at_builtin; refine Lo.wpList_app rfl (.tmp 47) (.tmp 53) rfl rfl w.heap.size _ (l.map (fun (v : Nat) => (v : Int) - (B : Int))) rfl (HO2.out.alloc _) (.slice (some ⟨_, 0, none⟩) 1 1) [(fun (v : Nat) => (v : Int) - (B : Int)) v] rfl (Lo.one_hasQ' _ _ _ rfl (by have := HVL.out; have := HQ.out; (try dsimp only); omega)) (by rw [List.length_map, HLEN.out]; simp; omega) (Nat.le_trans (HX.out.trans HX2.out).size (Nat.le_of_lt (by simp))) ?_; intro v' w3 hown hgrow))
          have hb3 := own_baseLo (HO2.out.alloc (.cells #[.int .i64 ((fun (v : Nat) => (v : Int) - (B : Int)) v)] 2))
          go_roundw
          case rel =>
            refine ⟨i + 1, q', l ++ [v], by simp, by omega, many_step HM.out HBEL.out, by rw [List.map_append]; exact hown, ?_, ?_⟩
            · refine (HS2.out.later (Gr.new w2 _)).same (hgrow.block b (by have := (HS2.out.later (Gr.new w2 (.cells #[.int .i64 ((fun (v : Nat) => (v : Int) - (B : Int)) v)] 2))).lt; exact this) (fun e => ?_)) hgrow.size
              have := hb3 b e.symm
              have := HLT.out; omega
            · exact ((HX.out.trans HX2.out).alloc _).grown hgrow hb3
          case measure => simp [intOf]; omega
        · have HBEL := Lib.hid hbel
          clear hbel
          go_wp2_with (go_at_call 48; refine HB.out.mono ?_; rintro e w2 (⟨v2, q2, hb2, _⟩ | ⟨h0, rfl, ⟨q2, hs2⟩, hx2⟩); (exfalso; have := HBEL.out; rw [hb2] at this; cases this); (have c2 := hs2.c1; have f2 := hs2.fz 1))
          go_ret2
          exact rresLo (HR2.out (many_none (show i + 1 ≤ m from by omega) (many_stop HM.out HBEL.out))) rfl (Lo.HasQ.nil _) (fun x hx => by cases hx) (hs2.set rfl HPL.out) ((HX.out.trans hx2).setCell (.inl rfl) _)
      · obtain rfl : m = i := by omega
        obtain ⟨a, kk, rfl, _, _⟩ := HO.out.form
        go_wp2_with fail
        go_ret2
        exact rresLo (HR1.out _ _ HM.out) rfl HO.out.hasQ (HO.out.fresh rfl) HS.out HX.out
  · have HR := Lib.hid (show rBnd s n B p = ([], 2, p) from by unfold rBnd; rw [if_neg hv])
    have hc : n < 0 ∨ (¬ n < 0 ∧ 4096 < n) ∨ (¬ n < 0 ∧ ¬ 4096 < n ∧ (2147483647 : Int) < (B : Int)) := by omega
    clear h hv hQ
    rcases hc with hc | ⟨hc1, hc2⟩ | ⟨hc1, hc2, hc3⟩
    all_goals
      go_enter Try.func29, Try.ntmps29
      go_wp2_with fail
      go_ret2
      exact rresLo HR.out rfl (Lo.HasQ.nil _) (fun x hx => by cases hx) H.out (Ex.refl b w)
end Go.Proofs.Ytmankcmmlcfbaaa
