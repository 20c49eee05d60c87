/- The program's Bits, Below, Uniform, Ternary, Bounded. -/
import Derived.Test.YtmankcmmlcfbaaaVj
namespace Go.Proofs.Ytmankcmmlcfbaaa
open Go.RowKit Ov
set_option linter.unusedVariables false
theorem resu_ex {b g c : Nat} {s : ByteArray} {r : Nat × Int × Nat} {w w1 w' : World} {e : Ending} (hg : Gr w w1) (he : e = .returned (.tuple #[.int .u64 (r.1 : Nat), .int .i64 r.2.1])) (hs : Sup w' b g c s r.2.2) (hx : Ex b w1 w') : ResU b g c s r w e w' := ⟨he, hs, (Ex.of hg b).trans hx⟩
set_option maxRecDepth 100000 in
theorem pBits_any (b g c : Nat) (s : ByteArray) (p : Nat) (n : Int) (w : World) (h : Sup w b g c s p) : Calls Try.prog 21 #[.pointer (some ⟨b, 0, none⟩), .int .i64 n] w (ResU b g c s (rBits s n p) w) := by
  have hmf : ∀ (fn : Fn) (first cap : Array Value) (w : World), (Instr.makeFunc fn first cap).run Try.prog w = .ok (.func fn first cap) w := fun _ _ _ _ => rfl
  have HG := Lib.hid (Gr.new w (.cells #[.int .i64 n] 3))
  have HS := Lib.hid (h.later HG.out)
  by_cases hv : 1 ≤ n ∧ n ≤ 64
  · obtain ⟨m, rfl⟩ : ∃ m : Nat, n = m := ⟨n.toNat, by omega⟩
    obtain ⟨h1, h2⟩ := hv
    have HD := Lib.hid (drawBits_any b g c s p #[.pointer (some ⟨w.heap.size, 0, none⟩)] (fun w1 v q w2 => p + m ≤ nbits s ∧ v = .int .u64 (num s p m : Nat) ∧ q = p + m) (nbits s < p + m) _ HS.out
      (fun w1 t hs ht hg => (show Calls _ _ (#[t] ++ #[_]) _ _ from bitsc_any b g c w.heap.size t s p m w1 hs ht (by omega) (hg.keeps (cell_new w _ _))).mono (by
        rintro e w2 (⟨h1, rfl, h2, h3⟩ | ⟨h1, rfl, h2, h3⟩)
        · exact .inl ⟨_, _, rfl, h2, h3, h1, rfl, rfl⟩
        · exact .inr ⟨rfl, ⟨_, h2⟩, h3, h1⟩)) (fun _ _ _ _ _ _ _ h => h))
    have hr1 : p + m ≤ nbits s → rBits s m p = (num s p m, 0, p + m) := fun h => by unfold rBits; rw [if_pos ⟨h1, h2⟩, Int.toNat_natCast, if_pos h]
    have hr2 : nbits s < p + m → rBits s m p = (0, 4, p) := fun h => by unfold rBits; rw [if_pos ⟨h1, h2⟩, Int.toNat_natCast, if_neg (by omega)]
    have HR1 := Lib.hid hr1
    have HR2 := Lib.hid hr2
    generalize rBits s m p = R at HR1 HR2 ⊢
    clear h hr1 hr2
    go_enter Try.func21, Try.ntmps21
    go_wp2_with (go_at_call 32; refine HD.out.mono ?_; rintro e w2 (⟨w1, v, q, rfl, hs2, hx2, hg2, hok, rfl, rfl⟩ | ⟨rfl, hs2, hx2, hno⟩))
    · go_ret2
      have e := HR1.out hok
      subst e
      exact resu_ex HG.out rfl hs2 hx2
    · go_ret2
      have e := HR2.out hno
      subst e
      exact resu_ex HG.out rfl hs2 hx2
  · have hr : rBits s n p = (0, 2, p) := by unfold rBits; rw [if_neg hv]
    rw [hr]
    have HD := Lib.hid (fun F => drawargu_any b g c s p F _ HS.out)
    have hc : ¬ 1 ≤ n ∨ (1 ≤ n ∧ ¬ n ≤ 64) := by omega
    clear h hr hv
    rcases hc with hc | ⟨hc1, hc2⟩
    all_goals
      go_enter Try.func21, Try.ntmps21
      go_wp2_with (go_at_call 32; refine (HD.out _).mono ?_; rintro e w2 ⟨rfl, hg2⟩)
      go_ret2
      exact resu_ex HG.out rfl (HS.out.later hg2) (Ex.of hg2 b)
set_option maxRecDepth 100000 in
theorem pBelow_any (b g c : Nat) (s : ByteArray) (p : Nat) (n : Nat) (w : World) (h : Sup w b g c s p) (hn : n < 18446744073709551616) : Calls Try.prog 18 #[.pointer (some ⟨b, 0, none⟩), .int .u64 (n : Nat)] w (ResU b g c s (rBelow s n p) w) := by
  have hmf : ∀ (fn : Fn) (first cap : Array Value) (w : World), (Instr.makeFunc fn first cap).run Try.prog w = .ok (.func fn first cap) w := fun _ _ _ _ => rfl
  have HG := Lib.hid (Gr.new w (.cells #[.int .u64 (n : Nat)] 29))
  have HS := Lib.hid (h.later HG.out)
  by_cases hv : 1 ≤ n
  · have HD := Lib.hid (drawBelow_any b g c s p #[.pointer (some ⟨w.heap.size, 0, none⟩)] (fun w1 v q w2 => ∃ x, bel s n p = some (x, q) ∧ v = .int .u64 (x : Nat)) (bel s n p = none) _ HS.out
      (fun w1 t hs ht hg => (show Calls _ _ (#[t] ++ #[_]) _ _ from belowc_any b g c w.heap.size t s p n w1 hs ht ⟨hv, hn⟩ (hg.keeps (cell_new w _ _))).mono (by
        rintro e w2 (⟨v, q, h1, rfl, h2, h3⟩ | ⟨h1, rfl, h2, h3⟩)
        · exact .inl ⟨_, q, rfl, h2, h3, v, h1, rfl⟩
        · exact .inr ⟨rfl, h2, h3, h1⟩)) (fun _ _ _ _ _ _ _ h => h))
    have HR1 := Lib.hid (fun v q => show bel s n p = some (v, q) → rBelow s n p = (v, 0, q) from fun h => by unfold rBelow; rw [if_neg (by omega), h])
    have HR2 := Lib.hid (show bel s n p = none → rBelow s n p = (0, 4, p) from fun h => by unfold rBelow; rw [if_neg (by omega), h])
    generalize rBelow s n p = R at HR1 HR2 ⊢
    have hi : 0 < n := by omega
    clear h hv hn
    go_enter Try.func18, Try.ntmps18
    go_wp2_with (go_at_call 32; refine HD.out.mono ?_; rintro e w2 (⟨w1, v, q, rfl, hs2, hx2, hg2, x, hok, rfl⟩ | ⟨rfl, hs2, hx2, hno⟩))
    · go_ret2
      have e := HR1.out _ _ hok
      subst e
      exact resu_ex HG.out rfl hs2 hx2
    · go_ret2
      have e := HR2.out hno
      subst e
      exact resu_ex HG.out rfl hs2 hx2
  · obtain rfl : n = 0 := by omega
    have hr : rBelow s 0 p = (0, 2, p) := by unfold rBelow; rw [if_pos rfl]
    rw [hr]
    have HD := Lib.hid (fun F => drawargu_any b g c s p F _ HS.out)
    clear h hr hv
    go_enter Try.func18, Try.ntmps18
    go_wp2_with (go_at_call 32; refine (HD.out _).mono ?_; rintro e w2 ⟨rfl, hg2⟩)
    go_ret2
    exact resu_ex HG.out rfl (HS.out.later hg2) (Ex.of hg2 b)
theorem resLw_ex {b g c : Nat} {s : ByteArray} {r : List Int × Int × Nat} {w w1 w' : World} {e : Ending} {a : Option Addr} {m k : Nat} (hg : Gr w w1) (he : e = .returned (.tuple #[.slice a m k, .int .i64 r.2.1])) (hq : Lw.HasQ w' (.slice a m k) r.1) (hf : ∀ x, a = some x → w.heap.size ≤ x.block) (hs : Sup w' b g c s r.2.2) (hx : Ex b w1 w') : ResLw b g c s r w e w' := ⟨a, m, k, he, hq, hf, hs, (Ex.of hg b).trans hx⟩
theorem own_ELw {w1 w2 : World} {a : Option Addr} {m k E : Nat} {u : Value} {l : List Int} (hE : E < w1.heap.size) (h : Lw.HasQ w2 (.slice a m k) l) (hf : ∀ x, a = some x → w1.heap.size ≤ x.block) : Lw.HasQ (w2.setCell ⟨E, 0, none⟩ u) (.slice a m k) l :=
  h.same (fun j hj => Below.heap_setCell _ _ _ _ (by
    cases a with
    | none => cases hj
    | some x => have := hf x rfl; cases hj; show x.block ≠ E; omega))
theorem resL8_ex {b g c : Nat} {s : ByteArray} {r : List Int × Int × Nat} {w w1 w' : World} {e : Ending} {a : Option Addr} {m k : Nat} (hg : Gr w w1) (he : e = .returned (.tuple #[.slice a m k, .int .i64 r.2.1])) (hq : L8.HasQ w' (.slice a m k) r.1) (hf : ∀ x, a = some x → w.heap.size ≤ x.block) (hs : Sup w' b g c s r.2.2) (hx : Ex b w1 w') : ResL8 b g c s r w e w' := ⟨a, m, k, he, hq, hf, hs, (Ex.of hg b).trans hx⟩
theorem own_EL8 {w1 w2 : World} {a : Option Addr} {m k E : Nat} {u : Value} {l : List Int} (hE : E < w1.heap.size) (h : L8.HasQ w2 (.slice a m k) l) (hf : ∀ x, a = some x → w1.heap.size ≤ x.block) : L8.HasQ (w2.setCell ⟨E, 0, none⟩ u) (.slice a m k) l :=
  h.same (fun j hj => Below.heap_setCell _ _ _ _ (by
    cases a with
    | none => cases hj
    | some x => have := hf x rfl; cases hj; show x.block ≠ E; omega))
theorem resLo_ex {b g c : Nat} {s : ByteArray} {r : List Int × Int × Nat} {w w1 w' : World} {e : Ending} {a : Option Addr} {m k : Nat} (hg : Gr w w1) (he : e = .returned (.tuple #[.slice a m k, .int .i64 r.2.1])) (hq : Lo.HasQ w' (.slice a m k) r.1) (hf : ∀ x, a = some x → w.heap.size ≤ x.block) (hs : Sup w' b g c s r.2.2) (hx : Ex b w1 w') : ResLo b g c s r w e w' := ⟨a, m, k, he, hq, hf, hs, (Ex.of hg b).trans hx⟩
theorem own_ELo {w1 w2 : World} {a : Option Addr} {m k E : Nat} {u : Value} {l : List Int} (hE : E < w1.heap.size) (h : Lo.HasQ w2 (.slice a m k) l) (hf : ∀ x, a = some x → w1.heap.size ≤ x.block) : Lo.HasQ (w2.setCell ⟨E, 0, none⟩ u) (.slice a m k) l :=
  h.same (fun j hj => Below.heap_setCell _ _ _ _ (by
    cases a with
    | none => cases hj
    | some x => have := hf x rfl; cases hj; show x.block ≠ E; omega))
set_option maxRecDepth 100000 in
theorem pUniform_any (b g c : Nat) (s : ByteArray) (p : Nat) (n : Int) (lim : Nat) (w : World) (h : Sup w b g c s p) (hlim : lim < 4294967296) : Calls Try.prog 22 #[.pointer (some ⟨b, 0, none⟩), .int .i64 n, .int .u32 (lim : Nat)] w (ResLw b g c s (rUni s n lim p) w) := by
  have hmf : ∀ (fn : Fn) (first cap : Array Value) (w : World), (Instr.makeFunc fn first cap).run Try.prog w = .ok (.func fn first cap) w := fun _ _ _ _ => rfl
  have HG := Lib.hid ((Gr.new w (.cells #[.int .i64 n] 3)).alloc (.cells #[.int .u32 (lim : Nat)] 49))
  have HS := Lib.hid (h.later HG.out)
  have x0 : World.cell? ((w.alloc (.cells #[.int .i64 n] 3)).alloc (.cells #[.int .u32 (lim : Nat)] 49)) ⟨w.heap.size, 0, none⟩ = some (.int .i64 n) := ((Gr.refl _).alloc _).keeps (cell_new w _ _)
  have x1 : World.cell? ((w.alloc (.cells #[.int .i64 n] 3)).alloc (.cells #[.int .u32 (lim : Nat)] 49)) ⟨w.heap.size + 1, 0, none⟩ = some (.int .u32 (lim : Nat)) := by
    have := cell_new (w.alloc (.cells #[.int .i64 n] 3)) (.int .u32 (lim : Nat)) 49
    rw [World.size_alloc] at this; exact this
  have X0 := Lib.hid x0
  have X1 := Lib.hid x1
  by_cases hv : 0 ≤ n ∧ n ≤ 4096 ∧ 1 ≤ lim
  · obtain ⟨m, rfl⟩ : ∃ m : Nat, n = m := ⟨n.toNat, by omega⟩
    have HD := Lib.hid (drawUniform_any b g c s p #[.pointer (some ⟨w.heap.size, 0, none⟩), .pointer (some ⟨w.heap.size + 1, 0, none⟩)] (fun w1 v q w2 => ∃ a m' k l, v = .slice a m' k ∧ many s lim p m = some (l, q) ∧ Lw.HasQ w2 (.slice a m' k) (l.map (fun (v : Nat) => (v : Int))) ∧ (∀ x, a = some x → w1.heap.size ≤ x.block)) (many s lim p m = none) _ HS.out
      (fun w1 t hs ht hg => (show Calls _ _ (#[t] ++ #[_, _]) _ _ from unic_any b g c w.heap.size (w.heap.size + 1) t s p m lim w1 hs ht (by omega) (by omega) (hg.keeps x0) (hg.keeps x1)).mono (by
        rintro e w2 (⟨l, q, a, m', k, h1, rfl, h2, h3, h4, h5⟩ | ⟨h1, rfl, h2, h3⟩)
        · exact .inl ⟨_, q, rfl, h4, h5, a, m', k, l, rfl, h1, h2, h3⟩
        · exact .inr ⟨rfl, h2, h3, h1⟩)) (fun w1 v q w2 E u hE => by
          rintro ⟨a, m', k, l, rfl, h1, h2, h3⟩
          exact ⟨a, m', k, l, rfl, h1, own_ELw hE h2 h3, h3⟩))
    have HR1 := Lib.hid (fun l q => show many s lim p m = some (l, q) → rUni s (m : Nat) lim p = (l.map (fun (v : Nat) => (v : Int)), 0, q) from fun h => by unfold rUni; rw [if_pos hv]; unfold rMany; rw [Int.toNat_natCast, h])
    have HR2 := Lib.hid (show many s lim p m = none → rUni s (m : Nat) lim p = ([], 4, p) from fun h => by unfold rUni; rw [if_pos hv]; unfold rMany; rw [Int.toNat_natCast, h])
    generalize rUni s (m : Nat) lim p = R at HR1 HR2 ⊢
    obtain ⟨f1, f2, f3⟩ := hv
    have f4 : 0 < lim := by omega
    have hv : True := trivial
    clear h hv x0 x1 hlim
    go_enter Try.func22, Try.ntmps22
    go_wp2_with (go_at_call 43; refine HD.out.mono ?_; rintro e w2 (⟨w1, v, q, rfl, hs2, hx2, hg2, a, m', k, l, rfl, hok, hq, hf⟩ | ⟨rfl, hs2, hx2, hno⟩))
    · go_ret2
      have e := HR1.out _ _ hok
      subst e
      exact resLw_ex HG.out rfl hq (fun x hx => by have := hf x hx; have := hg2.size; have := HG.out.size; omega) hs2 hx2
    · go_ret2
      have e := HR2.out hno
      subst e
      exact resLw_ex HG.out rfl (Lw.HasQ.nil _) (fun x hx => by cases hx) hs2 hx2
  · have hr : rUni s n lim p = ([], 2, p) := by unfold rUni; rw [if_neg hv]
    rw [hr]
    have HD := Lib.hid (fun F => drawargw_any b g c s p F _ HS.out)
    have hc : ¬ 0 ≤ n ∨ (0 ≤ n ∧ ¬ n ≤ 4096) ∨ (0 ≤ n ∧ n ≤ 4096 ∧ lim = 0) := by omega
    clear h hr hv x0 x1 hlim
    rcases hc with hc | ⟨hc1, hc2⟩ | ⟨hc1, hc2, rfl⟩
    all_goals
      go_enter Try.func22, Try.ntmps22
      go_wp2_with (go_at_call 43; refine (HD.out _).mono ?_; rintro e w2 ⟨rfl, hg2⟩)
      go_ret2
      exact resLw_ex HG.out rfl (Lw.HasQ.nil _) (fun x hx => by cases hx) (HS.out.later hg2) (Ex.of hg2 b)
set_option maxRecDepth 100000 in
theorem pBounded_any (b g c : Nat) (s : ByteArray) (p : Nat) (n : Int) (B : Nat) (w : World) (h : Sup w b g c s p) (hB : B < 4294967296) : Calls Try.prog 20 #[.pointer (some ⟨b, 0, none⟩), .int .i64 n, .int .u32 (B : Nat)] w (ResLo b g c s (rBnd s n B p) w) := by
  have hmf : ∀ (fn : Fn) (first cap : Array Value) (w : World), (Instr.makeFunc fn first cap).run Try.prog w = .ok (.func fn first cap) w := fun _ _ _ _ => rfl
  have HG := Lib.hid ((Gr.new w (.cells #[.int .i64 n] 3)).alloc (.cells #[.int .u32 (B : Nat)] 49))
  have HS := Lib.hid (h.later HG.out)
  have x0 : World.cell? ((w.alloc (.cells #[.int .i64 n] 3)).alloc (.cells #[.int .u32 (B : Nat)] 49)) ⟨w.heap.size, 0, none⟩ = some (.int .i64 n) := ((Gr.refl _).alloc _).keeps (cell_new w _ _)
  have x1 : World.cell? ((w.alloc (.cells #[.int .i64 n] 3)).alloc (.cells #[.int .u32 (B : Nat)] 49)) ⟨w.heap.size + 1, 0, none⟩ = some (.int .u32 (B : Nat)) := by
    have := cell_new (w.alloc (.cells #[.int .i64 n] 3)) (.int .u32 (B : Nat)) 49
    rw [World.size_alloc] at this; exact this
  have X0 := Lib.hid x0
  have X1 := Lib.hid x1
  by_cases hv : 0 ≤ n ∧ n ≤ 4096 ∧ B ≤ 2147483647
  · obtain ⟨m, rfl⟩ : ∃ m : Nat, n = m := ⟨n.toNat, by omega⟩
    have HD := Lib.hid (drawBounded_any b g c s p #[.pointer (some ⟨w.heap.size + 1, 0, none⟩), .pointer (some ⟨w.heap.size, 0, none⟩)] (fun w1 v q w2 => ∃ a m' k l, v = .slice a m' k ∧ many s (2 * B + 1) p m = some (l, q) ∧ Lo.HasQ w2 (.slice a m' k) (l.map (fun (v : Nat) => (v : Int) - (B : Int))) ∧ (∀ x, a = some x → w1.heap.size ≤ x.block)) (many s (2 * B + 1) p m = none) _ HS.out
      (fun w1 t hs ht hg => (show Calls _ _ (#[t] ++ #[_, _]) _ _ from bndc_any b g c w.heap.size (w.heap.size + 1) t s p m B w1 hs ht (by omega) (by omega) (hg.keeps x0) (hg.keeps x1)).mono (by
        rintro e w2 (⟨l, q, a, m', k, h1, rfl, h2, h3, h4, h5⟩ | ⟨h1, rfl, h2, h3⟩)
        · exact .inl ⟨_, q, rfl, h4, h5, a, m', k, l, rfl, h1, h2, h3⟩
        · exact .inr ⟨rfl, h2, h3, h1⟩)) (fun w1 v q w2 E u hE => by
          rintro ⟨a, m', k, l, rfl, h1, h2, h3⟩
          exact ⟨a, m', k, l, rfl, h1, own_ELo hE h2 h3, h3⟩))
    have HR1 := Lib.hid (fun l q => show many s (2 * B + 1) p m = some (l, q) → rBnd s (m : Nat) B p = (l.map (fun (v : Nat) => (v : Int) - (B : Int)), 0, q) from fun h => by unfold rBnd; rw [if_pos hv]; unfold rMany; rw [Int.toNat_natCast, h])
    have HR2 := Lib.hid (show many s (2 * B + 1) p m = none → rBnd s (m : Nat) B p = ([], 4, p) from fun h => by unfold rBnd; rw [if_pos hv]; unfold rMany; rw [Int.toNat_natCast, h])
    generalize rBnd s (m : Nat) B p = R at HR1 HR2 ⊢
    obtain ⟨f1, f2, f3⟩ := hv
    have f4 : (B : Int) ≤ 2147483647 := by omega
    have hv : True := trivial
    clear h hv x0 x1 hB
    go_enter Try.func20, Try.ntmps20
    go_wp2_with (go_at_call 38; refine HD.out.mono ?_; rintro e w2 (⟨w1, v, q, rfl, hs2, hx2, hg2, a, m', k, l, rfl, hok, hq, hf⟩ | ⟨rfl, hs2, hx2, hno⟩))
    · go_ret2
      have e := HR1.out _ _ hok
      subst e
      exact resLo_ex HG.out rfl hq (fun x hx => by have := hf x hx; have := hg2.size; have := HG.out.size; omega) hs2 hx2
    · go_ret2
      have e := HR2.out hno
      subst e
      exact resLo_ex HG.out rfl (Lo.HasQ.nil _) (fun x hx => by cases hx) hs2 hx2
  · have hr : rBnd s n B p = ([], 2, p) := by unfold rBnd; rw [if_neg hv]
    rw [hr]
    have HD := Lib.hid (fun F => drawargo_any b g c s p F _ HS.out)
    have hc : ¬ 0 ≤ n ∨ (0 ≤ n ∧ ¬ n ≤ 4096) ∨ (0 ≤ n ∧ n ≤ 4096 ∧ ¬ (B : Int) ≤ 2147483647) := by omega
    clear h hr hv x0 x1 hB
    rcases hc with hc | ⟨hc1, hc2⟩ | ⟨hc1, hc2, hc3⟩
    all_goals
      go_enter Try.func20, Try.ntmps20
      go_wp2_with (go_at_call 38; refine (HD.out _).mono ?_; rintro e w2 ⟨rfl, hg2⟩)
      go_ret2
      exact resLo_ex HG.out rfl (Lo.HasQ.nil _) (fun x hx => by cases hx) (HS.out.later hg2) (Ex.of hg2 b)
set_option maxRecDepth 100000 in
theorem pTernary_any (b g c : Nat) (s : ByteArray) (p : Nat) (n : Int) (h : Int) (w : World) (hS : Sup w b g c s p) : Calls Try.prog 19 #[.pointer (some ⟨b, 0, none⟩), .int .i64 n, .int .i64 h] w (ResL8 b g c s (rTern s n h p) w) := by
  have hmf : ∀ (fn : Fn) (first cap : Array Value) (w : World), (Instr.makeFunc fn first cap).run Try.prog w = .ok (.func fn first cap) w := fun _ _ _ _ => rfl
  have HG := Lib.hid ((Gr.new w (.cells #[.int .i64 n] 3)).alloc (.cells #[.int .i64 h] 3))
  have HS := Lib.hid (hS.later HG.out)
  have x0 : World.cell? ((w.alloc (.cells #[.int .i64 n] 3)).alloc (.cells #[.int .i64 h] 3)) ⟨w.heap.size, 0, none⟩ = some (.int .i64 n) := ((Gr.refl _).alloc _).keeps (cell_new w _ _)
  have x1 : World.cell? ((w.alloc (.cells #[.int .i64 n] 3)).alloc (.cells #[.int .i64 h] 3)) ⟨w.heap.size + 1, 0, none⟩ = some (.int .i64 h) := by
    have := cell_new (w.alloc (.cells #[.int .i64 n] 3)) (.int .i64 h) 3
    rw [World.size_alloc] at this; exact this
  have X0 := Lib.hid x0
  have X1 := Lib.hid x1
  by_cases hv : 1 ≤ n ∧ n ≤ 4096 ∧ 0 ≤ h ∧ h ≤ n
  · obtain ⟨m, rfl⟩ : ∃ m : Nat, n = m := ⟨n.toNat, by omega⟩
    obtain ⟨hh, rfl⟩ : ∃ hh : Nat, h = hh := ⟨h.toNat, by omega⟩
    have HD := Lib.hid (drawTernary_any b g c s p #[.pointer (some ⟨w.heap.size, 0, none⟩), .pointer (some ⟨w.heap.size + 1, 0, none⟩)] (fun w1 v q w2 => ∃ a m' k L O, v = .slice a m' k ∧ tern s m p hh = some (L, O, q) ∧ L8.HasQ w2 (.slice a m' k) (O) ∧ (∀ x, a = some x → w1.heap.size ≤ x.block)) (tern s m p hh = none) _ HS.out
      (fun w1 t hs ht hg => (show Calls _ _ (#[t] ++ #[_, _]) _ _ from ternc_any b g c w.heap.size (w.heap.size + 1) t s p m hh w1 hs ht (by omega) (by omega) (hg.keeps x0) (hg.keeps x1)).mono (by
        rintro e w2 (⟨L, O, q, a, m', k, h1, rfl, h2, h3, h4, h5⟩ | ⟨h1, rfl, h2, h3⟩)
        · exact .inl ⟨_, q, rfl, h4, h5, a, m', k, L, O, rfl, h1, h2, h3⟩
        · exact .inr ⟨rfl, h2, h3, h1⟩)) (fun w1 v q w2 E u hE => by
          rintro ⟨a, m', k, L, O, rfl, h1, h2, h3⟩
          exact ⟨a, m', k, L, O, rfl, h1, own_EL8 hE h2 h3, h3⟩))
    have HR1 := Lib.hid (fun L O q => show tern s m p hh = some (L, O, q) → rTern s (m : Nat) (hh : Nat) p = (O, 0, q) from fun h => by unfold rTern; rw [if_pos hv];  rw [Int.toNat_natCast, Int.toNat_natCast, h])
    have HR2 := Lib.hid (show tern s m p hh = none → rTern s (m : Nat) (hh : Nat) p = ([], 4, p) from fun h => by unfold rTern; rw [if_pos hv];  rw [Int.toNat_natCast, Int.toNat_natCast, h])
    generalize rTern s (m : Nat) (hh : Nat) p = R at HR1 HR2 ⊢
    obtain ⟨f1, f2, f3, f4⟩ := hv
    have hv : True := trivial
    clear hS hv x0 x1
    go_enter Try.func19, Try.ntmps19
    go_wp2_with (go_at_call 35; refine HD.out.mono ?_; rintro e w2 (⟨w1, v, q, rfl, hs2, hx2, hg2, a, m', k, L, O, rfl, hok, hq, hf⟩ | ⟨rfl, hs2, hx2, hno⟩))
    · go_ret2
      have e := HR1.out _ _ _ hok
      subst e
      exact resL8_ex HG.out rfl hq (fun x hx => by have := hf x hx; have := hg2.size; have := HG.out.size; omega) hs2 hx2
    · go_ret2
      have e := HR2.out hno
      subst e
      exact resL8_ex HG.out rfl (L8.HasQ.nil _) (fun x hx => by cases hx) hs2 hx2
  · have hr : rTern s n h p = ([], 2, p) := by unfold rTern; rw [if_neg hv]
    rw [hr]
    have HD := Lib.hid (fun F => drawarg8_any b g c s p F _ HS.out)
    have hc : ¬ 1 ≤ n ∨ (1 ≤ n ∧ ¬ n ≤ 4096) ∨ (1 ≤ n ∧ n ≤ 4096 ∧ ¬ 0 ≤ h) ∨ (1 ≤ n ∧ n ≤ 4096 ∧ 0 ≤ h ∧ ¬ h ≤ n) := by omega
    clear hS hr hv x0 x1
    rcases hc with hc | ⟨hc1, hc2⟩ | ⟨hc1, hc2, hc3⟩ | ⟨hc1, hc2, hc3, hc4⟩
    all_goals
      go_enter Try.func19, Try.ntmps19
      go_wp2_with (go_at_call 35; refine (HD.out _).mono ?_; rintro e w2 ⟨rfl, hg2⟩)
      go_ret2
      exact resL8_ex HG.out rfl (L8.HasQ.nil _) (fun x hx => by cases hx) (HS.out.later hg2) (Ex.of hg2 b)
end Go.Proofs.Ytmankcmmlcfbaaa
