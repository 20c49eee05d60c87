/- The answers of the methods as functions of the bits; what is answered where there is no supply, or the arguments are not valid. -/
import Derived.Test.YtmankcmmlcfbaaaVi
import Derived.Test.YtmankcmmlcfbaaaVf
import Derived.Test.YtmankcmmlcfbaaaVg
import Derived.Test.YtmankcmmlcfbaaaVh
namespace Ov
set_option linter.unusedVariables false
def rBits (s : ByteArray) (n : Int) (p : Nat) : Nat × Int × Nat := if 1 ≤ n ∧ n ≤ 64 then (if p + n.toNat ≤ nbits s then (num s p n.toNat, 0, p + n.toNat) else (0, 4, p)) else (0, 2, p)
def rBelow (s : ByteArray) (n : Nat) (p : Nat) : Nat × Int × Nat := if n = 0 then (0, 2, p) else match bel s n p with | some (v, q) => (v, 0, q) | none => (0, 4, p)
def rMany (s : ByteArray) (lim n p : Nat) (cv : Nat → Int) : List Int × Int × Nat := match many s lim p n with | some (l, q) => (l.map cv, 0, q) | none => ([], 4, p)
def rUni (s : ByteArray) (n : Int) (q p : Nat) : List Int × Int × Nat := if 0 ≤ n ∧ n ≤ 4096 ∧ 1 ≤ q then rMany s q n.toNat p (fun v => (v : Int)) else ([], 2, p)
def rBnd (s : ByteArray) (n : Int) (B p : Nat) : List Int × Int × Nat := if 0 ≤ n ∧ n ≤ 4096 ∧ B ≤ 2147483647 then rMany s (2 * B + 1) n.toNat p (fun v => (v : Int) - (B : Int)) else ([], 2, p)
def rTern (s : ByteArray) (n h : Int) (p : Nat) : List Int × Int × Nat := if 1 ≤ n ∧ n ≤ 4096 ∧ 0 ≤ h ∧ h ≤ n then (match tern s n.toNat p h.toNat with | some (_, O, q) => (O, 0, q) | none => ([], 4, p)) else ([], 2, p)
end Ov
namespace Go.Proofs.Ytmankcmmlcfbaaa
open Go.RowKit Ov
set_option linter.unusedVariables false

/-- A number, an error and a place. -/
def ResU (b g c : Nat) (s : ByteArray) (r : Nat × Int × Nat) (w : World) (e : Ending) (w' : World) : Prop :=
  e = .returned (.tuple #[.int .u64 (r.1 : Nat), .int .i64 r.2.1]) ∧ Sup w' b g c s r.2.2 ∧ Ex b w w'
def ResLw (b g c : Nat) (s : ByteArray) (r : List Int × Int × Nat) (w : World) (e : Ending) (w' : World) : Prop :=
  ∃ a m k, e = .returned (.tuple #[.slice a m k, .int .i64 r.2.1]) ∧ Lw.HasQ w' (.slice a m k) r.1 ∧ (∀ x, a = some x → w.heap.size ≤ x.block) ∧ Sup w' b g c s r.2.2 ∧ Ex b w w'
def ResL8 (b g c : Nat) (s : ByteArray) (r : List Int × Int × Nat) (w : World) (e : Ending) (w' : World) : Prop :=
  ∃ a m k, e = .returned (.tuple #[.slice a m k, .int .i64 r.2.1]) ∧ L8.HasQ w' (.slice a m k) r.1 ∧ (∀ x, a = some x → w.heap.size ≤ x.block) ∧ Sup w' b g c s r.2.2 ∧ Ex b w w'
def ResLo (b g c : Nat) (s : ByteArray) (r : List Int × Int × Nat) (w : World) (e : Ending) (w' : World) : Prop :=
  ∃ a m k, e = .returned (.tuple #[.slice a m k, .int .i64 r.2.1]) ∧ Lo.HasQ w' (.slice a m k) r.1 ∧ (∀ x, a = some x → w.heap.size ≤ x.block) ∧ Sup w' b g c s r.2.2 ∧ Ex b w w'

theorem drawnilu_any (x : Option Addr) (val : Bool) (F : Value) (w : World) (hM : ∀ w', Gr w w' → Calls Try.prog 31 #[.pointer x] w' (fun e w2 => e = .returned (.bool false) ∧ w2 = w')) :
    Calls Try.prog 32 #[.pointer x, .bool val, F] w (fun e w' => e = .returned (.tuple #[.int .u64 0, .int .i64 1]) ∧ Gr w w') := by
  have HM := Lib.hid (hM ((w.alloc (.cells #[.pointer x] 24)).alloc (.cells #[.int .i64 0] 40)) (((Gr.refl w).alloc _).alloc _))
  clear hM
  go_enter_defers Try.func32, Try.ntmps32
  go_wp2_with (first | (go_at_call 31; refine HM.out.mono ?_; rintro e w1 ⟨he, hw⟩; subst he; subst hw))
  refine ⟨.tuple #[.int .u64 0, .int .i64 1], ?_, rfl, ((Gr.refl w).alloc _).alloc _⟩
  simp [results, Try.results32, go_sem]
theorem drawargu_any (b g c : Nat) (s : ByteArray) (p : Nat) (F : Value) (w : World) (h : Sup w b g c s p) :
    Calls Try.prog 32 #[.pointer (some ⟨b, 0, none⟩), .bool false, F] w (fun e w' => e = .returned (.tuple #[.int .u64 0, .int .i64 2]) ∧ Gr w w') := by
  have H := Lib.hid h
  clear h
  go_enter_defers Try.func32, Try.ntmps32
  go_wp2_with (first | (go_at_call 31; refine (made_any b g c s p _ (H.out.later (((Gr.refl w).alloc _).alloc _))).mono ?_; rintro e w1 ⟨rfl, rfl⟩))
  refine ⟨.tuple #[.int .u64 0, .int .i64 2], ?_, rfl, ((Gr.refl w).alloc _).alloc _⟩
  simp [results, Try.results32, go_sem]

theorem drawnil8_any (x : Option Addr) (val : Bool) (F : Value) (w : World) (hM : ∀ w', Gr w w' → Calls Try.prog 31 #[.pointer x] w' (fun e w2 => e = .returned (.bool false) ∧ w2 = w')) :
    Calls Try.prog 35 #[.pointer x, .bool val, F] w (fun e w' => e = .returned (.tuple #[.slice none 0 0, .int .i64 1]) ∧ Gr w w') := by
  have HM := Lib.hid (hM ((w.alloc (.cells #[.pointer x] 24)).alloc (.cells #[.int .i64 0] 40)) (((Gr.refl w).alloc _).alloc _))
  clear hM
  go_enter_defers Try.func35, Try.ntmps35
  go_wp2_with (first | (go_at_call 31; refine HM.out.mono ?_; rintro e w1 ⟨he, hw⟩; subst he; subst hw))
  refine ⟨.tuple #[.slice none 0 0, .int .i64 1], ?_, rfl, ((Gr.refl w).alloc _).alloc _⟩
  simp [results, Try.results35, go_sem]
theorem drawarg8_any (b g c : Nat) (s : ByteArray) (p : Nat) (F : Value) (w : World) (h : Sup w b g c s p) :
    Calls Try.prog 35 #[.pointer (some ⟨b, 0, none⟩), .bool false, F] w (fun e w' => e = .returned (.tuple #[.slice none 0 0, .int .i64 2]) ∧ Gr w w') := by
  have H := Lib.hid h
  clear h
  go_enter_defers Try.func35, Try.ntmps35
  go_wp2_with (first | (go_at_call 31; refine (made_any b g c s p _ (H.out.later (((Gr.refl w).alloc _).alloc _))).mono ?_; rintro e w1 ⟨rfl, rfl⟩))
  refine ⟨.tuple #[.slice none 0 0, .int .i64 2], ?_, rfl, ((Gr.refl w).alloc _).alloc _⟩
  simp [results, Try.results35, go_sem]

theorem drawnilo_any (x : Option Addr) (val : Bool) (F : Value) (w : World) (hM : ∀ w', Gr w w' → Calls Try.prog 31 #[.pointer x] w' (fun e w2 => e = .returned (.bool false) ∧ w2 = w')) :
    Calls Try.prog 38 #[.pointer x, .bool val, F] w (fun e w' => e = .returned (.tuple #[.slice none 0 0, .int .i64 1]) ∧ Gr w w') := by
  have HM := Lib.hid (hM ((w.alloc (.cells #[.pointer x] 24)).alloc (.cells #[.int .i64 0] 40)) (((Gr.refl w).alloc _).alloc _))
  clear hM
  go_enter_defers Try.func38, Try.ntmps38
  go_wp2_with (first | (go_at_call 31; refine HM.out.mono ?_; rintro e w1 ⟨he, hw⟩; subst he; subst hw))
  refine ⟨.tuple #[.slice none 0 0, .int .i64 1], ?_, rfl, ((Gr.refl w).alloc _).alloc _⟩
  simp [results, Try.results38, go_sem]
theorem drawargo_any (b g c : Nat) (s : ByteArray) (p : Nat) (F : Value) (w : World) (h : Sup w b g c s p) :
    Calls Try.prog 38 #[.pointer (some ⟨b, 0, none⟩), .bool false, F] w (fun e w' => e = .returned (.tuple #[.slice none 0 0, .int .i64 2]) ∧ Gr w w') := by
  have H := Lib.hid h
  clear h
  go_enter_defers Try.func38, Try.ntmps38
  go_wp2_with (first | (go_at_call 31; refine (made_any b g c s p _ (H.out.later (((Gr.refl w).alloc _).alloc _))).mono ?_; rintro e w1 ⟨rfl, rfl⟩))
  refine ⟨.tuple #[.slice none 0 0, .int .i64 2], ?_, rfl, ((Gr.refl w).alloc _).alloc _⟩
  simp [results, Try.results38, go_sem]

theorem drawnilw_any (x : Option Addr) (val : Bool) (F : Value) (w : World) (hM : ∀ w', Gr w w' → Calls Try.prog 31 #[.pointer x] w' (fun e w2 => e = .returned (.bool false) ∧ w2 = w')) :
    Calls Try.prog 43 #[.pointer x, .bool val, F] w (fun e w' => e = .returned (.tuple #[.slice none 0 0, .int .i64 1]) ∧ Gr w w') := by
  have HM := Lib.hid (hM ((w.alloc (.cells #[.pointer x] 24)).alloc (.cells #[.int .i64 0] 40)) (((Gr.refl w).alloc _).alloc _))
  clear hM
  go_enter_defers Try.func43, Try.ntmps43
  go_wp2_with (first | (go_at_call 31; refine HM.out.mono ?_; rintro e w1 ⟨he, hw⟩; subst he; subst hw))
  refine ⟨.tuple #[.slice none 0 0, .int .i64 1], ?_, rfl, ((Gr.refl w).alloc _).alloc _⟩
  simp [results, Try.results43, go_sem]
theorem drawargw_any (b g c : Nat) (s : ByteArray) (p : Nat) (F : Value) (w : World) (h : Sup w b g c s p) :
    Calls Try.prog 43 #[.pointer (some ⟨b, 0, none⟩), .bool false, F] w (fun e w' => e = .returned (.tuple #[.slice none 0 0, .int .i64 2]) ∧ Gr w w') := by
  have H := Lib.hid h
  clear h
  go_enter_defers Try.func43, Try.ntmps43
  go_wp2_with (first | (go_at_call 31; refine (made_any b g c s p _ (H.out.later (((Gr.refl w).alloc _).alloc _))).mono ?_; rintro e w1 ⟨rfl, rfl⟩))
  refine ⟨.tuple #[.slice none 0 0, .int .i64 2], ?_, rfl, ((Gr.refl w).alloc _).alloc _⟩
  simp [results, Try.results43, go_sem]

theorem bitsc_any (b g c N1 : Nat) (t : Value) (s : ByteArray) (p n : Nat) (w : World) (h : Sup w b g c s p) (ht : IsTk w t b) (hn : n ≤ 64) (hc : w.cell? ⟨N1, 0, none⟩ = some (.int .i64 (n : Nat))) :
    Calls Try.prog 42 #[t, .pointer (some ⟨N1, 0, none⟩)] w (TkP b g c s p n w) := by
  obtain ⟨q, rfl, hq, hcq⟩ := ht
  have HT := Lib.hid (taker_any b g c q s p n w h hq hn hcq)
  clear h hcq
  go_enter Try.func42, Try.ntmps42
  go_wp2_with (go_at_call 56; refine HT.out.mono ?_; rintro e w2 (⟨h1, rfl, hs2, hx2⟩ | ⟨h1, rfl, hs2, hx2⟩))
  · go_ret2
    exact .inl ⟨h1, rfl, hs2, hx2⟩
  · go_ret2
    exact .inr ⟨h1, rfl, hs2, hx2⟩
theorem belowc_any (b g c N1 : Nat) (t : Value) (s : ByteArray) (p n : Nat) (w : World) (h : Sup w b g c s p) (ht : IsTk w t b) (hn : 1 ≤ n ∧ n < 18446744073709551616) (hc : w.cell? ⟨N1, 0, none⟩ = some (.int .u64 (n : Nat))) :
    Calls Try.prog 33 #[t, .pointer (some ⟨N1, 0, none⟩)] w (BelP b g c s n p w) := by
  have HT := Lib.hid (below_any b g c t s n p w h ht hn)
  clear h hn ht
  go_enter Try.func33, Try.ntmps33
  go_wp2_with (go_at_call 34; refine HT.out.mono ?_; rintro e w2 (⟨v, q, h1, rfl, hs2, hx2⟩ | ⟨h1, rfl, hs2, hx2⟩))
  · go_ret2
    exact .inl ⟨v, q, h1, rfl, hs2, hx2⟩
  · go_ret2
    exact .inr ⟨h1, rfl, hs2, hx2⟩
theorem unic_any (b g c N1 N2 : Nat) (t : Value) (s : ByteArray) (p n lim : Nat) (w : World) (h : Sup w b g c s p) (ht : IsTk w t b) (hn : n ≤ 4096) (hl : 1 ≤ lim ∧ lim < 4294967296) (hc : w.cell? ⟨N1, 0, none⟩ = some (.int .i64 (n : Nat))) (hc2 : w.cell? ⟨N2, 0, none⟩ = some (.int .u32 (lim : Nat))) :
    Calls Try.prog 44 #[t, .pointer (some ⟨N1, 0, none⟩), .pointer (some ⟨N2, 0, none⟩)] w (NumLwP b g c s lim p n (fun (v : Nat) => (v : Int)) w) := by
  have HT := Lib.hid (numLw_any b g c t s lim p n w h ht hl hn)
  have hl2 : (lim : Int) < 4294967296 := by omega
  clear h hn ht hl
  go_enter Try.func44, Try.ntmps44
  go_wp2_with (go_at_call 45; refine HT.out.mono ?_; rintro e w2 (⟨l, q, a, m, k, h1, rfl, hs2, hx2⟩ | ⟨h1, rfl, hs2, hx2⟩))
  · go_ret2
    exact .inl ⟨l, q, a, m, k, h1, rfl, hs2, hx2⟩
  · go_ret2
    exact .inr ⟨h1, rfl, hs2, hx2⟩
theorem ternc_any (b g c N1 N2 : Nat) (t : Value) (s : ByteArray) (p n h : Nat) (w : World) (hS : Sup w b g c s p) (ht : IsTk w t b) (hn : n ≤ 4096) (hh : h ≤ n) (hc : w.cell? ⟨N1, 0, none⟩ = some (.int .i64 (n : Nat))) (hc2 : w.cell? ⟨N2, 0, none⟩ = some (.int .i64 (h : Nat))) :
    Calls Try.prog 36 #[t, .pointer (some ⟨N1, 0, none⟩), .pointer (some ⟨N2, 0, none⟩)] w (TernP b g c s n h p w) := by
  have HT := Lib.hid (signs_any b g c t s n h p w hS ht hn hh)
  clear hS hn ht hh
  go_enter Try.func36, Try.ntmps36
  go_wp2_with (go_at_call 37; refine HT.out.mono ?_; rintro e w2 (⟨L, O, q, a, m, k, h1, rfl, hs2, hx2⟩ | ⟨h1, rfl, hs2, hx2⟩))
  · go_ret2
    exact .inl ⟨L, O, q, a, m, k, h1, rfl, hs2, hx2⟩
  · go_ret2
    exact .inr ⟨h1, rfl, hs2, hx2⟩
theorem bndc_any (b g c N1 N2 : Nat) (t : Value) (s : ByteArray) (p n B : Nat) (w : World) (h : Sup w b g c s p) (ht : IsTk w t b) (hn : n ≤ 4096) (hB : B ≤ 2147483647) (hc : w.cell? ⟨N1, 0, none⟩ = some (.int .i64 (n : Nat))) (hc2 : w.cell? ⟨N2, 0, none⟩ = some (.int .u32 (B : Nat))) :
    Calls Try.prog 39 #[t, .pointer (some ⟨N2, 0, none⟩), .pointer (some ⟨N1, 0, none⟩)] w (NumLoP b g c s (2 * B + 1) p n (fun (v : Nat) => (v : Int) - (B : Int)) w) := by
  obtain ⟨lim, hlim⟩ : ∃ lim, lim = 2 * B + 1 := ⟨_, rfl⟩
  have hlt := h.lt.1
  have HT := Lib.hid (fun (w1 : World) (hg : Gr w w1) (hcr : w1.cell? ⟨w.heap.size, 0, none⟩ = some (.int .i64 (B : Int))) => numLo_any b g c t s lim p n B w.heap.size w1 (h.later hg) (ht.ex (Ex.of hg b)) (by omega) hn (by omega) (by omega) hcr)
  have hle : (2 : Int) * (B : Int) + 1 = (lim : Int) := by omega
  rw [← hlim]
  have hB2 : (B : Int) ≤ 2147483647 := by omega
  have hl3 : (lim : Int) ≤ 4294967295 := by omega
  have hcN : (w.alloc (.cells #[.int .i64 (B : Int)] 2)).cell? ⟨N1, 0, none⟩ = some (.int .i64 (n : Nat)) := (Gr.new w _).keeps hc
  clear hc
  clear h hn ht hlim
  have hmf : ∀ (fn : Fn) (first cap : Array Value) (w : World), (Instr.makeFunc fn first cap).run Try.prog w = .ok (.func fn first cap) w := fun _ _ _ _ => rfl
  go_enter Try.func39, Try.ntmps39
  go_wp2_with (go_at_call 40; refine (HT.out _ (Gr.new w _) (cell_new w _ _)).mono ?_; rintro e w2 (⟨l, q, a, m, k, h1, rfl, h2, h3, hs2, hx2⟩ | ⟨h1, rfl, hs2, hx2⟩))
  · go_ret2
    exact .inl ⟨l, q, a, m, k, h1, rfl, h2, fun x hx => by have := h3 x hx; simp at this; omega, hs2, (Ex.of (Gr.new w _) b).trans hx2⟩
  · go_ret2
    exact .inr ⟨h1, rfl, hs2, (Ex.of (Gr.new w _) b).trans hx2⟩
end Go.Proofs.Ytmankcmmlcfbaaa
