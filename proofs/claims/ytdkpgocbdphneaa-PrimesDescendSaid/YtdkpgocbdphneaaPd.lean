/- The first prime of the candidates of an iterator. -/
import Derived.Test.YtdkpgocbdphneaaPc
import Derived.Maps.AppendAt
namespace Go.Proofs.Ytdkpgocbdphneaa
open Go.RowKit Go.Shelf
set_option linter.unusedVariables false
attribute [local go_sem] Oper.semAt_some

/-- The first prime of what came, or none of all is one. -/
def FirstR (S Sp : List Ob.U32 → Prop) (v c : Nat) : Prop := (∃ pre x, Sp (pre ++ [x]) ∧ (∀ y ∈ pre, ¬ Ob.Pr y.1) ∧ Ob.Pr x.1 ∧ v = x.1 ∧ c = 0) ∨ (∃ ys, S ys ∧ (∀ y ∈ ys, ¬ Ob.Pr y.1) ∧ v = 0 ∧ c = 4)

theorem gr_from {B : Nat} {W W' : World} (h : Gr W W') : KeepsFrom B W W' := ⟨h.size, fun k o _ hk _ => (h.block k (Array.getElem?_eq_some_iff.1 hk).1).trans hk⟩
theorem boxed_gr {W W' : World} {B : Nat} {t : TypeId} {v : Value} (h : Boxed W B t v) (hg : Gr W W') : Boxed W' B t v := (hg.block B h.lt).trans h

/-- What first's own cells hold. -/
def FirI (w : World) (pre : List Ob.U32) (W : World) : Prop := ((∀ y ∈ pre, ¬ Ob.Pr y.1) ∧ (∃ v, Boxed W w.heap.size 22 v) ∧ (∃ v, Boxed W (w.heap.size + 1) 23 v)) ∧ Below w.heap.size w W
def FirX (w : World) (c : Code) (pre : List Ob.U32) (W : World) : Prop := (c = .ret ∧ ∃ pre' x, pre = pre' ++ [x] ∧ (∀ y ∈ pre', ¬ Ob.Pr y.1) ∧ Ob.Pr x.1 ∧ Boxed W w.heap.size 22 (.int .u32 (x.1 : Nat)) ∧ Boxed W (w.heap.size + 1) 23 (.int .i64 0)) ∧ Below w.heap.size w W

theorem boxed_kept {W W' : World} {row : Option Nat} {B : Nat} {t : TypeId} {v : Value} (h : Boxed W B t v) (hg : W.grownBy W' row) (hrow : ∀ l, row = some l → ∃ o, W.heap[l]? = some o ∧ o.isCells = false) : Boxed W' B t v :=
  h.kept hg (fun e => by obtain ⟨o, ho, hc⟩ := hrow B e.symm; rw [show W.heap[B]? = _ from h] at ho; cases ho; cases hc)

set_option maxRecDepth 100000 in
set_option maxHeartbeats 2000000 in
theorem first_any (gf : Nat) (lb : Array Value) (eg : ∀ args w, (callFunc gf args).run Try.prog w = .ok (.enter gf args) w) (S Sp : List Ob.U32 → Prop) (B : Nat) (w : World) (hB : B + 1 < w.heap.size)
    (hseq : ∀ w0, Below w.heap.size w w0 → SeqStopsK Fence.wide (9 - 1) Try.prog gf lb (fun x : Ob.U32 => #[Value.int .u32 (x.1 : Nat)]) (Two2 B) S Sp 2147483648 w0) :
    Calls Try.prog 21 #[.func (.func gf) #[] lb] w (NumPost (FirstR S Sp) w) := by
  have HS := Lib.hid hseq
  clear hseq
  have HE := Lib.hid eg
  clear eg
  refine (callsIn_wide (n := 9)).1 ?_
  refine callsIn_of_wp_marks Try.func21 rfl trivial ?_ rfl
  simp only [Try.ntmps21, List.size_toArray, List.length_cons, List.length_nil, Nat.reduceAdd, Nat.reduceSub, Array.replicate_succ, Array.replicate_zero, List.push_toArray, List.append_toArray, List.nil_append, List.cons_append]
  gi_wp2
  have b0 := Boxed.new w 22 (.int .u32 0)
  have b1 := Boxed.new (w.alloc (.cells #[.int .u32 0] 22)) 23 (.int .i64 0)
  rw [World.size_alloc] at b1
  have hB0 : Below w.heap.size w ((w.alloc (.cells #[.int .u32 0] 22)).alloc (.cells #[.int .i64 0] 23)) := ((Below.refl _ w).alloc (Nat.le_refl _) _).alloc (by simp) _
  refine wpIn_rangeFunc_ownG rfl (by omega) (gf := gf) (lb := lb) rfl trivial HE.out
    (HS.out _ hB0) (fun h k => Two2.trans h k) (Two2.put (by simp; omega)) (Below.refl _ _) (fun _ => rfl)
    (FirI w) (FirX w)
    (OwnFrom.and (Own.from (fun s X Y row h hg hr => ⟨h.1, h.2.1.imp fun v hv => boxed_kept hv hg hr, h.2.2.imp fun v hv => boxed_kept hv hg hr⟩) _) (ownFrom_below (Nat.le_refl _) (by simp; omega)))
    (fun c => OwnFrom.and (Own.from (fun s X Y row h hg hr => ⟨h.1, h.2.imp fun p => Exists.imp fun x ⟨a1, a2, a3, a4, a5⟩ => ⟨a1, a2, a3, boxed_kept a4 hg hr, boxed_kept a5 hg hr⟩⟩) _) (ownFrom_below (Nat.le_refl _) (by simp; omega)))
    ⟨⟨fun y hy => by simp at hy, ⟨_, b0.alloc _⟩, ⟨_, b1⟩⟩, hB0⟩
    (fun x => { tmps := #[.func (.func gf) #[] lb, undef, .pointer (some ⟨w.heap.size, 0, none⟩), .pointer (some ⟨w.heap.size + 1, 0, none⟩), .int .u32 (x.1 : Nat), .func (.func gf) #[] lb, .int .u32 (x.1 : Nat), undef, undef, undef], defers := [] }) ?assign ?body ?done ?stop
  case assign =>
    intro l x W K hK
    gi_wp2
    exact hK
  case body =>
    rintro l pre x W ⟨⟨hp, ⟨v0, h0⟩, ⟨v1, h1⟩⟩, hb⟩ hlt
    have hx := x.2
    have HP := Lib.hid hp
    have HB := Lib.hid hb
    have H0 := Lib.hid h0
    have H1 := Lib.hid h1
    have hsz : B + 1 < W.heap.size := by have := hb.size; omega
    clear hp hb h0 h1
    gi_wp2_with fail
    refine ⟨trivial, ?_⟩
    gi_at_call 25
    refine (CallsIn.inRound l (callsIn_wide.2 (prime_pr x.1 _ hx))).mono ?_
    rintro e W1 ⟨r, rfl, hr, g1⟩
    have HR := Lib.hid hr
    clear hr
    have k0 := boxed_gr H0.out g1
    have k1 := boxed_gr H1.out g1
    have c0 := k0.cell
    have c1 := k1.cell
    have f0 := k0.frozen
    have f1 := k1.frozen
    have hb1 : Below w.heap.size w W1 := HB.out.trans (g1.mono HB.out.size)
    cases r with
    | true =>
      gi_wp2
      refine ⟨?_, ⟨rfl, pre, x, rfl, HP.out, HR.out.1 (by simp), ?_, ?_⟩, ?_⟩
      · exact ((gr_from g1).trans ((KeepsOthers.setCell _ _ _).from _)).trans ((KeepsOthers.setCell _ _ _).from _)
      · exact (k0.set _).other (by simp) _
      · exact (k1.other (by simp) _).set _
      · exact (hb1.setCell (p := ⟨w.heap.size, 0, none⟩) (by simp) _).setCell (p := ⟨w.heap.size + 1, 0, none⟩) (by simp) _
    | false =>
      gi_wp2
      refine ⟨gr_from g1, Two2.of_gr g1 hsz, ⟨fun y hy => ?_, ⟨_, k0⟩, ⟨_, k1⟩⟩, hb1⟩
      rcases List.mem_append.1 hy with hy | hy
      · exact HP.out y hy
      · obtain rfl : y = x := by simpa using hy
        exact fun h => absurd (HR.out.2 h) (by simp)
  case done =>
    rintro D ys W hD hall ⟨⟨hp, ⟨v0, h0⟩, ⟨v1, h1⟩⟩, hb⟩ hK
    have c0 := h0.cell
    have c1 := h1.cell
    have f0 := h0.frozen
    have f1 := h1.frozen
    have HP := Lib.hid hp
    have HB := Lib.hid hb
    have HA := Lib.hid hall
    clear hp hb hall
    gi_wp2
    have s0 : Boxed ((W.setCell ⟨w.heap.size, 0, none⟩ (.int .u32 0)).setCell ⟨w.heap.size + 1, 0, none⟩ (.int .i64 4)) w.heap.size 22 (.int .u32 0) := (h0.set _).other (by simp) _
    have s1 : Boxed ((W.setCell ⟨w.heap.size, 0, none⟩ (.int .u32 0)).setCell ⟨w.heap.size + 1, 0, none⟩ (.int .i64 4)) (w.heap.size + 1) 23 (.int .i64 4) := (h1.other (by simp) _).set _
    have hK' := ((KeepsOthers.setCell W ⟨w.heap.size, 0, none⟩ (.int .u32 0)).trans (KeepsOthers.setCell _ ⟨w.heap.size + 1, 0, none⟩ (.int .i64 4))).same D _ hK rfl
    refine ⟨by simp, .inl ⟨_, _, rfl, run_takeDeferred hK', ?_⟩⟩
    have e0 := (boxed_kept s0 (grownBy_putObj' _ D (.deferred none)) (fun r e => by cases e; exact ⟨_, hK', rfl⟩)).cell
    have e1 := (boxed_kept s1 (grownBy_putObj' _ D (.deferred none)) (fun r e => by cases e; exact ⟨_, hK', rfl⟩)).cell
    refine ⟨.tuple #[.int .u32 0, .int .i64 4], ?_, 0, 4, rfl, .inr ⟨ys, HA.out, HP.out, rfl, rfl⟩, ((HB.out.setCell (p := ⟨w.heap.size, 0, none⟩) (by simp) _).setCell (p := ⟨w.heap.size + 1, 0, none⟩) (by simp) _).trans (belowK_b (w := w) (Nat.le_refl _) _ D _ _ (by simp at hD; omega) hK' rfl rfl)⟩
    simp [results, Try.f21, go_sem, e0, e1]
  case stop =>
    rintro D c pre W hD hpre ⟨⟨rfl, pre', x, rfl, hp, hx, h0, h1⟩, hb⟩ hK
    have HP := Lib.hid hp
    have HB := Lib.hid hb
    have HX := Lib.hid hx
    clear hp hb hx
    gi_wp2
    refine ⟨by simp, .inl ⟨_, _, rfl, run_takeDeferred hK, ?_⟩⟩
    have e0 := (boxed_kept h0 (grownBy_putObj' _ D (.deferred none)) (fun r e => by cases e; exact ⟨_, hK, rfl⟩)).cell
    have e1 := (boxed_kept h1 (grownBy_putObj' _ D (.deferred none)) (fun r e => by cases e; exact ⟨_, hK, rfl⟩)).cell
    refine ⟨.tuple #[.int .u32 (x.1 : Nat), .int .i64 0], ?_, x.1, 0, rfl, .inl ⟨pre', x, hpre, HP.out, HX.out, rfl, rfl⟩, HB.out.trans (belowK_b (w := w) (Nat.le_refl _) W D _ _ (by simp at hD; omega) hK rfl rfl)⟩
    simp [results, Try.f21, go_sem, e0, e1]
end Go.Proofs.Ytdkpgocbdphneaa
