import Derived.RangeFuncNested
import Derived.RangeFuncBound
import Derived.RangeFuncCalls
import Derived.RangeFuncLeaves
import Derived.RangeFuncBox
import Derived.Shelf.Abstract
import Derived.Shelf.RegionOpen
import Derived.OwnWalkIn
import Derived.TacticsInMore
import Derived.LoopNIn
import Derived.LoopIn
import Derived.OrdersIn
import Derived.OrdersHeld
import Derived.Test.YtplfeeaocjgliaaLFB
import Derived.Test.YtplfeeaocjgliaaLPB
import Derived.Laws.AppendOwn
/- A range over the candidates: the iterator hands its own memory to the body; it goes on until the body leaves it. -/
namespace Oq
set_option linter.unusedVariables false
theorem rk_length {p : Int} (hp : 2 ≤ p) : ∀ {l t : List Int}, Mo p l → Mo p t → rk p l ≤ rk p t → l.length ≤ t.length
  | [], _, h, _, _ => absurd rfl h.2.1
  | _ :: _, [], _, h, _ => absurd rfl h.2.1
  | [c], d :: t, h, k, _ => by simp
  | c :: d :: l, [e], h, k, hle => by
    have := rk_ge hp h
    rw [k.single] at hle
    simp only [rk] at hle this
    omega
  | c :: d :: l, e :: g :: t, h, k, hle => by
    have hc := h.1 c (List.mem_cons_self ..)
    have he := k.1 e (List.mem_cons_self ..)
    rw [rk_cons p c, rk_cons p e] at hle
    have h1 : rk p (d :: l) ≤ rk p (g :: t) := by
      apply Classical.byContradiction
      intro hn
      have : p * (rk p (g :: t) + 1) ≤ p * rk p (d :: l) := Int.mul_le_mul_of_nonneg_left (by omega) (by omega)
      rw [Int.mul_add] at this
      omega
    have := rk_length hp h.tail k.tail h1
    simp only [List.length_cons] at this ⊢
    omega
end Oq
namespace Go.Proofs.Ytplfeeaocjgliaa
open Go.RowKit Go.Shelf
set_option linter.unusedVariables false
attribute [local go_sem] Oper.semAt_some

/-- All blocks from B on are as they were. -/
def KeepsUp (B : Nat) (W W' : World) : Prop := W.heap.size ≤ W'.heap.size ∧ ∀ k, B ≤ k → k < W.heap.size → W'.heap[k]? = W.heap[k]?
theorem KeepsUp.refl (B : Nat) (W : World) : KeepsUp B W W := ⟨Nat.le_refl _, fun _ _ _ => rfl⟩
theorem KeepsUp.trans {B : Nat} {X Y Z : World} (h : KeepsUp B X Y) (k : KeepsUp B Y Z) : KeepsUp B X Z := ⟨Nat.le_trans h.1 k.1, fun i h1 h2 => (k.2 i h1 (Nat.lt_of_lt_of_le h2 h.1)).trans (h.2 i h1 h2)⟩
theorem KeepsUp.mono {B C : Nat} {X Y : World} (h : KeepsUp B X Y) (hBC : B ≤ C) : KeepsUp C X Y := ⟨h.1, fun i h1 h2 => h.2 i (Nat.le_trans hBC h1) h2⟩
theorem KeepsUp.of_gr {B : Nat} {X Y : World} (h : Gr X Y) : KeepsUp B X Y := ⟨h.size, fun i _ h2 => h.block i h2⟩
theorem KeepsUp.setCell {B : Nat} (X : World) {p : Addr} (h : p.block < B) (v : Value) : KeepsUp B X (X.setCell p v) := ⟨by simp, fun i h1 h2 => by rw [Below.heap_setCell _ _ _ _ (by omega)]⟩
theorem KeepsUp.put {B : Nat} (X : World) {l : Nat} (h : l < B) (o : Obj) : KeepsUp B X (X.putObj l o) := ⟨by simp, fun i h1 _ => World.putObj_heap_other (by omega)⟩
theorem below_put {B : Nat} (X : World) {l : Nat} (h : B ≤ l) (o : Obj) (hs : B ≤ X.heap.size) : Below B X (X.putObj l o) := (Below.refl B X).grown (grownBy_putObj' X l o) hs (fun k e => by cases e; exact h)

/-- How a round may end. -/
def rpost (B : Nat) (I : World → Prop) (Ix : Code → World → Prop) (G : Prop) (W : World) : Exit → Act → World → Prop
  | .normal, _, W' => KeepsUp B W W' ∧ I W' ∧ G
  | .exit id, _, W' => KeepsUp B W W' ∧ Ix (.exit id) W'
  | _, _, _ => False

/-- A range over a function whose iterator never ends by itself, and whose arguments lie in its own memory. -/
theorem range_arg {P : Program} {α : Type} {g : Operand} {ps : Array Tmp} {assign body : Code} {Q : Exit → Act → World → Prop} {a : Act} {w : World} {gf : Nat} {lb : Array Value}
    (hg : a.eval g = .func (.func gf) #[] lb) (eg : ∀ args w, (callFunc gf args).run P w = .ok (.enter gf args) w) (encs : α → Array Value) (hps : ∀ x, (encs x).size = ps.size) (Arg : α → World → Prop)
    (hput : ∀ x W o, Arg x W → Arg x (W.putObj (w.heap.size + 1) o)) (I : World → Prop) (Ix : Code → World → Prop) (hI : ∀ W W', Below w.heap.size W W' → I W → I W') (hIx : ∀ c W o, (∃ r, W.heap[w.heap.size + 1]? = some (.loop r)) → Ix c W → Ix c (W.putObj (w.heap.size + 1) o))
    (h0 : I w) (G : α → Prop) (a₁ : α → Act)
    (hassign : ∀ (l : Nat) (x : α) (W : World) (K : Act → World → Prop), K (a₁ x) W →
      assign.wpIn (Fence.wide.inRound l) (9 - 1 - 1) P (Exit.then K (fun _ _ _ => False)) { tmps := (ps.zip (encs x)).foldl (fun t (p, v) => t.setIfInBounds p v) a.tmps, defers := [] } W)
    (hbody : ∀ (l : Nat) (x : α) (W : World), I W → Arg x W → w.heap.size + 2 ≤ W.heap.size → body.wpIn (Fence.wide.inRound l) (9 - 1 - 1) P (rpost w.heap.size I Ix (G x) W) (a₁ x) W)
    (hseq : ∀ (l : Nat) (J Jx : World → Prop) (W : World), W.heap.size = w.heap.size + 2 → (∀ X Y, Below (w.heap.size + 2) X Y → J X → J Y) → (∀ X, J X → I X) →
      (∀ x X, J X → Arg x X → YieldAt Fence.wide (9 - 1 - 1) P l (encs x) X fun e Y => (e = .returned (.bool true) ∧ J Y ∧ KeepsUp (w.heap.size + 2) X Y ∧ G x) ∨ (e = .returned (.bool false) ∧ Jx Y)) →
      J W → CallsIn Fence.wide (9 - 1) P gf (#[.func (.yield l) #[] #[]] ++ lb) W fun e Y => (∃ v, e = .returned v) ∧ Jx Y)
    (hstop : ∀ (D : Nat) (c : Code) (W : World), D = w.heap.size → Ix c W → W.heap[D]? = some (.deferred (some [])) → c.wpIn Fence.wide 9 P Q { a with defers := { target := .collected D, args := #[] } :: a.defers } W) :
    (Code.rangeFunc g ps assign body).wpIn Fence.wide 9 P Q a w := by
  refine wpIn_rangeFunc ?_
  intro fn hfn
  obtain ⟨lp, hlp⟩ : ∃ lp : LoopState → Option Code → Loop, lp = fun s c => { state := s, pending := c, fn, tmps := a.tmps, params := ps, assign, body, defers := w.heap.size } := ⟨_, rfl⟩
  obtain ⟨W1, hW1⟩ : ∃ W1, W1 = (w.alloc (.deferred (some []))).alloc (.loop (lp .ready none)) := ⟨_, rfl⟩
  have s1 : W1.heap.size = w.heap.size + 2 := by rw [hW1]; simp
  have l1 : W1.heap[w.heap.size + 1]? = some (.loop (lp .ready none)) := by
    have := World.alloc_heap_new (w.alloc (.deferred (some []))) (.loop (lp .ready none))
    rw [World.size_alloc] at this
    rw [hW1]; exact this
  have d1 : W1.heap[w.heap.size]? = some (.deferred (some [])) := by rw [hW1]; exact (Below.heap_alloc _ _ _ (by simp)).trans (World.alloc_heap_new w _)
  have b1 : Below w.heap.size w W1 := by rw [hW1]; exact ((Below.refl _ w).alloc (Nat.le_refl _) _).alloc (by simp) _
  refine ⟨w.heap.size + 1, [{ target := .collected w.heap.size, args := #[] }], W1, { target := .fn (.func gf) lb, args := #[.func (.yield (w.heap.size + 1)) #[] #[]] }, W1, gf, #[.func (.yield (w.heap.size + 1)) #[] #[]] ++ lb, W1, ?_, ?_, ?_, ?_, fun _ => by omega, ?_⟩
  · rw [hW1, hlp]; exact run_enterLoop_outer _ _ _ _ _
  · simp only [resolve, hg]
    simp [go_sem]
  · intro f' hf'
    simp [Target.leads] at hf'
    subst hf'
    trivial
  · simp [invoke, go_sem, eg]
  · refine (hseq (w.heap.size + 1) (fun W => I W ∧ W.heap[w.heap.size + 1]? = some (.loop (lp .ready none)) ∧ W.heap[w.heap.size]? = some (.deferred (some [])) ∧ w.heap.size + 2 ≤ W.heap.size)
      (fun W => ∃ c, Ix c W ∧ W.heap[w.heap.size + 1]? = some (.loop (lp .done (some c))) ∧ W.heap[w.heap.size]? = some (.deferred (some [])) ∧ w.heap.size + 2 ≤ W.heap.size)
      W1 s1 (fun X Y hb hj => ⟨hI X Y (hb.mono (by omega)) hj.1, (hb.block _ (by omega)).trans hj.2.1, (hb.block _ (by omega)).trans hj.2.2.1, Nat.le_trans hj.2.2.2 hb.size⟩) (fun X h => h.1) ?_ ⟨hI _ _ b1 h0, l1, d1, by omega⟩).mono ?_
    · rintro x X ⟨hi, hl, hd, hs⟩ ha
      have hy := run_yield (P := P) (args := encs x) hl (by rw [hlp]; exact hps x)
      rw [hlp] at hy
      refine ⟨fn, _, assign, body, hy, roundIn_of_wpIn hfn (hassign _ x X _ ⟨_, run_beginRound hl (by rw [hlp]), ?_⟩)⟩
      obtain ⟨X2, hX2⟩ : ∃ X2, X2 = X.putObj (w.heap.size + 1) (.loop { lp .ready none with state := .busy }) := ⟨_, rfl⟩
      have l2 : X2.heap[w.heap.size + 1]? = some (.loop { lp .ready none with state := .busy }) := by rw [hX2]; exact World.putObj_heap_same (by omega)
      have d2 : X2.heap[w.heap.size]? = some (.deferred (some [])) := by rw [hX2]; exact (World.putObj_heap_other (by omega)).trans hd
      have z2 : X2.heap.size = X.heap.size := by rw [hX2]; simp
      have bX : Below w.heap.size X X2 := by rw [hX2]; exact below_put X (by omega) _ (by omega)
      have kX : KeepsUp (w.heap.size + 2) X X2 := by rw [hX2]; exact KeepsUp.put X (by omega) _
      rw [← hX2]
      refine wpIn_mono (hbody _ x X2 (hI _ _ bX hi) (by rw [hX2]; exact hput x X _ ha) (by omega)) ?_
      have fin : ∀ (jump : Option Code) (X3 : World), KeepsUp w.heap.size X2 X3 → (Instr.endRound (w.heap.size + 1) jump).run P X3 = .ok (.bool jump.isNone) (X3.putObj (w.heap.size + 1) (.loop (lp (if jump.isNone then .ready else .done) jump))) ∧
          Below w.heap.size X3 (X3.putObj (w.heap.size + 1) (.loop (lp (if jump.isNone then .ready else .done) jump))) ∧ KeepsUp (w.heap.size + 2) X (X3.putObj (w.heap.size + 1) (.loop (lp (if jump.isNone then .ready else .done) jump))) ∧
          (X3.putObj (w.heap.size + 1) (.loop (lp (if jump.isNone then .ready else .done) jump))).heap[w.heap.size + 1]? = some (.loop (lp (if jump.isNone then .ready else .done) jump)) ∧
          (X3.putObj (w.heap.size + 1) (.loop (lp (if jump.isNone then .ready else .done) jump))).heap[w.heap.size]? = some (.deferred (some [])) ∧ (∃ r, X3.heap[w.heap.size + 1]? = some (.loop r)) := fun jump X3 hk => by
        have l3 := (hk.2 _ (by omega) (by omega)).trans l2
        have hr := run_endRound (P := P) jump l3
        have hsz := hk.1
        refine ⟨?_, below_put X3 (by omega) _ (by omega), (kX.trans (hk.mono (by omega))).trans (KeepsUp.put X3 (by omega) _), World.putObj_heap_same (by omega), (World.putObj_heap_other (by omega)).trans ((hk.2 _ (Nat.le_refl _) (by omega)).trans d2), _, l3⟩
        rw [hlp] at hr ⊢
        exact hr
      rintro e a3 X3 hp
      cases e with
      | normal =>
        obtain ⟨hk, hi3, hG⟩ := hp
        obtain ⟨f1, f2, f3, f4, f5, f6⟩ := fin none X3 hk
        exact ⟨_, _, f1, .inl ⟨rfl, ⟨hI _ _ f2 hi3, f4, f5, by have := f3.1; omega⟩, f3, hG⟩⟩
      | exit id =>
        obtain ⟨hk, hi3⟩ := hp
        obtain ⟨f1, f2, f3, f4, f5, f6⟩ := fin (some (.exit id)) X3 hk
        exact ⟨_, _, f1, .inr ⟨rfl, .exit id, hIx _ _ _ f6 hi3, f4, f5, by have := f3.1; omega⟩⟩
      | ret => exact hp.elim
      | goto t => exact hp.elim
      | panic ch => exact hp.elim
      | outgrown => exact hp.elim
    · rintro e X ⟨⟨v, rfl⟩, c, hi, hl, hd, hs⟩
      have hend := run_endLoop (P := P) hl (by rw [hlp]; simp)
      rw [hlp] at hend
      exact ⟨some c, _, hend, hstop w.heap.size c _ rfl (hIx _ _ _ ⟨_, hl⟩ hi) ((World.putObj_heap_other (r := w.heap.size + 1) (by omega)).trans hd)⟩

theorem HasP.unique {W : World} {v : Value} {a b : List Int} (h : HasP W v a) (k : HasP W v b) : a = b := by
  obtain ⟨-, x, c, rfl, -, -, h3⟩ := h
  obtain ⟨-, y, d, e, -, -, k3⟩ := k
  simp only [Value.slice.injEq] at e
  obtain ⟨rfl, e2, -⟩ := e
  refine Op.ext_cf e2 (fun i => ?_)
  by_cases hi : i < a.length
  · obtain ⟨g, o, e3, h4⟩ := h3 i hi
    obtain ⟨g', o', e4, k4⟩ := k3 i (by omega)
    rw [e3] at e4
    cases e4
    rw [h4] at k4
    simpa using k4
  · rw [Op.cf_out (by omega), Op.cf_out (by omega)]
theorem own_two (W : World) (base : Nat) (hb : base ≤ W.heap.size) (g : Nat) (hg : g = W.heap.size) : Own1 (W.alloc (.cells #[.int .u32 0, .int .u32 1] 22)) base (.slice (some ⟨g, 0, none⟩) 2 2) [0, 1] := by
  subst hg
  exact ⟨(U32.one (x := 0) (by omega)).app (U32.one (x := 1) (by omega)), rfl, .inr ⟨W.heap.size, 2, #[.int .u32 0, .int .u32 1], rfl, hb, World.alloc_heap_new W _, Nat.le_refl _, by unfold maxLen; omega, rfl, rfl⟩⟩
theorem mo_two {p : Int} (hp : 2 ≤ p) : Oq.Mo p [0, 1] := Oq.Mo.cons (by omega) (Oq.Mo.one hp)
theorem two_le {p : Int} (hp : 2 ≤ p) {T : List Int} (hT : Oq.Mo p T) (h2 : 2 ≤ T.length) : Oq.rk p [0, 1] ≤ Oq.rk p T := by
  have e : Oq.rk p [0, 1] = p := by simp [Oq.rk]
  rw [e]
  rcases T with _ | ⟨c, _ | ⟨d, l⟩⟩
  · simp at h2
  · simp at h2
  · exact Oq.rk_ge hp hT
/-- How far a candidate is from T. -/
noncomputable def far (p : Int) (T : List Int) (v : Value) (W : World) : Nat := (Oq.rk p T - Oq.rk p (Classical.epsilon fun a => HasP W v a)).toNat
theorem far_eq {p : Int} {T a : List Int} {v : Value} {W : World} (h : HasP W v a) : far p T v W = (Oq.rk p T - Oq.rk p a).toNat := by
  have e := HasP.unique (Classical.epsilon_spec (p := fun a => HasP W v a) ⟨a, h⟩) h
  unfold far; rw [e]

/-- A candidate: the slice, and what it holds. -/
structure Cd where
  v : Value
  l : List Int
/-- What the body may rely on. -/
def CdA (p B : Nat) (T : List Int) (x : Cd) (W : World) : Prop := HasP W x.v x.l ∧ Oq.Mo p x.l ∧ 2 ≤ x.l.length ∧ x.l.length ≤ T.length ∧ ∃ g n c, x.v = .slice (some ⟨g, 0, none⟩) n c ∧ B ≤ g

set_option maxRecDepth 100000 in
set_option maxHeartbeats 2000000 in
theorem candidates1_in (p B B2 l : Nat) (T : List Int) (hp : 2 ≤ p ∧ p ≤ 2147483647) (hT : Oq.Mo p T) (hT2 : 2 ≤ T.length) (hT3 : T.length ≤ 900) (J Jx : World → Prop) (G : Cd → Prop) (hG : ∀ x, G x → x.l ≠ T)
    (W : World) (hW : W.heap.size = B2) (hJ : ∀ X Y, Below B2 X Y → J X → J Y) (hc : ∀ X, J X → X.cell? ⟨B, 0, none⟩ = some (.int .u32 p))
    (hY : ∀ (x : Cd) X, J X → CdA p B2 T x X → YieldAt Fence.wide (9 - 1 - 1) Try.prog l #[x.v] X fun e Y => (e = .returned (.bool true) ∧ J Y ∧ KeepsUp B2 X Y ∧ G x) ∨ (e = .returned (.bool false) ∧ Jx Y)) (h0 : J W) :
    CallsIn Fence.wide (9 - 1) Try.prog 87 #[.func (.yield l) #[] #[], .pointer (some ⟨B, 0, none⟩)] W fun e Y => (∃ v, e = .returned v) ∧ Jx Y := by
  obtain ⟨p2, p3⟩ := hp
  have HY := Lib.hid hY
  have HJ := Lib.hid hJ
  have HC := Lib.hid hc
  have HT := Lib.hid hT
  have HG := Lib.hid hG
  clear hY hJ hc hT hG
  refine callsIn_of_wp Try.func87 rfl trivial ?_ rfl
  simp only [Try.ntmps87, List.size_toArray, List.length_cons, List.length_nil, Nat.reduceAdd, Nat.reduceSub, Array.replicate_succ, Array.replicate_zero, List.push_toArray, List.append_toArray, List.nil_append, List.cons_append]
  gi_wp2
  gi_loopw [3] (fun t wr => ∃ a : List Int, Own1 wr B2 t a ∧ Oq.Mo p a ∧ 2 ≤ a.length ∧ Oq.rk p a ≤ Oq.rk p T ∧ J wr ∧ B2 ≤ wr.heap.size) (fun t wr => far p T t wr)
  case atStart =>
    exact ⟨[0, 1], own_two W B2 (Nat.le_of_eq hW.symm) _ hW.symm, mo_two (by omega), by simp, two_le (by omega) HT.out hT2, HJ.out _ _ ((Below.refl _ _).alloc (Nat.le_of_eq hW.symm) _) h0, by simp; omega⟩
  case round =>
    obtain ⟨a, how, hmo, hal, hrk, hJr, hsz⟩ := hrel
    have hlen := Oq.rk_length (by omega) hmo HT.out hrk
    obtain ⟨g, cap, rfl, hbg, hcap, hcap2, hrow⟩ := how.row (by omega)
    have HOW := Lib.hid how
    have HMO := Lib.hid hmo
    have HRK := Lib.hid hrk
    have hc0 := HC.out _ hJr
    obtain ⟨fn, tmps, assign, body, hy, hR⟩ := HY.out ⟨.slice (some ⟨g, 0, none⟩) a.length cap, a⟩ wr hJr ⟨how.hasP, hmo, hal, hlen, g, _, cap, rfl, hbg⟩
    dsimp only at hy
    have HFAR := Lib.hid (far_eq (p := p) (T := T) how.hasP)
    obtain ⟨na, hna⟩ : ∃ na, na = a.length := ⟨_, rfl⟩
    rw [← hna] at hy HFAR hcap HOW ⊢
    have HNA := Lib.hid hna
    clear how hmo hrk hrow hna hJr
    gi_wp2
    refine hR.mono ?_
    rintro e W4 (⟨rfl, hJ4, hk4, hG4⟩ | ⟨rfl, hJx4⟩)
    · have c4 := HC.out _ hJ4
      have hne := HG.out _ hG4
      dsimp only at hne
      have HO4 := Lib.hid (show Own1 W4 B2 (.slice (some ⟨g, 0, none⟩) na cap) a from by
        obtain ⟨o1, o2, o3⟩ := HOW.out
        rcases o3 with ⟨e, _⟩ | ⟨g', cap', cur, e, k1, k2, k3⟩
        · cases e
        · cases e
          exact ⟨o1, o2, .inr ⟨g, cap, cur, by rw [HNA.out], k1, (hk4.2 g k1 (Array.getElem?_eq_some_iff.1 k2).1).trans k2, k3⟩⟩)
      have HK := Lib.hid hk4
      have HJ4 := Lib.hid hJ4
      have HNE := Lib.hid hne
      have hs4 : B2 ≤ W4.heap.size := Nat.le_trans hsz hk4.1
      clear hR hy hk4 hJ4 hne hG4
      gi_wp2_with fail
      refine ⟨trivial, ?_⟩
      gi_at_call 88
      refine (callsIn_wide.2 (next_any p B2 a _ _ ⟨by omega, p3⟩ HMO.out (by omega) HO4.out hs4)).mono ?_
      rintro e W5 ⟨v5, rfl, ho5, hb5⟩
      have H5 := Lib.hid (And.intro ho5 hb5)
      clear ho5 hb5
      gi_wp2
      go_roundw
      case rel =>
        refine ⟨Oq.nx p a, H5.out.1, Oq.nx_mo (by omega) HMO.out, ?_, Oq.nx_le (by omega) HMO.out HT.out ?_, HJ.out _ _ H5.out.2 HJ4.out, Nat.le_trans hs4 H5.out.2.size⟩
        · have := (Oq.nx_len p a HMO.out.2.1).1; omega
        · have h1 := HRK.out
          rcases Int.lt_or_eq_of_le h1 with h2 | h2
          · exact h2
          · exact absurd (Oq.rk_inj (by omega) HMO.out HT.out h2) HNE.out
      case measure =>
        show far p T v5 W5 < far p T (.slice (some ⟨g, 0, none⟩) na cap) wr
        rw [HFAR.out, far_eq H5.out.1.hasP]
        have h1 := Oq.nx_gt (p := p) (by omega) HMO.out
        have h2 := HRK.out
        have h3 : Oq.rk p a ≠ Oq.rk p T := fun e => HNE.out (Oq.rk_inj (by omega) HMO.out HT.out e)
        omega
    · gi_wp2
      go_end0
      exact ⟨⟨_, rfl⟩, hJx4⟩
end Go.Proofs.Ytplfeeaocjgliaa
/- A region that draws its order inside the round of a range over a function: by the plain walk of its orders. -/
namespace Go.Proofs.Ytplfeeaocjgliaa
open Go.RowKit
set_option linter.unusedVariables false

/-- Q, but nothing at 'no room'. -/
def NoOut (Q : Exit → Act → World → Prop) : Exit → Act → World → Prop
  | .outgrown, _, _ => False
  | e, a, w => Q e a w
theorem noOut_none {Q : Exit → Act → World → Prop} (h : LetsOut (NoOut Q)) : False := h.elim fun _ h => h.elim fun _ h => h

theorem about_wide {P : Program} {o : Oper} {w : World} {ρ : Operand → Value} {l : Nat} : ∀ f, o.about P w ρ = some f → (Fence.wide.inRound l).fn f := fun _ _ => trivial

theorem wpOp_round {P : Program} {ops : Array Oper} {Q : Exit → Act → World → Prop} {l n : Nat} (hd : ∀ (i : Nat) (o : Oper) (c : Call), ops[i]? = some o → o.op ≠ Op.defer c) {i : Nat} {K K' : Act → World → Prop} (hK : ∀ a w, K a w → K' a w) {a : Act} {w : World}
    (h : wpOp P ops (NoOut Q) i K a w) : wpOpIn (Fence.wide.inRound l) n P ops Q i K' a w := by
  unfold wpOp at h
  unfold wpOpIn
  split
  · rename_i ho
    simp only [ho] at h
    exact hK _ _ h
  · rename_i o ho
    simp only [ho] at h
    split
    · rename_i hw
      simp only [hw, if_true] at h
      rcases h with h | h
      · unfold Oper.wp at h
        unfold Oper.wpIn
        refine ⟨about_wide, ?_⟩
        rw [Oper.semAt_eq _ _ _ (fun c => hd i o c ho)]
        generalize (execOp a.eval o).run P w = r at *
        cases r with
        | ok x w' =>
          cases x <;> simp only [Oper.upon, Oper.uponIn] at h ⊢
          case value u => exact hK _ _ h
          case skip => exact hK _ _ h
          case defer d => exact hK _ _ h
          case enter f args =>
            refine ⟨fun e => (by cases e), CallsIn.inRound l (callsIn_wide.2 (Calls.mono h fun e w'' he => ?_))⟩
            cases e with
            | returned u => exact hK _ _ he
            | panicked c => exact he
            | outgrown => exact (noOut_none he).elim
          case row row args =>
            refine ⟨fun e => (by cases e), fun c cs _ => ?_⟩
            obtain ⟨v, w'', r, s⟩ := h c cs
            exact ⟨v, w'', hK _ _ r, stepsIn_wide.2 s⟩
        | halt x w' =>
          cases x <;> simp only [Oper.upon, Oper.uponIn] at h ⊢
          case panic u => exact h
      · exact (noOut_none h.2).elim
    · rename_i hw
      simp only [hw] at h
      exact ⟨about_wide, hK _ _ h⟩

theorem wpAny_round {P : Program} {md : Region.Mode} {ops : Array Oper} {Q : Exit → Act → World → Prop} {l n : Nat} (hd : ∀ (i : Nat) (o : Oper) (c : Call), ops[i]? = some o → o.op ≠ Op.defer c) :
    ∀ (fuel : Nat) (listed : Array Bool) (a : Act) (w : World), wpAny P md ops (NoOut Q) fuel listed a w → wpAnyIn (Fence.wide.inRound l) n P md ops Q fuel listed a w
  | 0, _, _, _, h => h
  | fuel + 1, _, _, _, h => ⟨h.1, fun i hi => wpOp_round hd (fun a w => wpAny_round hd fuel _ a w) (h.2 i hi)⟩

/-- The beginning: S is shown of the world behind the draw, once, and handed on. -/
theorem region_round {P : Program} {ops : Array Oper} {Q : Exit → Act → World → Prop} {l n id : Nat} {a : Act} {w : World} (S : World → Prop) (hm : P.follows .mixedOrders = true) (hd : ∀ (i : Nat) (o : Oper) (c : Call), ops[i]? = some o → o.op ≠ Op.defer c) (hS : S w.drew)
    (h : S w.drew → wpAnyH P .any ops (NoOut Q) S ops.size (Array.replicate ops.size false) a w.drew) : (Code.region id ops true).wpIn (Fence.wide.inRound l) n P Q a w :=
  wpIn_region_any hm (wpAny_round hd _ _ _ _ (wpAny_of_held _ _ _ _ (h hS)))
/-- No operation defers. -/
def noDefer (ops : Array Oper) : Bool := ops.toList.all fun o => match o.op with
  | .defer _ => false
  | _ => true
theorem noDefer_spec {ops : Array Oper} (h : noDefer ops = true) (i : Nat) (o : Oper) (c : Call) (hi : ops[i]? = some o) : o.op ≠ Op.defer c := fun e => by
  have h1 := List.all_eq_true.1 h o (by
    have h2 := Array.getElem?_eq_some_iff.1 hi
    obtain ⟨h3, h4⟩ := h2
    rw [← h4]; exact Array.getElem_mem_toList h3)
  simp only [e] at h1
  cases h1
end Go.Proofs.Ytplfeeaocjgliaa
/- One round of the search for parts: the region that draws its order. Written by tools/mkfl.py. -/
namespace Go.Proofs.Ytplfeeaocjgliaa
open Go.RowKit Go.Shelf
set_option linter.unusedVariables false
attribute [local go_sem] Oper.semAt_some

theorem noOut_normal3 {Q : Exit → Act → World → Prop} {a : Act} {w : World} (h : Q .normal a w) : NoOut Q .normal a w := h
/-- The power of a minus 1. -/
def LessP (p : Nat) (f a : List Int) (d : Nat) (l : List Int) : Prop := Op.Nf p l ∧ l.length ≤ 40 ∧ Oq.cl p f l = Oq.pw (Oq.cl p f a) (p ^ d / 2) + -1
theorem sub_less {p n d : Nat} {f a r : List Int} (D : Oq.Dz p n f) (hp : p < 65536) (h : ChR p f a d r) (lf : f.length ≤ 33) : subL p r [1] = Op.nf p (Op.add r (Op.sc (-1) [1])) ∧ checkE p [r, [1]] = 0 ∧ LessP p f a d (Op.nf p (Op.add r (Op.sc (-1) [1]))) := by
  have h2 := D.h2
  have hone : Op.Nf p [1] := (Oq.Mo.one (p := p) (by omega)).nf
  have hc := pcheck_ok D.h2 hp h.1 hone (by have := h.2.1; omega) (by simp)
  refine ⟨by unfold subL; rw [if_pos hc], hc, Op.nf_nf (by omega) _, ?_, ?_⟩
  · have h3 := Op.nf_len p (Op.add r (Op.sc (-1) [1]))
    rw [Op.add_len, Op.sc_len] at h3
    have := h.2.1
    simp at h3
    omega
  · rw [Oq.cl_cg (Op.nf_cg p _), ← Oq.cl_add, h.2.2, ← Oq.cl_neg]; rfl

/-- Behind the region. -/
def R3 (p d b g na ca nf cf : Nat) (f a : List Int) (xf : Option Addr) (fv : Value) (W : World) : Exit → Act → World → Prop
  | .normal, A, Y => ∃ (x : Option Addr) (n c : Nat) (L : List Int) (u10 u14 u15 u16 u17 u18 u19 u20 u21 u22 u23 u24 : Value), A = { tmps := #[.slice xf nf cf, .int .u32 p, .int .i64 d, .pointer (some ⟨b, 0, none⟩), .pointer (some ⟨b + 1, 0, none⟩), .pointer (some ⟨b + 2, 0, none⟩), .pointer (some ⟨b + 3, 0, none⟩), .pointer (some ⟨b + 4, 0, none⟩), .slice (some ⟨g, 0, none⟩) na ca, .slice x n c, u10, .int .u32 p, fv, .slice (some ⟨g, 0, none⟩) na ca, u14, u15, u16, u17, u18, u19, u20, u21, u22, u23, u24, undef, undef, undef, undef, undef, undef, undef, undef, undef, undef, undef, undef, undef, undef, undef, undef, undef, undef, undef, undef, undef, undef, undef, undef, undef, undef, undef], defers := [] } ∧ HasP Y (.slice x n c) L ∧ LessP p f a d L ∧ Gr W Y
  | _, _, _ => False

set_option maxRecDepth 100000 in
set_option maxHeartbeats 4000000 in
theorem region3_in (l p n d b g na ca nf cf : Nat) (f a : List Int) (xf : Option Addr) (fv : Value) (W : World) (D : Oq.Dz p n f) (hp : p < 65536) (hd : 1 ≤ d ∧ d ≤ 32) (ha : Op.Nf p a) (la : a.length ≤ f.length) (lf : f.length ≤ 33)
    (hu : HasP W (.slice (some ⟨g, 0, none⟩) na ca) a) (hv : HasP W (.slice xf nf cf) f)
    (c0 : W.cell? ⟨b, 0, none⟩ = some (.slice xf nf cf)) (c1 : W.cell? ⟨b + 1, 0, none⟩ = some (.int .u32 p)) (c2 : W.cell? ⟨b + 2, 0, none⟩ = some (.int .i64 d)) :
    (Code.region 3 #[{ dst := some 15, op := Op.load 22 (Operand.tmp 4), type := 22, pos := "split.go:32", after := #[], guard := none },
      { dst := some 16, op := Op.move (Operand.tmp 8), type := 31, pos := "split.go:32", after := #[], guard := none },
      { dst := some 17, op := Op.load 31 (Operand.tmp 3), type := 31, pos := "split.go:32", after := #[], guard := none },
      { dst := some 18, op := Op.load 22 (Operand.tmp 4), type := 22, pos := "split.go:32", after := #[], guard := none },
      { dst := some 19, op := Op.load 3 (Operand.tmp 5), type := 3, pos := "split.go:32", after := #[], guard := none },
      { dst := some 20, op := Op.call { callee := Callee.value (Operand.func 67), args := #[Operand.tmp 16, Operand.tmp 17, Operand.tmp 18, Operand.tmp 19], argTypes := #[31, 31, 22, 3] }, type := 31, pos := "split.go:32", after := #[{ on := 1, ground := Ground.data }, { on := 2, ground := Ground.data }, { on := 3, ground := Ground.data }, { on := 4, ground := Ground.data }], guard := none },
      { dst := some 21, op := Op.buildSlice 31 1 #[(0, Operand.const (Value.int IntKind.u32 1))], type := 31, pos := "split.go:32", after := #[], guard := none },
      { dst := some 22, op := Op.call { callee := Callee.value (Operand.func 66), args := #[Operand.tmp 15, Operand.tmp 20, Operand.tmp 21], argTypes := #[22, 31, 31] }, type := 33, pos := "split.go:32", after := #[{ on := 0, ground := Ground.data }, { on := 5, ground := Ground.data }, { on := 6, ground := Ground.data }, { on := 5, ground := Ground.chain }], guard := none },
      { dst := some 14, op := Op.move (Operand.tmp 22), type := 33, pos := "split.go:32", after := #[{ on := 7, ground := Ground.data }], guard := none },
      { dst := some 23, op := Op.extract (Operand.tmp 14) 0, type := 31, pos := "split.go:32", after := #[{ on := 8, ground := Ground.data }], guard := none },
      { dst := some 24, op := Op.extract (Operand.tmp 14) 1, type := 23, pos := "split.go:32", after := #[{ on := 8, ground := Ground.data }, { on := 11, ground := Ground.gcOnly Departure.lateStores }], guard := none },
      { dst := some 9, op := Op.assign (Operand.tmp 23), type := 31, pos := "split.go:32", after := #[{ on := 9, ground := Ground.data }, { on := 7, ground := Ground.chain }, { on := 0, ground := Ground.phase }, { on := 1, ground := Ground.phase }, { on := 2, ground := Ground.phase }, { on := 3, ground := Ground.phase }, { on := 4, ground := Ground.phase }, { on := 5, ground := Ground.phase }, { on := 6, ground := Ground.phase }, { on := 7, ground := Ground.phase }, { on := 8, ground := Ground.phase }, { on := 9, ground := Ground.phase }, { on := 10, ground := Ground.textOnly Departure.lateStores }], guard := none },
      { dst := some 10, op := Op.assign (Operand.tmp 24), type := 23, pos := "split.go:32", after := #[{ on := 10, ground := Ground.data }, { on := 11, ground := Ground.chain }, { on := 0, ground := Ground.phase }, { on := 1, ground := Ground.phase }, { on := 2, ground := Ground.phase }, { on := 3, ground := Ground.phase }, { on := 4, ground := Ground.phase }, { on := 5, ground := Ground.phase }, { on := 6, ground := Ground.phase }, { on := 7, ground := Ground.phase }, { on := 8, ground := Ground.phase }, { on := 9, ground := Ground.phase }, { on := 10, ground := Ground.phase }, { on := 11, ground := Ground.phase }], guard := none }] true).wpIn (Fence.wide.inRound l) (9 - 1 - 1) Try.prog (R3 p d b g na ca nf cf f a xf fv W) { tmps := #[.slice xf nf cf, .int .u32 p, .int .i64 d, .pointer (some ⟨b, 0, none⟩), .pointer (some ⟨b + 1, 0, none⟩), .pointer (some ⟨b + 2, 0, none⟩), .pointer (some ⟨b + 3, 0, none⟩), .pointer (some ⟨b + 4, 0, none⟩), .slice (some ⟨g, 0, none⟩) na ca, undef, undef, .int .u32 p, fv, .slice (some ⟨g, 0, none⟩) na ca, undef, undef, undef, undef, undef, undef, undef, undef, undef, undef, undef, undef, undef, undef, undef, undef, undef, undef, undef, undef, undef, undef, undef, undef, undef, undef, undef, undef, undef, undef, undef, undef, undef, undef, undef, undef, undef, undef], defers := [] } W := by
  refine region_round (fun wz => wz.cell? ⟨b, 0, none⟩ = some (.slice xf nf cf) ∧ wz.cell? ⟨b + 1, 0, none⟩ = some (.int .u32 p) ∧ wz.cell? ⟨b + 2, 0, none⟩ = some (.int .i64 d) ∧ True) (by kernel_rfl) (noDefer_spec (by kernel_rfl)) ⟨c0, c1, c2, trivial⟩ (fun hHeld => ?_)
  have HUV := Lib.hid (And.intro (show HasP W.drew (.slice (some ⟨g, 0, none⟩) na ca) a from hu) (show HasP W.drew (.slice xf nf cf) f from hv))
  refine wpAnyH_take (i := 0) (oi := { dst := some 15, op := Op.load 22 (Operand.tmp 4), type := 22, pos := "split.go:32", after := #[], guard := none }) (v := ?_) rfl (by kernel_rfl) (by kernel_rfl) (by kernel_rfl) (fun _ _ _ h => h) (Or.inl ⟨by rfl, ?_⟩) (by assumption) ?_
  rotate_left
  · intro w hSw; (try dsimp only at hSw); obtain ⟨hS0, hS1, hS2, hS3⟩ := hSw; go_simp; try with_reducible rfl
  try simp only [Act.put, List.setIfInBounds_toArray, List.set_cons_zero, List.set_cons_succ]
  refine wpAnyH_take (i := 1) (oi := { dst := some 16, op := Op.move (Operand.tmp 8), type := 31, pos := "split.go:32", after := #[], guard := none }) (v := ?_) rfl (by kernel_rfl) (by kernel_rfl) (by kernel_rfl) (fun _ _ _ h => h) (Or.inl ⟨by rfl, ?_⟩) (by assumption) ?_
  rotate_left
  · intro w hSw; (try dsimp only at hSw); obtain ⟨hS0, hS1, hS2, hS3⟩ := hSw; go_simp; try with_reducible rfl
  try simp only [Act.put, List.setIfInBounds_toArray, List.set_cons_zero, List.set_cons_succ]
  refine wpAnyH_take (i := 2) (oi := { dst := some 17, op := Op.load 31 (Operand.tmp 3), type := 31, pos := "split.go:32", after := #[], guard := none }) (v := ?_) rfl (by kernel_rfl) (by kernel_rfl) (by kernel_rfl) (fun _ _ _ h => h) (Or.inl ⟨by rfl, ?_⟩) (by assumption) ?_
  rotate_left
  · intro w hSw; (try dsimp only at hSw); obtain ⟨hS0, hS1, hS2, hS3⟩ := hSw; go_simp; try with_reducible rfl
  try simp only [Act.put, List.setIfInBounds_toArray, List.set_cons_zero, List.set_cons_succ]
  refine wpAnyH_take (i := 3) (oi := { dst := some 18, op := Op.load 22 (Operand.tmp 4), type := 22, pos := "split.go:32", after := #[], guard := none }) (v := ?_) rfl (by kernel_rfl) (by kernel_rfl) (by kernel_rfl) (fun _ _ _ h => h) (Or.inl ⟨by rfl, ?_⟩) (by assumption) ?_
  rotate_left
  · intro w hSw; (try dsimp only at hSw); obtain ⟨hS0, hS1, hS2, hS3⟩ := hSw; go_simp; try with_reducible rfl
  try simp only [Act.put, List.setIfInBounds_toArray, List.set_cons_zero, List.set_cons_succ]
  refine wpAnyH_take (i := 4) (oi := { dst := some 19, op := Op.load 3 (Operand.tmp 5), type := 3, pos := "split.go:32", after := #[], guard := none }) (v := ?_) rfl (by kernel_rfl) (by kernel_rfl) (by kernel_rfl) (fun _ _ _ h => h) (Or.inl ⟨by rfl, ?_⟩) (by assumption) ?_
  rotate_left
  · intro w hSw; (try dsimp only at hSw); obtain ⟨hS0, hS1, hS2, hS3⟩ := hSw; go_simp; try with_reducible rfl
  try simp only [Act.put, List.setIfInBounds_toArray, List.set_cons_zero, List.set_cons_succ]
  refine wpAnyH_ready (rs := [5, 6]) (by kernel_rfl) (by simp) ?_
  refine AllReadyH.cons (o := { dst := some 20, op := Op.call { callee := Callee.value (Operand.func 67), args := #[Operand.tmp 16, Operand.tmp 17, Operand.tmp 18, Operand.tmp 19], argTypes := #[31, 31, 22, 3] }, type := 31, pos := "split.go:32", after := #[{ on := 1, ground := Ground.data }, { on := 2, ground := Ground.data }, { on := 3, ground := Ground.data }, { on := 4, ground := Ground.data }], guard := none }) rfl (fun K hK => ?_) (AllReadyH.cons (o := { dst := some 21, op := Op.buildSlice 31 1 #[(0, Operand.const (Value.int IntKind.u32 1))], type := 31, pos := "split.go:32", after := #[], guard := none }) rfl (fun K hK => ?_) AllReadyH.nil)
  · go_simp
    refine (character_any p n d f a _ _ _ D hp hd ha la lf HUV.out.1 HUV.out.2).mono ?_
    rintro e w5 ⟨x5, n5, c5, r, rfl, hr5, hch5, -, hg5⟩
    try dsimp only
    refine hK.out _ _ (⟨hg5.keeps hHeld.1, hg5.keeps hHeld.2.1, hg5.keeps hHeld.2.2.1, trivial⟩) (fun hHeld => ?_)
    clear hK K
    try simp only [Act.put, List.setIfInBounds_toArray, List.set_cons_zero, List.set_cons_succ]
    refine wpAnyH_ready (rs := [6]) (by kernel_rfl) (by simp) ?_
    refine AllReadyH.cons (o := { dst := some 21, op := Op.buildSlice 31 1 #[(0, Operand.const (Value.int IntKind.u32 1))], type := 31, pos := "split.go:32", after := #[], guard := none }) rfl (fun K hK => ?_) AllReadyH.nil
    go_simp
    refine hK.out _ _ (⟨(Gr.new _ _).keeps hHeld.1, (Gr.new _ _).keeps hHeld.2.1, (Gr.new _ _).keeps hHeld.2.2.1, trivial⟩) (fun hHeld => ?_)
    clear hK K
    try simp only [Act.put, List.setIfInBounds_toArray, List.set_cons_zero, List.set_cons_succ]
    have HX := Lib.hid (And.intro (hr5.later (Gr.new w5 (.cells #[.int .u32 1] 22))) (And.intro hch5 (And.intro (one_hasP w5 1 (by omega)) ((show Gr W W.drew from Below.drew (Gr.refl W)).trans (hg5.trans (Gr.new w5 (.cells #[.int .u32 1] 22)))))))
    clear hr5 hch5 hg5
    refine wpAnyH_ready (rs := [7]) (by kernel_rfl) (by simp) ?_
    refine AllReadyH.cons (o := { dst := some 22, op := Op.call { callee := Callee.value (Operand.func 66), args := #[Operand.tmp 15, Operand.tmp 20, Operand.tmp 21], argTypes := #[22, 31, 31] }, type := 33, pos := "split.go:32", after := #[{ on := 0, ground := Ground.data }, { on := 5, ground := Ground.data }, { on := 6, ground := Ground.data }, { on := 5, ground := Ground.chain }], guard := none }) rfl (fun K hK => ?_) AllReadyH.nil
    go_simp
    refine (pSub_any p r [1] _ _ _ HX.out.1 HX.out.2.2.1 (by have := HX.out.2.1.2.1; omega) (by simp)).mono ?_
    rintro e w9 ⟨x9, n9, c9, rfl, hs9, -, hg9⟩
    try dsimp only
    refine hK.out _ _ (⟨hg9.keeps hHeld.1, hg9.keeps hHeld.2.1, hg9.keeps hHeld.2.2.1, trivial⟩) (fun hHeld => ?_)
    clear hK K
    try simp only [Act.put, List.setIfInBounds_toArray, List.set_cons_zero, List.set_cons_succ]
    refine wpAnyH_take (i := 8) (oi := { dst := some 14, op := Op.move (Operand.tmp 22), type := 33, pos := "split.go:32", after := #[{ on := 7, ground := Ground.data }], guard := none }) (v := ?_) rfl (by kernel_rfl) (by kernel_rfl) (by kernel_rfl) (fun _ _ _ h => h) (Or.inl ⟨by rfl, ?_⟩) (by assumption) ?_
    rotate_left
    · intro w hSw; (try dsimp only at hSw); obtain ⟨hS0, hS1, hS2, hS3⟩ := hSw; go_simp; try with_reducible rfl
    try simp only [Act.put, List.setIfInBounds_toArray, List.set_cons_zero, List.set_cons_succ]
    refine wpAnyH_take (i := 9) (oi := { dst := some 23, op := Op.extract (Operand.tmp 14) 0, type := 31, pos := "split.go:32", after := #[{ on := 8, ground := Ground.data }], guard := none }) (v := ?_) rfl (by kernel_rfl) (by kernel_rfl) (by kernel_rfl) (fun _ _ _ h => h) (Or.inl ⟨by rfl, ?_⟩) (by assumption) ?_
    rotate_left
    · intro w hSw; (try dsimp only at hSw); obtain ⟨hS0, hS1, hS2, hS3⟩ := hSw; go_simp; try with_reducible rfl
    try simp only [Act.put, List.setIfInBounds_toArray, List.set_cons_zero, List.set_cons_succ]
    refine wpAnyH_take (i := 10) (oi := { dst := some 24, op := Op.extract (Operand.tmp 14) 1, type := 23, pos := "split.go:32", after := #[{ on := 8, ground := Ground.data }, { on := 11, ground := Ground.gcOnly Departure.lateStores }], guard := none }) (v := ?_) rfl (by kernel_rfl) (by kernel_rfl) (by kernel_rfl) (fun _ _ _ h => h) (Or.inl ⟨by rfl, ?_⟩) (by assumption) ?_
    rotate_left
    · intro w hSw; (try dsimp only at hSw); obtain ⟨hS0, hS1, hS2, hS3⟩ := hSw; go_simp; try with_reducible rfl
    try simp only [Act.put, List.setIfInBounds_toArray, List.set_cons_zero, List.set_cons_succ]
    refine wpAnyH_take (i := 11) (oi := { dst := some 9, op := Op.assign (Operand.tmp 23), type := 31, pos := "split.go:32", after := #[{ on := 9, ground := Ground.data }, { on := 7, ground := Ground.chain }, { on := 0, ground := Ground.phase }, { on := 1, ground := Ground.phase }, { on := 2, ground := Ground.phase }, { on := 3, ground := Ground.phase }, { on := 4, ground := Ground.phase }, { on := 5, ground := Ground.phase }, { on := 6, ground := Ground.phase }, { on := 7, ground := Ground.phase }, { on := 8, ground := Ground.phase }, { on := 9, ground := Ground.phase }, { on := 10, ground := Ground.textOnly Departure.lateStores }], guard := none }) (v := ?_) rfl (by kernel_rfl) (by kernel_rfl) (by kernel_rfl) (fun _ _ _ h => h) (Or.inl ⟨by rfl, ?_⟩) (by assumption) ?_
    rotate_left
    · intro w hSw; (try dsimp only at hSw); obtain ⟨hS0, hS1, hS2, hS3⟩ := hSw; go_simp; try with_reducible rfl
    try simp only [Act.put, List.setIfInBounds_toArray, List.set_cons_zero, List.set_cons_succ]
    refine wpAnyH_take (i := 12) (oi := { dst := some 10, op := Op.assign (Operand.tmp 24), type := 23, pos := "split.go:32", after := #[{ on := 10, ground := Ground.data }, { on := 11, ground := Ground.chain }, { on := 0, ground := Ground.phase }, { on := 1, ground := Ground.phase }, { on := 2, ground := Ground.phase }, { on := 3, ground := Ground.phase }, { on := 4, ground := Ground.phase }, { on := 5, ground := Ground.phase }, { on := 6, ground := Ground.phase }, { on := 7, ground := Ground.phase }, { on := 8, ground := Ground.phase }, { on := 9, ground := Ground.phase }, { on := 10, ground := Ground.phase }, { on := 11, ground := Ground.phase }], guard := none }) (v := ?_) rfl (by kernel_rfl) (by kernel_rfl) (by kernel_rfl) (fun _ _ _ h => h) (Or.inl ⟨by rfl, ?_⟩) (by assumption) ?_
    rotate_left
    · intro w hSw; (try dsimp only at hSw); obtain ⟨hS0, hS1, hS2, hS3⟩ := hSw; go_simp; try with_reducible rfl
    try simp only [Act.put, List.setIfInBounds_toArray, List.set_cons_zero, List.set_cons_succ]
    refine wpAnyH_done (by kernel_rfl) ?_ _
    refine noOut_normal3 ?_
    have hL := sub_less D hp HX.out.2.1 (by omega)
    rw [hL.1] at hs9
    exact ⟨x9, n9, c9, _, _, _, _, _, _, _, _, _, _, _, _, _, rfl, hs9, hL.2.2, HX.out.2.2.2.trans hg9⟩
  · go_simp
    refine hK.out _ _ (⟨(Gr.new _ _).keeps hHeld.1, (Gr.new _ _).keeps hHeld.2.1, (Gr.new _ _).keeps hHeld.2.2.1, trivial⟩) (fun hHeld => ?_)
    clear hK K
    try simp only [Act.put, List.setIfInBounds_toArray, List.set_cons_zero, List.set_cons_succ]
    refine wpAnyH_ready (rs := [5]) (by kernel_rfl) (by simp) ?_
    refine AllReadyH.cons (o := { dst := some 20, op := Op.call { callee := Callee.value (Operand.func 67), args := #[Operand.tmp 16, Operand.tmp 17, Operand.tmp 18, Operand.tmp 19], argTypes := #[31, 31, 22, 3] }, type := 31, pos := "split.go:32", after := #[{ on := 1, ground := Ground.data }, { on := 2, ground := Ground.data }, { on := 3, ground := Ground.data }, { on := 4, ground := Ground.data }], guard := none }) rfl (fun K hK => ?_) AllReadyH.nil
    go_simp
    refine (character_any p n d f a _ _ _ D hp hd ha la lf (HUV.out.1.later (Gr.new _ _)) (HUV.out.2.later (Gr.new _ _))).mono ?_
    rintro e w5 ⟨x5, n5, c5, r, rfl, hr5, hch5, -, hg5⟩
    try dsimp only
    refine hK.out _ _ (⟨hg5.keeps hHeld.1, hg5.keeps hHeld.2.1, hg5.keeps hHeld.2.2.1, trivial⟩) (fun hHeld => ?_)
    clear hK K
    try simp only [Act.put, List.setIfInBounds_toArray, List.set_cons_zero, List.set_cons_succ]
    have HX := Lib.hid (And.intro hr5 (And.intro hch5 (And.intro ((one_hasP W.drew 1 (by omega)).later hg5) ((show Gr W W.drew from Below.drew (Gr.refl W)).trans ((Gr.new W.drew (.cells #[.int .u32 1] 22)).trans hg5)))))
    clear hr5 hch5 hg5
    refine wpAnyH_ready (rs := [7]) (by kernel_rfl) (by simp) ?_
    refine AllReadyH.cons (o := { dst := some 22, op := Op.call { callee := Callee.value (Operand.func 66), args := #[Operand.tmp 15, Operand.tmp 20, Operand.tmp 21], argTypes := #[22, 31, 31] }, type := 33, pos := "split.go:32", after := #[{ on := 0, ground := Ground.data }, { on := 5, ground := Ground.data }, { on := 6, ground := Ground.data }, { on := 5, ground := Ground.chain }], guard := none }) rfl (fun K hK => ?_) AllReadyH.nil
    go_simp
    refine (pSub_any p r [1] _ _ _ HX.out.1 HX.out.2.2.1 (by have := HX.out.2.1.2.1; omega) (by simp)).mono ?_
    rintro e w9 ⟨x9, n9, c9, rfl, hs9, -, hg9⟩
    try dsimp only
    refine hK.out _ _ (⟨hg9.keeps hHeld.1, hg9.keeps hHeld.2.1, hg9.keeps hHeld.2.2.1, trivial⟩) (fun hHeld => ?_)
    clear hK K
    try simp only [Act.put, List.setIfInBounds_toArray, List.set_cons_zero, List.set_cons_succ]
    refine wpAnyH_take (i := 8) (oi := { dst := some 14, op := Op.move (Operand.tmp 22), type := 33, pos := "split.go:32", after := #[{ on := 7, ground := Ground.data }], guard := none }) (v := ?_) rfl (by kernel_rfl) (by kernel_rfl) (by kernel_rfl) (fun _ _ _ h => h) (Or.inl ⟨by rfl, ?_⟩) (by assumption) ?_
    rotate_left
    · intro w hSw; (try dsimp only at hSw); obtain ⟨hS0, hS1, hS2, hS3⟩ := hSw; go_simp; try with_reducible rfl
    try simp only [Act.put, List.setIfInBounds_toArray, List.set_cons_zero, List.set_cons_succ]
    refine wpAnyH_take (i := 9) (oi := { dst := some 23, op := Op.extract (Operand.tmp 14) 0, type := 31, pos := "split.go:32", after := #[{ on := 8, ground := Ground.data }], guard := none }) (v := ?_) rfl (by kernel_rfl) (by kernel_rfl) (by kernel_rfl) (fun _ _ _ h => h) (Or.inl ⟨by rfl, ?_⟩) (by assumption) ?_
    rotate_left
    · intro w hSw; (try dsimp only at hSw); obtain ⟨hS0, hS1, hS2, hS3⟩ := hSw; go_simp; try with_reducible rfl
    try simp only [Act.put, List.setIfInBounds_toArray, List.set_cons_zero, List.set_cons_succ]
    refine wpAnyH_take (i := 10) (oi := { dst := some 24, op := Op.extract (Operand.tmp 14) 1, type := 23, pos := "split.go:32", after := #[{ on := 8, ground := Ground.data }, { on := 11, ground := Ground.gcOnly Departure.lateStores }], guard := none }) (v := ?_) rfl (by kernel_rfl) (by kernel_rfl) (by kernel_rfl) (fun _ _ _ h => h) (Or.inl ⟨by rfl, ?_⟩) (by assumption) ?_
    rotate_left
    · intro w hSw; (try dsimp only at hSw); obtain ⟨hS0, hS1, hS2, hS3⟩ := hSw; go_simp; try with_reducible rfl
    try simp only [Act.put, List.setIfInBounds_toArray, List.set_cons_zero, List.set_cons_succ]
    refine wpAnyH_take (i := 11) (oi := { dst := some 9, op := Op.assign (Operand.tmp 23), type := 31, pos := "split.go:32", after := #[{ on := 9, ground := Ground.data }, { on := 7, ground := Ground.chain }, { on := 0, ground := Ground.phase }, { on := 1, ground := Ground.phase }, { on := 2, ground := Ground.phase }, { on := 3, ground := Ground.phase }, { on := 4, ground := Ground.phase }, { on := 5, ground := Ground.phase }, { on := 6, ground := Ground.phase }, { on := 7, ground := Ground.phase }, { on := 8, ground := Ground.phase }, { on := 9, ground := Ground.phase }, { on := 10, ground := Ground.textOnly Departure.lateStores }], guard := none }) (v := ?_) rfl (by kernel_rfl) (by kernel_rfl) (by kernel_rfl) (fun _ _ _ h => h) (Or.inl ⟨by rfl, ?_⟩) (by assumption) ?_
    rotate_left
    · intro w hSw; (try dsimp only at hSw); obtain ⟨hS0, hS1, hS2, hS3⟩ := hSw; go_simp; try with_reducible rfl
    try simp only [Act.put, List.setIfInBounds_toArray, List.set_cons_zero, List.set_cons_succ]
    refine wpAnyH_take (i := 12) (oi := { dst := some 10, op := Op.assign (Operand.tmp 24), type := 23, pos := "split.go:32", after := #[{ on := 10, ground := Ground.data }, { on := 11, ground := Ground.chain }, { on := 0, ground := Ground.phase }, { on := 1, ground := Ground.phase }, { on := 2, ground := Ground.phase }, { on := 3, ground := Ground.phase }, { on := 4, ground := Ground.phase }, { on := 5, ground := Ground.phase }, { on := 6, ground := Ground.phase }, { on := 7, ground := Ground.phase }, { on := 8, ground := Ground.phase }, { on := 9, ground := Ground.phase }, { on := 10, ground := Ground.phase }, { on := 11, ground := Ground.phase }], guard := none }) (v := ?_) rfl (by kernel_rfl) (by kernel_rfl) (by kernel_rfl) (fun _ _ _ h => h) (Or.inl ⟨by rfl, ?_⟩) (by assumption) ?_
    rotate_left
    · intro w hSw; (try dsimp only at hSw); obtain ⟨hS0, hS1, hS2, hS3⟩ := hSw; go_simp; try with_reducible rfl
    try simp only [Act.put, List.setIfInBounds_toArray, List.set_cons_zero, List.set_cons_succ]
    refine wpAnyH_done (by kernel_rfl) ?_ _
    refine noOut_normal3 ?_
    have hL := sub_less D hp HX.out.2.1 (by omega)
    rw [hL.1] at hs9
    exact ⟨x9, n9, c9, _, _, _, _, _, _, _, _, _, _, _, _, _, rfl, hs9, hL.2.2, HX.out.2.2.2.trans hg9⟩
end Go.Proofs.Ytplfeeaocjgliaa
/- What package factor's 'parts' does. -/
namespace Go.Proofs.Ytplfeeaocjgliaa
open Go.RowKit Go.Shelf
set_option linter.unusedVariables false
attribute [local go_sem] Oper.semAt_some

theorem boxed_gr {W W' : World} {B : Nat} {t : TypeId} {v : Value} (h : Boxed W B t v) (hg : Gr W W') : Boxed W' B t v := (hg.block B h.lt).trans h
theorem boxed_below {W W' : World} {B C : Nat} {t : TypeId} {v : Value} (h : Boxed W B t v) (hb : Below C W W') (hB : B < C) : Boxed W' B t v := (hb.block B hB).trans h
theorem HasP.put {W : World} {v : Value} {l : List Int} (h : HasP W v l) {r : Nat} {x : Obj} (hr : W.heap[r]? = some x) (hx : x.isCells = false) (o : Obj) : HasP (W.putObj r o) v l := by
  obtain ⟨hd, a, cap, rfl, h1, h2, h3⟩ := h
  refine ⟨hd, a, cap, rfl, h1, h2, fun i hi => ?_⟩
  obtain ⟨g, q, e, hc⟩ := h3 i hi
  refine ⟨g, q, e, ?_⟩
  have hne : g ≠ r := fun e2 => by
    subst e2
    cases x <;> simp_all [World.cell?, Obj.isCells]
  exact (show (W.putObj r o).cell? ⟨g, q + i, none⟩ = W.cell? ⟨g, q + i, none⟩ from World.cell?_of_block (w := W) (World.putObj_heap_other hne)).trans hc
theorem HasP.other {W : World} {x : Option Addr} {n c : Nat} {l : List Int} (h : HasP W (.slice x n c) l) {B : Nat} (hB : ∀ q, x = some q → q.block ≠ B) (v : Value) : HasP (W.setCell ⟨B, 0, none⟩ v) (.slice x n c) l := by
  obtain ⟨hd, a, cap, e, h1, h2, h3⟩ := h
  simp only [Value.slice.injEq] at e
  obtain ⟨rfl, rfl, rfl⟩ := e
  refine ⟨hd, _, _, rfl, h1, h2, fun i hi => ?_⟩
  obtain ⟨g, q, e3, hc⟩ := h3 i hi
  exact ⟨g, q, e3, (World.cell?_setCell_far W ⟨B, 0, none⟩ ⟨g, q + i, none⟩ v (fun e => hB _ e3 e.symm)).trans hc⟩
theorem gcd_ok {p n : Nat} {f L G : List Int} {E : Int} (D : Oq.Dz p n f) (hp : p < 65536) (hL : Op.Nf p L) (lL : L.length ≤ 256) (lf : f.length ≤ 256) (h : GcdR p f L G E) : Op.Gd p f L G := by
  have hc := pcheck_ok D.h2 hp D.nor hL lf lL
  have hpr : Ob.Pr (p : Int).toNat := by rw [Int.toNat_natCast]; exact D.hp
  rcases h with ⟨h1, _⟩ | ⟨_, h1, h2, _⟩ | ⟨_, _, _, h4, _⟩
  · exact absurd hpr h1
  · exact absurd (h1.trans hc) h2
  · exact h4
theorem div_ok {p n : Nat} {f G q r : List Int} {E : Int} (D : Oq.Dz p n f) (hp : p < 65536) (hG : Op.Nf p G) (hm : Op.ld G = 1) (hne : G ≠ []) (lG : G.length ≤ 256) (lf : f.length ≤ 256) (h : DivR p f G q r E) : Op.Dv p f G q r := by
  have hc := pcheck_ok D.h2 hp D.nor hG lf lG
  have hd : divU p G := ⟨hne, by rw [hm]; exact ⟨1, 0, by omega⟩⟩
  rcases h with ⟨h1, h2, _⟩ | ⟨_, h1, _⟩ | ⟨_, _, _, h4⟩
  · exact absurd (h1.trans hc) h2
  · exact absurd hd h1
  · exact h4
/-- What parts leaves. -/
def PartsR (p n : Nat) (f G H : List Int) : Prop := Oq.Dz p n G ∧ Oq.Dz p n H ∧ Op.Cg p f (Op.mul H G) ∧ H.length + G.length = f.length + 1
/-- Its own cells. -/
def PI (w : World) (p d : Nat) (vf : Value) (W : World) : Prop :=
  Boxed W w.heap.size 31 vf ∧ Boxed W (w.heap.size + 1) 22 (.int .u32 p) ∧ Boxed W (w.heap.size + 2) 3 (.int .i64 d) ∧ (∃ v, Boxed W (w.heap.size + 3) 31 v) ∧ (∃ v, Boxed W (w.heap.size + 4) 31 v) ∧ Boxed W (w.heap.size + 5) 22 (.int .u32 p) ∧ Below w.heap.size w W
theorem PI.below {w : World} {p d : Nat} {vf : Value} {C : Nat} {W W' : World} (h : PI w p d vf W) (hb : Below C W W') (hC : w.heap.size + 6 ≤ C) : PI w p d vf W' := by
  obtain ⟨h0, h1, h2, ⟨v3, h3⟩, ⟨v4, h4⟩, h5, h6⟩ := h
  exact ⟨boxed_below h0 hb (by omega), boxed_below h1 hb (by omega), boxed_below h2 hb (by omega), ⟨v3, boxed_below h3 hb (by omega)⟩, ⟨v4, boxed_below h4 hb (by omega)⟩, boxed_below h5 hb (by omega), h6.trans (hb.mono (by omega))⟩
def PX (w : World) (p n : Nat) (f : List Int) (c : Code) (W : World) : Prop :=
  c = .exit 0 ∧ ∃ xg ng cg xh nh ch G H, Boxed W (w.heap.size + 3) 31 (.slice xg ng cg) ∧ Boxed W (w.heap.size + 4) 31 (.slice xh nh ch) ∧ HasP W (.slice xg ng cg) G ∧ HasP W (.slice xh nh ch) H ∧ PartsR p n f G H ∧ Below w.heap.size w W ∧ (∀ q, xg = some q → w.heap.size + 6 ≤ q.block) ∧ ∀ q, xh = some q → w.heap.size + 6 ≤ q.block
theorem PX.put {w : World} {p n : Nat} {f : List Int} {c : Code} {W : World} {r : Nat} {x : Loop} (h : PX w p n f c W) (hr : W.heap[r]? = some (.loop x)) (hw : w.heap.size + 5 ≤ r) (o : Obj) : PX w p n f c (W.putObj r o) := by
  obtain ⟨rfl, xg, ng, cg, xh, nh, ch, G, H, h1, h2, h3, h4, h5, h6, h7⟩ := h
  have hlt := (Array.getElem?_eq_some_iff.1 hr).1
  have hb := below_put W (B := w.heap.size + 5) hw o (by omega)
  exact ⟨rfl, xg, ng, cg, xh, nh, ch, G, H, boxed_below h1 hb (by omega), boxed_below h2 hb (by omega), h3.put hr rfl o, h4.put hr rfl o, h5, h6.trans (hb.mono (by omega)), h7⟩
theorem CdA.put {p B r : Nat} {T : List Int} {x : Cd} {W : World} (h : CdA p B T x W) (hr : r < B) (o : Obj) : CdA p B T x (W.putObj r o) := by
  obtain ⟨h1, h2, h3, h4, g, n, c, e, h5⟩ := h
  refine ⟨?_, h2, h3, h4, g, n, c, e, h5⟩
  rw [e] at h1 ⊢
  obtain ⟨hd, a, cap, e2, k1, k2, k3⟩ := h1
  simp only [Value.slice.injEq] at e2
  obtain ⟨rfl, rfl, rfl⟩ := e2
  refine ⟨hd, _, _, rfl, k1, k2, fun i hi => ?_⟩
  obtain ⟨g', q, e3, hc⟩ := k3 i hi
  cases e3
  exact ⟨g, 0, rfl, (show (W.putObj r o).cell? ⟨g, 0 + i, none⟩ = W.cell? ⟨g, 0 + i, none⟩ from World.cell?_of_block (w := W) (World.putObj_heap_other (show g ≠ r from by omega))).trans hc⟩

set_option maxRecDepth 100000 in
set_option maxHeartbeats 4000000 in
theorem parts_any (p n d : Nat) (f : List Int) (v : Value) (w : World) (D : Oq.Dz p n f) (P : Oq.PD n p d) (hlt : d < f.length - 1) (hp : p < 65536) (lf : f.length ≤ 33) (hv : HasP w v f) :
    Calls Try.prog 46 #[v, .int .u32 p, .int .i64 d] w (fun e w' => ∃ xg ng cg xh nh ch G H, e = .returned (.tuple #[.slice xg ng cg, .slice xh nh ch]) ∧ HasP w' (.slice xg ng cg) G ∧ HasP w' (.slice xh nh ch) H ∧ PartsR p n f G H ∧ Gr w w' ∧ (∀ q, xg = some q → w.heap.size ≤ q.block) ∧ ∀ q, xh = some q → w.heap.size ≤ q.block) := by
  obtain ⟨T, hTn, hT1, hT2, hT3, hTs⟩ := D.splitter P hlt
  obtain ⟨-, xf, cf', rfl, -, -, -⟩ := id hv
  obtain ⟨nf', hnf⟩ : ∃ nf', nf' = f.length := ⟨_, rfl⟩
  have hd1 := P.d1
  have hd2 := PD_le P (by have := D.n2; omega)
  have hn := D.n2
  have HTM := Lib.hid (Oq.Mo.of hTn hT1 (fun e => by rw [e] at hT2; simp at hT2))
  have HT2 := Lib.hid hT2
  have HT3 := Lib.hid hT3
  have HTS := Lib.hid hTs
  have HD := Lib.hid D
  have HP := Lib.hid hp
  have HLF := Lib.hid lf
  have HNF := Lib.hid hnf
  have HV := Lib.hid hv
  have HXF := Lib.hid (show ∀ q, xf = some q → q.block < w.heap.size from fun q hq => by
    obtain ⟨-, a', c', e, -, -, h3⟩ := hv
    simp only [Value.slice.injEq] at e
    obtain ⟨rfl, -, -⟩ := e
    obtain ⟨g, o, e2, hc⟩ := h3 0 (by have := D.len; omega)
    rw [hq] at e2
    cases e2
    exact World.block_lt_of_cell? w _ hc)
  rw [← hnf]
  have hnf33 : nf' ≤ 33 := by omega
  clear D P hlt hp lf hnf hv hTn hT1 hT2 hT3 hTs
  refine (callsIn_wide (n := 9)).1 ?_
  refine callsIn_of_wp_marks Try.func46 rfl trivial ?_ rfl
  simp only [Try.ntmps46, List.size_toArray, List.length_cons, List.length_nil, Nat.reduceAdd, Nat.reduceSub, Array.replicate_succ, Array.replicate_zero, List.push_toArray, List.append_toArray, List.nil_append, List.cons_append]
  refine wpIn_wide.2 ?_
  go_wp2_with (go_at_call 65; refine (candidates_any p _).mono ?_; rintro e wc ⟨rfl, rfl⟩)
  simp only [Nat.add_assoc, Nat.reduceAdd]
  obtain ⟨W0, hW0⟩ : ∃ W0, W0 = ((((((w.alloc (.cells #[.slice xf nf' cf'] 31)).alloc (.cells #[.int .u32 p] 22)).alloc (.cells #[.int .i64 d] 3)).alloc (.cells #[.slice none 0 0] 31)).alloc (.cells #[.slice none 0 0] 31)).alloc (.cells #[.int .u32 p] 22)) := ⟨_, rfl⟩
  have hs0 : W0.heap.size = w.heap.size + 6 := by rw [hW0]; simp
  have HI0 := Lib.hid (show PI w p d (.slice xf nf' cf') W0 from by
    have bx : ∀ (u : World) (t : TypeId) (z : Value) (k : Nat), u.heap.size = k → Boxed (u.alloc (.cells #[z] t)) k t z := fun u t z k e => by subst e; exact Boxed.new u t z
    rw [hW0]
    refine ⟨(((((bx _ _ _ _ rfl).alloc _).alloc _).alloc _).alloc _).alloc _, ((((bx _ _ _ _ (by simp)).alloc _).alloc _).alloc _).alloc _, (((bx _ _ _ _ (by simp)).alloc _).alloc _).alloc _, ⟨_, ((bx _ _ _ _ (by simp)).alloc _).alloc _⟩, ⟨_, (bx _ _ _ _ (by simp)).alloc _⟩, bx _ _ _ _ (by simp), ?_⟩
    exact (((((((Below.refl _ w).alloc (Nat.le_refl _) _).alloc (by simp) _).alloc (by simp; omega) _).alloc (by simp; omega) _).alloc (by simp; omega) _).alloc (by simp; omega) _))
  rw [← hW0]
  clear hW0
  refine (wpIn_wide (n := 9)).1 ?_
  refine range_arg (gf := 87) (lb := #[.pointer (some ⟨w.heap.size + 5, 0, none⟩)]) rfl (enters_of Try.func87 (by kernel_rfl) rfl) (fun x : Cd => #[x.v]) (fun _ => rfl) (CdA p (W0.heap.size + 2) T) (fun x W o h => h.put (by omega) o) (PI w p d (.slice xf nf' cf')) (PX w p n f)
    (fun X Y hb h => h.below hb (by omega)) (fun c X o ⟨r, hr⟩ h => h.put hr (by omega) o) HI0.out (fun x => x.l ≠ T) (fun x => { tmps := #[.slice xf nf' cf', .int .u32 p, .int .i64 d, .pointer (some ⟨w.heap.size, 0, none⟩), .pointer (some ⟨w.heap.size + 1, 0, none⟩), .pointer (some ⟨w.heap.size + 2, 0, none⟩), .pointer (some ⟨w.heap.size + 3, 0, none⟩), .pointer (some ⟨w.heap.size + 4, 0, none⟩), x.v, undef, undef, .int .u32 p, .func (.func 87) #[] #[.pointer (some ⟨w.heap.size + 5, 0, none⟩)], x.v, undef, undef, undef, undef, undef, undef, undef, undef, undef, undef, undef, undef, undef, undef, undef, undef, undef, undef, undef, undef, undef, undef, undef, undef, undef, undef, undef, undef, undef, undef, undef, undef, undef, undef, undef, undef, undef, undef], defers := [] }) ?assign ?body ?seq ?stop
  case assign =>
    intro l x W K hK
    gi_wp2
    exact hK
  case seq =>
    intro l J Jx W hW hJ hJI hY h0
    have hm1 : (2 : Int) < p := by have := HD.out.h2; omega
    have hm2 := HP.out
    exact candidates1_in p (w.heap.size + 5) (W0.heap.size + 2) l T ⟨by omega, by omega⟩ HTM.out HT2.out (by have := HT3.out; have := HNF.out; omega) J Jx (fun x => x.l ≠ T) (fun x h => h) W hW hJ (fun X hX => (hJI X hX).2.2.2.2.2.1.cell) (fun x X hx ha => hY x X hx ha) h0
  case body =>
    rintro l x W ⟨b0, b1, b2, ⟨v3, b3⟩, ⟨v4, b4⟩, b5, hb⟩ ⟨ha1, ha2, ha3, ha4, g, na, ca, hv, hg⟩ hsz
    obtain ⟨xv, a⟩ := x
    dsimp only at ha1 ha2 ha3 ha4 hv ⊢
    subst hv
    have HA := Lib.hid (And.intro ha1 (And.intro ha2 (And.intro ha3 ha4)))
    have HB := Lib.hid hb
    have H3 := Lib.hid b3
    have H4 := Lib.hid b4
    have H0 := Lib.hid b0
    have H1 := Lib.hid b1
    have H2 := Lib.hid b2
    have H5 := Lib.hid b5
    clear ha1 ha2 ha3 ha4 hb b3 b4 b0 b1 b2 b5
    gi_wp2
    refine wpIn_mono (region3_in l p n d w.heap.size g na ca nf' cf' f a xf _ W HD.out HP.out ⟨hd1, by omega⟩ HA.out.2.1.nf (by have := HA.out.2.2.2; have := HT3.out; omega) HLF.out HA.out.1 (by have := HV.out.later (show Gr w W from HB.out); rwa [← HNF.out] at this) H0.out.cell H1.out.cell H2.out.cell) ?_
    rintro e A Y hr
    cases e with
    | normal =>
      obtain ⟨x, m, c, L, u10, u14, u15, u16, u17, u18, u19, u20, u21, u22, u23, u24, rfl, hL, hLess, hg⟩ := hr
      have HL := Lib.hid (And.intro hL (And.intro hLess hg))
      have c0 := (boxed_gr H0.out hg).cell
      have c1 := (boxed_gr H1.out hg).cell
      clear hL hLess hg
      gi_wp2_with fail
      refine ⟨trivial, ?_⟩
      gi_at_call 68
      refine (CallsIn.inRound l (callsIn_wide.2 (pGcd_any p f L _ _ _ (by have := HP.out; omega) (by have := (HV.out.later (show Gr w W from HB.out)).later HL.out.2.2; rwa [← HNF.out] at this) HL.out.1 (by have := HLF.out; omega) (by have := HL.out.2.1.2.1; omega)))).mono ?_
      rintro e w7 ⟨xg, ng, cg, G, E, rfl, hG, hgcd, hfr, hg7⟩
      have hgd := gcd_ok HD.out HP.out HL.out.2.1.1 (by have := HL.out.2.1.2.1; omega) (by have := HLF.out; omega) hgcd
      have HG7 := Lib.hid (And.intro hG hgd)
      have HFR := Lib.hid (show ∀ q, xg = some q → W.heap.size ≤ q.block from fun q hq => Nat.le_trans HL.out.2.2.size (hfr q hq))
      have HNG := Lib.hid hG.len.1
      have g7 := HL.out.2.2.trans hg7
      have d0 := boxed_gr H0.out g7
      have d1 := boxed_gr H1.out g7
      have d3 := boxed_gr H3.out g7
      have d4 := boxed_gr H4.out g7
      have D3 := Lib.hid d3
      have c0 := d0.cell
      have c1 := d1.cell
      have c3 := d3.cell
      have c4 := d4.cell
      have f3 := d3.frozen
      have f4 := d4.frozen
      have HG := Lib.hid g7
      clear hG hgcd hg7 g7 d0 d1 d3 d4 hfr hgd
      have HK := Lib.hid (show KeepsUp W0.heap.size W (w7.setCell ⟨w.heap.size + 3, 0, none⟩ (.slice xg ng cg)) from (KeepsUp.of_gr HG.out).trans (KeepsUp.setCell w7 (by show w.heap.size + 3 < _; omega) _))
      have HBW := Lib.hid (show Below w.heap.size w (w7.setCell ⟨w.heap.size + 3, 0, none⟩ (.slice xg ng cg)) from (HB.out.trans (HG.out.mono (by omega))).setCell (p := ⟨w.heap.size + 3, 0, none⟩) (by show w.heap.size ≤ w.heap.size + 3; omega) _)
      have HPI := Lib.hid (show PI w p d (.slice xf nf' cf') (w7.setCell ⟨w.heap.size + 3, 0, none⟩ (.slice xg ng cg)) from
        ⟨(boxed_gr H0.out HG.out).other (by simp) _, (boxed_gr H1.out HG.out).other (by simp) _, (boxed_gr H2.out HG.out).other (by simp) _, ⟨_, (boxed_gr H3.out HG.out).set _⟩, ⟨_, (boxed_gr H4.out HG.out).other (by simp) _⟩, (boxed_gr H5.out HG.out).other (by simp) _, HBW.out⟩)
      by_cases h1 : 1 < ng
      · by_cases h2 : ng < nf'
        · have HGP := Lib.hid (Op.Gd.parts HD.out.p2 HD.out.ne HD.out.nor HL.out.2.1.1 HG7.out.2)
          gi_wp2_with fail
          have HFC : ∀ (u : World) (q : Addr), (u.setCell ⟨w.heap.size + 3, 0, none⟩ (.slice xg ng cg)).heap.size ≤ q.block → W.heap.size ≤ u.heap.size → W.heap.size ≤ q.block := fun u q h7 h8 => by
            have h9 : u.heap.size ≤ q.block := by simpa using h7
            omega
          have HFB : ∀ (u : World) (q : Addr), (u.setCell ⟨w.heap.size + 3, 0, none⟩ (.slice xg ng cg)).heap.size ≤ q.block → W.heap.size ≤ u.heap.size → q.block = w.heap.size + 4 → False := fun u q h7 h8 e => by
            have h9 : u.heap.size ≤ q.block := by simpa using h7
            omega
          refine ⟨trivial, ?_⟩
          gi_at_call 69
          refine (CallsIn.inRound l (callsIn_wide.2 (pDivMod_any p f G _ _ _ (by have := (HV.out.later (show Gr w W from HB.out)).later HG.out; rw [← HNF.out] at this; exact this.other (fun q hq e => by have := HXF.out q hq; omega) _) (HG7.out.1.other (fun q hq e => by have := HFR.out q hq; omega) _) (by have := HLF.out; omega) (by have := HNG.out; omega)))).mono ?_
          rintro e w9 ⟨xh, nh, ch, x2, n2, c2, H, r, E2, rfl, hH, -, hdiv, hfr2, -, hg9⟩
          have hdv := div_ok HD.out HP.out HGP.out.1 HGP.out.2.1 HGP.out.2.2.1 (by have := HNG.out; omega) (by have := HLF.out; omega) hdiv
          have hpt := HD.out.parts HL.out.2.1.1 HG7.out.2 (by have := HNG.out; omega) (by have := HNG.out; have := HNF.out; omega) hdv
          have e3 := boxed_gr (D3.out.set (.slice xg ng cg)) hg9
          have e4 := boxed_gr (HPI.out.2.2.2.2.1.choose_spec) hg9
          have c4 := e4.cell
          have f4 := e4.frozen
          have H9 := Lib.hid (And.intro hH (And.intro hpt (And.intro e3 (And.intro e4 (And.intro hfr2 hg9)))))
          clear hH hdiv hdv hpt e3 e4 hfr2 hg9
          gi_wp2
          obtain ⟨hH, hpt, e3, e4, hfr2, hg9⟩ := H9.out
          have hku := (HK.out.trans (KeepsUp.of_gr hg9)).trans (KeepsUp.setCell w9 (p := ⟨w.heap.size + 4, 0, none⟩) (by show w.heap.size + 4 < _; omega) (.slice xh nh ch))
          refine ⟨by first | exact hku | rwa [hs0] at hku, rfl, xg, ng, cg, xh, nh, ch, G, H, e3.other (by simp) _, e4.set _, ?_, hH.other (fun q hq e => HFB w7 q (hfr2 q hq) HG.out.size e) _, hpt, (HBW.out.trans (hg9.mono (by have := HG.out.size; simp; omega))).setCell (p := ⟨w.heap.size + 4, 0, none⟩) (by show w.heap.size ≤ w.heap.size + 4; omega) _, fun q hq => by have := HFR.out q hq; omega, fun q hq => by have := HFC w7 q (hfr2 q hq) HG.out.size; omega⟩
          exact ((HG7.out.1.other (fun q hq e => by have := HFR.out q hq; omega) _).later hg9).other (fun q hq e => by have := HFR.out q hq; omega) _
        · gi_wp2
          refine ⟨by have := HK.out; first | exact this | rwa [hs0] at this, HPI.out, fun e => ?_⟩
          subst e
          have := HD.out.gcd HL.out.2.1.1 HL.out.2.1.2.2 HG7.out.2 HTS.out
          have := HNG.out; have := HNF.out; omega
      · gi_wp2
        refine ⟨by have := HK.out; first | exact this | rwa [hs0] at this, HPI.out, fun e => ?_⟩
        subst e
        have := HD.out.gcd HL.out.2.1.1 HL.out.2.1.2.2 HG7.out.2 HTS.out
        have := HNG.out; omega
    | ret => exact hr.elim
    | exit id => exact hr.elim
    | goto t => exact hr.elim
    | panic ch => exact hr.elim
    | outgrown => exact hr.elim
  case stop =>
    rintro D c W rfl ⟨rfl, xg, ng, cg, xh, nh, ch, G, H, h1, h2, h3, h4, h5, h6, h7, h8⟩ hK
    have c3 := h1.cell
    have c4 := h2.cell
    have f3 := h1.frozen
    have f4 := h2.frozen
    have HH := Lib.hid (And.intro h1 (And.intro h2 (And.intro h3 (And.intro h4 (And.intro h5 (And.intro h6 (And.intro h7 h8)))))))
    have HKK := Lib.hid hK
    clear h1 h2 h3 h4 h5 h6 h7 h8 hK
    refine wpIn_wide.2 ?_
    go_wp2_with fail
    go_region
    go_wp2_with fail
    obtain ⟨WZ, hWZ⟩ : ∃ WZ, WZ = ((W.setCell ⟨w.heap.size + 3, 0, none⟩ (.slice xg ng cg)).setCell ⟨w.heap.size + 4, 0, none⟩ (.slice xh nh ch)).drew := ⟨_, rfl⟩
    have hKZ : WZ.heap[W0.heap.size]? = some (.deferred (some [])) := by
      rw [hWZ]
      exact ((KeepsOthers.setCell W ⟨w.heap.size + 3, 0, none⟩ (.slice xg ng cg)).trans (KeepsOthers.setCell _ ⟨w.heap.size + 4, 0, none⟩ (.slice xh nh ch))).same W0.heap.size _ HKK.out rfl
    obtain ⟨h1, h2, h3, h4, h5, h6, h7, h8⟩ := HH.out
    have z3 : Boxed WZ (w.heap.size + 3) 31 (.slice xg ng cg) := by rw [hWZ]; exact (h1.set _).other (by simp) _
    have z4 : Boxed WZ (w.heap.size + 4) 31 (.slice xh nh ch) := by rw [hWZ]; exact (h2.other (by simp) _).set _
    have hg3 : HasP WZ (.slice xg ng cg) G := by
      rw [hWZ]
      exact (((h3.other (B := w.heap.size + 3) (fun q hq e => by have := h7 q hq; omega) _).other (B := w.heap.size + 4) (fun q hq e => by have := h7 q hq; omega) _).later (Gr.refl _).drew)
    have hg4 : HasP WZ (.slice xh nh ch) H := by
      rw [hWZ]
      exact (((h4.other (B := w.heap.size + 3) (fun q hq e => by have := h8 q hq; omega) _).other (B := w.heap.size + 4) (fun q hq e => by have := h8 q hq; omega) _).later (Gr.refl _).drew)
    have hbz : Below w.heap.size w WZ := by
      rw [hWZ]
      exact ((h6.setCell (p := ⟨w.heap.size + 3, 0, none⟩) (by show w.heap.size ≤ w.heap.size + 3; omega) _).setCell (p := ⟨w.heap.size + 4, 0, none⟩) (by show w.heap.size ≤ w.heap.size + 4; omega) _).drew
    rw [← hWZ]
    clear hWZ
    refine ⟨by simp, .inl ⟨_, _, rfl, run_takeDeferred hKZ, ?_⟩⟩
    have hbp := below_put WZ (B := w.heap.size + 5) (l := W0.heap.size) (by omega) (.deferred none) (by have := (Array.getElem?_eq_some_iff.1 hKZ).1; omega)
    have e3 := (boxed_below z3 hbp (by omega)).cell
    have e4 := (boxed_below z4 hbp (by omega)).cell
    refine ⟨.tuple #[.slice xg ng cg, .slice xh nh ch], ?_, xg, ng, cg, xh, nh, ch, G, H, rfl, hg3.put hKZ rfl _, hg4.put hKZ rfl _, h5, hbz.trans (hbp.mono (by omega)), fun q hq => by have := h7 q hq; omega, fun q hq => by have := h8 q hq; omega⟩
    simp [results, Try.f46, go_sem, e3, e4]
end Go.Proofs.Ytplfeeaocjgliaa
/- The list of factors in memory; what package factor's 'split' does. -/
namespace Go.Proofs.Ytplfeeaocjgliaa
open Go.RowKit
set_option linter.unusedVariables false

theorem infoP : (Try.prog.info? 31).map (fun i => (i.zero, i.size, i.bytes)) = some (some (.slice none 0 0), 1, 24) := by kernel_rfl
theorem run_appL (w : World) (base : Nat) (v : Value) (vs : List Value) (hown : w.ownsRow base 31 1 v vs.length vs) (u : Value) (g : Nat) (hc : w.cell? ⟨g, 0, none⟩ = some u) (h1 : u.oneCell' = true) (hlen : vs.length ≤ 1000000) (hbase : base ≤ w.heap.size) :
    ∃ v' w', (Builtin.append_ #[28, 28] 28 #[v, .slice (some ⟨g, 0, none⟩) 1 1]).run Try.prog w = .ok v' w' ∧ w'.ownsRow base 31 1 v' (vs.length + 1) (vs ++ [u]) ∧ w.grownBy w' v.ownBlock ∧ (v'.ownBlock = v.ownBlock ∨ v'.ownBlock = some w.heap.size) := by
  obtain ⟨i0, hi, hz0, hz1, hz2⟩ := info_parts infoP
  have hnews : ∀ j x, [u][j]? = some x → w.cell? ((⟨g, 0, none⟩ : Addr).add j) = some x := by
    intro j x hx
    have hj : j < 1 := by
      have := (List.getElem?_eq_some_iff.1 hx).1
      simpa using this
    obtain rfl : j = 0 := by omega
    have e2 : (⟨g, 0, none⟩ : Addr).add 0 = ⟨g, 0 + 0, none⟩ := addr_add rfl _ rfl
    simp at hx
    subst hx
    rw [e2]; exact hc
  have hone : ∀ x ∈ [u], x.oneCell' = true := fun x hx => by rw [List.mem_singleton.1 hx]; exact h1
  obtain ⟨v', w', hr, h5, h6, -⟩ := run_append_own (P := Try.prog) w base 28 28 31 i0 (.slice none 0 0) 1 24 Try.underlying28 hi hz0 hz1 hz2 rfl (by decide) v vs.length vs hown ⟨g, 0, none⟩ 1 1 [u] rfl hnews hone (by unfold maxLen; omega) (by omega) hbase
  refine ⟨v', w', hr, h5, h6, ?_⟩
  rcases hown.2 with ⟨rfl, h0⟩ | ⟨r, cap, cur, rfl, hb, hg, k1, k2, k3, k4⟩
  · have hv : vs = [] := List.eq_nil_of_length_eq_zero h0
    subst hv
    have hr2 := run_append_nil (P := Try.prog) w 28 28 31 i0 (.slice none 0 0) Try.underlying28 hi hz0 ⟨g, 0, none⟩ 1 1 [u] (by rw [hz1]; rfl) hnews (by omega) (by omega) (by omega)
    rw [hr] at hr2
    cases hr2
    exact .inr rfl
  · by_cases hroom : vs.length + 1 ≤ cap
    · have hr2 := run_append_room (P := Try.prog) w 28 28 31 i0 Try.underlying28 hi r vs.length cap cur hg ⟨g, 0, none⟩ 1 1 [u] (by rw [hz1]; rfl) hnews hone hroom (by rw [hz1]; simp; omega)
      rw [hr] at hr2
      cases hr2
      exact .inl rfl
    · have hr2 := run_append_grow (P := Try.prog) w 28 28 31 i0 (.slice none 0 0) Try.underlying28 hi hz0 ⟨r, 0, none⟩ vs.length cap vs (by rw [hz1]; simp) (hown.cells (g := r) rfl) ⟨g, 0, none⟩ 1 1 [u] (by rw [hz1]; rfl) hnews (by omega) (by omega) (growslice_fits (by omega) (by rw [hz2]; omega))
      rw [hr] at hr2
      cases hr2
      exact .inr rfl
theorem wpList_appL {ops : Array Oper} {rest : List Oper} {o : Oper} {a : Act} {w : World} {Q : Exit → Act → World → Prop} (hgd : o.guard = none) (s x : Operand)
    (ho : o.op = .call { callee := .builtin .append, args := #[s, x], argTypes := #[28, 28] }) (hty : o.type = 28)
    (base : Nat) (v : Value) (vs : List Value) (hs : a.eval s = v) (hown : w.ownsRow base 31 1 v vs.length vs) (u : Value) (g : Nat) (hx : a.eval x = .slice (some ⟨g, 0, none⟩) 1 1) (hc : w.cell? ⟨g, 0, none⟩ = some u) (h1 : u.oneCell' = true) (hlen : vs.length ≤ 1000000) (hbase : base ≤ w.heap.size)
    (h : ∀ v' w', w'.ownsRow base 31 1 v' (vs.length + 1) (vs ++ [u]) → w.grownBy w' v.ownBlock → (v'.ownBlock = v.ownBlock ∨ v'.ownBlock = some w.heap.size) → wpList Try.prog ops Q rest (a.put o.dst v') w') : wpList Try.prog ops Q (o :: rest) a w :=
  wpList_plain hgd fun _ hK => by
    obtain ⟨v', w', hr, h2, h3, h4⟩ := run_appL w base v vs hown u g hc h1 hlen hbase
    unfold Oper.wp execOp
    simp only [ho, hty, resolve, invoke, builtin, Sem.run_bind, Sem.run_pure, Result.andThen_ok, List.map_toArray, List.map_cons, List.map_nil, hs, hx, hr]
    exact hK _ _ (h v' w' h2 h3 h4)

/-- The value of a slice apart from block bl and from the row of v. -/
def Ap (bl : Nat) (v u : Value) : Prop := u.oneCell' = true ∧ u.ownBlock ≠ some bl ∧ u.ownBlock ≠ v.ownBlock ∧ u.ownBlock ≠ none
/-- A list of slices. -/
def LS (base bl : Nat) (W : World) (v : Value) (vs : List Value) (ls : List (List Int)) : Prop :=
  W.ownsRow base 31 1 v vs.length vs ∧ vs.length = ls.length ∧ ∀ i (h1 : i < vs.length) (h2 : i < ls.length), HasP W vs[i] ls[i] ∧ Ap bl v vs[i] ∧ 0 < ls[i].length
/-- All but block bl and the row of v is as it was. -/
structure Al (bl : Nat) (v : Value) (W W' : World) : Prop where
  os : W'.os = W.os
  tape : W'.tape = W.tape
  output : W'.output = W.output
  size : W.heap.size ≤ W'.heap.size
  block : ∀ k, k < W.heap.size → k ≠ bl → some k ≠ v.ownBlock → W'.heap[k]? = W.heap[k]?
/-- The row is where it was, or new. -/
def Rn (W : World) (v v' : Value) : Prop := v'.ownBlock = v.ownBlock ∨ ∀ b, v'.ownBlock = some b → W.heap.size ≤ b
theorem Al.of_gr {bl : Nat} {v : Value} {W W' : World} (h : Gr W W') : Al bl v W W' := ⟨h.os, h.tape, h.output, h.size, fun k hk _ _ => h.block k hk⟩
theorem Al.trans {bl : Nat} {v v1 : Value} {X Y Z : World} (h : Al bl v X Y) (hr : Rn X v v1) (k : Al bl v1 Y Z) : Al bl v X Z :=
  ⟨k.os.trans h.os, k.tape.trans h.tape, k.output.trans h.output, Nat.le_trans h.size k.size, fun i h1 h2 h3 => (k.block i (Nat.lt_of_lt_of_le h1 h.size) h2 (fun e => by
    rcases hr with e2 | h4
    · exact h3 (e.trans e2)
    · have := h4 i e.symm; omega)).trans (h.block i h1 h2 h3)⟩
theorem Rn.trans {v v1 v2 : Value} {X Y : World} (h : Rn X v v1) (hs : X.heap.size ≤ Y.heap.size) (k : Rn Y v1 v2) : Rn X v v2 := by
  rcases k with e | h4
  · rcases h with e1 | h5
    · exact .inl (e.trans e1)
    · exact .inr fun b hb => h5 b (by rw [← e]; exact hb)
  · exact .inr fun b hb => Nat.le_trans hs (h4 b hb)
theorem HasP.al {bl : Nat} {v u : Value} {W W' : World} {l : List Int} (h : HasP W u l) (hk : Al bl v W W') (ha : Ap bl v u) : HasP W' u l := by
  obtain ⟨hd, a, cap, rfl, h1, h2, h3⟩ := h
  refine ⟨hd, a, cap, rfl, h1, h2, fun i hi => ?_⟩
  obtain ⟨g, o, e, hc⟩ := h3 i hi
  subst e
  refine ⟨g, o, rfl, ?_⟩
  have hlt : g < W.heap.size := World.block_lt_of_cell? W _ hc
  exact (show W'.cell? ⟨g, o + i, none⟩ = W.cell? ⟨g, o + i, none⟩ from World.cell?_of_block (w := W) (hk.block g hlt (fun e => ha.2.1 (by simp [Value.ownBlock, e])) (fun e => ha.2.2.1 (by simpa [Value.ownBlock] using e)))).trans hc
/-- A slice that lies in old memory stays apart from a row that is new. -/
theorem Ap.renew {bl : Nat} {v v' u : Value} {W : World} (h : Ap bl v u) (hr : Rn W v v') (hu : ∀ b, u.ownBlock = some b → b < W.heap.size) : Ap bl v' u := by
  refine ⟨h.1, h.2.1, fun e => ?_, h.2.2.2⟩
  rcases hr with e1 | h4
  · exact h.2.2.1 (e.trans e1)
  · cases hb : u.ownBlock with
    | none => exact h.2.2.2 hb
    | some b =>
      have h5 := hu b hb
      have h6 := h4 b (by rw [← e]; exact hb)
      omega
theorem HasP.old {W : World} {u : Value} {l : List Int} (h : HasP W u l) (hl : 0 < l.length) : ∀ b, u.ownBlock = some b → b < W.heap.size := fun b hb => by
  obtain ⟨b', h1, h2⟩ := h.block hl
  rw [h1] at hb; cases hb; exact h2
theorem LS.gr {base bl : Nat} {W W' : World} {v : Value} {vs : List Value} {ls : List (List Int)} (h : LS base bl W v vs ls) (hg : Gr W W') : LS base bl W' v vs ls := by
  refine ⟨h.1.kept (row := none) ⟨hg.os, hg.tape, hg.output, hg.size, fun k hk _ => hg.block k hk⟩ (by cases hv : v.ownBlock <;> simp), h.2.1, fun i h1 h2 => ⟨(h.2.2 i h1 h2).1.later hg, (h.2.2 i h1 h2).2⟩⟩
/-- What the function that adds factors finds in its boxes. -/
structure Bx (p d bd bl bp ba : Nat) (v : Value) (W : World) : Prop where
  bd' : Boxed W bd 3 (.int .i64 d)
  bl' : Boxed W bl 28 v
  bp' : Boxed W bp 22 (.int .u32 p)
  ba' : Boxed W ba 65 (.func (.func 45) #[] #[.pointer (some ⟨bd, 0, none⟩), .pointer (some ⟨bl, 0, none⟩), .pointer (some ⟨bp, 0, none⟩), .pointer (some ⟨ba, 0, none⟩)])
theorem Bx.gr {p d bd bl bp ba : Nat} {v : Value} {W W' : World} (h : Bx p d bd bl bp ba v W) (hg : Gr W W') : Bx p d bd bl bp ba v W' := ⟨boxed_gr h.bd' hg, boxed_gr h.bl' hg, boxed_gr h.bp' hg, boxed_gr h.ba' hg⟩

theorem LS.step {base bl : Nat} {W W' : World} {v v' : Value} {vs : List Value} {ls : List (List Int)} (h : LS base bl W v vs ls) (hk : Al bl v W W') (hr : Rn W v v') (i : Nat) (h1 : i < vs.length) (h2 : i < ls.length) : HasP W' vs[i] ls[i] ∧ Ap bl v' vs[i] ∧ 0 < ls[i].length := by
  obtain ⟨a1, a2, a3⟩ := h.2.2 i h1 h2
  exact ⟨a1.al hk a2, a2.renew hr (a1.old a3), a3⟩
theorem grown_set (W : World) (B : Nat) (v : Value) : W.grownBy (W.setCell ⟨B, 0, none⟩ v) (some B) := ⟨rfl, rfl, rfl, by simp, fun k _ hne => Below.heap_setCell _ _ _ _ (fun e => hne (by rw [e]))⟩
theorem Bx.grown {p d bd bl bp ba base : Nat} {v v' : Value} {W W' : World} {o : Obj} (h : Bx p d bd bl bp ba v W) (hlt : ∀ k, v'.ownBlock = some k → base ≤ k ∧ k < (W.alloc o).heap.size) (hb : bd < base ∧ bl < base ∧ bp < base ∧ ba < base) (hg : (W.alloc o).grownBy W' v'.ownBlock) : Bx p d bd bl bp ba v W' := by
  have key : ∀ {B : Nat} {t : TypeId} {u : Value}, B < base → Boxed W B t u → Boxed W' B t u := fun {B t u} hB hx =>
    (hg.block B (hx.alloc o).lt (fun e => by have := (hlt B e.symm).1; omega)).trans (hx.alloc o)
  exact ⟨key hb.1 h.bd', key hb.2.1 h.bl', key hb.2.2.1 h.bp', key hb.2.2.2 h.ba'⟩
theorem owns_form {W : World} {base : Nat} {e : TypeId} {size n : Nat} {v : Value} {xs : List Value} (h : W.ownsRow base e size v (n + 1) xs) : ∃ r c, v = .slice (some ⟨r, 0, none⟩) (n + 1) c := by
  rcases h.2 with ⟨_, h0⟩ | ⟨r, c, _, rfl, _⟩
  · omega
  · exact ⟨r, c, rfl⟩
/-- What it does. -/
def AddP (p n d bd bl bp ba base : Nat) (f : List Int) (v : Value) (vs : List Value) (ls : List (List Int)) (W : World) (e : Ending) (W' : World) : Prop :=
  e = .returned (.tuple #[]) ∧ ∃ v' vs' ls', Bx p d bd bl bp ba v' W' ∧ LS base bl W' v' (vs ++ vs') (ls ++ ls') ∧ Oq.Lv p d f ls' ∧ Al bl v W W' ∧ Rn W v v' ∧ base ≤ W'.heap.size

set_option maxRecDepth 100000 in
set_option maxHeartbeats 2000000 in
theorem fadd_any (p n d bd bl bp ba base : Nat) (hb : bd < base ∧ bl < base ∧ bp < base ∧ ba < base) (hne : bd ≠ bl ∧ bp ≠ bl ∧ ba ≠ bl) (P : Oq.PD n p d) (hp : p < 65536) :
    ∀ (N : Nat) (f : List Int) (u v : Value) (vs : List Value) (ls : List (List Int)) (W : World), f.length ≤ N → f.length ≤ 33 → Oq.Dz p n f → HasP W u f → Bx p d bd bl bp ba v W → LS base bl W v vs ls → Ap bl v u → base ≤ W.heap.size → vs.length + f.length ≤ 100000 →
      Calls Try.prog 45 #[u, .pointer (some ⟨bd, 0, none⟩), .pointer (some ⟨bl, 0, none⟩), .pointer (some ⟨bp, 0, none⟩), .pointer (some ⟨ba, 0, none⟩)] W (AddP p n d bd bl bp ba base f v vs ls W) := by
  intro N
  induction N with
  | zero =>
    intro f u v vs ls W h1 _ D
    have := D.len
    omega
  | succ N ih =>
    intro f u v vs ls W hN lf D hu hbx hls hap hbase hvl
    obtain ⟨-, xu, cu, rfl, -, -, -⟩ := id hu
    obtain ⟨nf', hnf⟩ : ∃ nf', nf' = f.length := ⟨_, rfl⟩
    have hdeg := D.deg P
    have hd1 := P.d1
    have HD := Lib.hid D
    have HB := Lib.hid hbx
    have HLS := Lib.hid hls
    have HP := Lib.hid hp
    have HNF := Lib.hid hnf
    have HIH := Lib.hid ih
    have hlen := D.len
    rw [← hnf] at hu hN lf hap hlen hdeg hvl ⊢
    have HAP := Lib.hid hap
    have HU := Lib.hid hu
    have cd := hbx.bd'.cell
    have cl' := hbx.bl'.cell
    have cp := hbx.bp'.cell
    have ca := hbx.ba'.cell
    have fl := hbx.bl'.frozen
    clear D hu hbx hls hap hp hnf ih
    by_cases hleaf : nf' = d + 1
    · subst hleaf
      go_enter Try.func45, Try.ntmps45
      have HOWN := Lib.hid (HLS.out.1.alloc (.cells #[.slice xu (d + 1) cu] 31))
      have HCN := Lib.hid (cell_new W (.slice xu (d + 1) cu) 31)
      have HBA := Lib.hid (show base ≤ (W.alloc (.cells #[.slice xu (d + 1) cu] 31)).heap.size from by simp; omega)
      have HVL := Lib.hid (show vs.length ≤ 1000000 from by omega)
      go_wp2_with (at_builtin; refine wpList_appL rfl (.tmp 13) (.tmp 15) rfl rfl base v vs rfl HOWN.out (.slice xu (d + 1) cu) W.heap.size rfl HCN.out rfl HVL.out HBA.out ?_; intro v' w2 hown hgrow hrow; obtain ⟨r', c', rfl⟩ := owns_form hown; have HG := Lib.hid (And.intro hown (And.intro hgrow hrow)); have HBX2 := Lib.hid (HB.out.grown HOWN.out.lt hb hgrow); have c2 := HBX2.out.bl'.cell; have f2 := HBX2.out.bl'.frozen; clear hown hgrow hrow)
      refine bodyPost_ret (results_none rfl _ _ _) rfl ?_
      obtain ⟨hown, hgrow, hrow⟩ := HG.out
      obtain ⟨v', hv'⟩ : ∃ v', v' = Value.slice (some ⟨r', 0, none⟩) (vs.length + 1) c' := ⟨_, rfl⟩
      rw [← hv'] at hown hrow ⊢
      have hrn : Rn W v v' := by
        rcases hrow with e | e
        · exact .inl e
        · exact .inr fun b hb => by rw [e] at hb; cases hb; simp
      have hal : Al bl v W (w2.setCell ⟨bl, 0, none⟩ v') := by
        have g1 := grown_set w2 bl v'
        have g0 := World.grownBy_alloc W (.cells #[.slice xu (d + 1) cu] 31) none
        refine ⟨(g1.os.trans hgrow.os).trans g0.os, (g1.tape.trans hgrow.tape).trans g0.tape, (g1.output.trans hgrow.output).trans g0.output, Nat.le_trans (Nat.le_trans g0.size hgrow.size) g1.size, fun k h1 h2 h3 => ?_⟩
        have h4 := g0.size
        exact ((g1.block k (by have := hgrow.size; omega) (by simpa using h2)).trans (hgrow.block k (by omega) h3)).trans (g0.block k h1 (by simp))
      have hbl : v'.ownBlock ≠ some bl := fun e => by
        rcases hown.2 with ⟨rfl, _⟩ | ⟨r, cap, cur, rfl, hbr, _⟩
        · simp [Value.ownBlock] at e
        · simp [Value.ownBlock] at e; omega
      have hs2 : base ≤ w2.heap.size := Nat.le_trans HBA.out hgrow.size
      refine ⟨rfl, v', [.slice xu (d + 1) cu], [f], ⟨HBX2.out.bd'.other hne.1 _, HBX2.out.bl'.set _, HBX2.out.bp'.other hne.2.1 _, HBX2.out.ba'.other hne.2.2 _⟩, ⟨?_, by simp [HLS.out.2.1], ?_⟩, Oq.Lv.one ⟨HD.out.nor, HD.out.mon, HNF.out.symm⟩, hal, hrn, by simpa using hs2⟩
      · rw [List.length_append]
        exact hown.kept (grown_set w2 bl v') (.inr hbl)
      · intro i h1 h2
        rw [List.getElem_append, List.getElem_append]
        by_cases hi : i < vs.length
        · rw [dif_pos hi, dif_pos (by rw [← HLS.out.2.1]; exact hi)]
          exact HLS.out.step hal hrn i hi _
        · rw [dif_neg hi, dif_neg (by rw [← HLS.out.2.1]; exact hi)]
          have h0 : i - vs.length = 0 := by simp at h1; omega
          have h0' : i - ls.length = 0 := by rw [← HLS.out.2.1]; exact h0
          simp only [h0, h0', List.getElem_cons_zero]
          have hl0 : 0 < f.length := by rw [← HNF.out]; omega
          exact ⟨HU.out.al hal HAP.out, HAP.out.renew hrn (HU.out.old hl0), hl0⟩
    · have hi : ¬ (nf' : Int) = (d : Int) + 1 := by omega
      go_enter Try.func45, Try.ntmps45
      go_wp2_with fail
      refine (parts_any p n d f _ _ HD.out P (by rw [← HNF.out]; omega) HP.out (by rw [← HNF.out]; exact lf) HU.out).mono ?_
      rintro e w1 ⟨xg, ng, cg, xh, nh, ch, G, H, rfl, hg, hh, ⟨D1, D2, hcg, hln⟩, hgr, hfg, hfh⟩
      have HG := Lib.hid (And.intro hg (And.intro hh (And.intro D1 (And.intro D2 (And.intro hcg (And.intro hln (And.intro hgr (And.intro hfg hfh))))))))
      have hbx1 := HB.out.gr hgr
      have ca1 := hbx1.ba'.cell
      have HB1 := Lib.hid hbx1
      have hsz1 : base ≤ w1.heap.size := Nat.le_trans hbase hgr.size
      clear hg hh D1 D2 hcg hln hgr hfg hfh hbx1
      go_wp2_with fail
      obtain ⟨hg, hh, D1, D2, hcg, hln, hgr, hfg, hfh⟩ := HG.out
      have hdg := D1.deg P
      have hdh := D2.deg P
      have hGl := D1.len
      have hHl := D2.len
      have hnf : nf' = f.length := HNF.out
      have apn : ∀ (x : Option Addr) (k c : Nat) (l : List Int), HasP w1 (.slice x k c) l → 0 < l.length → (∀ q, x = some q → W.heap.size ≤ q.block) → Ap bl v (.slice x k c) := fun x k c l hx hl hf => by
        obtain ⟨b, hb1, hb2⟩ := hx.block hl
        cases x with
        | none => simp [Value.ownBlock] at hb1
        | some q =>
          have h1 := hf q rfl
          refine ⟨rfl, fun e => ?_, fun e => ?_, by simp [Value.ownBlock]⟩
          · simp [Value.ownBlock] at e; omega
          · have := (HLS.out.1.lt q.block (by rw [← e]; rfl)).2
            omega
      have HAG := Lib.hid (apn _ _ _ _ hg (by omega) hfg)
      have HAH := Lib.hid (apn _ _ _ _ hh (by omega) hfh)
      refine (HIH.out G _ v vs ls w1 (by omega) (by omega) D1 hg HB1.out (HLS.out.gr hgr) HAG.out hsz1 (by omega)).mono ?_
      rintro e w2 ⟨rfl, v1, vs1, ls1, hbx2, hls2, hlv2, hal2, hrn2, hs2⟩
      have H2 := Lib.hid (And.intro hbx2 (And.intro hls2 (And.intro hlv2 (And.intro hal2 (And.intro hrn2 hs2)))))
      have ca2 := hbx2.ba'.cell
      have hcount := hlv2.count (by have := D1.h2; omega) D1.nor
      have hvs : vs1.length = ls1.length := by
        have := hls2.2.1
        rw [List.length_append, List.length_append, HLS.out.2.1] at this
        omega
      have hld : ls1.length ≤ ls1.length * d := Nat.le_mul_of_pos_right _ (by omega)
      clear hg hh hcg hgr hfg hfh hbx2 hls2 hlv2 hal2 hrn2 apn
      go_wp2_with fail
      refine (HIH.out H _ v1 (vs ++ vs1) (ls ++ ls1) w2 (by omega) (by omega) D2 (HG.out.2.1.al H2.out.2.2.2.1 HAH.out) H2.out.1 H2.out.2.1 (HAH.out.renew (W := w1) H2.out.2.2.2.2.1 (HG.out.2.1.old (by omega))) hs2 (by rw [List.length_append]; omega)).mono ?_
      rintro e w3 ⟨rfl, v2, vs2, ls2, hbx3, hls3, hlv3, hal3, hrn3, hs3⟩
      have H3 := Lib.hid (And.intro hbx3 (And.intro hls3 (And.intro hlv3 (And.intro hal3 (And.intro hrn3 hs3)))))
      clear hbx3 hls3 hlv3 hal3 hrn3
      go_wp2_with fail
      refine bodyPost_end (results_none rfl _ _ _) rfl ?_
      obtain ⟨hbx3, hls3, hlv3, hal3, hrn3, -⟩ := H3.out
      have hgr := HG.out.2.2.2.2.2.2.1
      refine ⟨rfl, v2, vs1 ++ vs2, ls1 ++ ls2, hbx3, by rw [← List.append_assoc, ← List.append_assoc]; exact hls3, H2.out.2.2.1.app hlv3 HG.out.2.2.2.2.1, ?_, ?_, hs3⟩
      · exact (Al.of_gr hgr).trans (.inl rfl) (H2.out.2.2.2.1.trans H2.out.2.2.2.2.1 hal3)
      · have r1 : Rn W v v1 := Rn.trans (Y := w1) (.inl rfl) hgr.size H2.out.2.2.2.2.1
        exact r1.trans (Nat.le_trans hgr.size H2.out.2.2.2.1.size) hrn3

theorem run_store_func {P : Program} {w : World} {a : Addr} {m : Mode} (f : Fn) (b c : Array Value) : (store a (.func f b c) m).run P w = stored P w a (.func f b c) m := run_store P w a _ m rfl
attribute [local go_sem] run_store_func
/-- The factors, and the list that holds them. -/
def SplitP (p n d : Nat) (f : List Int) (w : World) (e : Ending) (w' : World) : Prop :=
  ∃ v vs ls bl, e = .returned v ∧ LS (w.heap.size + 4) bl w' v vs ls ∧ Oq.Lv p d f ls ∧ Gr w w'
set_option maxRecDepth 100000 in
set_option maxHeartbeats 2000000 in
theorem split_any (p n d : Nat) (f : List Int) (u : Value) (w : World) (P : Oq.PD n p d) (hp : p < 65536) (D : Oq.Dz p n f) (lf : f.length ≤ 33) (hu : HasP w u f) :
    Calls Try.prog 26 #[u, .int .u32 p, .int .i64 d] w (SplitP p n d f w) := by
  obtain ⟨-, xu, cu, rfl, -, -, -⟩ := id hu
  obtain ⟨nf', hnf⟩ : ∃ nf', nf' = f.length := ⟨_, rfl⟩
  have hl0 : 0 < f.length := by have := D.len; omega
  have hold := hu.old hl0
  have hblk := hu.block hl0
  rw [← hnf] at hu hold hblk ⊢
  have HU := Lib.hid hu
  have HD := Lib.hid D
  have HP := Lib.hid hp
  have HNF := Lib.hid hnf
  have HLF := Lib.hid lf
  have HAP := Lib.hid (show Ap (w.heap.size + 2) (.slice none 0 0) (.slice xu nf' cu) from by
    obtain ⟨b, h1, h2⟩ := hblk
    refine ⟨rfl, fun e => ?_, fun e => ?_, fun e => ?_⟩
    · have := hold _ e; omega
    · rw [h1] at e; simp [Value.ownBlock] at e
    · rw [h1] at e; cases e)
  clear hu D hp hnf lf hl0 hold hblk
  go_enter Try.func26, Try.ntmps26
  go_wp2_with fail
  simp only [Nat.add_assoc, Nat.reduceAdd]
  obtain ⟨fv, hfv⟩ : ∃ fv : Value, fv = .func (.func 45) #[] #[.pointer (some ⟨w.heap.size + 1, 0, none⟩), .pointer (some ⟨w.heap.size + 2, 0, none⟩), .pointer (some ⟨w.heap.size, 0, none⟩), .pointer (some ⟨w.heap.size + 3, 0, none⟩)] := ⟨_, rfl⟩
  rw [← hfv]
  obtain ⟨W4, hW4⟩ : ∃ W4, W4 = ((((w.alloc (.cells #[.int .u32 p] 22)).alloc (.cells #[.int .i64 d] 3)).alloc (.cells #[.slice none 0 0] 28)).alloc (.cells #[fv] 65)) := ⟨_, rfl⟩
  have bx : ∀ (u : World) (t : TypeId) (z : Value) (k : Nat), u.heap.size = k → Boxed (u.alloc (.cells #[z] t)) k t z := fun u t z k e => by subst e; exact Boxed.new u t z
  have hbx : Bx p d (w.heap.size + 1) (w.heap.size + 2) w.heap.size (w.heap.size + 3) (.slice none 0 0) W4 := by
    refine ⟨?_, ?_, ?_, ?_⟩
    · rw [hW4]; exact ((bx _ _ _ _ (by simp)).alloc _).alloc _
    · rw [hW4]; exact (bx _ _ _ _ (by simp)).alloc _
    · rw [hW4]; exact (((bx _ _ _ _ rfl).alloc _).alloc _).alloc _
    · rw [hW4, ← hfv]; exact bx _ _ _ _ (by simp)
  have hg4 : Gr w W4 := by rw [hW4]; exact (((Gr.new w _).alloc _).alloc _).alloc _
  have hs4 : W4.heap.size = w.heap.size + 4 := by rw [hW4]; simp
  rw [← hW4]
  have HG4 := Lib.hid hg4
  refine (fadd_any p n d (w.heap.size + 1) (w.heap.size + 2) w.heap.size (w.heap.size + 3) (w.heap.size + 4) ⟨by omega, by omega, by omega, by omega⟩ ⟨by omega, by omega, by omega⟩ P HP.out f.length f _ (.slice none 0 0) [] [] W4 (Nat.le_refl _) HLF.out HD.out (HU.out.later hg4) hbx
    ⟨World.ownsRow_nil _ _ _ _, rfl, fun i h1 => by simp at h1⟩ HAP.out (by omega) (by have := HLF.out; simp; omega)).mono ?_
  rintro e w2 ⟨rfl, v1, vs1, ls1, hbx2, hls2, hlv2, hal2, hrn2, hs2⟩
  have H2 := Lib.hid (And.intro hls2 (And.intro hlv2 (And.intro hal2 hrn2)))
  have hs44 := hs4
  have c2 := hbx2.bl'.cell
  clear hbx2 hls2 hlv2 hal2 hrn2 hbx hW4 bx hfv hg4
  go_wp2_with fail
  go_ret
  obtain ⟨h1, h2, h3, h4⟩ := H2.out
  refine ⟨v1, vs1, ls1, w.heap.size + 2, rfl, by simpa using h1, h2, ?_⟩
  have g4 := HG4.out
  have hsz := g4.size
  exact ⟨h3.os.trans g4.os, h3.tape.trans g4.tape, h3.output.trans g4.output, Nat.le_trans hsz h3.size, fun k hk => (h3.block k (by omega) (by omega) (by simp [Value.ownBlock])).trans (g4.block k hk)⟩
end Go.Proofs.Ytplfeeaocjgliaa
