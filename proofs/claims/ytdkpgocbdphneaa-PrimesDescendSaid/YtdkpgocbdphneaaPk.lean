/- Chain of package primes, for a chain that there is. -/
import Derived.Test.YtdkpgocbdphneaaPj
namespace Go.Proofs.Ytdkpgocbdphneaa
open Go.RowKit Go.Shelf
set_option linter.unusedVariables false
attribute [local go_sem] Oper.semAt_some

/-- What Chain's variables hold: the number that is wanted, the list, and the two numbers of the iterator. -/
structure ChW (B : Nat) (C s : Nat) (v : Value) (acc : List Nat) (W : World) : Prop where
  count : Boxed W B 3 (.int .i64 (C : Nat))
  list : Boxed W (B + 1) 28 v
  lim : Boxed W (B + 2) 22 (.int .u32 2147483648)
  step : Boxed W (B + 3) 35 (.int .u64 (s : Nat))
  row : W.ownsRow (B + 4) 22 1 v acc.length (wcells acc)

theorem ChW.kept {B C s : Nat} {v : Value} {acc : List Nat} {X Y : World} {row : Option Nat} (h : ChW B C s v acc X) (hg : X.grownBy Y row) (hrow : ∀ l, row = some l → ∃ o, X.heap[l]? = some o ∧ o.isCells = false) : ChW B C s v acc Y := by
  refine ⟨boxed_kept h.count hg hrow, boxed_kept h.list hg hrow, boxed_kept h.lim hg hrow, boxed_kept h.step hg hrow, h.row.kept hg ?_⟩
  rcases h.row.2 with ⟨rfl, _⟩ | ⟨g, cap, cur, rfl, _, hgb, _⟩
  · exact .inl rfl
  · refine .inr fun e' => ?_
    obtain ⟨o, ho, hc⟩ := hrow g (by simpa [Value.ownBlock] using e'.symm)
    rw [hgb] at ho; cases ho; cases hc
theorem ChW.gr {B C s : Nat} {v : Value} {acc : List Nat} {X Y : World} (h : ChW B C s v acc X) (hg : Gr X Y) : ChW B C s v acc Y :=
  ⟨boxed_gr h.count hg, boxed_gr h.list hg, boxed_gr h.lim hg, boxed_gr h.step hg, own_gr h.row hg⟩

theorem own_low {w : World} {base base' : Nat} {e : TypeId} {size n : Nat} {v : Value} {xs : List Value} (h : w.ownsRow base' e size v n xs) (hb : base ≤ base') : w.ownsRow base e size v n xs := by
  refine ⟨h.1, ?_⟩
  rcases h.2 with h | ⟨g, cap, cur, e1, h1, h2⟩
  · exact .inl h
  · exact .inr ⟨g, cap, cur, e1, by omega, h2⟩
theorem own_high {w : World} {base k : Nat} {e : TypeId} {size n : Nat} {v : Value} {xs : List Value} (h : w.ownsRow base e size v n xs) (hk : k < base) : some k ≠ v.ownBlock := by
  intro e1
  rcases h.2 with ⟨rfl, _⟩ | ⟨g, cap, cur, rfl, h1, h2⟩
  · simp [Value.ownBlock] at e1
  · have : k = g := by simpa [Value.ownBlock] using e1
    omega

/-- How far the chain is when these numbers have come. -/
def Come2 (s C : Nat) (pre : List Ob.U32) (acc : List Nat) : Prop := acc.length ≤ C ∧ (FallSome 2147483648 s pre → Gone s (fallK 2147483648 s) C (fallK 2147483648 s - pre.length) acc)
theorem Come2.start (s C : Nat) : Come2 s C [] [] := ⟨by simp, fun _ => Gone.start _ _ _⟩
theorem FallSome.init {l s : Nat} {pre : List Ob.U32} {x : Ob.U32} (h : FallSome l s (pre ++ [x])) : FallSome l s pre ∧ 1 ≤ fallK l s - pre.length ∧ x.1 = (fallK l s - pre.length) * s + 1 := by
  have hl : pre.length + 1 ≤ fallK l s := by simpa using h.1
  exact ⟨⟨by omega, h.2.init⟩, by omega, h.2.last⟩
theorem Come2.yes {s C : Nat} {pre : List Ob.U32} {acc : List Nat} {x : Ob.U32} (h : Come2 s C pre acc) (hl : acc.length < C) (hb : 1073741824 < x.1) (hp : Ob.Pr x.1) : Come2 s C (pre ++ [x]) (acc ++ [x.1]) := by
  refine ⟨by simp; omega, fun hf => ?_⟩
  obtain ⟨h1, h2, h3⟩ := hf.init
  have := (h.2 h1).yes h2 hl (by rw [← h3]; exact hb) (by rw [← h3]; exact hp)
  rw [← h3] at this
  rwa [List.length_append, List.length_singleton, Nat.sub_add_eq]
theorem Come2.no {s C : Nat} {pre : List Ob.U32} {acc : List Nat} {x : Ob.U32} (h : Come2 s C pre acc) (hp : ¬ Ob.Pr x.1) : Come2 s C (pre ++ [x]) acc := by
  refine ⟨h.1, fun hf => ?_⟩
  obtain ⟨h1, h2, h3⟩ := hf.init
  have := (h.2 h1).no h2 (by rw [← h3]; exact hp)
  rwa [List.length_append, List.length_singleton, Nat.sub_add_eq]
theorem Come2.all {s C : Nat} {ys : List Ob.U32} {acc : List Nat} (h : Come2 s C ys acc) (ha : FallAll 2147483648 s ys) : acc = Ob.pick s (fallK 2147483648 s) C :=
  (h.2 ⟨Nat.le_of_eq ha.1, ha.2⟩).end (by rw [ha.1, Nat.sub_self, Nat.zero_mul]; omega)
theorem Come2.stop {s C : Nat} {pre : List Ob.U32} {acc : List Nat} {x : Ob.U32} (h : Come2 s C pre acc) (hs : FallSome 2147483648 s (pre ++ [x])) (he : x.1 ≤ 1073741824 ∨ acc.length = C) : acc = Ob.pick s (fallK 2147483648 s) C := by
  obtain ⟨h1, h2, h3⟩ := hs.init
  exact (h.2 h1).end (by rw [← h3]; omega)

def ChI (w : World) (C s : Nat) (pre : List Ob.U32) (W : World) : Prop := (∃ v acc, Come2 s C pre acc ∧ ChW w.heap.size C s v acc W) ∧ Below w.heap.size w W
def ChX (w : World) (C s : Nat) (c : Code) (pre : List Ob.U32) (W : World) : Prop := (c = .exit 0 ∧ ∃ pre' x v acc, pre = pre' ++ [x] ∧ Come2 s C pre' acc ∧ (x.1 ≤ 1073741824 ∨ acc.length = C) ∧ ChW w.heap.size C s v acc W) ∧ Below w.heap.size w W

set_option maxRecDepth 100000 in
set_option maxHeartbeats 2000000 in
theorem chain_ok (n : Int) (t : Nat) (c : Int) (w : World) (h : ChainOk n t c) :
    Calls Try.prog 13 #[.int .i64 n, .int .u32 t, .int .i64 c] w (ChainPost n t c w) := by
  have HOK := Lib.hid h
  obtain ⟨hd, h3, hm, ho, hc1, hc2⟩ := h
  have HD := Lib.hid hd
  obtain ⟨m, rfl⟩ : ∃ m : Nat, n = (m : Int) := ⟨n.toNat, by unfold Dim at hd; omega⟩
  obtain ⟨C, rfl⟩ : ∃ C : Nat, c = (C : Int) := ⟨c.toNat, by omega⟩
  have hm1 : 4 ≤ m := by unfold Dim at hd; omega
  have hm2 : m ≤ 32 := by unfold Dim at hd; omega
  obtain ⟨s, hs⟩ : ∃ s, s = 2 * m * t := ⟨_, rfl⟩
  have HS := Lib.hid hs
  have hsi : 2 * (m : Int) * (t : Int) = (s : Int) := by rw [hs, Int.natCast_mul, Int.natCast_mul]; rfl
  have hs1 : 1 ≤ s := by rw [hs]; exact Nat.mul_pos (by omega) (by omega)
  have hs2 : s ≤ 137438953408 := by rw [hs]; exact Nat.mul_le_mul (show 2 * m ≤ 64 by omega) hm
  clear hs hd
  obtain ⟨i0, hi, hz0, hz1, hz2⟩ := info_parts infoU32
  have hfin : chainOf (m : Int) t (C : Int) = Ob.pick s (fallK 2147483648 s) C := by
    unfold chainOf chainStep fallK; rw [HS.out]; rfl
  have HF := Lib.hid hfin
  clear hfin
  have t2 : ((t : Int) % 2 == 0) = false := by simp; omega
  have e1 : decide ((t : Int) < 3) = false := by simp; omega
  have e2 : decide ((2147483647 : Int) < (t : Int)) = false := by simp; omega
  have e3 : decide ((C : Int) < 1) = false := by simp; omega
  have e4 : decide ((25 : Int) < (C : Int)) = false := by simp; omega
  clear ho
  refine (callsIn_wide (n := 9)).1 ?_
  refine callsIn_of_wp_marks Try.func13 rfl trivial ?_ rfl
  simp only [Try.ntmps13, List.size_toArray, List.length_cons, List.length_nil, Nat.reduceAdd, Nat.reduceSub, Array.replicate_succ, Array.replicate_zero, List.push_toArray, List.append_toArray, List.nil_append, List.cons_append]
  gi_wp2_with fail
  refine ⟨trivial, ?_⟩
  gi_at_call 24
  refine (callsIn_wide.2 (dim_any (m : Int) _)).mono ?_
  rintro e w1 ⟨r, rfl, hr, rfl⟩
  obtain rfl : r = true := hr.2 HD.out
  clear hr
  gi_wp2_with fail
  refine ⟨trivial, ?_⟩
  gi_at_call 22
  refine (callsIn_wide.2 (falling_any _ _ _)).mono ?_
  rintro e w1 ⟨rfl, rfl⟩
  gi_wp2_with fail
  clear hsi t2 e1 e2 e3 e4
  have hC : C ≤ 25 := by omega
  have b0 := Boxed.new w 3 (.int .i64 (C : Nat))
  have b1 := Boxed.new (w.alloc (.cells #[.int .i64 (C : Nat)] 3)) 28 (.slice none 0 0)
  have b2 := Boxed.new ((w.alloc (.cells #[.int .i64 (C : Nat)] 3)).alloc (.cells #[.slice none 0 0] 28)) 22 (.int .u32 2147483648)
  have b3 := Boxed.new (((w.alloc (.cells #[.int .i64 (C : Nat)] 3)).alloc (.cells #[.slice none 0 0] 28)).alloc (.cells #[.int .u32 2147483648] 22)) 35 (.int .u64 (s : Nat))
  rw [World.size_alloc] at b1
  rw [World.size_alloc, World.size_alloc] at b2
  rw [World.size_alloc, World.size_alloc, World.size_alloc] at b3
  have g0 : Gr w ((((w.alloc (.cells #[.int .i64 (C : Nat)] 3)).alloc (.cells #[.slice none 0 0] 28)).alloc (.cells #[.int .u32 2147483648] 22)).alloc (.cells #[.int .u64 (s : Nat)] 35)) := (((Gr.new w _).alloc _).alloc _).alloc _
  have hsz0 : ((((w.alloc (.cells #[.int .i64 (C : Nat)] 3)).alloc (.cells #[.slice none 0 0] 28)).alloc (.cells #[.int .u32 2147483648] 22)).alloc (.cells #[.int .u64 (s : Nat)] 35)).heap.size = w.heap.size + 4 := by simp
  have w0 : ChW w.heap.size C s (.slice none 0 0) [] ((((w.alloc (.cells #[.int .i64 (C : Nat)] 3)).alloc (.cells #[.slice none 0 0] 28)).alloc (.cells #[.int .u32 2147483648] 22)).alloc (.cells #[.int .u64 (s : Nat)] 35)) :=
    ⟨((b0.alloc _).alloc _).alloc _, (b1.alloc _).alloc _, b2.alloc _, b3, World.ownsRow_nil _ _ _ _⟩
  clear b0 b1 b2 b3
  generalize hW0 : (((w.alloc (.cells #[.int .i64 (C : Nat)] 3)).alloc (.cells #[.slice none 0 0] 28)).alloc (.cells #[.int .u32 2147483648] 22)).alloc (.cells #[.int .u64 (s : Nat)] 35) = W0 at *
  clear hW0
  refine wpIn_rangeFunc_ownG rfl (by omega) (gf := 31) (lb := #[.pointer (some ⟨w.heap.size + 1 + 1, 0, none⟩), .pointer (some ⟨w.heap.size + 1 + 1 + 1, 0, none⟩)]) rfl trivial (enters_of Try.func31 (by kernel_rfl) rfl)
    (falling_stops 2147483648 s (by omega) hs1 (w.heap.size + 1 + 1) W0 (by omega) w0.lim.cell w0.step.cell W0 (Below.refl _ _)) (fun h k => Two2.trans h k) (Two2.put (by omega)) (Below.refl _ _) (fun _ => rfl)
    (ChI w C s) (ChX w C s)
    (OwnFrom.and (Own.from (fun p X Y row h hg hr => h.imp fun v => Exists.imp fun acc ⟨a1, a2⟩ => ⟨a1, a2.kept hg hr⟩) _) (ownFrom_below (Nat.le_refl _) (by omega)))
    (fun c => OwnFrom.and (Own.from (fun p X Y row h hg hr => ⟨h.1, h.2.imp fun p => Exists.imp fun x => Exists.imp fun v => Exists.imp fun acc ⟨a1, a2, a3, a4⟩ => ⟨a1, a2, a3, a4.kept hg hr⟩⟩) _) (ownFrom_below (Nat.le_refl _) (by omega)))
    ⟨⟨_, [], Come2.start s C, w0⟩, g0⟩
    (fun x => { tmps := #[.int .i64 (m : Nat), .int .u32 (t : Nat), .int .i64 (C : Nat), undef, undef, .pointer (some ⟨w.heap.size, 0, none⟩), .slice none 0 0, .int .i64 0, .pointer (some ⟨w.heap.size + 1, 0, none⟩), .int .u32 (x.1 : Nat),
      .int .i64 (m : Nat), .bool true, .bool false, .bool false, .int .u32 (t : Nat), .bool false, .bool false, .bool false, .int .u32 (t : Nat), .bool false, .bool false, .bool false, .int .u32 (t : Nat), .int .u32 ((t : Int) % 2), .bool false, .bool false, .bool false,
      .int .i64 (C : Nat), .bool false, .bool false, .bool false, .int .i64 (C : Nat), .bool false, .bool false, .int .i64 (m : Nat), .int .u64 (m : Nat), .int .u64 (2 * (m : Int)), .int .u32 (t : Nat), .int .u64 (t : Nat), .int .u64 (s : Nat),
      .func (.func 31) #[] #[.pointer (some ⟨w.heap.size + 1 + 1, 0, none⟩), .pointer (some ⟨w.heap.size + 1 + 1 + 1, 0, none⟩)], .int .u32 (x.1 : Nat),
      undef, undef, undef, undef, undef, undef, undef, undef, undef, undef, undef, undef, undef, undef, undef, undef, undef, undef, undef], defers := [] }) ?assign ?body ?done ?stop
  case assign =>
    intro l x W K hK
    gi_wp2
    exact hK
  case body =>
    rintro l pre x W ⟨⟨v, acc, hcm, hW⟩, hB⟩ hlt
    have hx := x.2
    have hal := hcm.1
    obtain ⟨av, cap, rfl, hcap1, hcap2, -⟩ := HasW.of_row hW.row
    obtain ⟨len, hlen⟩ : ∃ len, len = acc.length := ⟨_, rfl⟩
    have HLEN := Lib.hid hlen
    have HCM := Lib.hid hcm
    have HW := Lib.hid hW
    have HB := Lib.hid hB
    have cC := hW.count.cell
    have cL := hW.list.cell
    rw [← hlen] at hal hcap1 cL
    clear hcm hW hB hlen
    obtain ⟨y, hy⟩ : ∃ y, y = x.1 := ⟨_, rfl⟩
    rw [← hy] at hx ⊢
    have HY := Lib.hid hy
    clear hy
    by_cases hlow : y ≤ 1073741824
    · gi_wp2
      exact ⟨KeepsFrom.refl _ _, ⟨rfl, pre, x, _, acc, rfl, HCM.out, .inl (by rw [← HY.out]; exact hlow), HW.out⟩, HB.out⟩
    by_cases hfull : len = C
    · subst hfull
      gi_wp2
      exact ⟨KeepsFrom.refl _ _, ⟨rfl, pre, x, _, acc, rfl, HCM.out, .inr HLEN.out.symm, HW.out⟩, HB.out⟩
    have hll : len < C := by omega
    have t1 : ((len : Int) == (C : Int)) = false := by simp; omega
    clear hfull
    gi_wp2_with fail
    refine ⟨trivial, ?_⟩
    gi_at_call 25
    refine (CallsIn.inRound l (callsIn_wide.2 (prime_pr y _ hx))).mono ?_
    rintro e W1 ⟨r, rfl, hr, g1⟩
    have HR := Lib.hid hr
    clear hr cC cL t1
    have HW1 := Lib.hid (HW.out.gr g1)
    have cL1 := HW1.out.list.cell
    rw [← HLEN.out] at cL1
    have hb1' : Below w.heap.size w W1 := HB.out.trans (g1.mono HB.out.size)
    cases r with
    | true =>
      have hb1 : acc.length + 1 ≤ maxLen := by have := HLEN.out; unfold maxLen; omega
      have hb2 : (acc.length + 1) * 4 ≤ 140737488355328 := by have := HLEN.out; omega
      have hsz1 : w.heap.size + 4 ≤ W1.heap.size := by have := HW1.out.step.lt; omega
      have hyes := Lib.hid (HCM.out.yes (x := x) (by rw [← HLEN.out]; exact hll) (by rw [← HY.out]; omega) (by rw [← HY.out]; exact HR.out.1 (by simp)))
      rw [HLEN.out] at cL1
      gi_wp2_with (gi_at_builtin; refine wpListIn_append_own _ rfl _ _ 28 rfl (w.heap.size + 4) 22 i0 (.int .u32 0) 1 4 Try.underlying28 hi hz0 hz1 hz2 rfl (by decide) _ _ _ rfl (HW1.out.row.alloc _) ⟨W1.heap.size, 0, none⟩ 1 1 [.int .u32 (y : Nat)] rfl rfl (cell_one_new _ _ _) (by simp [Value.oneCell']) hb1 hb2 (by simp; omega) ?_; intro v' w1 hown' hgrow _; obtain ⟨g', cap', rfl⟩ := ownsRow_succ hown'; obtain ⟨hv1, hv2, hr2, hk2, hbb2⟩ := HW1.out.list.appended (by decide) (own_low (base := w.heap.size) HW1.out.row (by omega)) (by omega) (by omega) (own_low hown' (by omega)) hgrow; have hc1 := hv1.cell; have hf1 := hv1.frozen)
      have hnew : ChW w.heap.size C s (.slice (some ⟨g', 0, none⟩) (acc.length + 1) cap') (acc ++ [x.1]) (w1.setCell ⟨w.heap.size + 1, 0, none⟩ (.slice (some ⟨g', 0, none⟩) (acc.length + 1) cap')) :=
        ⟨((HW1.out.count.alloc _).kept hgrow (own_high HW1.out.row (by omega))).kept (grownBy_setCell' w1 (w.heap.size + 1) _) (by simp), hv2,
          ((HW1.out.lim.alloc _).kept hgrow (own_high HW1.out.row (by omega))).kept (grownBy_setCell' w1 (w.heap.size + 1) _) (by simp),
          ((HW1.out.step.alloc _).kept hgrow (own_high HW1.out.row (by omega))).kept (grownBy_setCell' w1 (w.heap.size + 1) _) (by simp),
          by rw [wcells_snoc, List.length_append, ← HY.out]; exact hown'.kept (grownBy_setCell' w1 (w.heap.size + 1) _) (.inr (own_high hown' (by omega)).symm)⟩
      refine ⟨(gr_from g1).trans (hk2.from _), ⟨hnew.lim.cell.trans HW.out.lim.cell.symm, hnew.step.cell.trans HW.out.step.cell.symm⟩, ⟨_, _, hyes.out, hnew⟩, hb1'.trans hbb2⟩
    | false =>
      have hno := Lib.hid (HCM.out.no (x := x) (by rw [← HY.out]; exact fun h => absurd (HR.out.2 h) (by simp)))
      gi_wp2
      exact ⟨gr_from g1, ⟨HW1.out.lim.cell.trans HW.out.lim.cell.symm, HW1.out.step.cell.trans HW.out.step.cell.symm⟩, ⟨_, acc, hno.out, HW1.out⟩, hb1'⟩
  case done =>
    rintro D ys W hD hall ⟨⟨v, acc, hcm, hW⟩, hB⟩ hK
    have hfin := hcm.all hall
    have hal := hcm.1
    obtain ⟨av, cap, rfl, hcap1, hcap2, -⟩ := HasW.of_row hW.row
    obtain ⟨len, hlen⟩ : ∃ len, len = acc.length := ⟨_, rfl⟩
    have HFIN := Lib.hid hfin
    have HLEN := Lib.hid hlen
    have HW := Lib.hid hW
    have HB := Lib.hid hB
    have cC := hW.count.cell
    have cL := hW.list.cell
    rw [← hlen] at hal hcap1 cL
    clear hcm hW hB hlen hfin
    by_cases hlt : len < C
    · gi_wp2
      refine ⟨by simp, .inl ⟨_, _, rfl, run_takeDeferred hK, ?_⟩⟩
      exact ⟨_, results_tmp2 rfl _ _ _, _, [], 4, rfl, HasW.nil _, .inr (.inl ⟨HOK.out, by rw [HF.out, ← HFIN.out, ← HLEN.out, Int.toNat_natCast]; exact hlt, rfl, rfl⟩), HB.out.trans (belowK_b (w := w) (Nat.le_refl _) W D _ _ (by omega) hK rfl rfl)⟩
    · gi_wp2
      refine ⟨by simp, .inl ⟨_, _, rfl, run_takeDeferred hK, ?_⟩⟩
      exact ⟨_, results_tmp2 rfl _ _ _, _, acc, 0, rfl, by have := HasW.of_row (ownsRow_putObj HW.out.row (.deferred none) hK rfl); rwa [← HLEN.out] at this, .inr (.inr ⟨HOK.out, by rw [HF.out, ← HFIN.out, ← HLEN.out, Int.toNat_natCast]; omega, by rw [HF.out, HFIN.out], rfl⟩), HB.out.trans (belowK_b (w := w) (Nat.le_refl _) W D _ _ (by omega) hK rfl rfl)⟩
  case stop =>
    rintro D c pre W hD hpre ⟨⟨rfl, pre', x, v, acc, rfl, hcm, he, hW⟩, hB⟩ hK
    have hfin := hcm.stop hpre he
    clear he hpre
    have hal := hcm.1
    obtain ⟨av, cap, rfl, hcap1, hcap2, -⟩ := HasW.of_row hW.row
    obtain ⟨len, hlen⟩ : ∃ len, len = acc.length := ⟨_, rfl⟩
    have HFIN := Lib.hid hfin
    have HLEN := Lib.hid hlen
    have HW := Lib.hid hW
    have HB := Lib.hid hB
    have cC := hW.count.cell
    have cL := hW.list.cell
    rw [← hlen] at hal hcap1 cL
    clear hcm hW hB hlen hfin
    by_cases hlt : len < C
    · gi_wp2
      refine ⟨by simp, .inl ⟨_, _, rfl, run_takeDeferred hK, ?_⟩⟩
      exact ⟨_, results_tmp2 rfl _ _ _, _, [], 4, rfl, HasW.nil _, .inr (.inl ⟨HOK.out, by rw [HF.out, ← HFIN.out, ← HLEN.out, Int.toNat_natCast]; exact hlt, rfl, rfl⟩), HB.out.trans (belowK_b (w := w) (Nat.le_refl _) W D _ _ (by omega) hK rfl rfl)⟩
    · gi_wp2
      refine ⟨by simp, .inl ⟨_, _, rfl, run_takeDeferred hK, ?_⟩⟩
      exact ⟨_, results_tmp2 rfl _ _ _, _, acc, 0, rfl, by have := HasW.of_row (ownsRow_putObj HW.out.row (.deferred none) hK rfl); rwa [← HLEN.out] at this, .inr (.inr ⟨HOK.out, by rw [HF.out, ← HFIN.out, ← HLEN.out, Int.toNat_natCast]; omega, by rw [HF.out, HFIN.out], rfl⟩), HB.out.trans (belowK_b (w := w) (Nat.le_refl _) W D _ _ (by omega) hK rfl rfl)⟩

theorem chain_any (n : Int) (t : Nat) (c : Int) (w : World) (ht' : t ≤ 4294967295) : Calls Try.prog 13 #[.int .i64 n, .int .u32 t, .int .i64 c] w (ChainPost n t c w) := by
  by_cases h : ChainOk n t c
  · exact chain_ok n t c w h
  · exact chain_bad n t c w ht' h
theorem rchain_any (n : Int) (t : Nat) (c : Int) (w : World) (ht' : t ≤ 4294967295) : Calls Try.prog 14 #[.int .i64 n, .int .u32 t, .int .i64 c] w (ChainPost n t c w) := by
  by_cases h : ChainOk n t c
  · exact rchain_ok n t c w h
  · exact rchain_bad n t c w ht' h
end Go.Proofs.Ytdkpgocbdphneaa
