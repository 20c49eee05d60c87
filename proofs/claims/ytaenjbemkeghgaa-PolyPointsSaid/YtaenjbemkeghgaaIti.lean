import Derived.Test.YtaenjbemkeghgaaItn
import Derived.Maps.AppendAt
/- What the program's 'through' returns. -/
namespace Go.Proofs.Ytaenjbemkeghgaa
open Go.RowKit Go.Shelf
set_option linter.unusedVariables false
attribute [local go_sem] Oper.semAt_some

theorem gr_from {B : Nat} {W W' : World} (h : Gr W W') : KeepsFrom B W W' := ⟨h.size, fun k o _ hk _ => (h.block k (Array.getElem?_eq_some_iff.1 hk).1).trans hk⟩
theorem boxed_gr {W W' : World} {B : Nat} {t : TypeId} {v : Value} (h : Boxed W B t v) (hg : Gr W W') : Boxed W' B t v := (hg.block B h.lt).trans h
theorem boxed_kept {W W' : World} {row : Option Nat} {B : Nat} {t : TypeId} {v : Value} (h : Boxed W B t v) (hg : W.grownBy W' row) (hrow : ∀ l, row = some l → ∃ o, W.heap[l]? = some o ∧ o.isCells = false) : Boxed W' B t v :=
  h.kept hg (fun e => by obtain ⟨o, ho, hc⟩ := hrow B e.symm; rw [show W.heap[B]? = _ from h] at ho; cases ho; cases hc)
theorem boxed_upd {W W' : World} {g o : Nat} {l : List Int} {B : Nat} {t : TypeId} {v : Value} (h : Boxed W B t v) (hu : Upd g o l W W') (hg : B ≠ g) : Boxed W' B t v := (hu.block B hg).trans h
theorem row_kept {W W' : World} {row : Option Nat} {g : Nat} {l : List Int} (h : Row W g l) (hg : W.grownBy W' row) (hrow : ∀ r, row = some r → ∃ o, W.heap[r]? = some o ∧ o.isCells = false) : Row W' g l := by
  obtain ⟨h0, cur, h1, h2⟩ := h
  refine ⟨h0, cur, (hg.block g h1.lt (fun e => ?_)).trans h1, h2⟩
  obtain ⟨o, ho, hc⟩ := hrow g e.symm
  rw [show W.heap[g]? = _ from h1] at ho; cases ho; cases hc
theorem noOut_normal {Q : Exit → Act → World → Prop} {a : Act} {w : World} (h : Q .normal a w) : NoOut Q .normal a w := h
theorem mem_prow (i : Nat) (l : List (Nat × Nat)) : ∀ (j k : Nat), k < j → (i, k) ∈ Op.prow i j l
  | 0, k, h => by omega
  | j + 1, k, h => by
    rw [Op.prow]
    by_cases hk : k = j
    · subst hk; exact List.mem_cons_self
    · exact List.mem_cons_of_mem _ (mem_prow i l j k (by omega))
theorem mem_prow_old (i : Nat) (l : List (Nat × Nat)) {p : Nat × Nat} (hp : p ∈ l) : ∀ j, p ∈ Op.prow i j l
  | 0 => hp
  | j + 1 => List.mem_cons_of_mem _ (mem_prow_old i l hp j)
theorem mem_psq : ∀ (n i j : Nat), i < n → j < i → (i, j) ∈ Op.psq n
  | 0, i, j, h, _ => by omega
  | n + 1, i, j, h, hj => by
    rw [Op.psq]
    by_cases hi : i = n
    · subst hi; exact mem_prow i _ i j hj
    · exact mem_prow_old n _ (mem_psq n i j (by omega) hj) n

theorem newt {m A B L I LL V : Int} (h1 : m ∣ L - A) (h2 : m ∣ L * I - 1) (h3 : m ∣ LL - B) (h4 : m ∣ V - LL * I) : m ∣ A * V - B := by
  have h5 : m ∣ A * I - 1 := by
    have e : A * I - 1 = (L * I - 1) - (L - A) * I := by rw [Int.sub_mul]; omega
    rw [e]; exact Int.dvd_sub h2 (Int.dvd_mul_of_dvd_left h1)
  have e : A * V - B = A * (V - LL * I) + A * I * (LL - B) + B * (A * I - 1) := by
    have e1 : A * (LL * I) = A * I * LL := by rw [Int.mul_comm LL I, Int.mul_assoc]
    rw [Int.mul_sub, Int.mul_sub, Int.mul_sub, Int.mul_one, e1, Int.mul_comm B (A * I)]; omega
  rw [e]
  exact Int.dvd_add (Int.dvd_add (Int.dvd_mul_of_dvd_right h4) (Int.dvd_mul_of_dvd_right h3)) (Int.dvd_mul_of_dvd_right h5)
theorem less_cg (m C D : Int) : m ∣ (C + (m - 1) * D) % m - (C - D) := by
  have h1 := Op.dvd_mod m (C + (m - 1) * D)
  have e : (C + (m - 1) * D) % m - (C - D) = ((C + (m - 1) * D) % m - (C + (m - 1) * D)) + m * D := by rw [Int.sub_mul]; omega
  rw [e]; exact Int.dvd_add h1 ⟨D, rfl⟩
theorem cs_far {W : World} {p a : Addr} {v u : Value} (h : W.cell? a = some u) (hne : p.block ≠ a.block) : (W.setCell p v).cell? a = some u := (World.cell?_setCell_far W p a v hne).trans h
theorem HasP.blocks {W W' : World} {x : Option Addr} {n c : Nat} {l : List Int} (h : HasP W (.slice x n c) l) (hk : ∀ p, x = some p → W'.heap[p.block]? = W.heap[p.block]?) : HasP W' (.slice x n c) l := by
  obtain ⟨hd, a, cap, e, h1, h2, h3⟩ := h
  cases e
  refine ⟨hd, _, _, rfl, h1, h2, fun i hi => ?_⟩
  obtain ⟨g, o, e, hc⟩ := h3 i hi
  exact ⟨g, o, e, (show W'.cell? ⟨g, o + i, none⟩ = W.cell? ⟨g, o + i, none⟩ from World.cell?_of_block (w := W) (hk ⟨g, o, none⟩ e)).trans hc⟩
/-- What through's own cells hold. -/
def ThB (w : World) (m : Int) (vx vn : Value) (b8 : Nat) (W : World) : Prop :=
  Boxed W w.heap.size 49 (.int .u32 m) ∧ Boxed W (w.heap.size + 1) 23 vx ∧ (∃ v, Boxed W (w.heap.size + 2) 23 v) ∧ (∃ v, Boxed W (w.heap.size + 3) 27 v) ∧ Boxed W b8 23 vn
def ThI (w : World) (m : Int) (xs ys : List Int) (vx vn : Value) (b8 g N : Nat) (pre : List (Op.PR N)) (W : World) : Prop :=
  (∃ cs, Rn m xs ys (Op.came pre) cs ∧ Op.Rs m cs ∧ cs.length = N ∧ (0 < N → Row W g cs)) ∧ (∀ x ∈ pre, Op.Un m (Op.cf xs x.1.1 - Op.cf xs x.1.2)) ∧ ThB w m vx vn b8 W
def ThX (w : World) (m : Int) (xs : List Int) (c : Code) (W : World) : Prop :=
  c = .ret ∧ ¬ Op.Au m xs ∧ Boxed W (w.heap.size + 2) 23 (.slice none 0 0) ∧ Boxed W (w.heap.size + 3) 27 (.int .i64 7)
theorem ThB.kept {w : World} {m : Int} {vx vn : Value} {b8 : Nat} {W W' : World} {row : Option Nat} (h : ThB w m vx vn b8 W) (hg : W.grownBy W' row) (hr : ∀ l, row = some l → ∃ o, W.heap[l]? = some o ∧ o.isCells = false) : ThB w m vx vn b8 W' :=
  ⟨boxed_kept h.1 hg hr, boxed_kept h.2.1 hg hr, h.2.2.1.imp fun v k => boxed_kept k hg hr, h.2.2.2.1.imp fun v k => boxed_kept k hg hr, boxed_kept h.2.2.2.2 hg hr⟩
theorem ThB.gr {w : World} {m : Int} {vx vn : Value} {b8 : Nat} {W W' : World} (h : ThB w m vx vn b8 W) (hg : Gr W W') : ThB w m vx vn b8 W' :=
  ⟨boxed_gr h.1 hg, boxed_gr h.2.1 hg, h.2.2.1.imp fun v k => boxed_gr k hg, h.2.2.2.1.imp fun v k => boxed_gr k hg, boxed_gr h.2.2.2.2 hg⟩
theorem ThB.upd {w : World} {m : Int} {vx vn : Value} {b8 g o : Nat} {l : List Int} {W W' : World} (h : ThB w m vx vn b8 W) (hu : Upd g o l W W') (h4 : w.heap.size + 4 ≤ g) (h8 : b8 ≠ g) : ThB w m vx vn b8 W' :=
  ⟨boxed_upd h.1 hu (by omega), boxed_upd h.2.1 hu (by omega), h.2.2.1.imp fun v k => boxed_upd k hu (by omega), h.2.2.2.1.imp fun v k => boxed_upd k hu (by omega), boxed_upd h.2.2.2.2 hu h8⟩
/-- The world in which the cells of through have been made. -/
abbrev w4of (w : World) (m : Int) (vx : Value) : World := (((w.alloc (.cells #[.int .u32 m] 49)).alloc (.cells #[vx] 23)).alloc (.cells #[.slice none 0 0] 23)).alloc (.cells #[.int .i64 0] 27)
theorem w4_size (w : World) (m : Int) (vx : Value) : (w4of w m vx).heap.size = w.heap.size + 4 := by simp [w4of]
theorem w4_boxed (w : World) (m : Int) (vx : Value) : Boxed (w4of w m vx) w.heap.size 49 (.int .u32 m) ∧ Boxed (w4of w m vx) (w.heap.size + 1) 23 vx ∧ Boxed (w4of w m vx) (w.heap.size + 2) 23 (.slice none 0 0) ∧ Boxed (w4of w m vx) (w.heap.size + 3) 27 (.int .i64 0) := by
  have b1 := Boxed.new (w.alloc (.cells #[.int .u32 m] 49)) 23 vx
  rw [World.size_alloc] at b1
  have b2 := Boxed.new ((w.alloc (.cells #[.int .u32 m] 49)).alloc (.cells #[vx] 23)) 23 (.slice none 0 0)
  rw [World.size_alloc, World.size_alloc] at b2
  have b3 := Boxed.new (((w.alloc (.cells #[.int .u32 m] 49)).alloc (.cells #[vx] 23)).alloc (.cells #[.slice none 0 0] 23)) 27 (.int .i64 0)
  rw [World.size_alloc, World.size_alloc, World.size_alloc] at b3
  exact ⟨(((Boxed.new w _ _).alloc _).alloc _).alloc _, (b1.alloc _).alloc _, b2.alloc _, b3⟩

set_option maxRecDepth 100000 in
set_option maxHeartbeats 4000000 in
theorem through_any (m : Int) (xs ys : List Int) (u v : Value) (w : World) (hm : okM m) (hx : Op.Rs m xs) (hlx : xs.length ≤ 256) (hy : Op.Rs m ys) (hly : ys.length = xs.length) (hu : HasP w u xs) (hv : HasP w v ys) :
    Calls Try.prog 64 #[.int .u32 m, u, v] w (NewE (fun l E => (Op.Au m xs ∧ E = 0 ∧ Thr m xs ys l) ∨ (¬ Op.Au m xs ∧ E = 7 ∧ l = [])) w) := by
  obtain ⟨-, ax, cx, rfl, -, -, -⟩ := id hu
  obtain ⟨-, ay, cy, rfl, -, -, -⟩ := id hv
  obtain ⟨N, hN⟩ : ∃ N, N = xs.length := ⟨_, rfl⟩
  rw [hly, ← hN] at hv
  rw [← hN] at hu hlx hly
  rw [hly, ← hN]
  have HU := Lib.hid hu
  have HV := Lib.hid hv
  have HN := Lib.hid hN
  have HLY := Lib.hid hly
  have HX := Lib.hid hx
  have HY := Lib.hid hy
  have HM := Lib.hid hm
  have HLEN := Lib.hid (show ([] : List Int).length + ys.length ≤ 1000000 from by simp; omega)
  clear hu hv hN hly hx hy hm
  refine (callsIn_wide (n := 9)).1 ?_
  refine callsIn_of_wp_marks Try.func64 rfl trivial ?_ rfl
  simp only [Try.ntmps64, List.size_toArray, List.length_cons, List.length_nil, Nat.reduceAdd, Nat.reduceSub, Array.replicate_succ, Array.replicate_zero, List.push_toArray, List.append_toArray, List.nil_append, List.cons_append]
  refine wpIn_wide.2 ?_
  have HS4 := Lib.hid (w4_size w m (.slice ax N cx))
  have HB4 := Lib.hid (w4_boxed w m (.slice ax N cx))
  have HG4 := Lib.hid (show Gr w (w4of w m (.slice ax N cx)) from (((Gr.new w _).alloc _).alloc _).alloc _)
  go_wp2_with (first
    | (at_builtin; refine wpList_app rfl (.const (.slice none 0 0)) (.tmp 15) rfl rfl (w.heap.size + 4) (.slice none 0 0) [] rfl (Own1.nil _ _) (.slice ay N cy) ys rfl (HV.out.later HG4.out) HLEN.out (Nat.le_of_eq HS4.out.symm) ?_; intro v' w2 hown hgrow; rw [List.nil_append] at hown; obtain ⟨av, cv, rfl, -, -⟩ := hown.form; rw [HLY.out] at hown ⊢; have HO := Lib.hid hown; have HGB := Lib.hid (show Gr (w4of w m (.slice ax N cx)) w2 from grown_own (Gr.refl _) (Own1.nil _ (w.heap.size + 4)) hgrow (Nat.le_of_eq HS4.out)); have hcl : ∀ o : Obj, (w2.alloc o).cell? ⟨w.heap.size + 1, 0, none⟩ = some (.slice ax N cx) := (fun o => (((boxed_gr HB4.out.2.1 HGB.out).alloc o).cell)); clear hown hgrow)
    | (go_at_call 74; refine (pairs_any N _).mono ?_; rintro e wp1 ⟨rfl, rfl⟩))
  have hsz2 : w.heap.size + 4 ≤ w2.heap.size := by have := HGB.out.size; rw [HS4.out] at this; exact this
  obtain ⟨b8, hb8⟩ : ∃ b8, b8 = w2.heap.size := ⟨_, rfl⟩
  obtain ⟨g, hg⟩ : ∃ g, (0 < N → av = some ⟨g, 0, none⟩ ∧ w.heap.size + 4 ≤ g ∧ g < b8 ∧ N ≤ cv ∧ cv ≤ 9223372036854775807 ∧ Row w2 g ys) := by
    by_cases h0 : 0 < N
    · obtain ⟨g, cv, e, h1, h2, h3, h4⟩ := HO.out.row (by rw [HLY.out]; exact h0)
      rw [HLY.out] at e h2
      cases e
      exact ⟨g, fun _ => ⟨rfl, h1, by rw [hb8]; exact h4.lt, h2, h3, h4⟩⟩
    · exact ⟨0, fun h => absurd h h0⟩
  have HG := Lib.hid hg
  clear hg
  obtain ⟨W0, hW0⟩ : ∃ W0, W0 = (w2.alloc (.cells #[.slice av N cv] 23)).alloc (.cells #[.int .i64 (N : Nat)] 3) := ⟨_, rfl⟩
  have hs0 : W0.heap.size = b8 + 2 := by rw [hW0, hb8]; simp
  have HB0 := Lib.hid (show ThB w m (.slice ax N cx) (.slice av N cv) b8 W0 from by
    rw [hW0, hb8]
    exact ⟨((boxed_gr HB4.out.1 HGB.out).alloc _).alloc _, ((boxed_gr HB4.out.2.1 HGB.out).alloc _).alloc _, ⟨_, ((boxed_gr HB4.out.2.2.1 HGB.out).alloc _).alloc _⟩, ⟨_, ((boxed_gr HB4.out.2.2.2 HGB.out).alloc _).alloc _⟩, (Boxed.new w2 _ _).alloc _⟩)
  have HP0 := Lib.hid (show Boxed W0 (b8 + 1) 3 (.int .i64 (N : Nat)) from by
    have b := Boxed.new (w2.alloc (.cells #[.slice av N cv] 23)) 3 (.int .i64 (N : Nat))
    rw [World.size_alloc] at b
    rw [hW0, hb8]; exact b)
  have HR0 := Lib.hid (show 0 < N → Row W0 g ys from fun h => by rw [hW0]; exact (HG.out h).2.2.2.2.2.later ((Gr.new _ _).alloc _))
  have HG0 := Lib.hid (show Gr w W0 from by rw [hW0]; exact ((HG4.out.trans HGB.out).alloc _).alloc _)
  rw [← hW0]
  rw [← hb8]
  have HS0 := Lib.hid hs0
  have HB8 := Lib.hid hb8
  have hs4 : w.heap.size + 4 ≤ b8 := by rw [hb8]; exact hsz2
  clear hW0 hcl hs0 hb8 hsz2
  refine (wpIn_wide (n := 9)).1 ?_
  refine wpIn_rangeFunc_ownG rfl (by omega) (gf := 79) (lb := #[.pointer (some ⟨b8 + 1, 0, none⟩)]) rfl trivial (enters_of Try.func79 (by kernel_rfl) rfl)
    (pairs_stops (9 - 1) (by omega) N hlx (b8 + 1) W0 (fun W hW => (boxed_gr HP0.out hW).cell)) (fun _ _ => trivial) (fun _ _ _ _ _ _ _ _ => trivial) (Below.refl _ _) (fun _ => rfl)
    (fun pre W => ThI w m xs ys (.slice ax N cx) (.slice av N cv) b8 g N pre W ∧ Below w.heap.size w W)
    (fun c pre W => ThX w m xs c W ∧ Below w.heap.size w W)
    (OwnFrom.and (Own.from (fun s X Y row h hg hr => ⟨h.1.imp fun cs k => ⟨k.1, k.2.1, k.2.2.1, fun h0 => row_kept (k.2.2.2 h0) hg hr⟩, h.2.1, h.2.2.kept hg hr⟩) _) (ownFrom_below (Nat.le_refl _) (by rw [HS0.out]; omega)))
    (fun c => OwnFrom.and (Own.from (fun s X Y row h hg hr => ⟨h.1, h.2.1, boxed_kept h.2.2.1 hg hr, boxed_kept h.2.2.2 hg hr⟩) _) (ownFrom_below (Nat.le_refl _) (by rw [HS0.out]; omega)))
    ⟨⟨⟨ys, rfl, HY.out, HLY.out, HR0.out⟩, (fun x hx => by simp at hx), HB0.out⟩, HG0.out⟩
    (fun x => { tmps := #[.int .u32 m, .slice ax N cx, .slice ay N cy, .pointer (some ⟨w.heap.size, 0, none⟩), .pointer (some ⟨w.heap.size + 1, 0, none⟩), undef, .pointer (some ⟨w.heap.size + 2, 0, none⟩), .pointer (some ⟨w.heap.size + 3, 0, none⟩), .pointer (some ⟨b8, 0, none⟩), .int .i64 (x.1.1 : Nat), .int .i64 (x.1.2 : Nat), undef, undef, undef, undef, .slice ay N cy, .slice av N cv, .slice ax N cx, .int .i64 N, .func (.func 79) #[] #[.pointer (some ⟨b8 + 1, 0, none⟩)], .int .i64 (x.1.1 : Nat), .int .i64 (x.1.2 : Nat), undef, undef, undef, undef, undef, undef, undef, undef, undef, undef, undef, undef, undef, undef, undef, undef, undef, undef, undef, undef, undef, undef, undef, undef, undef, undef, undef, undef, undef, undef, undef, undef, undef, undef, undef, undef, undef, undef, undef, undef, undef, undef, undef, undef, undef, undef, undef, undef, undef, undef, undef, undef, undef, undef, undef, undef, undef, undef, undef, undef], defers := [] }) ?assign ?body ?done ?stop
  case assign =>
    intro l x W K hK
    gi_wp2
    exact hK
  case stop =>
    rintro D c pre W hD - ⟨⟨rfl, hau, h2, h3⟩, hb⟩ hK
    have HB := Lib.hid hb
    have HAU := Lib.hid hau
    clear hb hau
    gi_wp2
    refine ⟨by simp, .inl ⟨_, _, rfl, run_takeDeferred hK, ?_⟩⟩
    have e0 := (boxed_kept h2 (grownBy_putObj' _ D (.deferred none)) (fun r e => by cases e; exact ⟨_, hK, rfl⟩)).cell
    have e1 := (boxed_kept h3 (grownBy_putObj' _ D (.deferred none)) (fun r e => by cases e; exact ⟨_, hK, rfl⟩)).cell
    refine ⟨.tuple #[.slice none 0 0, .int .i64 7], ?_, none, 0, 0, [], 7, rfl, HasP.nil _, .inr ⟨HAU.out, rfl, rfl⟩, fun p hp => (by cases hp), HB.out.trans (belowK_b (w := w) (Nat.le_refl _) W D _ _ (by have := HS0.out; omega) hK rfl rfl)⟩
    simp [results, Try.f64, go_sem, e0, e1]
  case body =>
    rintro l pre x W ⟨⟨⟨cs, hrn, hrs, hlc, hrow⟩, hun, hB⟩, hb⟩ hlt
    have hx1 := x.2.1
    have hx2 := x.2.2
    have hN0 : 0 < N := by omega
    have HRN := Lib.hid hrn
    have HRS := Lib.hid hrs
    have HLC := Lib.hid hlc
    have HROW := Lib.hid (hrow hN0)
    have HUN := Lib.hid hun
    have HB := Lib.hid hB
    have HBL := Lib.hid hb
    obtain ⟨gx, ox, rfl, hcx⟩ : ∃ gx ox, ax = some ⟨gx, ox, none⟩ ∧ ∀ i, i < N → W.cell? ⟨gx, ox + i, none⟩ = some (.int .u32 (Op.cf xs i)) := by
      obtain ⟨_, a, c, e, _, _, h3⟩ := HU.out.later (show Gr w W from hb)
      cases e
      obtain ⟨gx, ox, e, _⟩ := h3 0 (by rw [← HN.out]; exact hN0)
      refine ⟨gx, ox, e, fun i hi => ?_⟩
      obtain ⟨g', o', e', hc⟩ := h3 i (by rw [← HN.out]; exact hi)
      rw [e] at e'
      cases e'
      exact hc
    have hci := hcx _ hx2
    have hcj := hcx _ (show x.1.2 < N by omega)
    have hbm := hB.1.cell
    have hbx := hB.2.1.cell
    have hxi := Op.rs_cf (show 0 < m by have := HM.out; unfold okM at this; omega) HX.out x.1.1
    have hxj := Op.rs_cf (show 0 < m by have := HM.out; unfold okM at this; omega) HX.out x.1.2
    have hm2 : 2 ≤ m := HM.out.1
    have hm3 : m ≤ 2147483647 := HM.out.2
    obtain ⟨X, hX⟩ : ∃ X, X = Op.cf xs x.1.1 := ⟨_, rfl⟩
    obtain ⟨Y, hY⟩ : ∃ Y, Y = Op.cf xs x.1.2 := ⟨_, rfl⟩
    rw [← hX] at hci hxi
    rw [← hY] at hcj hxj
    have HXX := Lib.hid hX
    have HYY := Lib.hid hY
    obtain ⟨i, hi⟩ : ∃ i, i = x.1.1 := ⟨_, rfl⟩
    obtain ⟨j, hj⟩ : ∃ j, j = x.1.2 := ⟨_, rfl⟩
    have HI := Lib.hid hi
    have HJ := Lib.hid hj
    rw [← hi] at hx1 hx2 hci ⊢
    rw [← hj] at hx1 hcj ⊢
    clear hrn hrs hlc hrow hun hB hb hcx hX hY hi hj
    have hi0 : (0 : Int) ≤ (i : Int) := by omega
    have hi1 : (i : Int) < (N : Int) := by omega
    have hj0 : (0 : Int) ≤ (j : Int) := by omega
    have hj1 : (j : Int) < (N : Int) := by omega
    gi_wp2_with fail
    obtain ⟨L, hL⟩ : ∃ L, L = (X + (m - 1) * Y) % m := ⟨_, rfl⟩
    have HL := Lib.hid hL
    have HLB := Lib.hid (show 0 ≤ L ∧ L < m from by rw [hL]; exact ⟨Int.emod_nonneg _ (by omega), Int.emod_lt_of_pos _ (by omega)⟩)
    have HLC1 := Lib.hid (show m ∣ L - (X - Y) from by
      have h1 := Op.dvd_mod m (X + (m - 1) * Y)
      rw [← hL] at h1
      have e : L - (X - Y) = (L - (X + (m - 1) * Y)) + m * Y := by rw [Int.sub_mul]; omega
      rw [e]; exact Int.dvd_add h1 ⟨Y, rfl⟩)
    have HFL := Lib.hid (show m ∣ X - Y - L from by
      have h := HLC1.out
      have e : X - Y - L = -(L - (X - Y)) := by omega
      rw [e]; exact Int.dvd_neg.2 h)
    clear hL
    by_cases hun : Op.Un m (X - Y)
    · have HUL := Lib.hid (show Op.Un m L from hun.cg HFL.out)
      have HUN2 := Lib.hid hun
      clear hun
      refine region_round (fun wz => wz.cell? ⟨w.heap.size, 0, none⟩ = some (.int .u32 m) ∧ wz.cell? ⟨w.heap.size + 1, 0, none⟩ = some (.slice (some ⟨gx, ox, none⟩) N cx) ∧ wz.cell? ⟨gx, ox + i, none⟩ = some (.int .u32 X) ∧ wz.cell? ⟨gx, ox + j, none⟩ = some (.int .u32 Y)) (by kernel_rfl) (noDefer_spec (by kernel_rfl)) ⟨hbm, hbx, hci, hcj⟩ (fun hHeld => ?_)
      refine wpAnyH_take (i := 0) (oi := { dst := some 23, op := Op.load 49 (Operand.tmp 3), type := 49, pos := "interpolate.go:15", after := #[], guard := none }) (v := ?_) rfl (by kernel_rfl) (by kernel_rfl) (by kernel_rfl) (fun _ _ _ h => h) (Or.inl ⟨by rfl, ?_⟩) (by assumption) ?_
      rotate_left
      · intro w hSw; (try dsimp only at hSw); obtain ⟨hS0, hS1, hS2, hS3⟩ := hSw; go_simp; try with_reducible rfl
      try simp only [Act.put, List.setIfInBounds_toArray, List.set_cons_zero, List.set_cons_succ]
      refine wpAnyH_take (i := 1) (oi := { dst := some 24, op := Op.load 49 (Operand.tmp 3), type := 49, pos := "interpolate.go:15", after := #[], guard := none }) (v := ?_) rfl (by kernel_rfl) (by kernel_rfl) (by kernel_rfl) (fun _ _ _ h => h) (Or.inl ⟨by rfl, ?_⟩) (by assumption) ?_
      rotate_left
      · intro w hSw; (try dsimp only at hSw); obtain ⟨hS0, hS1, hS2, hS3⟩ := hSw; go_simp; try with_reducible rfl
      try simp only [Act.put, List.setIfInBounds_toArray, List.set_cons_zero, List.set_cons_succ]
      refine wpAnyH_take (i := 2) (oi := { dst := some 25, op := Op.load 23 (Operand.tmp 4), type := 23, pos := "interpolate.go:15", after := #[], guard := none }) (v := ?_) rfl (by kernel_rfl) (by kernel_rfl) (by kernel_rfl) (fun _ _ _ h => h) (Or.inl ⟨by rfl, ?_⟩) (by assumption) ?_
      rotate_left
      · intro w hSw; (try dsimp only at hSw); obtain ⟨hS0, hS1, hS2, hS3⟩ := hSw; go_simp; try with_reducible rfl
      try simp only [Act.put, List.setIfInBounds_toArray, List.set_cons_zero, List.set_cons_succ]
      refine wpAnyH_take (i := 3) (oi := { dst := some 26, op := Op.move (Operand.tmp 9), type := 3, pos := "interpolate.go:15", after := #[], guard := none }) (v := ?_) rfl (by kernel_rfl) (by kernel_rfl) (by kernel_rfl) (fun _ _ _ h => h) (Or.inl ⟨by rfl, ?_⟩) (by assumption) ?_
      rotate_left
      · intro w hSw; (try dsimp only at hSw); obtain ⟨hS0, hS1, hS2, hS3⟩ := hSw; go_simp; try with_reducible rfl
      try simp only [Act.put, List.setIfInBounds_toArray, List.set_cons_zero, List.set_cons_succ]
      refine wpAnyH_take (i := 4) (oi := { dst := some 27, op := Op.indexAddr 23 (Operand.tmp 25) (Operand.tmp 26), type := 0, pos := "interpolate.go:15", after := #[{ on := 2, ground := Ground.data }, { on := 3, ground := Ground.data }], guard := none }) (v := ?_) rfl (by kernel_rfl) (by kernel_rfl) (by kernel_rfl) (fun _ _ _ h => h) (Or.inl ⟨by rfl, ?_⟩) (by assumption) ?_
      rotate_left
      · intro w hSw; (try dsimp only at hSw); obtain ⟨hS0, hS1, hS2, hS3⟩ := hSw; go_simp; try with_reducible rfl
      try simp only [Act.put, List.setIfInBounds_toArray, List.set_cons_zero, List.set_cons_succ]
      refine wpAnyH_take (i := 5) (oi := { dst := some 28, op := Op.load 22 (Operand.tmp 27), type := 22, pos := "interpolate.go:15", after := #[{ on := 4, ground := Ground.data }], guard := none }) (v := ?_) rfl (by kernel_rfl) (by kernel_rfl) (by kernel_rfl) (fun _ _ _ h => h) (Or.inl ⟨by rfl, ?_⟩) (by assumption) ?_
      rotate_left
      · intro w hSw; (try dsimp only at hSw); obtain ⟨hS0, hS1, hS2, hS3⟩ := hSw; go_simp; try with_reducible rfl
      try simp only [Act.put, List.setIfInBounds_toArray, List.set_cons_zero, List.set_cons_succ]
      refine wpAnyH_take (i := 6) (oi := { dst := some 29, op := Op.load 23 (Operand.tmp 4), type := 23, pos := "interpolate.go:15", after := #[], guard := none }) (v := ?_) rfl (by kernel_rfl) (by kernel_rfl) (by kernel_rfl) (fun _ _ _ h => h) (Or.inl ⟨by rfl, ?_⟩) (by assumption) ?_
      rotate_left
      · intro w hSw; (try dsimp only at hSw); obtain ⟨hS0, hS1, hS2, hS3⟩ := hSw; go_simp; try with_reducible rfl
      try simp only [Act.put, List.setIfInBounds_toArray, List.set_cons_zero, List.set_cons_succ]
      refine wpAnyH_take (i := 7) (oi := { dst := some 30, op := Op.move (Operand.tmp 10), type := 3, pos := "interpolate.go:15", after := #[], guard := none }) (v := ?_) rfl (by kernel_rfl) (by kernel_rfl) (by kernel_rfl) (fun _ _ _ h => h) (Or.inl ⟨by rfl, ?_⟩) (by assumption) ?_
      rotate_left
      · intro w hSw; (try dsimp only at hSw); obtain ⟨hS0, hS1, hS2, hS3⟩ := hSw; go_simp; try with_reducible rfl
      try simp only [Act.put, List.setIfInBounds_toArray, List.set_cons_zero, List.set_cons_succ]
      refine wpAnyH_take (i := 8) (oi := { dst := some 31, op := Op.indexAddr 23 (Operand.tmp 29) (Operand.tmp 30), type := 0, pos := "interpolate.go:15", after := #[{ on := 6, ground := Ground.data }, { on := 7, ground := Ground.data }], guard := none }) (v := ?_) rfl (by kernel_rfl) (by kernel_rfl) (by kernel_rfl) (fun _ _ _ h => h) (Or.inl ⟨by rfl, ?_⟩) (by assumption) ?_
      rotate_left
      · intro w hSw; (try dsimp only at hSw); obtain ⟨hS0, hS1, hS2, hS3⟩ := hSw; go_simp; try with_reducible rfl
      try simp only [Act.put, List.setIfInBounds_toArray, List.set_cons_zero, List.set_cons_succ]
      refine wpAnyH_take (i := 9) (oi := { dst := some 32, op := Op.load 22 (Operand.tmp 31), type := 22, pos := "interpolate.go:15", after := #[{ on := 8, ground := Ground.data }], guard := none }) (v := ?_) rfl (by kernel_rfl) (by kernel_rfl) (by kernel_rfl) (fun _ _ _ h => h) (Or.inl ⟨by rfl, ?_⟩) (by assumption) ?_
      rotate_left
      · intro w hSw; (try dsimp only at hSw); obtain ⟨hS0, hS1, hS2, hS3⟩ := hSw; go_simp; try with_reducible rfl
      try simp only [Act.put, List.setIfInBounds_toArray, List.set_cons_zero, List.set_cons_succ]
      refine wpAnyH_ready (rs := [10]) (by kernel_rfl) (by simp) ?_
      refine AllReadyH.cons (o := { dst := some 33, op := Op.call { callee := Callee.value (Operand.func 70), args := #[Operand.tmp 24, Operand.tmp 28, Operand.tmp 32], argTypes := #[49, 22, 22] }, type := 22, pos := "interpolate.go:15", after := #[{ on := 1, ground := Ground.data }, { on := 5, ground := Ground.data }, { on := 9, ground := Ground.data }], guard := none }) rfl (fun K hK => ?_) AllReadyH.nil
      go_simp
      refine (less_any m X Y _ (by omega) (by omega) (by omega)).mono ?_
      rintro e w' ⟨rfl, rfl⟩
      try dsimp only
      refine hK.out _ _ hHeld (fun hHeld => ?_)
      clear hK K
      try simp only [Act.put, List.setIfInBounds_toArray, List.set_cons_zero, List.set_cons_succ]
      refine wpAnyH_ready (rs := [11]) (by kernel_rfl) (by simp) ?_
      refine AllReadyH.cons (o := { dst := some 34, op := Op.call { callee := Callee.value (Operand.func 68), args := #[Operand.tmp 23, Operand.tmp 33], argTypes := #[49, 22] }, type := 42, pos := "interpolate.go:15", after := #[{ on := 0, ground := Ground.data }, { on := 10, ground := Ground.data }, { on := 10, ground := Ground.chain }], guard := none }) rfl (fun K hK => ?_) AllReadyH.nil
      rw [← HL.out]
      go_simp
      refine (inv_ok m L _ (by omega) HLB.out HUL.out).mono ?_
      rintro e w5 ⟨I, rfl, hI0, hI1, hI2, hg5⟩
      try dsimp only
      refine hK.out _ _ ⟨hg5.keeps hHeld.1, hg5.keeps hHeld.2.1, hg5.keeps hHeld.2.2.1, hg5.keeps hHeld.2.2.2⟩ (fun hHeld => ?_)
      clear hK K
      try simp only [Act.put, List.setIfInBounds_toArray, List.set_cons_zero, List.set_cons_succ]
      refine wpAnyH_take (i := 12) (oi := { dst := some 22, op := Op.move (Operand.tmp 34), type := 42, pos := "interpolate.go:15", after := #[{ on := 11, ground := Ground.data }], guard := none }) (v := ?_) rfl (by kernel_rfl) (by kernel_rfl) (by kernel_rfl) (fun _ _ _ h => h) (Or.inl ⟨by rfl, ?_⟩) (by assumption) ?_
      rotate_left
      · intro w hSw; (try dsimp only at hSw); obtain ⟨hS0, hS1, hS2, hS3⟩ := hSw; go_simp; try with_reducible rfl
      try simp only [Act.put, List.setIfInBounds_toArray, List.set_cons_zero, List.set_cons_succ]
      refine wpAnyH_take (i := 13) (oi := { dst := some 35, op := Op.extract (Operand.tmp 22) 0, type := 22, pos := "interpolate.go:15", after := #[{ on := 12, ground := Ground.data }], guard := none }) (v := ?_) rfl (by kernel_rfl) (by kernel_rfl) (by kernel_rfl) (fun _ _ _ h => h) (Or.inl ⟨by rfl, ?_⟩) (by assumption) ?_
      rotate_left
      · intro w hSw; (try dsimp only at hSw); obtain ⟨hS0, hS1, hS2, hS3⟩ := hSw; go_simp; try with_reducible rfl
      try simp only [Act.put, List.setIfInBounds_toArray, List.set_cons_zero, List.set_cons_succ]
      refine wpAnyH_take (i := 14) (oi := { dst := some 36, op := Op.extract (Operand.tmp 22) 1, type := 27, pos := "interpolate.go:15", after := #[{ on := 12, ground := Ground.data }, { on := 15, ground := Ground.gcOnly Departure.lateStores }], guard := none }) (v := ?_) rfl (by kernel_rfl) (by kernel_rfl) (by kernel_rfl) (fun _ _ _ h => h) (Or.inl ⟨by rfl, ?_⟩) (by assumption) ?_
      rotate_left
      · intro w hSw; (try dsimp only at hSw); obtain ⟨hS0, hS1, hS2, hS3⟩ := hSw; go_simp; try with_reducible rfl
      try simp only [Act.put, List.setIfInBounds_toArray, List.set_cons_zero, List.set_cons_succ]
      refine wpAnyH_take (i := 15) (oi := { dst := some 11, op := Op.assign (Operand.tmp 35), type := 22, pos := "interpolate.go:15", after := #[{ on := 13, ground := Ground.data }, { on := 11, ground := Ground.chain }, { on := 0, ground := Ground.phase }, { on := 1, ground := Ground.phase }, { on := 2, ground := Ground.phase }, { on := 3, ground := Ground.phase }, { on := 4, ground := Ground.phase }, { on := 5, ground := Ground.phase }, { on := 6, ground := Ground.phase }, { on := 7, ground := Ground.phase }, { on := 8, ground := Ground.phase }, { on := 9, ground := Ground.phase }, { on := 10, ground := Ground.phase }, { on := 11, ground := Ground.phase }, { on := 12, ground := Ground.phase }, { on := 13, ground := Ground.phase }, { on := 14, ground := Ground.textOnly Departure.lateStores }], guard := none }) (v := ?_) rfl (by kernel_rfl) (by kernel_rfl) (by kernel_rfl) (fun _ _ _ h => h) (Or.inl ⟨by rfl, ?_⟩) (by assumption) ?_
      rotate_left
      · intro w hSw; (try dsimp only at hSw); obtain ⟨hS0, hS1, hS2, hS3⟩ := hSw; go_simp; try with_reducible rfl
      try simp only [Act.put, List.setIfInBounds_toArray, List.set_cons_zero, List.set_cons_succ]
      refine wpAnyH_take (i := 16) (oi := { dst := some 12, op := Op.assign (Operand.tmp 36), type := 27, pos := "interpolate.go:15", after := #[{ on := 14, ground := Ground.data }, { on := 15, ground := Ground.chain }, { on := 0, ground := Ground.phase }, { on := 1, ground := Ground.phase }, { on := 2, ground := Ground.phase }, { on := 3, ground := Ground.phase }, { on := 4, ground := Ground.phase }, { on := 5, ground := Ground.phase }, { on := 6, ground := Ground.phase }, { on := 7, ground := Ground.phase }, { on := 8, ground := Ground.phase }, { on := 9, ground := Ground.phase }, { on := 10, ground := Ground.phase }, { on := 11, ground := Ground.phase }, { on := 12, ground := Ground.phase }, { on := 13, ground := Ground.phase }, { on := 14, ground := Ground.phase }, { on := 15, ground := Ground.phase }], guard := none }) (v := ?_) rfl (by kernel_rfl) (by kernel_rfl) (by kernel_rfl) (fun _ _ _ h => h) (Or.inl ⟨by rfl, ?_⟩) (by assumption) ?_
      rotate_left
      · intro w hSw; (try dsimp only at hSw); obtain ⟨hS0, hS1, hS2, hS3⟩ := hSw; go_simp; try with_reducible rfl
      try simp only [Act.put, List.setIfInBounds_toArray, List.set_cons_zero, List.set_cons_succ]
      refine wpAnyH_done (by kernel_rfl) ?_ _
      refine noOut_normal ?_
      have HLC0 := Lib.hid (show m ∣ L - (X - Y) from HLC1.out)
      have HGW := Lib.hid (show Gr W w5 from (show Gr W W.drew from Below.drew (Gr.refl W)).trans hg5)
      obtain ⟨rfl, hg4, hgb, hNc, hcv, -⟩ := HG.out hN0
      have HR5 := Lib.hid (HROW.out.later HGW.out)
      have HB5 := Lib.hid (HB.out.gr HGW.out)
      have hbm5 := HB5.out.1.cell
      have hb85 := HB5.out.2.2.2.2.cell
      have hcC := HR5.out.cell (j := i) (by rw [HLC.out]; exact hx2)
      have hcD := HR5.out.cell (j := j) (by rw [HLC.out]; omega)
      have hfC := HR5.out.frozen i
      have hCb := Op.rs_cf (show 0 < m by omega) HRS.out i
      have hDb := Op.rs_cf (show 0 < m by omega) HRS.out j
      obtain ⟨C, hC⟩ : ∃ C, C = Op.cf cs i := ⟨_, rfl⟩
      obtain ⟨D, hD⟩ : ∃ D, D = Op.cf cs j := ⟨_, rfl⟩
      rw [← hC] at hcC hCb
      rw [← hD] at hcD hDb
      have HCC := Lib.hid hC
      have HDD := Lib.hid hD
      obtain ⟨LL, hLL⟩ : ∃ LL, LL = (C + (m - 1) * D) % m := ⟨_, rfl⟩
      have HLL := Lib.hid hLL
      have hLLb : 0 ≤ LL ∧ LL < m := by rw [hLL]; exact ⟨Int.emod_nonneg _ (by omega), Int.emod_lt_of_pos _ (by omega)⟩
      have HLLC := Lib.hid (show m ∣ LL - (C - D) from by rw [hLL]; exact less_cg m C D)
      obtain ⟨V, hV⟩ : ∃ V, V = (0 + LL * I) % m := ⟨_, rfl⟩
      have HVV := Lib.hid hV
      have hVb : 0 ≤ V ∧ V < m := by rw [hV]; exact ⟨Int.emod_nonneg _ (by omega), Int.emod_lt_of_pos _ (by omega)⟩
      have HVVC := Lib.hid (show m ∣ V - LL * I from by rw [hV, Int.zero_add]; exact Op.dvd_mod m (LL * I))
      clear hC hD hLL hV hg5 hHeld hbm hbx hci hcj
      gi_wp2_with fail
      refine region_round (fun wz => wz.cell? ⟨w.heap.size, 0, none⟩ = some (.int .u32 m) ∧ wz.cell? ⟨b8, 0, none⟩ = some (.slice (some ⟨g, 0, none⟩) N cv)) (by kernel_rfl) (noDefer_spec (by kernel_rfl)) ⟨hbm5, hb85⟩ (fun hHeld => ?_)
      refine wpAnyH_take (i := 0) (oi := { dst := some 40, op := Op.load 23 (Operand.tmp 8), type := 23, pos := "interpolate.go:19", after := #[], guard := none }) (v := ?_) rfl (by kernel_rfl) (by kernel_rfl) (by kernel_rfl) (fun _ _ _ h => h) (Or.inl ⟨by rfl, ?_⟩) (by assumption) ?_
      rotate_left
      · intro w hSw; (try dsimp only at hSw); obtain ⟨hS0, hS1⟩ := hSw; go_simp; try with_reducible rfl
      try simp only [Act.put, List.setIfInBounds_toArray, List.set_cons_zero, List.set_cons_succ]
      refine wpAnyH_take (i := 1) (oi := { dst := some 41, op := Op.move (Operand.tmp 9), type := 3, pos := "interpolate.go:19", after := #[], guard := none }) (v := ?_) rfl (by kernel_rfl) (by kernel_rfl) (by kernel_rfl) (fun _ _ _ h => h) (Or.inl ⟨by rfl, ?_⟩) (by assumption) ?_
      rotate_left
      · intro w hSw; (try dsimp only at hSw); obtain ⟨hS0, hS1⟩ := hSw; go_simp; try with_reducible rfl
      try simp only [Act.put, List.setIfInBounds_toArray, List.set_cons_zero, List.set_cons_succ]
      refine wpAnyH_take (i := 2) (oi := { dst := some 42, op := Op.load 49 (Operand.tmp 3), type := 49, pos := "interpolate.go:19", after := #[], guard := none }) (v := ?_) rfl (by kernel_rfl) (by kernel_rfl) (by kernel_rfl) (fun _ _ _ h => h) (Or.inl ⟨by rfl, ?_⟩) (by assumption) ?_
      rotate_left
      · intro w hSw; (try dsimp only at hSw); obtain ⟨hS0, hS1⟩ := hSw; go_simp; try with_reducible rfl
      try simp only [Act.put, List.setIfInBounds_toArray, List.set_cons_zero, List.set_cons_succ]
      refine wpAnyH_take (i := 3) (oi := { dst := some 43, op := Op.load 49 (Operand.tmp 3), type := 49, pos := "interpolate.go:19", after := #[], guard := none }) (v := ?_) rfl (by kernel_rfl) (by kernel_rfl) (by kernel_rfl) (fun _ _ _ h => h) (Or.inl ⟨by rfl, ?_⟩) (by assumption) ?_
      rotate_left
      · intro w hSw; (try dsimp only at hSw); obtain ⟨hS0, hS1⟩ := hSw; go_simp; try with_reducible rfl
      try simp only [Act.put, List.setIfInBounds_toArray, List.set_cons_zero, List.set_cons_succ]
      refine wpAnyH_take (i := 4) (oi := { dst := some 44, op := Op.load 23 (Operand.tmp 8), type := 23, pos := "interpolate.go:19", after := #[], guard := none }) (v := ?_) rfl (by kernel_rfl) (by kernel_rfl) (by kernel_rfl) (fun _ _ _ h => h) (Or.inl ⟨by rfl, ?_⟩) (by assumption) ?_
      rotate_left
      · intro w hSw; (try dsimp only at hSw); obtain ⟨hS0, hS1⟩ := hSw; go_simp; try with_reducible rfl
      try simp only [Act.put, List.setIfInBounds_toArray, List.set_cons_zero, List.set_cons_succ]
      refine wpAnyH_take (i := 5) (oi := { dst := some 45, op := Op.move (Operand.tmp 9), type := 3, pos := "interpolate.go:19", after := #[], guard := none }) (v := ?_) rfl (by kernel_rfl) (by kernel_rfl) (by kernel_rfl) (fun _ _ _ h => h) (Or.inl ⟨by rfl, ?_⟩) (by assumption) ?_
      rotate_left
      · intro w hSw; (try dsimp only at hSw); obtain ⟨hS0, hS1⟩ := hSw; go_simp; try with_reducible rfl
      try simp only [Act.put, List.setIfInBounds_toArray, List.set_cons_zero, List.set_cons_succ]
      refine wpAnyH_take (i := 6) (oi := { dst := some 46, op := Op.indexAddr 23 (Operand.tmp 44) (Operand.tmp 45), type := 0, pos := "interpolate.go:19", after := #[{ on := 4, ground := Ground.data }, { on := 5, ground := Ground.data }], guard := none }) (v := ?_) rfl (by kernel_rfl) (by kernel_rfl) (by kernel_rfl) (fun _ _ _ h => h) (Or.inl ⟨by rfl, ?_⟩) (by assumption) ?_
      rotate_left
      · intro w hSw; (try dsimp only at hSw); obtain ⟨hS0, hS1⟩ := hSw; go_simp; try with_reducible rfl
      try simp only [Act.put, List.setIfInBounds_toArray, List.set_cons_zero, List.set_cons_succ]
      refine wpAnyH_take (i := 8) (oi := { dst := some 48, op := Op.load 23 (Operand.tmp 8), type := 23, pos := "interpolate.go:19", after := #[], guard := none }) (v := ?_) rfl (by kernel_rfl) (by kernel_rfl) (by kernel_rfl) (fun _ _ _ h => h) (Or.inl ⟨by rfl, ?_⟩) (by assumption) ?_
      rotate_left
      · intro w hSw; (try dsimp only at hSw); obtain ⟨hS0, hS1⟩ := hSw; go_simp; try with_reducible rfl
      try simp only [Act.put, List.setIfInBounds_toArray, List.set_cons_zero, List.set_cons_succ]
      refine wpAnyH_take (i := 9) (oi := { dst := some 49, op := Op.move (Operand.tmp 10), type := 3, pos := "interpolate.go:19", after := #[], guard := none }) (v := ?_) rfl (by kernel_rfl) (by kernel_rfl) (by kernel_rfl) (fun _ _ _ h => h) (Or.inl ⟨by rfl, ?_⟩) (by assumption) ?_
      rotate_left
      · intro w hSw; (try dsimp only at hSw); obtain ⟨hS0, hS1⟩ := hSw; go_simp; try with_reducible rfl
      try simp only [Act.put, List.setIfInBounds_toArray, List.set_cons_zero, List.set_cons_succ]
      refine wpAnyH_take (i := 10) (oi := { dst := some 50, op := Op.indexAddr 23 (Operand.tmp 48) (Operand.tmp 49), type := 0, pos := "interpolate.go:19", after := #[{ on := 8, ground := Ground.data }, { on := 9, ground := Ground.data }], guard := none }) (v := ?_) rfl (by kernel_rfl) (by kernel_rfl) (by kernel_rfl) (fun _ _ _ h => h) (Or.inl ⟨by rfl, ?_⟩) (by assumption) ?_
      rotate_left
      · intro w hSw; (try dsimp only at hSw); obtain ⟨hS0, hS1⟩ := hSw; go_simp; try with_reducible rfl
      try simp only [Act.put, List.setIfInBounds_toArray, List.set_cons_zero, List.set_cons_succ]
      refine wpAnyH_take (i := 13) (oi := { dst := some 53, op := Op.move (Operand.tmp 11), type := 22, pos := "interpolate.go:19", after := #[], guard := none }) (v := ?_) rfl (by kernel_rfl) (by kernel_rfl) (by kernel_rfl) (fun _ _ _ h => h) (Or.inl ⟨by rfl, ?_⟩) (by assumption) ?_
      rotate_left
      · intro w hSw; (try dsimp only at hSw); obtain ⟨hS0, hS1⟩ := hSw; go_simp; try with_reducible rfl
      try simp only [Act.put, List.setIfInBounds_toArray, List.set_cons_zero, List.set_cons_succ]
      refine wpAnyH_ready (rs := [7, 11]) (by kernel_rfl) (by simp) ?_
      refine AllReadyH.cons (o := { dst := some 47, op := Op.load 22 (Operand.tmp 46), type := 22, pos := "interpolate.go:19", after := #[{ on := 6, ground := Ground.data }], guard := none }) rfl (fun K hK => ?_) ?_
      · go_simp
        refine hK.out _ _ hHeld (fun hHeld => ?_)
        clear hK K
        try simp only [Act.put, List.setIfInBounds_toArray, List.set_cons_zero, List.set_cons_succ]
        refine wpAnyH_ready (rs := [11]) (by kernel_rfl) (by simp) ?_
        refine AllReadyH.cons (o := { dst := some 51, op := Op.load 22 (Operand.tmp 50), type := 22, pos := "interpolate.go:19", after := #[{ on := 10, ground := Ground.data }], guard := none }) rfl (fun K hK => ?_) AllReadyH.nil
        go_simp
        refine hK.out _ _ hHeld (fun hHeld => ?_)
        clear hK K
        try simp only [Act.put, List.setIfInBounds_toArray, List.set_cons_zero, List.set_cons_succ]
        refine wpAnyH_ready (rs := [12]) (by kernel_rfl) (by simp) ?_
        refine AllReadyH.cons (o := { dst := some 52, op := Op.call { callee := Callee.value (Operand.func 70), args := #[Operand.tmp 43, Operand.tmp 47, Operand.tmp 51], argTypes := #[49, 22, 22] }, type := 22, pos := "interpolate.go:19", after := #[{ on := 3, ground := Ground.data }, { on := 7, ground := Ground.data }, { on := 11, ground := Ground.data }], guard := none }) rfl (fun K hK => ?_) AllReadyH.nil
        go_simp
        refine (less_any m C D _ (by omega) (by omega) (by omega)).mono ?_
        rintro e w' ⟨rfl, rfl⟩
        try dsimp only
        refine hK.out _ _ hHeld (fun hHeld => ?_)
        clear hK K
        try simp only [Act.put, List.setIfInBounds_toArray, List.set_cons_zero, List.set_cons_succ]
        refine wpAnyH_ready (rs := [14]) (by kernel_rfl) (by simp) ?_
        refine AllReadyH.cons (o := { dst := some 54, op := Op.call { callee := Callee.value (Operand.func 69), args := #[Operand.tmp 42, Operand.const (Value.int IntKind.u32 0), Operand.tmp 52, Operand.tmp 53], argTypes := #[49, 22, 22, 22] }, type := 22, pos := "interpolate.go:19", after := #[{ on := 2, ground := Ground.data }, { on := 12, ground := Ground.data }, { on := 13, ground := Ground.data }, { on := 12, ground := Ground.chain }], guard := none }) rfl (fun K hK => ?_) AllReadyH.nil
        rw [← HLL.out]
        go_simp
        refine (plus_any m 0 LL I _ (by omega) (by omega) (by omega) (by omega)).mono ?_
        rintro e w' ⟨rfl, rfl⟩
        try dsimp only
        refine hK.out _ _ hHeld (fun hHeld => ?_)
        clear hK K
        try simp only [Act.put, List.setIfInBounds_toArray, List.set_cons_zero, List.set_cons_succ]
        rw [← HVV.out]
        refine wpAnyH_take (i := 15) (oi := { dst := some 55, op := Op.indexAddr 23 (Operand.tmp 40) (Operand.tmp 41), type := 0, pos := "interpolate.go:19", after := #[{ on := 0, ground := Ground.data }, { on := 1, ground := Ground.data }, { on := 0, ground := Ground.phase }, { on := 1, ground := Ground.phase }, { on := 2, ground := Ground.phase }, { on := 3, ground := Ground.phase }, { on := 4, ground := Ground.phase }, { on := 5, ground := Ground.phase }, { on := 6, ground := Ground.phase }, { on := 7, ground := Ground.phase }, { on := 8, ground := Ground.phase }, { on := 9, ground := Ground.phase }, { on := 10, ground := Ground.phase }, { on := 11, ground := Ground.phase }, { on := 12, ground := Ground.phase }, { on := 13, ground := Ground.phase }, { on := 14, ground := Ground.phase }], guard := none }) (v := ?_) rfl (by kernel_rfl) (by kernel_rfl) (by kernel_rfl) (fun _ _ _ h => h) (Or.inl ⟨by rfl, ?_⟩) (by assumption) ?_
        rotate_left
        · intro w hSw; (try dsimp only at hSw); obtain ⟨hS0, hS1⟩ := hSw; go_simp; try with_reducible rfl
        try simp only [Act.put, List.setIfInBounds_toArray, List.set_cons_zero, List.set_cons_succ]
        refine wpAnyH_ready (rs := [16]) (by kernel_rfl) (by simp) ?_
        refine AllReadyH.cons (o := { dst := none, op := Op.store 22 (Operand.tmp 55) (Operand.tmp 54), type := 0, pos := "interpolate.go:19", after := #[{ on := 15, ground := Ground.data }, { on := 14, ground := Ground.data }, { on := 14, ground := Ground.chain }, { on := 0, ground := Ground.phase }, { on := 1, ground := Ground.phase }, { on := 2, ground := Ground.phase }, { on := 3, ground := Ground.phase }, { on := 4, ground := Ground.phase }, { on := 5, ground := Ground.phase }, { on := 6, ground := Ground.phase }, { on := 7, ground := Ground.phase }, { on := 8, ground := Ground.phase }, { on := 9, ground := Ground.phase }, { on := 10, ground := Ground.phase }, { on := 11, ground := Ground.phase }, { on := 12, ground := Ground.phase }, { on := 13, ground := Ground.phase }, { on := 14, ground := Ground.phase }], guard := none }) rfl (fun K hK => ?_) AllReadyH.nil
        go_simp
        refine hK.out _ _ ⟨cs_far hHeld.1 (show g ≠ w.heap.size by omega), cs_far hHeld.2 (show g ≠ b8 by omega)⟩ (fun hHeld => ?_)
        clear hK K
        try simp only [Act.put, List.setIfInBounds_toArray, List.set_cons_zero, List.set_cons_succ]
        refine wpAnyH_done (by kernel_rfl) ?_ _
        refine noOut_normal ?_
        gi_wp2
        have hU : Upd g i [V] w5 ((w5.drew).setCell ⟨g, i, none⟩ (.int .u32 V)) := by
          obtain ⟨_, cur, h1, h2, _⟩ := HR5.out
          have h := (Upd.start (o := i) h1 (by rw [HLC.out] at h2; omega)).step (k := 0) (d := V) rfl (v := .int .u32 C) (by rw [Nat.add_zero]; exact hcC)
          rw [Nat.add_zero] at h
          exact ⟨h.os, h.tape, h.output, h.size, h.block, h.row⟩
        refine ⟨?_, trivial, ⟨⟨put cs i [V], ?_, ?_, ?_, ?_⟩, ?_, ?_⟩, ?_⟩
        · exact (gr_from (HGW.out.drew)).trans ((KeepsOthers.setCell _ _ _).from _)
        · rw [Op.came_snoc]
          have ex : x.1 = (i, j) := by rw [HI.out, HJ.out]
          rw [ex]
          exact ⟨cs, V, HRN.out, rfl, by rw [HI.out, HJ.out, ← HXX.out, ← HYY.out, ← HI.out, ← HJ.out, ← HCC.out, ← HDD.out]; exact newt HLC0.out hI2 HLLC.out HVVC.out⟩
        · exact Op.rs_put HRS.out (fun y hy => by simp at hy; subst hy; omega)
        · rw [put_len (by rw [HLC.out]; simp; omega)]; exact HLC.out
        · intro _
          exact HR5.out.upd hU (U32.one (by omega)) (by rw [HLC.out]; simp; omega)
        · intro y hy
          rcases List.mem_append.1 hy with hy | hy
          · exact HUN.out y hy
          · obtain rfl : y = x := by simpa using hy
            rw [← HXX.out, ← HYY.out]; exact HUN2.out
        · exact (HB.out.gr HGW.out).upd hU (by omega) (by omega)
        · exact hU.gr (HBL.out.trans (HGW.out.mono HBL.out.size)) (by omega)
      · refine AllReadyH.cons (o := { dst := some 51, op := Op.load 22 (Operand.tmp 50), type := 22, pos := "interpolate.go:19", after := #[{ on := 10, ground := Ground.data }], guard := none }) rfl (fun K hK => ?_) AllReadyH.nil
        go_simp
        refine hK.out _ _ hHeld (fun hHeld => ?_)
        clear hK K
        try simp only [Act.put, List.setIfInBounds_toArray, List.set_cons_zero, List.set_cons_succ]
        refine wpAnyH_ready (rs := [7]) (by kernel_rfl) (by simp) ?_
        refine AllReadyH.cons (o := { dst := some 47, op := Op.load 22 (Operand.tmp 46), type := 22, pos := "interpolate.go:19", after := #[{ on := 6, ground := Ground.data }], guard := none }) rfl (fun K hK => ?_) AllReadyH.nil
        go_simp
        refine hK.out _ _ hHeld (fun hHeld => ?_)
        clear hK K
        try simp only [Act.put, List.setIfInBounds_toArray, List.set_cons_zero, List.set_cons_succ]
        refine wpAnyH_ready (rs := [12]) (by kernel_rfl) (by simp) ?_
        refine AllReadyH.cons (o := { dst := some 52, op := Op.call { callee := Callee.value (Operand.func 70), args := #[Operand.tmp 43, Operand.tmp 47, Operand.tmp 51], argTypes := #[49, 22, 22] }, type := 22, pos := "interpolate.go:19", after := #[{ on := 3, ground := Ground.data }, { on := 7, ground := Ground.data }, { on := 11, ground := Ground.data }], guard := none }) rfl (fun K hK => ?_) AllReadyH.nil
        go_simp
        refine (less_any m C D _ (by omega) (by omega) (by omega)).mono ?_
        rintro e w' ⟨rfl, rfl⟩
        try dsimp only
        refine hK.out _ _ hHeld (fun hHeld => ?_)
        clear hK K
        try simp only [Act.put, List.setIfInBounds_toArray, List.set_cons_zero, List.set_cons_succ]
        refine wpAnyH_ready (rs := [14]) (by kernel_rfl) (by simp) ?_
        refine AllReadyH.cons (o := { dst := some 54, op := Op.call { callee := Callee.value (Operand.func 69), args := #[Operand.tmp 42, Operand.const (Value.int IntKind.u32 0), Operand.tmp 52, Operand.tmp 53], argTypes := #[49, 22, 22, 22] }, type := 22, pos := "interpolate.go:19", after := #[{ on := 2, ground := Ground.data }, { on := 12, ground := Ground.data }, { on := 13, ground := Ground.data }, { on := 12, ground := Ground.chain }], guard := none }) rfl (fun K hK => ?_) AllReadyH.nil
        rw [← HLL.out]
        go_simp
        refine (plus_any m 0 LL I _ (by omega) (by omega) (by omega) (by omega)).mono ?_
        rintro e w' ⟨rfl, rfl⟩
        try dsimp only
        refine hK.out _ _ hHeld (fun hHeld => ?_)
        clear hK K
        try simp only [Act.put, List.setIfInBounds_toArray, List.set_cons_zero, List.set_cons_succ]
        rw [← HVV.out]
        refine wpAnyH_take (i := 15) (oi := { dst := some 55, op := Op.indexAddr 23 (Operand.tmp 40) (Operand.tmp 41), type := 0, pos := "interpolate.go:19", after := #[{ on := 0, ground := Ground.data }, { on := 1, ground := Ground.data }, { on := 0, ground := Ground.phase }, { on := 1, ground := Ground.phase }, { on := 2, ground := Ground.phase }, { on := 3, ground := Ground.phase }, { on := 4, ground := Ground.phase }, { on := 5, ground := Ground.phase }, { on := 6, ground := Ground.phase }, { on := 7, ground := Ground.phase }, { on := 8, ground := Ground.phase }, { on := 9, ground := Ground.phase }, { on := 10, ground := Ground.phase }, { on := 11, ground := Ground.phase }, { on := 12, ground := Ground.phase }, { on := 13, ground := Ground.phase }, { on := 14, ground := Ground.phase }], guard := none }) (v := ?_) rfl (by kernel_rfl) (by kernel_rfl) (by kernel_rfl) (fun _ _ _ h => h) (Or.inl ⟨by rfl, ?_⟩) (by assumption) ?_
        rotate_left
        · intro w hSw; (try dsimp only at hSw); obtain ⟨hS0, hS1⟩ := hSw; go_simp; try with_reducible rfl
        try simp only [Act.put, List.setIfInBounds_toArray, List.set_cons_zero, List.set_cons_succ]
        refine wpAnyH_ready (rs := [16]) (by kernel_rfl) (by simp) ?_
        refine AllReadyH.cons (o := { dst := none, op := Op.store 22 (Operand.tmp 55) (Operand.tmp 54), type := 0, pos := "interpolate.go:19", after := #[{ on := 15, ground := Ground.data }, { on := 14, ground := Ground.data }, { on := 14, ground := Ground.chain }, { on := 0, ground := Ground.phase }, { on := 1, ground := Ground.phase }, { on := 2, ground := Ground.phase }, { on := 3, ground := Ground.phase }, { on := 4, ground := Ground.phase }, { on := 5, ground := Ground.phase }, { on := 6, ground := Ground.phase }, { on := 7, ground := Ground.phase }, { on := 8, ground := Ground.phase }, { on := 9, ground := Ground.phase }, { on := 10, ground := Ground.phase }, { on := 11, ground := Ground.phase }, { on := 12, ground := Ground.phase }, { on := 13, ground := Ground.phase }, { on := 14, ground := Ground.phase }], guard := none }) rfl (fun K hK => ?_) AllReadyH.nil
        go_simp
        refine hK.out _ _ ⟨cs_far hHeld.1 (show g ≠ w.heap.size by omega), cs_far hHeld.2 (show g ≠ b8 by omega)⟩ (fun hHeld => ?_)
        clear hK K
        try simp only [Act.put, List.setIfInBounds_toArray, List.set_cons_zero, List.set_cons_succ]
        refine wpAnyH_done (by kernel_rfl) ?_ _
        refine noOut_normal ?_
        gi_wp2
        have hU : Upd g i [V] w5 ((w5.drew).setCell ⟨g, i, none⟩ (.int .u32 V)) := by
          obtain ⟨_, cur, h1, h2, _⟩ := HR5.out
          have h := (Upd.start (o := i) h1 (by rw [HLC.out] at h2; omega)).step (k := 0) (d := V) rfl (v := .int .u32 C) (by rw [Nat.add_zero]; exact hcC)
          rw [Nat.add_zero] at h
          exact ⟨h.os, h.tape, h.output, h.size, h.block, h.row⟩
        refine ⟨?_, trivial, ⟨⟨put cs i [V], ?_, ?_, ?_, ?_⟩, ?_, ?_⟩, ?_⟩
        · exact (gr_from (HGW.out.drew)).trans ((KeepsOthers.setCell _ _ _).from _)
        · rw [Op.came_snoc]
          have ex : x.1 = (i, j) := by rw [HI.out, HJ.out]
          rw [ex]
          exact ⟨cs, V, HRN.out, rfl, by rw [HI.out, HJ.out, ← HXX.out, ← HYY.out, ← HI.out, ← HJ.out, ← HCC.out, ← HDD.out]; exact newt HLC0.out hI2 HLLC.out HVVC.out⟩
        · exact Op.rs_put HRS.out (fun y hy => by simp at hy; subst hy; omega)
        · rw [put_len (by rw [HLC.out]; simp; omega)]; exact HLC.out
        · intro _
          exact HR5.out.upd hU (U32.one (by omega)) (by rw [HLC.out]; simp; omega)
        · intro y hy
          rcases List.mem_append.1 hy with hy | hy
          · exact HUN.out y hy
          · obtain rfl : y = x := by simpa using hy
            rw [← HXX.out, ← HYY.out]; exact HUN2.out
        · exact (HB.out.gr HGW.out).upd hU (by omega) (by omega)
        · exact hU.gr (HBL.out.trans (HGW.out.mono HBL.out.size)) (by omega)
    · have HUL := Lib.hid (show ¬ Op.Un m L from fun h => hun (h.cg HLC1.out))
      have HUN2 := Lib.hid hun
      clear hun
      refine region_round (fun wz => wz.cell? ⟨w.heap.size, 0, none⟩ = some (.int .u32 m) ∧ wz.cell? ⟨w.heap.size + 1, 0, none⟩ = some (.slice (some ⟨gx, ox, none⟩) N cx) ∧ wz.cell? ⟨gx, ox + i, none⟩ = some (.int .u32 X) ∧ wz.cell? ⟨gx, ox + j, none⟩ = some (.int .u32 Y)) (by kernel_rfl) (noDefer_spec (by kernel_rfl)) ⟨hbm, hbx, hci, hcj⟩ (fun hHeld => ?_)
      refine wpAnyH_take (i := 0) (oi := { dst := some 23, op := Op.load 49 (Operand.tmp 3), type := 49, pos := "interpolate.go:15", after := #[], guard := none }) (v := ?_) rfl (by kernel_rfl) (by kernel_rfl) (by kernel_rfl) (fun _ _ _ h => h) (Or.inl ⟨by rfl, ?_⟩) (by assumption) ?_
      rotate_left
      · intro w hSw; (try dsimp only at hSw); obtain ⟨hS0, hS1, hS2, hS3⟩ := hSw; go_simp; try with_reducible rfl
      try simp only [Act.put, List.setIfInBounds_toArray, List.set_cons_zero, List.set_cons_succ]
      refine wpAnyH_take (i := 1) (oi := { dst := some 24, op := Op.load 49 (Operand.tmp 3), type := 49, pos := "interpolate.go:15", after := #[], guard := none }) (v := ?_) rfl (by kernel_rfl) (by kernel_rfl) (by kernel_rfl) (fun _ _ _ h => h) (Or.inl ⟨by rfl, ?_⟩) (by assumption) ?_
      rotate_left
      · intro w hSw; (try dsimp only at hSw); obtain ⟨hS0, hS1, hS2, hS3⟩ := hSw; go_simp; try with_reducible rfl
      try simp only [Act.put, List.setIfInBounds_toArray, List.set_cons_zero, List.set_cons_succ]
      refine wpAnyH_take (i := 2) (oi := { dst := some 25, op := Op.load 23 (Operand.tmp 4), type := 23, pos := "interpolate.go:15", after := #[], guard := none }) (v := ?_) rfl (by kernel_rfl) (by kernel_rfl) (by kernel_rfl) (fun _ _ _ h => h) (Or.inl ⟨by rfl, ?_⟩) (by assumption) ?_
      rotate_left
      · intro w hSw; (try dsimp only at hSw); obtain ⟨hS0, hS1, hS2, hS3⟩ := hSw; go_simp; try with_reducible rfl
      try simp only [Act.put, List.setIfInBounds_toArray, List.set_cons_zero, List.set_cons_succ]
      refine wpAnyH_take (i := 3) (oi := { dst := some 26, op := Op.move (Operand.tmp 9), type := 3, pos := "interpolate.go:15", after := #[], guard := none }) (v := ?_) rfl (by kernel_rfl) (by kernel_rfl) (by kernel_rfl) (fun _ _ _ h => h) (Or.inl ⟨by rfl, ?_⟩) (by assumption) ?_
      rotate_left
      · intro w hSw; (try dsimp only at hSw); obtain ⟨hS0, hS1, hS2, hS3⟩ := hSw; go_simp; try with_reducible rfl
      try simp only [Act.put, List.setIfInBounds_toArray, List.set_cons_zero, List.set_cons_succ]
      refine wpAnyH_take (i := 4) (oi := { dst := some 27, op := Op.indexAddr 23 (Operand.tmp 25) (Operand.tmp 26), type := 0, pos := "interpolate.go:15", after := #[{ on := 2, ground := Ground.data }, { on := 3, ground := Ground.data }], guard := none }) (v := ?_) rfl (by kernel_rfl) (by kernel_rfl) (by kernel_rfl) (fun _ _ _ h => h) (Or.inl ⟨by rfl, ?_⟩) (by assumption) ?_
      rotate_left
      · intro w hSw; (try dsimp only at hSw); obtain ⟨hS0, hS1, hS2, hS3⟩ := hSw; go_simp; try with_reducible rfl
      try simp only [Act.put, List.setIfInBounds_toArray, List.set_cons_zero, List.set_cons_succ]
      refine wpAnyH_take (i := 5) (oi := { dst := some 28, op := Op.load 22 (Operand.tmp 27), type := 22, pos := "interpolate.go:15", after := #[{ on := 4, ground := Ground.data }], guard := none }) (v := ?_) rfl (by kernel_rfl) (by kernel_rfl) (by kernel_rfl) (fun _ _ _ h => h) (Or.inl ⟨by rfl, ?_⟩) (by assumption) ?_
      rotate_left
      · intro w hSw; (try dsimp only at hSw); obtain ⟨hS0, hS1, hS2, hS3⟩ := hSw; go_simp; try with_reducible rfl
      try simp only [Act.put, List.setIfInBounds_toArray, List.set_cons_zero, List.set_cons_succ]
      refine wpAnyH_take (i := 6) (oi := { dst := some 29, op := Op.load 23 (Operand.tmp 4), type := 23, pos := "interpolate.go:15", after := #[], guard := none }) (v := ?_) rfl (by kernel_rfl) (by kernel_rfl) (by kernel_rfl) (fun _ _ _ h => h) (Or.inl ⟨by rfl, ?_⟩) (by assumption) ?_
      rotate_left
      · intro w hSw; (try dsimp only at hSw); obtain ⟨hS0, hS1, hS2, hS3⟩ := hSw; go_simp; try with_reducible rfl
      try simp only [Act.put, List.setIfInBounds_toArray, List.set_cons_zero, List.set_cons_succ]
      refine wpAnyH_take (i := 7) (oi := { dst := some 30, op := Op.move (Operand.tmp 10), type := 3, pos := "interpolate.go:15", after := #[], guard := none }) (v := ?_) rfl (by kernel_rfl) (by kernel_rfl) (by kernel_rfl) (fun _ _ _ h => h) (Or.inl ⟨by rfl, ?_⟩) (by assumption) ?_
      rotate_left
      · intro w hSw; (try dsimp only at hSw); obtain ⟨hS0, hS1, hS2, hS3⟩ := hSw; go_simp; try with_reducible rfl
      try simp only [Act.put, List.setIfInBounds_toArray, List.set_cons_zero, List.set_cons_succ]
      refine wpAnyH_take (i := 8) (oi := { dst := some 31, op := Op.indexAddr 23 (Operand.tmp 29) (Operand.tmp 30), type := 0, pos := "interpolate.go:15", after := #[{ on := 6, ground := Ground.data }, { on := 7, ground := Ground.data }], guard := none }) (v := ?_) rfl (by kernel_rfl) (by kernel_rfl) (by kernel_rfl) (fun _ _ _ h => h) (Or.inl ⟨by rfl, ?_⟩) (by assumption) ?_
      rotate_left
      · intro w hSw; (try dsimp only at hSw); obtain ⟨hS0, hS1, hS2, hS3⟩ := hSw; go_simp; try with_reducible rfl
      try simp only [Act.put, List.setIfInBounds_toArray, List.set_cons_zero, List.set_cons_succ]
      refine wpAnyH_take (i := 9) (oi := { dst := some 32, op := Op.load 22 (Operand.tmp 31), type := 22, pos := "interpolate.go:15", after := #[{ on := 8, ground := Ground.data }], guard := none }) (v := ?_) rfl (by kernel_rfl) (by kernel_rfl) (by kernel_rfl) (fun _ _ _ h => h) (Or.inl ⟨by rfl, ?_⟩) (by assumption) ?_
      rotate_left
      · intro w hSw; (try dsimp only at hSw); obtain ⟨hS0, hS1, hS2, hS3⟩ := hSw; go_simp; try with_reducible rfl
      try simp only [Act.put, List.setIfInBounds_toArray, List.set_cons_zero, List.set_cons_succ]
      refine wpAnyH_ready (rs := [10]) (by kernel_rfl) (by simp) ?_
      refine AllReadyH.cons (o := { dst := some 33, op := Op.call { callee := Callee.value (Operand.func 70), args := #[Operand.tmp 24, Operand.tmp 28, Operand.tmp 32], argTypes := #[49, 22, 22] }, type := 22, pos := "interpolate.go:15", after := #[{ on := 1, ground := Ground.data }, { on := 5, ground := Ground.data }, { on := 9, ground := Ground.data }], guard := none }) rfl (fun K hK => ?_) AllReadyH.nil
      go_simp
      refine (less_any m X Y _ (by omega) (by omega) (by omega)).mono ?_
      rintro e w' ⟨rfl, rfl⟩
      try dsimp only
      refine hK.out _ _ hHeld (fun hHeld => ?_)
      clear hK K
      try simp only [Act.put, List.setIfInBounds_toArray, List.set_cons_zero, List.set_cons_succ]
      refine wpAnyH_ready (rs := [11]) (by kernel_rfl) (by simp) ?_
      refine AllReadyH.cons (o := { dst := some 34, op := Op.call { callee := Callee.value (Operand.func 68), args := #[Operand.tmp 23, Operand.tmp 33], argTypes := #[49, 22] }, type := 42, pos := "interpolate.go:15", after := #[{ on := 0, ground := Ground.data }, { on := 10, ground := Ground.data }, { on := 10, ground := Ground.chain }], guard := none }) rfl (fun K hK => ?_) AllReadyH.nil
      rw [← HL.out]
      go_simp
      refine (inv_none m L _ (by omega) HLB.out HUL.out).mono ?_
      rintro e w5 ⟨rfl, hg5⟩
      try dsimp only
      refine hK.out _ _ ⟨hg5.keeps hHeld.1, hg5.keeps hHeld.2.1, hg5.keeps hHeld.2.2.1, hg5.keeps hHeld.2.2.2⟩ (fun hHeld => ?_)
      clear hK K
      try simp only [Act.put, List.setIfInBounds_toArray, List.set_cons_zero, List.set_cons_succ]
      refine wpAnyH_take (i := 12) (oi := { dst := some 22, op := Op.move (Operand.tmp 34), type := 42, pos := "interpolate.go:15", after := #[{ on := 11, ground := Ground.data }], guard := none }) (v := ?_) rfl (by kernel_rfl) (by kernel_rfl) (by kernel_rfl) (fun _ _ _ h => h) (Or.inl ⟨by rfl, ?_⟩) (by assumption) ?_
      rotate_left
      · intro w hSw; (try dsimp only at hSw); obtain ⟨hS0, hS1, hS2, hS3⟩ := hSw; go_simp; try with_reducible rfl
      try simp only [Act.put, List.setIfInBounds_toArray, List.set_cons_zero, List.set_cons_succ]
      refine wpAnyH_take (i := 13) (oi := { dst := some 35, op := Op.extract (Operand.tmp 22) 0, type := 22, pos := "interpolate.go:15", after := #[{ on := 12, ground := Ground.data }], guard := none }) (v := ?_) rfl (by kernel_rfl) (by kernel_rfl) (by kernel_rfl) (fun _ _ _ h => h) (Or.inl ⟨by rfl, ?_⟩) (by assumption) ?_
      rotate_left
      · intro w hSw; (try dsimp only at hSw); obtain ⟨hS0, hS1, hS2, hS3⟩ := hSw; go_simp; try with_reducible rfl
      try simp only [Act.put, List.setIfInBounds_toArray, List.set_cons_zero, List.set_cons_succ]
      refine wpAnyH_take (i := 14) (oi := { dst := some 36, op := Op.extract (Operand.tmp 22) 1, type := 27, pos := "interpolate.go:15", after := #[{ on := 12, ground := Ground.data }, { on := 15, ground := Ground.gcOnly Departure.lateStores }], guard := none }) (v := ?_) rfl (by kernel_rfl) (by kernel_rfl) (by kernel_rfl) (fun _ _ _ h => h) (Or.inl ⟨by rfl, ?_⟩) (by assumption) ?_
      rotate_left
      · intro w hSw; (try dsimp only at hSw); obtain ⟨hS0, hS1, hS2, hS3⟩ := hSw; go_simp; try with_reducible rfl
      try simp only [Act.put, List.setIfInBounds_toArray, List.set_cons_zero, List.set_cons_succ]
      refine wpAnyH_take (i := 15) (oi := { dst := some 11, op := Op.assign (Operand.tmp 35), type := 22, pos := "interpolate.go:15", after := #[{ on := 13, ground := Ground.data }, { on := 11, ground := Ground.chain }, { on := 0, ground := Ground.phase }, { on := 1, ground := Ground.phase }, { on := 2, ground := Ground.phase }, { on := 3, ground := Ground.phase }, { on := 4, ground := Ground.phase }, { on := 5, ground := Ground.phase }, { on := 6, ground := Ground.phase }, { on := 7, ground := Ground.phase }, { on := 8, ground := Ground.phase }, { on := 9, ground := Ground.phase }, { on := 10, ground := Ground.phase }, { on := 11, ground := Ground.phase }, { on := 12, ground := Ground.phase }, { on := 13, ground := Ground.phase }, { on := 14, ground := Ground.textOnly Departure.lateStores }], guard := none }) (v := ?_) rfl (by kernel_rfl) (by kernel_rfl) (by kernel_rfl) (fun _ _ _ h => h) (Or.inl ⟨by rfl, ?_⟩) (by assumption) ?_
      rotate_left
      · intro w hSw; (try dsimp only at hSw); obtain ⟨hS0, hS1, hS2, hS3⟩ := hSw; go_simp; try with_reducible rfl
      try simp only [Act.put, List.setIfInBounds_toArray, List.set_cons_zero, List.set_cons_succ]
      refine wpAnyH_take (i := 16) (oi := { dst := some 12, op := Op.assign (Operand.tmp 36), type := 27, pos := "interpolate.go:15", after := #[{ on := 14, ground := Ground.data }, { on := 15, ground := Ground.chain }, { on := 0, ground := Ground.phase }, { on := 1, ground := Ground.phase }, { on := 2, ground := Ground.phase }, { on := 3, ground := Ground.phase }, { on := 4, ground := Ground.phase }, { on := 5, ground := Ground.phase }, { on := 6, ground := Ground.phase }, { on := 7, ground := Ground.phase }, { on := 8, ground := Ground.phase }, { on := 9, ground := Ground.phase }, { on := 10, ground := Ground.phase }, { on := 11, ground := Ground.phase }, { on := 12, ground := Ground.phase }, { on := 13, ground := Ground.phase }, { on := 14, ground := Ground.phase }, { on := 15, ground := Ground.phase }], guard := none }) (v := ?_) rfl (by kernel_rfl) (by kernel_rfl) (by kernel_rfl) (fun _ _ _ h => h) (Or.inl ⟨by rfl, ?_⟩) (by assumption) ?_
      rotate_left
      · intro w hSw; (try dsimp only at hSw); obtain ⟨hS0, hS1, hS2, hS3⟩ := hSw; go_simp; try with_reducible rfl
      try simp only [Act.put, List.setIfInBounds_toArray, List.set_cons_zero, List.set_cons_succ]
      refine wpAnyH_done (by kernel_rfl) ?_ _
      refine noOut_normal ?_
      have HGW := Lib.hid (show Gr W w5 from (show Gr W W.drew from Below.drew (Gr.refl W)).trans hg5)
      have hau : ¬ Op.Au m xs := fun h => HUN2.out (by
        have h1 := h i (by rw [← HN.out]; exact hx2) j hx1
        rw [HXX.out, HYY.out, ← HI.out, ← HJ.out]; exact h1)
      have HAU := Lib.hid hau
      obtain ⟨v2, k2'⟩ := HB.out.2.2.1
      obtain ⟨v3, k3'⟩ := HB.out.2.2.2.1
      have k2 := boxed_gr k2' HGW.out
      have k3 := boxed_gr k3' HGW.out
      have hb1 : Below w.heap.size w w5 := HBL.out.trans (HGW.out.mono HBL.out.size)
      have c2 := k2.cell
      have c3 := k3.cell
      have f2 := k2.frozen
      have f3 := k3.frozen
      clear hau hg5 hHeld hbm hbx hci hcj k2' k3'
      gi_wp2
      refine ⟨?_, ⟨rfl, HAU.out, ?_, ?_⟩, ?_⟩
      · exact ((gr_from HGW.out).trans ((KeepsOthers.setCell _ _ _).from _)).trans ((KeepsOthers.setCell _ _ _).from _)
      · exact (k2.set _).other (by simp) _
      · exact (k3.other (by simp) _).set _
      · exact (hb1.setCell (p := ⟨w.heap.size + 2, 0, none⟩) (by simp) _).setCell (p := ⟨w.heap.size + 3, 0, none⟩) (by simp) _
  case done =>
    rintro D ps W hD hall ⟨⟨⟨cs, hrn, hrs, hlc, hrow⟩, hun, hB⟩, hb⟩ hK
    have hm2 : 2 ≤ m := HM.out.1
    have hm3 : m ≤ 2147483647 := HM.out.2
    rw [hall] at hrn
    have HAU := Lib.hid (show Op.Au m xs from fun i hi j hj => by
      have h1 := mem_psq N i j (by rw [HN.out]; exact hi) hj
      rw [← hall, Op.came, List.mem_reverse, List.mem_map] at h1
      obtain ⟨x, hx, hxe⟩ := h1
      have h2 := hun x hx
      rw [hxe] at h2
      exact h2)
    have HRN := Lib.hid hrn
    have HRS := Lib.hid hrs
    have HLC := Lib.hid hlc
    have HROW := Lib.hid hrow
    have HB := Lib.hid hB
    have HBL := Lib.hid (show Gr w W from hb)
    have HD := Lib.hid hD
    have HK := Lib.hid hK
    have HDW := Lib.hid (show D < W.heap.size from (Array.getElem?_eq_some_iff.1 hK).1)
    have HMB := Lib.hid (show 1 ≤ m ∧ m ≤ 4294967295 from by omega)
    clear hrn hrs hlc hrow hB hb hD hK hall hun
    have hbx := HB.out.2.1.cell
    go_wp2_with fail
    go_loopw [13, 14] (fun t13 t14 wr => ∃ (e : Nat), ∃ x n c r, t13 = .slice x n c ∧ t14 = .int .i64 ((e : Nat) - 1 : Int) ∧ e ≤ N ∧ HasP wr (.slice x n c) r ∧ Op.Nf m r ∧ Op.Cg m r (Op.nw xs cs N (N - e)) ∧ (∀ p, x = some p → W.heap.size ≤ p.block) ∧ Gr W wr) (fun _ t _ => (intOf t + 1).toNat)
    case atStart => exact ⟨N, none, 0, 0, [], rfl, rfl, Nat.le_refl _, HasP.nil _, ⟨fun x hx => (by simp at hx), rfl⟩, (by rw [Nat.sub_self]; exact Op.Cg.refl m []), fun p hp => (by cases hp), Gr.refl W⟩
    case round =>
      obtain ⟨e, x, n, c, r, rfl, rfl, he, hr, hnf, hcg, hfr, hgr⟩ := hrel
      have hrl : r.length ≤ N - e := res_len (by omega) hnf hcg
      have HR := Lib.hid hr
      have HNF := Lib.hid hnf
      have HCG := Lib.hid hcg
      have HFR := Lib.hid hfr
      have HGR := Lib.hid hgr
      have HLR := Lib.hid (show r.length ≤ 100000 from by omega)
      have HB2 := Lib.hid (HB.out.gr hgr)
      clear hr hnf hcg hfr hgr hrl hbx
      rcases e with _ | k
      · obtain ⟨v2, k2⟩ := HB2.out.2.2.1
        obtain ⟨v3, k3⟩ := HB2.out.2.2.2.1
        have c2 := k2.cell
        have c3 := k3.cell
        have f2 := k2.frozen
        have f3 := k3.frozen
        go_wp2_with fail
        have s2 : Boxed ((wr.setCell ⟨w.heap.size + 1 + 1, 0, none⟩ (.slice x n c)).setCell ⟨w.heap.size + 1 + 1 + 1, 0, none⟩ (.int .i64 0)) (w.heap.size + 2) 23 (.slice x n c) := (k2.set _).other (by simp) _
        have s3 : Boxed ((wr.setCell ⟨w.heap.size + 1 + 1, 0, none⟩ (.slice x n c)).setCell ⟨w.heap.size + 1 + 1 + 1, 0, none⟩ (.int .i64 0)) (w.heap.size + 3) 27 (.int .i64 0) := (k3.other (by simp) _).set _
        have hKr : wr.heap[D]? = some (.deferred (some [])) := (HGR.out.block D HDW.out).trans HK.out
        have hK' := ((KeepsOthers.setCell wr ⟨w.heap.size + 1 + 1, 0, none⟩ (.slice x n c)).trans (KeepsOthers.setCell _ ⟨w.heap.size + 1 + 1 + 1, 0, none⟩ (.int .i64 0))).same D _ hKr rfl
        refine ⟨by simp, .inl ⟨_, _, rfl, run_takeDeferred hK', ?_⟩⟩
        have e0 := (boxed_kept s2 (grownBy_putObj' _ D (.deferred none)) (fun r e => by cases e; exact ⟨_, hK', rfl⟩)).cell
        have e1 := (boxed_kept s3 (grownBy_putObj' _ D (.deferred none)) (fun r e => by cases e; exact ⟨_, hK', rfl⟩)).cell
        have hsW : w.heap.size + 4 ≤ W.heap.size := by have := HDW.out; have := HD.out; have := HS0.out; omega
        refine ⟨.tuple #[.slice x n c, .int .i64 0], ?_, x, n, c, r, 0, rfl, HR.out.blocks (fun p hp => ?_), .inl ⟨HAU.out, rfl, thr_of (by omega) (HLY.out.trans HN.out) HNF.out (by rw [← HN.out]; simpa using HCG.out) (by rw [← HN.out]; exact HRN.out)⟩, fun p hp => Nat.le_trans (by omega) (HFR.out p hp), Below.trans (show Below w.heap.size w _ from ((HBL.out.trans HGR.out).setCell (p := ⟨w.heap.size + 1 + 1, 0, none⟩) (show w.heap.size ≤ w.heap.size + 1 + 1 by omega) _).setCell (p := ⟨w.heap.size + 1 + 1 + 1, 0, none⟩) (show w.heap.size ≤ w.heap.size + 1 + 1 + 1 by omega) _) (belowK_b (w := w) (Nat.le_refl _) _ D _ _ (by have := HD.out; have := HS0.out; omega) hK' rfl rfl)⟩
        · simp [results, Try.f64, go_sem, e0, e1]
        · have h1 := HFR.out p hp
          have h2 := HDW.out
          refine (World.putObj_heap_other (by omega)).trans ?_
          refine (Below.heap_setCell _ ⟨w.heap.size + 1 + 1 + 1, 0, none⟩ _ _ (show p.block ≠ w.heap.size + 1 + 1 + 1 by omega)).trans (Below.heap_setCell _ ⟨w.heap.size + 1 + 1, 0, none⟩ _ _ (show p.block ≠ w.heap.size + 1 + 1 by omega))
      · have i2 : ((k + 1 : Nat) : Int) - 1 = (k : Int) := by omega
        have hN0 : 0 < N := by omega
        obtain ⟨gx, ox, rfl, hcx⟩ : ∃ gx ox, ax = some ⟨gx, ox, none⟩ ∧ wr.cell? ⟨gx, ox + k, none⟩ = some (.int .u32 (Op.cf xs k)) := by
          obtain ⟨_, a, c, e, _, _, h3⟩ := HU.out.later (show Gr w wr from HBL.out.trans HGR.out)
          cases e
          obtain ⟨gx, ox, e, hc⟩ := h3 k (by rw [← HN.out]; omega)
          exact ⟨gx, ox, e, hc⟩
        obtain ⟨rfl, hg4, hgb, hNc, hcv, -⟩ := HG.out hN0
        have hbm := HB2.out.1.cell
        have hbx := HB2.out.2.1.cell
        have hb8 := HB2.out.2.2.2.2.cell
        have hcC := ((HROW.out hN0).later HGR.out).cell (j := k) (by rw [HLC.out]; omega)
        have hXb := Op.rs_cf (show 0 < m by omega) HX.out k
        have hCb := Op.rs_cf (show 0 < m by omega) HRS.out k
        obtain ⟨X, hX⟩ : ∃ X, X = Op.cf xs k := ⟨_, rfl⟩
        obtain ⟨C, hC⟩ : ∃ C, C = Op.cf cs k := ⟨_, rfl⟩
        rw [← hX] at hcx hXb
        rw [← hC] at hcC hCb
        have HXX := Lib.hid hX
        have HCC := Lib.hid hC
        obtain ⟨L, hL⟩ : ∃ L, L = (0 + (m - 1) * X) % m := ⟨_, rfl⟩
        have HL := Lib.hid hL
        have hLb : 0 ≤ L ∧ L < m := by rw [hL]; exact ⟨Int.emod_nonneg _ (by omega), Int.emod_lt_of_pos _ (by omega)⟩
        have HLC2 := Lib.hid (show m ∣ L - (-X) from by
          have h := less_cg m 0 X
          rw [← hL, Int.zero_sub] at h
          exact h)
        have HLL := Lib.hid (show 0 ≤ L ∧ L < 4294967296 from by omega)
        have HCB := Lib.hid (show 0 ≤ C ∧ C < 4294967296 from by omega)
        have HXB := Lib.hid (show 0 ≤ X ∧ X < 4294967296 from by omega)
        have HRA := Lib.hid (show ∀ o : Obj, HasP ((wr.alloc o).drew) (.slice x n c) r from fun o => HR.out.later (show Gr wr ((wr.alloc o).drew) from Below.drew (Gr.new wr o)))
        have HTW := Lib.hid (show HasP ((wr.alloc (.cells #[.int .u32 L, .int .u32 1] 22)).drew) (.slice (some ⟨wr.heap.size, 0, none⟩) 2 2) [L, 1] from (two_hasP' wr L 1 _ rfl HLL.out (by omega)))
        have hk0 : (0 : Int) ≤ (k : Int) := by omega
        have hk1 : (k : Int) < (N : Int) := by omega
        rw [i2]
        clear hL hX hC i2
        go_wp2_with fail
        go_region_held3 (fun wz => wz.cell? ⟨w.heap.size, 0, none⟩ = some (.int .u32 m) ∧ wz.cell? ⟨w.heap.size + 1, 0, none⟩ = some (.slice (some ⟨gx, ox, none⟩) N cx) ∧ wz.cell? ⟨gx, ox + k, none⟩ = some (.int .u32 X)) (go_keep)
          (first
            | (go_at_call 70; refine (less_any m 0 X _ HMB.out (by omega) HXB.out).mono ?_; rintro e w' ⟨rfl, rfl⟩; rw [← HL.out])
            | (go_at_call 46; refine (product_any m r [L, 1] _ _ _ HMB.out (HRA.out _) HTW.out HLR.out (by simp)).mono ?_; rintro e w3 ⟨xp, np, cp, rfl, hp, hpf, hpg⟩; have HP3 := Lib.hid hp; have HG3 := Lib.hid (show Gr wr w3 from (show Gr wr ((wr.alloc (.cells #[.int .u32 L, .int .u32 1] 22)).drew) from Below.drew (Gr.new wr _)).trans hpg); have hbm := HG3.out.keeps hbm; have hbx := HG3.out.keeps hbx; have hcx := HG3.out.keeps hcx; clear hp hpf hpg))
        have HPL := Lib.hid (show (Op.nf m (Op.mul r [L, 1])).length ≤ 100000 from by
          have h1 := Op.nf_len m (Op.mul r [L, 1])
          have h2 := Op.mul_len r [L, 1]
          have h3 := res_len (show 0 < m by omega) HNF.out HCG.out
          simp at h2; omega)
        have hb83 := HG3.out.keeps hb8
        have hcC3 := HG3.out.keeps hcC
        have HRS3 := Lib.hid (Op.nf_nf (show 0 < m by omega) (Op.mul r [L, 1])).1
        have HRB := Lib.hid (show ∀ o : Obj, HasP ((w3.alloc o).drew) (.slice xp np cp) (Op.nf m (Op.mul r [L, 1])) from fun o => HP3.out.later (show Gr w3 ((w3.alloc o).drew) from Below.drew (Gr.new w3 o)))
        have HON := Lib.hid (show HasP ((w3.alloc (.cells #[.int .u32 1] 22)).drew) (.slice (some ⟨w3.heap.size, 0, none⟩) 1 1) [1] from (one_hasP' w3 1 _ rfl (by omega)))
        clear hb8 hcC
        go_wp2_with fail
        go_region_held3 (fun wz => wz.cell? ⟨w.heap.size, 0, none⟩ = some (.int .u32 m) ∧ wz.cell? ⟨b8, 0, none⟩ = some (.slice (some ⟨g, 0, none⟩) N cv) ∧ wz.cell? ⟨g, k, none⟩ = some (.int .u32 C)) (go_keep)
          (first
            | (go_at_call 45; refine (sum_any m C (Op.nf m (Op.mul r [L, 1])) [1] _ _ _ HMB.out HCB.out HRS3.out (HRB.out _) HON.out HPL.out (by simp)).mono ?_; rintro e w4 ⟨xs4, ns4, cs4, rfl, hs, hsf, hsg⟩; have HP4 := Lib.hid hs; have HG4 := Lib.hid (show Gr w3 w4 from (show Gr w3 ((w3.alloc (.cells #[.int .u32 1] 22)).drew) from Below.drew (Gr.new w3 _)).trans hsg); have HF4 := Lib.hid hsf; have hbm := HG4.out.keeps hbm; have hb83 := HG4.out.keeps hb83; have hcC3 := HG4.out.keeps hcC3; clear hs hsf hsg))
        have HGG := Lib.hid (HG3.out.trans HG4.out)
        have HFR4 := Lib.hid (show ∀ p, xs4 = some p → W.heap.size ≤ p.block from fun p hp => Nat.le_trans (Nat.le_trans HGR.out.size (Nat.le_trans HG3.out.size (by have := World.size_alloc w3 (.cells #[.int .u32 1] 22); exact Nat.le_trans (Nat.le_succ _) (Nat.le_of_eq this.symm)))) (HF4.out p hp))
        go_wp2_with fail
        go_roundw
        case rel => exact ⟨k, _, _, _, _, rfl, rfl, by omega, HP4.out, Op.nf_nf (by omega) _, by
          have hd : N - k = (N - (k + 1)) + 1 := by omega
          have hd2 : N - (N - (k + 1) + 1) = k := by omega
          rw [hd]
          exact res_step (by rw [hd2, ← HXX.out]; exact HLC2.out) (by rw [hd2]; exact HCC.out) HCG.out, HFR4.out, HGR.out.trans HGG.out⟩
        case measure => simp [intOf]
end Go.Proofs.Ytaenjbemkeghgaa
/- The program's Interpolate. -/
namespace Go.Proofs.Ytaenjbemkeghgaa
open Go.RowKit
set_option linter.unusedVariables false

theorem low_rs {m : Int} {l : List Int} (h : U32 l) : lowB m l = true ↔ Op.Rs m l :=
  ⟨fun k x hx => ⟨(h x hx).1, by have := k; simp [lowB] at this; exact this x hx⟩, fun k => by simp [lowB]; exact fun x hx => (k x hx).2⟩
theorem itE_bad {m : Int} {xs ys : List Int} (h : ¬ (okM m ∧ xs.length = ys.length)) : itE m xs ys = 2 := by unfold itE; rw [if_pos h]
theorem itE_long {m : Int} {xs ys : List Int} (h : okM m ∧ xs.length = ys.length) (h2 : 256 < xs.length) : itE m xs ys = 3 := by unfold itE; rw [if_neg (fun k => k h), if_pos h2]
theorem itE_high {m : Int} {xs ys : List Int} (h : okM m ∧ xs.length = ys.length) (h2 : ¬ 256 < xs.length) (h3 : ¬ (Op.Rs m xs ∧ Op.Rs m ys)) : itE m xs ys = 2 := by unfold itE; rw [if_neg (fun k => k h), if_neg h2, if_pos h3]
theorem itE_none {m : Int} {xs ys : List Int} (h : okM m ∧ xs.length = ys.length) (h2 : ¬ 256 < xs.length) (h3 : Op.Rs m xs ∧ Op.Rs m ys) (h4 : ¬ Op.Au m xs) : itE m xs ys = 7 := by unfold itE; rw [if_neg (fun k => k h), if_neg h2, if_neg (fun k => k h3), if_pos h4]
theorem itE_ok {m : Int} {xs ys : List Int} (h : okM m ∧ xs.length = ys.length) (h2 : ¬ 256 < xs.length) (h3 : Op.Rs m xs ∧ Op.Rs m ys) (h4 : Op.Au m xs) : itE m xs ys = 0 := by unfold itE; rw [if_neg (fun k => k h), if_neg h2, if_neg (fun k => k h3), if_neg (fun k => k h4)]
theorem itR_err {m : Int} {xs ys : List Int} {E : Int} (h : itE m xs ys = E) (h0 : E ≠ 0) : ItR m xs ys [] E := ⟨h.symm, fun _ => rfl, fun k => absurd k h0⟩
theorem itNil {m : Int} {xs ys : List Int} {E : Int} {w W : World} (h : ItR m xs ys [] E) (hg : Gr w W) : NewE (ItR m xs ys) w (.returned (.tuple #[.slice none 0 0, .int .i64 E])) W :=
  ⟨none, 0, 0, [], E, rfl, HasP.nil _, h, fun p hp => (by cases hp), hg⟩

set_option maxRecDepth 100000 in
set_option maxHeartbeats 2000000 in
theorem pInterp_any (m : Int) (xs ys : List Int) (u v : Value) (w : World) (hu : HasP w u xs) (hv : HasP w v ys) (hlx : xs.length ≤ 9223372036854775807) (hly : ys.length ≤ 9223372036854775807) :
    Calls Try.prog 39 #[.int .u32 m, u, v] w (NewE (ItR m xs ys) w) := by
  obtain ⟨-, xa, ca, rfl, -, -, -⟩ := id hu
  obtain ⟨-, xb, cb, rfl, -, -, -⟩ := id hv
  obtain ⟨na, hna⟩ : ∃ na, na = xs.length := ⟨_, rfl⟩
  obtain ⟨nb, hnb⟩ : ∃ nb, nb = ys.length := ⟨_, rfl⟩
  have HUX := Lib.hid hu.1
  have HUY := Lib.hid hv.1
  rw [← hna] at hu hlx ⊢
  rw [← hnb] at hv hly ⊢
  have HU := Lib.hid hu
  have HV := Lib.hid hv
  have HNA := Lib.hid hna
  have HNB := Lib.hid hnb
  clear hu hv hna hnb
  go_enter Try.func39, Try.ntmps39
  by_cases hm : 2 ≤ m ∧ m ≤ 2147483647
  · have HM := Lib.hid (show okM m from hm)
    have HM2 := Lib.hid hm
    clear hm
    by_cases he : na = nb
    · subst he
      have HOK := Lib.hid (show okM m ∧ xs.length = ys.length from ⟨HM.out, HNA.out.symm.trans HNB.out⟩)
      by_cases hl : (256 : Int) < (na : Int)
      · go_wp2_with fail
        refine (valid_yes m _ HM2.out).mono ?_
        rintro e w' ⟨rfl, rfl⟩
        go_wp2_with fail
        go_ret2
        exact itNil (itR_err (itE_long HOK.out (by have := HNA.out; omega)) (by omega)) (Gr.refl w)
      · have HL := Lib.hid (show ¬ 256 < xs.length from by have := HNA.out; omega)
        cases hx : lowB m xs with
        | false =>
          have HX := Lib.hid hx
          clear hx
          go_wp2_with fail
          refine (valid_yes m _ HM2.out).mono ?_
          rintro e w' ⟨rfl, rfl⟩
          go_wp2_with fail
          refine (has_any m xs _ _ HU.out).mono ?_
          rintro e w' ⟨rfl, rfl⟩
          rw [HX.out]
          go_wp2_with fail
          go_ret2
          exact itNil (itR_err (itE_high HOK.out HL.out (fun h => by have := (low_rs HUX.out).2 h.1; rw [HX.out] at this; cases this)) (by omega)) (Gr.refl w)
        | true =>
          have HX := Lib.hid hx
          clear hx
          cases hy : lowB m ys with
          | false =>
            have HY := Lib.hid hy
            clear hy
            go_wp2_with fail
            refine (valid_yes m _ HM2.out).mono ?_
            rintro e w' ⟨rfl, rfl⟩
            go_wp2_with fail
            refine (has_any m xs _ _ HU.out).mono ?_
            rintro e w' ⟨rfl, rfl⟩
            rw [HX.out]
            go_wp2_with fail
            refine (has_any m ys _ _ HV.out).mono ?_
            rintro e w' ⟨rfl, rfl⟩
            rw [HY.out]
            go_wp2_with fail
            go_ret2
            exact itNil (itR_err (itE_high HOK.out HL.out (fun h => by have := (low_rs HUY.out).2 h.2; rw [HY.out] at this; cases this)) (by omega)) (Gr.refl w)
          | true =>
            have HY := Lib.hid hy
            clear hy
            have HRX := Lib.hid ((low_rs HUX.out).1 HX.out)
            have HRY := Lib.hid ((low_rs HUY.out).1 HY.out)
            go_wp2_with fail
            refine (valid_yes m _ HM2.out).mono ?_
            rintro e w' ⟨rfl, rfl⟩
            go_wp2_with fail
            refine (has_any m xs _ _ HU.out).mono ?_
            rintro e w' ⟨rfl, rfl⟩
            rw [HX.out]
            go_wp2_with fail
            refine (has_any m ys _ _ HV.out).mono ?_
            rintro e w' ⟨rfl, rfl⟩
            rw [HY.out]
            go_wp2_with fail
            refine (through_any m xs ys _ _ _ HM.out HRX.out (by have := HL.out; omega) HRY.out HOK.out.2.symm HU.out HV.out).mono ?_
            rintro e w2 ⟨x, n, c, l, E, rfl, hl2, hd, hf, hg⟩
            have HL2 := Lib.hid hl2
            have HD := Lib.hid hd
            have HF := Lib.hid hf
            have HG := Lib.hid hg
            clear hl2 hd hf hg
            go_wp2_with fail
            go_ret2
            refine ⟨x, n, c, l, E, rfl, HL2.out, ?_, HF.out, HG.out⟩
            rcases HD.out with ⟨hA, h1, h2⟩ | ⟨hA, h1, h2⟩
            · exact ⟨h1.trans (itE_ok HOK.out HL.out ⟨HRX.out, HRY.out⟩ hA).symm, fun h => absurd h1 h, fun _ => h2⟩
            · exact ⟨h1.trans (itE_none HOK.out HL.out ⟨HRX.out, HRY.out⟩ hA).symm, fun _ => h2, fun h => by omega⟩
    · have hne : (((na : Int) != (nb : Int))) = true := by simp; omega
      go_wp2_with fail
      refine (valid_yes m _ HM2.out).mono ?_
      rintro e w' ⟨rfl, rfl⟩
      go_wp2_with fail
      go_ret2
      exact itNil (itR_err (itE_bad (fun h => he (by rw [HNA.out, HNB.out]; exact h.2))) (by omega)) (Gr.refl w)
  · go_wp2_with fail
    refine (valid_no m _ hm).mono ?_
    rintro e w' ⟨rfl, rfl⟩
    go_wp2_with fail
    go_ret2
    exact itNil (itR_err (itE_bad (fun h => hm h.1)) (by omega)) (Gr.refl w)
end Go.Proofs.Ytaenjbemkeghgaa
