/- What Factors of package modular returns: a new slice of the factors. -/
import Derived.Test.YtdkpgocbdphneaaIter
namespace Go.Proofs.Ytdkpgocbdphneaa
open Go.RowKit Go.Shelf
set_option linter.unusedVariables false
attribute [local go_sem] Oper.semAt_some

/-- The cells of a list of factors. -/
def fcells : List (Nat × Nat) → List Value
  | [] => []
  | (p, e) :: l => .int .u32 (p : Nat) :: .int .i64 (e : Nat) :: fcells l
theorem fcells_append : ∀ a b, fcells (a ++ b) = fcells a ++ fcells b
  | [], b => rfl
  | (p, e) :: a, b => by simp [fcells, fcells_append a b]

/-- What the variables of Factors hold: the list, and what is left. -/
structure FacW (B : Nat) (v : Value) (acc : List (Nat × Nat)) (r : Nat) (W : World) : Prop where
  list : Boxed W B 42 v
  rest : Boxed W (B + 1) 22 (.int .u32 (r : Nat))
  row : W.ownsRow B 46 2 v acc.length (fcells acc)

theorem FacW.kept {B : Nat} {v : Value} {acc : List (Nat × Nat)} {r : Nat} {X Y : World} {row : Option Nat} (h : FacW B v acc r X) (hg : X.grownBy Y row) (hrow : ∀ l, row = some l → ∃ o, X.heap[l]? = some o ∧ o.isCells = false) : FacW B v acc r Y := by
  refine ⟨h.list.kept hg (fun e' => ?_), h.rest.kept hg (fun e' => ?_), h.row.kept hg ?_⟩
  · obtain ⟨o, ho, hc⟩ := hrow B e'.symm
    rw [show X.heap[B]? = _ from h.list] at ho; cases ho; cases hc
  · obtain ⟨o, ho, hc⟩ := hrow (B + 1) e'.symm
    rw [show X.heap[B + 1]? = _ from h.rest] at ho; cases ho; cases hc
  · rcases h.row.2 with ⟨rfl, _⟩ | ⟨g, cap, cur, rfl, _, hgb, _⟩
    · exact .inl rfl
    · refine .inr fun e' => ?_
      obtain ⟨o, ho, hc⟩ := hrow g (by simpa [Value.ownBlock] using e'.symm)
      rw [hgb] at ho; cases ho; cases hc

theorem FacW.setRest {B : Nat} {v : Value} {acc : List (Nat × Nat)} {r : Nat} {W : World} (h : FacW B v acc r W) (r2 : Nat) : FacW B v acc r2 (W.setCell ⟨B + 1, 0, none⟩ (.int .u32 (r2 : Nat))) :=
  ⟨h.list.kept (grownBy_setCell' W (B + 1) _) (by simp), h.rest.set _, h.row.kept (grownBy_setCell' W (B + 1) _) (.inr (h.rest.not_row (by decide) h.row).symm)⟩

theorem two_new (w : World) (a b : Value) (t : TypeId) (j : Nat) (u : Value) (h : [a, b][j]? = some u) : (w.alloc (.cells #[a, b] t)).cell? (Addr.add ⟨w.heap.size, 0, none⟩ j) = some u := by
  rcases j with _ | _ | j
  · simp at h; subst h; simp [go_sem, Addr.add]
  · simp at h; subst h; simp [go_sem, Addr.add]
  · simp at h

def FacI (n B : Nat) (pre : List Dv) (W : World) : Prop := ∃ v acc r, Ob.St n (came pre) acc r ∧ FacW B v acc r W
def FacX (n B : Nat) (c : Code) (pre : List Dv) (W : World) : Prop := c = .exit 0 ∧ ∃ pre' x v acc r, pre = pre' ++ [x] ∧ Ob.St n (came pre') acc r ∧ r < x.1 * x.1 ∧ FacW B v acc r W

theorem FacI.own (n B : Nat) : Own (FacI n B) := by
  rintro s X Y row ⟨v, acc, r, hs, hw⟩ hg hrow
  exact ⟨v, acc, r, hs, hw.kept hg hrow⟩
theorem FacX.own (n B : Nat) (c : Code) : Own (FacX n B c) := by
  rintro s X Y row ⟨hc, p, x, v, acc, r, hp, hs, hlt, hw⟩ hg hrow
  exact ⟨hc, p, x, v, acc, r, hp, hs, hlt, hw.kept hg hrow⟩

theorem came_two (pre : List Dv) : ∀ x ∈ came pre, 2 ≤ x := by
  intro x hx
  simp only [came, List.mem_reverse, List.mem_map] at hx
  obtain ⟨y, _, rfl⟩ := hx
  exact y.2.1

theorem sq_of_div {r d : Nat} (hd : 2 ≤ d) (h : (r : Int) / (d : Int) < d) : r < d * d := by
  have h1 : r / d < d := by omega
  exact (Nat.div_lt_iff_lt_mul (by omega)).1 h1

theorem div_fits (r d : Nat) (h : r ≤ 4294967295) : (0 : Int) ≤ (r : Int) / (d : Int) ∧ (r : Int) / (d : Int) ≤ 4294967295 := by
  have h1 : r / d ≤ r := Nat.div_le_self _ _
  exact ⟨Int.ediv_nonneg (by omega) (by omega), by omega⟩
theorem mod_fits (r d : Nat) (h : r ≤ 4294967295) : (0 : Int) ≤ (r : Int) % (d : Int) ∧ (r : Int) % (d : Int) ≤ 4294967295 := by
  have h1 : r % d ≤ r := Nat.mod_le _ _
  omega

/-- The number that a cell holds. -/
def cellNat (W : World) (a : Addr) : Nat := match W.cell? a with | some (.int _ r) => r.toNat | _ => 0
theorem cellNat_eq {W : World} {a : Addr} {k : IntKind} {r : Nat} (h : W.cell? a = some (.int k r)) : cellNat W a = r := by
  simp [cellNat, h]

theorem tried_len : ∀ m, (Ob.tried m).length = m + 1
  | 0 => rfl
  | m + 1 => by simp [Ob.tried, tried_len m]

/-- How the factors end. -/
def FacEnd (n : Nat) (acc : List (Nat × Nat)) (r : Nat) : Prop := (r = 1 → Ob.Fz n acc) ∧ (1 < r → Ob.Fz n (acc ++ [(r, 1)]))

theorem fac_all {n : Nat} (hn : 1 ≤ n) (hn' : n ≤ 4294967295) {ys : List Dv} (hall : came ys = allTried) {acc : List (Nat × Nat)} {r : Nat} (h : Ob.St n (came ys) acc r) : FacEnd n acc r := by
  have h2 := (Ob.St.le hn (came_two ys) h).2
  rw [hall] at h
  exact Ob.St.end hn (m := 32767) h (by omega)

theorem fac_part {n : Nat} (hn : 1 ≤ n) {pre pre' : List Dv} {x : Dv} {m : Nat} (hc : came pre = Ob.tried m) (hp : pre = pre' ++ [x]) {acc : List (Nat × Nat)} {r : Nat} (h : Ob.St n (came pre') acc r) (hlt : r < x.1 * x.1) : FacEnd n acc r := by
  rw [hp, came_snoc] at hc
  rcases m with _ | m
  · simp only [Ob.tried, List.cons.injEq] at hc
    obtain ⟨hx, hc⟩ := hc
    rw [hc] at h
    obtain ⟨rfl, rfl⟩ := h
    rw [hx] at hlt
    exact Ob.St.end0 hlt hn
  · simp only [Ob.tried, List.cons.injEq] at hc
    obtain ⟨hx, hc⟩ := hc
    rw [hc] at h
    rw [hx] at hlt
    exact Ob.St.end hn h hlt

theorem infoPower : (Try.prog.info? 46).map (fun i => (i.zero, i.size, i.bytes)) = some (some (.agg #[.int .u32 0, .int .i64 0]), 2, 16) := by kernel_rfl

/-- The factors are returned, in new memory. -/
def FacPost (n : Nat) (w : World) (e : Ending) (w' : World) : Prop :=
  ∃ v L, e = .returned (.tuple #[v, .int .i64 0]) ∧ Ob.Fz n L ∧ w'.ownsRow w.heap.size 46 2 v L.length (fcells L) ∧ Gr w w'

theorem factors_zero (w : World) : Calls Try.prog 27 #[.int .u32 0] w fun e w' => e = .returned (.tuple #[.slice none 0 0, .int .i64 2]) ∧ w = w' := by
  go_enter Try.func27, Try.ntmps27
  go_wp2_with fail
  go_ret2
  exact ⟨rfl, rfl⟩

set_option maxRecDepth 100000 in
set_option maxHeartbeats 2000000 in
theorem factors_any (n : Nat) (w : World) (hn : 1 ≤ n) (hn' : n ≤ 4294967295) :
    Calls Try.prog 27 #[.int .u32 n] w (FacPost n w) := by
  obtain ⟨i0, hi, hz0, hz1, hz2⟩ := info_parts infoPower
  have h0 : ((n : Int) == 0) = false := by simp; omega
  refine (callsIn_wide (n := 9)).1 ?_
  refine callsIn_of_wp_marks Try.func27 rfl trivial ?_ rfl
  simp only [Try.ntmps27, List.size_toArray, List.length_cons, List.length_nil, Nat.reduceAdd, Nat.reduceSub, Array.replicate_succ, Array.replicate_zero, List.push_toArray, List.append_toArray, List.nil_append, List.cons_append]
  gi_wp2_with (refine ⟨trivial, ?_⟩; gi_at_call 34; refine (callsIn_wide.2 (divisors_any _)).mono ?_; rintro e w' ⟨rfl, rfl⟩)
  have bL := Boxed.new w 42 (.slice none 0 0)
  have bR := Boxed.new (w.alloc (.cells #[.slice none 0 0] 42)) 22 (.int .u32 (n : Nat))
  rw [World.size_alloc] at bR
  have hB0 : Below w.heap.size w ((w.alloc (.cells #[.slice none 0 0] 42)).alloc (.cells #[.int .u32 (n : Nat)] 22)) := ((Below.refl _ w).alloc (Nat.le_refl _) _).alloc (by simp) _
  refine wpIn_rangeFunc_ownG rfl (by omega) (gf := 41) (lb := #[]) rfl trivial (enters_of Try.func41 (by kernel_rfl) rfl)
    (divisors_stops (9 - 1) (by omega) w.heap.size _) belowK_t (belowK_b (by simp; omega)) (Below.refl _ _) (fun _ => rfl)
    (fun pre W => FacI n w.heap.size pre W ∧ Below w.heap.size w W)
    (fun c pre W => FacX n w.heap.size c pre W ∧ Below w.heap.size w W)
    (OwnFrom.and (Own.from (FacI.own n w.heap.size) _) (ownFrom_below (Nat.le_refl _) (by simp; omega)))
    (fun c => OwnFrom.and (Own.from (FacX.own n w.heap.size c) _) (ownFrom_below (Nat.le_refl _) (by simp; omega)))
    ⟨⟨_, [], n, ⟨rfl, rfl⟩, bL.alloc _, bR, World.ownsRow_nil _ _ _ _⟩, hB0⟩
    (fun x => { tmps := #[.int .u32 (n : Nat), undef, .slice none 0 0, .int .i64 0, .pointer (some ⟨w.heap.size, 0, none⟩), .pointer (some ⟨w.heap.size + 1, 0, none⟩), .int .u32 (x.1 : Nat), undef, .int .u32 (n : Nat), .bool false, .int .u32 (n : Nat), .func (.func 41) #[] #[], .int .u32 (x.1 : Nat), undef, undef, undef, undef, undef, undef, undef, undef, undef, undef, undef, undef, undef, undef, undef, undef, undef, undef, undef, undef, undef, undef, undef, undef, undef, undef, undef, undef, undef, undef], defers := [] }) ?assign ?body ?done ?stop
  case assign =>
    intro l x W K hK
    gi_wp2
    exact hK
  case body =>
    rintro l pre ⟨d, hd2, hd3⟩ W ⟨⟨v, acc, r, hst, hW⟩, hB⟩ hlt
    dsimp only
    obtain ⟨hr1, hr2⟩ := Ob.St.le hn (came_two pre) hst
    have hlen := hst.len
    have cL := hW.list.cell
    have cR := hW.rest.cell
    have fR := hW.rest.frozen
    have HST := Lib.hid hst
    have HW := Lib.hid hW
    have HB := Lib.hid hB
    have HLEN := Lib.hid hlen
    clear hst hW hB hlen
    obtain ⟨q0, q1⟩ := div_fits r d (by omega)
    by_cases hbr : (r : Int) / (d : Int) < d
    · gi_wp2
      exact ⟨KeepsFrom.refl _ _, ⟨rfl, pre, _, v, acc, r, rfl, HST.out, sq_of_div hd2 hbr, HW.out⟩, HB.out⟩
    · gi_wp2
      gi_loopw [7] (fun e W' => ∃ k r' : Nat, e = .int .i64 k ∧ r = d ^ k * r' ∧ 1 ≤ r' ∧ FacW w.heap.size v acc r' W' ∧ Below w.heap.size w W' ∧ Below w.heap.size W W' ∧ KeepsOthers W W') (fun _ W' => cellNat W' ⟨w.heap.size + 1, 0, none⟩)
      case atStart => exact ⟨0, r, rfl, by simp, hr1, HW.out, HB.out, Below.refl _ _, KeepsOthers.refl _⟩
      case round =>
        obtain ⟨k, r', rfl, hrk, hr', hW', hB', hBW, hKO⟩ := hrel
        have hr'2 : r' ≤ r := by rw [hrk]; exact Nat.le_mul_of_pos_left _ (Nat.pow_pos (by omega))
        have hk : k < r := by
          have h1 : k < d ^ k := Nat.lt_pow_self (by omega)
          have h2 : d ^ k * 1 ≤ d ^ k * r' := Nat.mul_le_mul_left _ hr'
          omega
        have cL' := hW'.list.cell
        have cR' := hW'.rest.cell
        have fR' := hW'.rest.frozen
        obtain ⟨q0, q1⟩ := div_fits r' d (by omega)
        obtain ⟨m0, m1⟩ := mod_fits r' d (by omega)
        have HRK := Lib.hid hrk
        have HW' := Lib.hid hW'
        have HB' := Lib.hid hB'
        have HBW := Lib.hid hBW
        have HKO := Lib.hid hKO
        clear hrk hW' hB' hBW hKO cL cR fR
        by_cases hdv : r' % d = 0
        · have hb0 : ((r' : Int) % (d : Int) == 0) = true := by simp; omega
          have HDV := Lib.hid hdv
          clear hdv
          gi_wp2
          go_roundw
          case rel =>
            refine ⟨k + 1, r' / d, by go_num, ?_, ?_, by have := HW'.out.setRest (r' / d); rwa [Int.natCast_ediv] at this, HB'.out.setCell (p := ⟨w.heap.size + 1, 0, none⟩) (by simp) _, HBW.out.setCell (p := ⟨w.heap.size + 1, 0, none⟩) (by simp) _, HKO.out.trans (KeepsOthers.setCell _ _ _)⟩
            · rw [HRK.out, Nat.pow_succ, Nat.mul_assoc, Nat.mul_div_cancel' (Nat.dvd_of_mod_eq_zero HDV.out)]
            · exact Nat.div_pos (Nat.le_of_dvd (by omega) (Nat.dvd_of_mod_eq_zero HDV.out)) (by omega)
          case measure =>
            have e1 := cellNat_eq (HW'.out.setRest (r' / d)).rest.cell
            have e2 := cellNat_eq HW'.out.rest.cell
            rw [Int.natCast_ediv] at e1
            rw [e1, e2]
            exact Nat.div_lt_self (by omega) (by omega)
        · have hb0 : ((r' : Int) % (d : Int) == 0) = false := by simp; omega
          have HDV := Lib.hid hdv
          clear hdv
          by_cases hk0 : 0 < k
          · have hsz := HB'.out.size
            have hal : acc.length ≤ 32768 := by have h1 := HLEN.out; simp only [came, List.length_reverse, List.length_map] at h1; omega
            have hb1 : acc.length + 1 ≤ maxLen := by unfold maxLen; omega
            have hb2 : (acc.length + 1) * 16 ≤ 140737488355328 := by omega
            gi_wp2_with (gi_at_builtin; refine wpListIn_append_own _ rfl _ _ 42 rfl w.heap.size 46 i0 (.agg #[.int .u32 0, .int .i64 0]) 2 16 Try.underlying42 hi hz0 hz1 hz2 rfl (by decide) _ _ _ rfl (HW'.out.row.alloc _) ⟨wr.heap.size, 0, none⟩ 1 1 [.int .u32 (d : Nat), .int .i64 (k : Nat)] rfl rfl (two_new _ _ _ _) (by simp [Value.oneCell']) hb1 hb2 (by simp; omega) ?_; intro v' w1 hown' hgrow _; obtain ⟨g', cap', rfl⟩ := ownsRow_succ hown'; obtain ⟨hv1, hv2, hr2, hk2, hb2⟩ := HW'.out.list.appended (by decide) HW'.out.row hsz (Nat.le_refl _) hown' hgrow; have hc1 := hv1.cell; have hf1 := hv1.frozen)
            refine ⟨(HKO.out.trans hk2).from _, HBW.out.trans hb2, ⟨_, acc ++ [(d, k)], r', ?_, hv2, ?_, ?_⟩, HB'.out.trans hb2⟩
            · rw [came_snoc]; exact .inr ⟨acc, k, rfl, hk0, fun h => HDV.out (Nat.mod_eq_zero_of_dvd h), by rw [← HRK.out]; exact HST.out⟩
            · exact ((HW'.out.rest.alloc _).kept hgrow (HW'.out.rest.not_row (by decide) HW'.out.row)).kept (grownBy_setCell' w1 w.heap.size _) (by simp)
            · rw [fcells_append, List.length_append]; exact hr2
          · obtain rfl : k = 0 := by omega
            gi_wp2
            refine ⟨HKO.out.from _, HBW.out, ⟨v, acc, r', ?_, HW'.out⟩, HB'.out⟩
            rw [came_snoc]; exact .inl ⟨fun h => HDV.out (Nat.mod_eq_zero_of_dvd h), by have := HST.out; rw [HRK.out] at this; simpa using this⟩
  case done =>
    rintro D ys W hD hall ⟨⟨v, acc, r, hst, hW⟩, hB⟩ hK
    obtain ⟨hr1, hr2⟩ := Ob.St.le hn (came_two ys) hst
    have hcl : (came ys).length = 32768 := by rw [hall]; exact tried_len 32767
    have hfin := fac_all hn hn' hall hst
    have hsz := hB.size
    have hal : acc.length ≤ 32769 := by have h1 := hst.len; rw [hcl] at h1; omega
    have hb1 : acc.length + 1 ≤ maxLen := by unfold maxLen; omega
    have hb2 : (acc.length + 1) * 16 ≤ 140737488355328 := by omega
    have cL := hW.list.cell
    have cR := hW.rest.cell
    have HF := Lib.hid hfin
    have HW := Lib.hid hW
    have HB := Lib.hid hB
    clear hst hW hB hfin hcl
    by_cases hr : 1 < r
    · gi_wp2_with (gi_at_builtin; refine wpListIn_append_own _ rfl _ _ 42 rfl w.heap.size 46 i0 (.agg #[.int .u32 0, .int .i64 0]) 2 16 Try.underlying42 hi hz0 hz1 hz2 rfl (by decide) _ _ _ rfl (HW.out.row.alloc _) ⟨W.heap.size, 0, none⟩ 1 1 [.int .u32 (r : Nat), .int .i64 1] rfl rfl (two_new _ _ _ _) (by simp [Value.oneCell']) hb1 hb2 (by simp; omega) ?_; intro v' w1 hown' hgrow _; obtain ⟨g', cap', rfl⟩ := ownsRow_succ hown'; obtain ⟨hv1, hv2, hr2, hk2, hb2⟩ := HW.out.list.appended (by decide) HW.out.row hsz (Nat.le_refl _) hown' hgrow; have hc1 := hv1.cell; have hf1 := hv1.frozen)
      have hK' := hk2.same D _ hK rfl
      refine ⟨by simp, .inl ⟨_, _, rfl, run_takeDeferred hK', ?_⟩⟩
      exact ⟨_, results_tmp2 rfl _ _ _, _, acc ++ [(r, 1)], rfl, HF.out.2 hr, by rw [fcells_append, List.length_append]; exact ownsRow_putObj hr2 _ hK' rfl, (HB.out.trans hb2).trans (belowK_b (w := w) (Nat.le_refl _) _ D _ _ (by simp at hD; omega) hK' rfl rfl)⟩
    · gi_wp2
      refine ⟨by simp, .inl ⟨_, _, rfl, run_takeDeferred hK, ?_⟩⟩
      exact ⟨_, results_tmp2 rfl _ _ _, _, acc, rfl, HF.out.1 (by omega), ownsRow_putObj HW.out.row _ hK rfl, HB.out.trans (belowK_b (w := w) (Nat.le_refl _) W D _ _ (by simp at hD; omega) hK rfl rfl)⟩
  case stop =>
    rintro D c pre W hD ⟨m, hm, hcame⟩ ⟨⟨rfl, pre', x, v, acc, r, hp, hst, hlt, hW⟩, hB⟩ hK
    obtain ⟨hr1, hr2⟩ := Ob.St.le hn (came_two pre') hst
    have hcl : (came pre').length = m := by have h1 := congrArg List.length hcame; rw [hp, came_snoc, tried_len] at h1; simpa using h1
    have hfin := fac_part hn hcame hp hst hlt
    clear hcame hp hlt
    have hsz := hB.size
    have hal : acc.length ≤ 32769 := by have h1 := hst.len; rw [hcl] at h1; omega
    have hb1 : acc.length + 1 ≤ maxLen := by unfold maxLen; omega
    have hb2 : (acc.length + 1) * 16 ≤ 140737488355328 := by omega
    have cL := hW.list.cell
    have cR := hW.rest.cell
    have HF := Lib.hid hfin
    have HW := Lib.hid hW
    have HB := Lib.hid hB
    clear hst hW hB hfin hcl
    by_cases hr : 1 < r
    · gi_wp2_with (gi_at_builtin; refine wpListIn_append_own _ rfl _ _ 42 rfl w.heap.size 46 i0 (.agg #[.int .u32 0, .int .i64 0]) 2 16 Try.underlying42 hi hz0 hz1 hz2 rfl (by decide) _ _ _ rfl (HW.out.row.alloc _) ⟨W.heap.size, 0, none⟩ 1 1 [.int .u32 (r : Nat), .int .i64 1] rfl rfl (two_new _ _ _ _) (by simp [Value.oneCell']) hb1 hb2 (by simp; omega) ?_; intro v' w1 hown' hgrow _; obtain ⟨g', cap', rfl⟩ := ownsRow_succ hown'; obtain ⟨hv1, hv2, hr2, hk2, hb2⟩ := HW.out.list.appended (by decide) HW.out.row hsz (Nat.le_refl _) hown' hgrow; have hc1 := hv1.cell; have hf1 := hv1.frozen)
      have hK' := hk2.same D _ hK rfl
      refine ⟨by simp, .inl ⟨_, _, rfl, run_takeDeferred hK', ?_⟩⟩
      exact ⟨_, results_tmp2 rfl _ _ _, _, acc ++ [(r, 1)], rfl, HF.out.2 hr, by rw [fcells_append, List.length_append]; exact ownsRow_putObj hr2 _ hK' rfl, (HB.out.trans hb2).trans (belowK_b (w := w) (Nat.le_refl _) _ D _ _ (by simp at hD; omega) hK' rfl rfl)⟩
    · gi_wp2
      refine ⟨by simp, .inl ⟨_, _, rfl, run_takeDeferred hK, ?_⟩⟩
      exact ⟨_, results_tmp2 rfl _ _ _, _, acc, rfl, HF.out.1 (by omega), ownsRow_putObj HW.out.row _ hK rfl, HB.out.trans (belowK_b (w := w) (Nat.le_refl _) W D _ _ (by simp at hD; omega) hK rfl rfl)⟩
end Go.Proofs.Ytdkpgocbdphneaa
