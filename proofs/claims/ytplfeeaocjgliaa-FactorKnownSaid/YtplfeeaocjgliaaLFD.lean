import Derived.Test.YtplfeeaocjgliaaLFC
import Derived.Test.YtplfeeaocjgliaaShelf
import Derived.Shelf.SlSortCmp.Whole1
/- Lists are compared, and the factors are sorted. -/
namespace Oq
set_option linter.unusedVariables false
/-- The comparison of lists by their first elements that differ. -/
def cmpL : List Int → List Int → Int
  | [], [] => 0
  | [], _ :: _ => -1
  | _ :: _, [] => 1
  | x :: a, y :: b => if x < y then -1 else if y < x then 1 else cmpL a b
theorem cmpL_self : ∀ a, cmpL a a = 0
  | [] => rfl
  | x :: a => by rw [cmpL, if_neg (by omega), if_neg (by omega), cmpL_self a]
theorem cmpL_neg : ∀ a b, cmpL b a = - cmpL a b
  | [], [] => rfl
  | [], _ :: _ => rfl
  | _ :: _, [] => rfl
  | x :: a, y :: b => by
    rw [cmpL, cmpL]
    by_cases h1 : x < y
    · rw [if_neg (by omega), if_pos h1, if_pos h1]; rfl
    · by_cases h2 : y < x
      · rw [if_pos h2, if_neg h1, if_pos h2]
      · rw [if_neg h2, if_neg h1, if_neg h1, if_neg h2, cmpL_neg a b]
theorem cmpL_le : ∀ a b c, cmpL a b ≤ 0 → cmpL b c ≤ 0 → cmpL a c ≤ 0
  | [], _, [], _, _ => by simp [cmpL]
  | [], _, _ :: _, _, _ => by simp [cmpL]
  | _ :: _, [], _, h, _ => by simp [cmpL] at h
  | _ :: _, _ :: _, [], _, h => by simp [cmpL] at h
  | x :: a, y :: b, z :: c, h, k => by
    rw [cmpL] at h k ⊢
    split at h <;> split at k <;> (try split at h) <;> (try split at k) <;> split <;> (try split) <;> first | omega | exact cmpL_le a b c h k
theorem cmpL_lt : ∀ a b c, cmpL a b < 0 → cmpL b c < 0 → cmpL a c < 0
  | [], [], _, h, _ => by simp [cmpL] at h
  | [], _ :: _, [], _, h => by simp [cmpL] at h
  | [], _ :: _, _ :: _, _, _ => by simp [cmpL]
  | _ :: _, [], _, h, _ => by simp [cmpL] at h
  | _ :: _, _ :: _, [], _, h => by simp [cmpL] at h
  | x :: a, y :: b, z :: c, h, k => by
    rw [cmpL] at h k ⊢
    split at h <;> split at k <;> (try split at h) <;> (try split at k) <;> split <;> (try split) <;> first | omega | exact cmpL_lt a b c h k
theorem cmpL_eq : ∀ a b, cmpL a b = 0 → a = b
  | [], [], _ => rfl
  | [], _ :: _, h => by simp [cmpL] at h
  | _ :: _, [], h => by simp [cmpL] at h
  | x :: a, y :: b, h => by
    rw [cmpL] at h
    split at h
    · omega
    · split at h
      · omega
      · rw [cmpL_eq a b h, show x = y from by omega]
theorem cmpL_step {a b : List Int} {k : Nat} (ha : k < a.length) (hb : k < b.length) : cmpL (a.drop k) (b.drop k) = if Op.cf a k < Op.cf b k then -1 else if Op.cf b k < Op.cf a k then 1 else cmpL (a.drop (k + 1)) (b.drop (k + 1)) := by
  have e1 : a.drop k = Op.cf a k :: a.drop (k + 1) := by
    rw [List.drop_eq_getElem_cons ha]
    congr 1
    rw [← Op.cf_at, List.getElem?_eq_getElem ha]; rfl
  have e2 : b.drop k = Op.cf b k :: b.drop (k + 1) := by
    rw [List.drop_eq_getElem_cons hb]
    congr 1
    rw [← Op.cf_at, List.getElem?_eq_getElem hb]; rfl
  rw [e1, e2, cmpL]
theorem cmpL_end {a b : List Int} {k : Nat} (ha : k < a.length) (hb : b.length ≤ k) : cmpL (a.drop k) (b.drop k) = 1 := by
  rw [List.drop_eq_getElem_cons ha, List.drop_eq_nil_of_le hb]; rfl
theorem cmpL_out {a b : List Int} {k : Nat} (ha : a.length = k) : cmpL (a.drop k) (b.drop k) = if k < b.length then -1 else 0 := by
  rw [List.drop_eq_nil_of_le (by omega)]
  by_cases h : k < b.length
  · rw [if_pos h, List.drop_eq_getElem_cons h]; rfl
  · rw [if_neg h, List.drop_eq_nil_of_le (by omega)]; rfl
end Oq
namespace Go.Proofs.Ytplfeeaocjgliaa
open Go.RowKit
set_option linter.unusedVariables false

theorem cmp1_any (x y : Int) (w : World) : Calls Try.prog 49 #[.int .u32 x, .int .u32 y] w (fun e w' => e = .returned (.int .i64 (if x < y then -1 else if y < x then 1 else 0)) ∧ w = w') := by
  by_cases h1 : x < y
  · rw [if_pos h1]
    go_enter Try.func49, Try.ntmps49
    go_wp2
    go_ret
    exact ⟨rfl, rfl⟩
  · by_cases h2 : y < x
    · rw [if_neg h1, if_pos h2]
      go_enter Try.func49, Try.ntmps49
      go_wp2
      go_ret
      exact ⟨rfl, rfl⟩
    · rw [if_neg h1, if_neg h2]
      go_enter Try.func49, Try.ntmps49
      go_wp2
      go_ret
      exact ⟨rfl, rfl⟩

set_option maxRecDepth 100000 in
set_option maxHeartbeats 2000000 in
theorem compare_any (a b : List Int) (u v : Value) (w : World) (hu : HasP w u a) (hv : HasP w v b) (hla : a.length ≤ 100000) (hlb : b.length ≤ 100000) :
    Calls Try.prog 29 #[u, v] w (fun e w' => e = .returned (.int .i64 (Oq.cmpL a b)) ∧ w = w') := by
  obtain ⟨da, xa, ca, rfl, -, -, ha⟩ := id hu
  obtain ⟨db, xb, cb, rfl, -, -, hb⟩ := id hv
  obtain ⟨na, hna⟩ : ∃ na, na = a.length := ⟨_, rfl⟩
  obtain ⟨nb, hnb⟩ : ∃ nb, nb = b.length := ⟨_, rfl⟩
  have HA := Lib.hid ha
  have HB := Lib.hid hb
  have HNA := Lib.hid hna
  have HNB := Lib.hid hnb
  have HDA := Lib.hid da
  have HDB := Lib.hid db
  rw [← hna] at hla ⊢
  rw [← hnb] at hlb ⊢
  obtain ⟨R, hR⟩ : ∃ R, R = Oq.cmpL a b := ⟨_, rfl⟩
  rw [← hR]
  have HR := Lib.hid hR
  clear hu hv da db ha hb hna hnb hR
  go_enter Try.func29, Try.ntmps29
  go_wp2_with fail
  go_loop [5, 6, 7, 8, 11] (fun _ _ _ _ t => ∃ k : Nat, t = .int .i64 k ∧ k ≤ na ∧ R = Oq.cmpL (a.drop k) (b.drop k)) (fun _ _ _ _ t => na - (intOf t).toNat)
  case atStart => exact ⟨0, rfl, by omega, by rw [HR.out]; rfl⟩
  case round =>
    obtain ⟨k, rfl, hk, hr⟩ := hrel
    have HRK := Lib.hid hr
    clear hr
    by_cases hlt : k < na
    · have hka : (k : Int) < (na : Int) := by omega
      obtain ⟨ga, oa, rfl, c1⟩ := HA.out k (by rw [← HNA.out]; exact hlt)
      obtain ⟨x, hx⟩ : ∃ x, x = Op.cf a k := ⟨_, rfl⟩
      rw [← hx] at c1
      have hxb := HDA.out.at_ k
      rw [← hx] at hxb
      have HX := Lib.hid hx
      clear hx
      by_cases hlb' : k < nb
      · have hkb : ¬ ((nb : Int) ≤ (k : Int)) := by omega
        obtain ⟨gb, ob, rfl, c2⟩ := HB.out k (by rw [← HNB.out]; exact hlb')
        obtain ⟨y, hy⟩ : ∃ y, y = Op.cf b k := ⟨_, rfl⟩
        rw [← hy] at c2
        have HY := Lib.hid hy
        clear hy
        have HSTEP := Lib.hid (Oq.cmpL_step (a := a) (b := b) (k := k) (by rw [← HNA.out]; exact hlt) (by rw [← HNB.out]; exact hlb'))
        go_wp2_with fail
        refine (cmp1_any x y _).mono ?_
        rintro e w1 ⟨rfl, rfl⟩
        have hst : R = if x < y then -1 else if y < x then 1 else Oq.cmpL (a.drop (k + 1)) (b.drop (k + 1)) := by rw [HRK.out, HSTEP.out, ← HX.out, ← HY.out]
        by_cases h1 : x < y
        · rw [if_pos h1] at hst ⊢
          have HST := Lib.hid hst
          clear hst
          go_wp2_with fail
          go_ret
          exact ⟨by rw [HST.out]; rfl, rfl⟩
        · by_cases h2 : y < x
          · rw [if_neg h1, if_pos h2] at hst ⊢
            have HST := Lib.hid hst
            clear hst
            go_wp2_with fail
            go_ret
            exact ⟨by rw [HST.out]; rfl, rfl⟩
          · rw [if_neg h1, if_neg h2] at hst ⊢
            have HST := Lib.hid hst
            clear hst
            go_wp2_with fail
            refine ⟨⟨k + 1, by simp, by omega, HST.out⟩, by simp [intOf]; omega⟩
      · have hkb : (nb : Int) ≤ (k : Int) := by omega
        have HE := Lib.hid (HRK.out.trans (Oq.cmpL_end (by rw [← HNA.out]; exact hlt) (by rw [← HNB.out]; omega)))
        go_wp2_with fail
        go_ret
        exact ⟨by rw [HE.out]; rfl, rfl⟩
    · have hka : (na : Int) ≤ (k : Int) := by omega
      obtain rfl : k = na := by omega
      have HE := Lib.hid (HRK.out.trans (Oq.cmpL_out (by rw [HNA.out])))
      by_cases h3 : k < nb
      · have h4 : (k : Int) < (nb : Int) := by omega
        have HE2 := Lib.hid (show R = -1 from by rw [HE.out, if_pos (by rw [← HNB.out]; exact h3)])
        go_wp2_with fail
        go_ret
        exact ⟨by rw [HE2.out]; rfl, rfl⟩
      · have h4 : (nb : Int) ≤ (k : Int) := by omega
        have HE2 := Lib.hid (show R = 0 from by rw [HE.out, if_neg (by rw [← HNB.out]; exact h3)])
        go_wp2_with fail
        go_ret
        exact ⟨by rw [HE2.out]; rfl, rfl⟩

section
open Go.Sort Go.Shelf
/-- What a sort leaves differs in its row alone. -/
theorem grownBy_sort {α : Type} [Inhabited α] (enc : α → Value) (w : World) (g off n : Nat) (d : Array α) (os : Array Obj) : w.grownBy (sortWorld enc w g off n d os) (some g) := by
  unfold sortWorld
  refine ⟨rfl, rfl, rfl, by simp, fun k hk hne => ?_⟩
  rw [heap_grow_old _ _ (by simpa using hk)]
  have : g ≠ k := fun e => hne (by rw [e])
  simp [putRow, mapBlock, Sort.ahead, Array.getElem?_modify, this]
theorem HasP.grown1 {W W' : World} {u : Value} {l : List Int} {g : Nat} (h : HasP W u l) (hk : W.grownBy W' (some g)) (ha : u.ownBlock ≠ some g) : HasP W' u l := by
  obtain ⟨hd, a, cap, rfl, h1, h2, h3⟩ := h
  refine ⟨hd, a, cap, rfl, h1, h2, fun i hi => ?_⟩
  obtain ⟨b, o, e, hc⟩ := h3 i hi
  subst e
  exact ⟨b, o, rfl, hk.cell hc (fun e => ha (by simpa [Value.ownBlock] using e))⟩
/-- A slice apart from block g, and what it holds. -/
abbrev El (w : World) (g : Nat) := { x : Value × List Int // HasP w x.1 x.2 ∧ x.1.ownBlock ≠ some g ∧ x.1.oneCell' = true ∧ x.2.length ≤ 100000 }
theorem swo_cmpL (w : World) (g : Nat) : SWO (ltOf fun x y : El w g => Oq.cmpL x.1.2 y.1.2) where
  irrefl x := by simp [ltOf, Oq.cmpL_self]
  trans x y z h1 h2 := by
    simp only [ltOf, decide_eq_true_eq] at *
    exact Oq.cmpL_lt _ _ _ h1 h2
  ntrans x y z h1 h2 := by
    simp only [ltOf, decide_eq_false_iff_not] at *
    have e1 := Oq.cmpL_neg x.1.2 y.1.2
    have e2 := Oq.cmpL_neg y.1.2 z.1.2
    have e3 := Oq.cmpL_neg x.1.2 z.1.2
    have := Oq.cmpL_le z.1.2 y.1.2 x.1.2 (by omega) (by omega)
    omega
/-- The sorted list. -/
def SortedP (base bl : Nat) (g n : Nat) (ls : List (List Int)) (w : World) (e : Ending) (w' : World) : Prop :=
  e = .returned (.tuple #[]) ∧ ∃ vs ts, HasLL w' g n vs ts ∧ ts.Perm ls ∧ (∀ i j (hi : i < ts.length) (hj : j < ts.length), i < j → ¬ Oq.cmpL ts[j] ts[i] < 0) ∧ Below base w w'
set_option maxRecDepth 100000 in
set_option maxHeartbeats 1000000 in
theorem sort_any (base bl g cap : Nat) (vs : List Value) (ls : List (List Int)) (w : World) (hls : LS base bl w (.slice (some ⟨g, 0, none⟩) vs.length cap) vs ls) (hpos : 0 < vs.length) (hsz : vs.length ≤ 100000) (hll : ∀ l ∈ ls, l.length ≤ 100000) (hb : base ≤ w.heap.size) :
    Calls Try.prog 28 #[.slice (some ⟨g, 0, none⟩) vs.length cap, .func (.func 29) #[] #[]] w (SortedP base bl g vs.length ls w) := by
  obtain ⟨hown, hlen, hel⟩ := hls
  have hown' := hown.2
  rcases hown' with ⟨e, _⟩ | ⟨g', cap', cur, e, hbg, hg, hn, hmax, hcs, htake⟩
  · cases e
  cases e
  -- the elements
  have hgood : ∀ i (h : i < vs.length), HasP w vs[i] (ls[i]'(by omega)) ∧ vs[i].ownBlock ≠ some g ∧ vs[i].oneCell' = true ∧ (ls[i]'(by omega)).length ≤ 100000 := fun i h => by
    obtain ⟨h1, h2, _⟩ := hel i h (by omega)
    exact ⟨h1, h2.2.2.1, h2.1, hll _ (List.getElem_mem _)⟩
  obtain ⟨d, hd⟩ : ∃ d : Array (El w g), d = Array.ofFn fun i : Fin vs.length => ⟨(vs[i.1], ls[i.1]'(by omega)), hgood i.1 i.2⟩ := ⟨_, rfl⟩
  have hds : d.size = vs.length := by rw [hd]; simp
  have hdi : ∀ i (h : i < vs.length), d[i]'(by omega) = ⟨(vs[i], ls[i]'(by omega)), hgood i h⟩ := fun i h => by
    subst hd; simp
  haveI : Inhabited (El w g) := ⟨d[0]'(by omega)⟩
  have hH : Holds (fun x : El w g => x.1.1) w g 0 d := fun j hj => by
    have hj' : j < vs.length := by omega
    constructor
    · rw [getElem!_pos d j hj, hdi j hj', Nat.zero_add]
      have h1 := hown.cells (g := g) rfl j vs[j] (List.getElem?_eq_getElem hj')
      rwa [addr_add rfl _ rfl, Nat.zero_add] at h1
    · simp [World.frozen?, hg]
  have hcmp : CmpReads Try.prog 29 #[] (fun x : El w g => x.1.1) (fun x y : El w g => Oq.cmpL x.1.2 y.1.2) g 0 d.size w := fun m os dk hs x y => by
    have hgr := grownBy_sort (fun x : El w g => x.1.1) w g 0 m dk os
    refine (compare_any x.1.2 y.1.2 x.1.1 y.1.1 _ (x.2.1.grown1 hgr x.2.2.1) (y.2.1.grown1 hgr y.2.2.1) x.2.2.2.2 y.2.2.2.2).mono ?_
    rintro e w' ⟨rfl, rfl⟩
    exact ⟨rfl, 0, rfl⟩
  have hlt : g < w.heap.size := (Array.getElem?_eq_some_iff.1 hg).1
  have hcon := Try.slices_SortFunc (fun x : El w g => x.1.1) (fun x => x.2.2.2.1) (fun x y : El w g => Oq.cmpL x.1.2 y.1.2) (swo_cmpL w g) 29 #[] g 0 cap d w (enters_of Try.func29 (by kernel_rfl) rfl) hcmp.lays hH hlt (by omega)
  rw [hds] at hcon
  refine hcon.mono ?_
  rintro e w' ⟨rfl, d', n, os, hp, hs, rfl⟩
  have hgr := grownBy_sort (fun x : El w g => x.1.1) w g 0 n d' os
  have hds' : d'.size = vs.length := by rw [hp.1, hds]
  have hhold := holds_sortWorld (fun x : El w g => x.1.1) w g 0 n d d' os hlt hH hp.1
  refine ⟨rfl, d'.toList.map (fun x => x.1.1), d'.toList.map (fun x => x.1.2), ⟨by simp [hds'], by simp, fun i hi => ?_⟩, ?_, fun i j hi hj hij => ?_, (Below.refl _ w).grown hgr hb (fun k e => by cases e; exact hbg)⟩
  · have hi' : i < d'.size := by simpa using hi
    have hc := (hhold i hi').1
    rw [getElem!_pos d' i hi', Nat.zero_add] at hc
    have hx := d'[i].2
    obtain ⟨hd1, a, c, ev, h1, h2, h3⟩ := id hx.1
    refine ⟨a, d'[i].1.2.length, c, ?_, ?_⟩
    · exact hc.trans (congrArg some ev)
    · rw [← ev]
      simp only [List.getElem_map, Array.getElem_toList]
      exact hx.1.grown1 hgr hx.2.1
  · have hperm := hp.2.2
    rw [Array.extract_eq_self_of_le (by omega), Array.extract_eq_self_of_le (by omega)] at hperm
    have h2 := hperm.map (fun x : El w g => x.1.2)
    have e1 : d.toList.map (fun x : El w g => x.1.2) = ls := by
      apply List.ext_getElem
      · simp [hds, hlen]
      · intro i h1 h2
        simp only [List.getElem_map, Array.getElem_toList]
        rw [hdi i (by omega)]
    rwa [e1] at h2
  · simp only [List.getElem_map, Array.getElem_toList]
    simp at hi hj
    have := hs i j (by omega) hij (by omega)
    rw [getElem!_pos d' i hi, getElem!_pos d' j hj] at this
    simpa [ltOf] using this
end
end Go.Proofs.Ytplfeeaocjgliaa
/- What package factor's Factors returns. -/
namespace Go.Proofs.Ytplfeeaocjgliaa
open Go.RowKit
set_option linter.unusedVariables false

theorem own_zeros (w : World) (n : Nat) (base : Nat) (hb : base ≤ w.heap.size) (hn : n ≤ 1000000) : Own1 (w.alloc (.cells (zrow n) 22)) base (.slice (some ⟨w.heap.size, 0, none⟩) n n) (List.replicate n 0) := by
  have hr := Row.zeros w n
  refine ⟨hr.1, by rw [pcells_len, List.length_replicate]; omega, .inr ⟨w.heap.size, n, zrow n, by rw [List.length_replicate], hb, Rw.new w _, by simp, by unfold maxLen; omega, by rw [zrow_size]; omega, ?_⟩⟩
  apply List.ext_getElem?
  intro j
  rw [List.length_replicate, Nat.mul_one]
  by_cases hj : j < n
  · rw [List.getElem?_take_of_lt hj, Array.getElem?_toList, zrow_at n j hj, pcells_at _ _ (by simpa using hj), cf_rep]
  · rw [List.getElem?_eq_none (by simp; omega), List.getElem?_eq_none (by rw [pcells_len]; simp; omega)]
theorem xn_set (m : Nat) (hm : 1 ≤ m) : ((List.replicate (m + 1) (0 : Int)).set 0 1).set m 1 = Op.xn m := by
  apply Op.ext_cf
  · rw [Oq.xn_len]; simp
  · intro i
    rw [cf_set _ _ _ _ (by simp), cf_set _ _ _ _ (by simp), cf_rep, Op.cf_xn m i hm]
    by_cases h1 : i = m
    · rw [if_pos h1, if_pos (.inr h1)]
    · rw [if_neg h1]
      by_cases h2 : i = 0
      · rw [if_pos h2, if_pos (.inl h2)]
      · rw [if_neg h2, if_neg (by omega)]

set_option maxHeartbeats 1000000 in
theorem binomial_any (m : Nat) (w : World) (hm : 2 ≤ m ∧ m ≤ 32) : Calls Try.prog 27 #[.int .i64 m] w (NewP (Op.xn m) w) := by
  obtain ⟨m1, m2⟩ := hm
  have hmk := mk_row (m + 1) ((m : Int) + 1) (by omega) (by omega)
  have HZ := Lib.hid (own_zeros w (m + 1) w.heap.size (Nat.le_refl _) (by omega))
  have hr := Row.zeros w (m + 1)
  have c0 := hr.cell (j := 0) (by simp)
  have c1 := hr.cell (j := m) (by simp)
  have f0 := hr.frozen 0
  have f1 := hr.frozen m
  rw [cf_rep] at c0 c1
  have hz : ((zrow (m + 1)).setIfInBounds 0 (.int .u32 1))[m]? = some (.int .u32 0) := by
    rw [Array.getElem?_setIfInBounds_ne (by omega), zrow_at _ _ (by omega)]
  clear hr
  go_enter Try.func27, Try.ntmps27
  go_wp2_with fail
  go_ret
  obtain ⟨k1, k2⟩ := HZ.out.set (j := 0) (by simp) (x := 1) (by omega)
  obtain ⟨k3, k4⟩ := k1.set (j := m) (by simp) (x := 1) (by omega)
  rw [xn_set m (by omega)] at k3
  have e : ((w.alloc (.cells (zrow (m + 1)) 22)).setCell ⟨w.heap.size, 0, none⟩ (.int .u32 1)).setCell ⟨w.heap.size, m, none⟩ (.int .u32 1) = w.alloc (.cells (((zrow (m + 1)).setIfInBounds 0 (.int .u32 1)).setIfInBounds m (.int .u32 1)) 22) := by simp [go_sem]
  have h5 := k3.hasP
  rw [e] at h5
  exact ⟨_, _, _, rfl, h5, fun q hq => by cases hq; exact Nat.le_refl _, Gr.new w _⟩

/-- What Factors returns. -/
def FacP (n : Int) (p : Nat) (w : World) (e : Ending) (w' : World) : Prop :=
  (¬ (DimI n ∧ PlP p) ∧ e = .returned (.tuple #[.slice none 0 0, .int .i64 2]) ∧ Gr w w') ∨
  (DimI n ∧ PlP p ∧ ∃ d g c vs ts, e = .returned (.tuple #[.slice (some ⟨g, 0, none⟩) ts.length c, .int .i64 0]) ∧ ts.length ≤ c ∧ c ≤ 9223372036854775807 ∧ HasLL w' g ts.length vs ts ∧ Oq.PD n.toNat p d ∧ Oq.Lv p d (Op.xn n.toNat) ts ∧
    (∀ i j (hi : i < ts.length) (hj : j < ts.length), i < j → Oq.cmpL ts[i] ts[j] < 0) ∧ Gr w w')

set_option maxRecDepth 100000 in
set_option maxHeartbeats 2000000 in
theorem ffactors_any (n : Int) (p : Nat) (w : World) (hn : -9223372036854775808 ≤ n ∧ n ≤ 9223372036854775807) (hp : p ≤ 4294967295) : Calls Try.prog 13 #[.int .i64 n, .int .u32 p] w (FacP n p w) := by
  by_cases hok : DimI n ∧ PlP p
  · obtain ⟨hdim, hpl⟩ := hok
    obtain ⟨hmem, hnn, hn2, hn32⟩ := hdim.mem
    obtain ⟨m, hm⟩ : ∃ m, m = n.toNat := ⟨_, rfl⟩
    rw [← hm] at hmem hnn hn2 hn32
    have HD := Lib.hid hdim
    have HPL := Lib.hid hpl
    have HM := Lib.hid hm
    have HMEM := Lib.hid hmem
    subst hnn
    have HN := Lib.hid hn
    clear hdim hpl hm hmem hn
    go_enter Try.func13, Try.ntmps13
    go_wp2_with fail
    refine (fdegree_any (m : Int) p _ HN.out hp).mono ?_
    rintro e w1 ⟨d, E, rfl, hdeg, hg⟩
    obtain ⟨rfl, hpd⟩ : E = 0 ∧ Oq.PD m p d := by
      rcases hdeg with ⟨_, _, h1, h2⟩ | ⟨h1, _⟩
      · exact ⟨h1, by rw [HM.out]; exact h2⟩
      · exact absurd ⟨HD.out, HPL.out⟩ h1
    have HPD := Lib.hid hpd
    have HG := Lib.hid hg
    clear hdeg hpd hg
    go_wp2_with fail
    refine (binomial_any m _ ⟨hn2, hn32⟩).mono ?_
    rintro e w2 ⟨xb, nb, cb, rfl, hb, -, hg2⟩
    have HB := Lib.hid (And.intro hb hg2)
    clear hb hg2
    go_wp2_with fail
    refine (split_any p m d (Op.xn m) _ _ HPD.out HPL.out.2.1 (Oq.dz_whole HPL.out.2.2 HPL.out.1 HMEM.out) (by rw [Oq.xn_len]; omega) HB.out.1).mono ?_
    rintro e w3 ⟨v, vs, ls, bl, rfl, hls, hlv, hg3⟩
    have hcount := hlv.count (by have := HPL.out.1; omega) (Oq.dz_whole HPL.out.2.2 HPL.out.1 HMEM.out).nor
    rw [Oq.xn_len] at hcount
    have hlen : ls.length ≠ 0 := fun h => by rw [h] at hcount; omega
    have hle : ls.length ≤ ls.length * d := Nat.le_mul_of_pos_right _ HPD.out.d1
    have hvl : vs.length = ls.length := hls.2.1
    obtain ⟨k, hk⟩ : ∃ k, vs.length = k + 1 := ⟨vs.length - 1, by omega⟩
    obtain ⟨g, cap, rfl⟩ : ∃ g cap, v = .slice (some ⟨g, 0, none⟩) vs.length cap := by
      have h1 := hls.1
      rw [hk] at h1 ⊢
      exact owns_form h1
    have hll : ∀ l ∈ ls, l.length ≤ 100000 := fun l hl => by
      have := (hlv.1 l hl).2.2
      have := PD_le HPD.out (by omega)
      omega
    have H3 := Lib.hid (And.intro hls (And.intro hlv hg3))
    have hcap : vs.length ≤ cap ∧ cap ≤ 9223372036854775807 := by
      rcases hls.1.2 with ⟨e, _⟩ | ⟨g', cap', cur, e, _, _, h1, h2, _⟩
      · cases e
      · cases e
        exact ⟨h1, h2⟩
    have hw3 : w2.heap.size + 4 ≤ w3.heap.size ∨ w3.heap.size < w2.heap.size + 4 := by omega
    have hsz3 : w2.heap.size + 4 ≤ w3.heap.size := by
      have h1 := (hls.1.lt g rfl)
      omega
    have HLL := Lib.hid hll
    obtain ⟨N, hN⟩ : ∃ N, N = vs.length := ⟨_, rfl⟩
    have HNV := Lib.hid hN
    have HVL := Lib.hid (And.intro hvl (And.intro hcount (And.intro hlen (And.intro hle hcap))))
    have hsa := sort_any (w2.heap.size + 4) bl g cap vs ls w3 H3.out.1 (by omega) (by omega) HLL.out hsz3
    rw [← hN] at hsa ⊢
    clear hls hlv hg3 hll hw3 hvl hcount hlen hle hcap hk hN
    go_wp2_with fail
    refine hsa.mono ?_
    rintro e w4 ⟨rfl, us, ts, hhas, hperm, hsort, hb4⟩
    clear hsa
    have hts : N = ts.length := hhas.1
    obtain ⟨hvl, hcount, hlen, hle, hcap⟩ := HVL.out
    rw [← HNV.out] at hvl hcap
    have HHC := Lib.hid hcap
    have HTS := Lib.hid hts
    clear hvl hcount hlen hle hcap hts
    have H4 := Lib.hid (And.intro hhas (And.intro hperm (And.intro hsort hb4)))
    clear hhas hperm hsort hb4
    go_wp2_with fail
    go_ret2
    obtain ⟨hhas, hperm, hsort, hb4⟩ := H4.out
    have hlv := H3.out.2.1.perm hperm.symm
    have hnd := hlv.nodup HPL.out.2.2 HPL.out.1 HMEM.out HPD.out
    have hg23 : Gr w2 w4 := Below.trans H3.out.2.2 (hb4.mono (by omega))
    refine .inr ⟨HD.out, HPL.out, d, g, cap, us, ts, by rw [HTS.out]; rfl, by rw [← HTS.out]; exact HHC.out.1, HHC.out.2, by rw [← HTS.out]; exact hhas, by rw [← HM.out]; exact HPD.out, by rw [← HM.out]; exact hlv, fun i j hi hj hij => ?_, (HG.out.trans HB.out.2).trans hg23⟩
    have h1 := hsort i j hi hj hij
    have h2 := Oq.cmpL_neg ts[i] ts[j]
    rcases Int.lt_or_eq_of_le (show Oq.cmpL ts[i] ts[j] ≤ 0 by omega) with h3 | h3
    · exact h3
    · have h4 := Oq.cmpL_eq _ _ h3
      have := List.pairwise_iff_getElem.1 hnd i j hi hj hij
      exact absurd h4 this
  · have H := Lib.hid hok
    have HN := Lib.hid hn
    clear hok hn
    go_enter Try.func13, Try.ntmps13
    go_wp2_with fail
    refine (fdegree_any n p _ HN.out hp).mono ?_
    rintro e w1 ⟨d, E, rfl, hdeg, hg⟩
    obtain rfl : E = 2 := by
      rcases hdeg with ⟨h1, h2, _⟩ | ⟨_, h1, _⟩
      · exact absurd ⟨h1, h2⟩ H.out
      · exact h1
    have HG := Lib.hid hg
    clear hdeg hg
    go_wp2_with fail
    go_ret2
    exact .inl ⟨H.out, rfl, HG.out⟩
end Go.Proofs.Ytplfeeaocjgliaa
/- Slices of int64 that hold numbers (made from the texts on []uint32). -/
namespace Go.Proofs.Ytplfeeaocjgliaa.Lo
open Go.RowKit
set_option linter.unusedVariables false

def I64 (l : List Int) : Prop := ∀ x ∈ l, -9223372036854775808 ≤ x ∧ x < 9223372036854775808
theorem I64.nil : I64 [] := fun x hx => (by cases hx)
theorem I64.at_ {l : List Int} (h : I64 l) (i : Nat) : -9223372036854775808 ≤ Op.cf l i ∧ Op.cf l i < 9223372036854775808 := by
  by_cases hi : i < l.length
  · exact h _ (Op.cf_mem hi)
  · rw [Op.cf_out (by omega)]; omega
theorem I64.take {l : List Int} (h : I64 l) (k : Nat) : I64 (l.take k) := fun x hx => h x (List.mem_of_mem_take hx)
theorem I64.drop {l : List Int} (h : I64 l) (k : Nat) : I64 (l.drop k) := fun x hx => h x (List.mem_of_mem_drop hx)
theorem I64.app {l m : List Int} (h : I64 l) (k : I64 m) : I64 (l ++ m) := fun x hx => by
  rcases List.mem_append.1 hx with h1 | h1
  · exact h x h1
  · exact k x h1
theorem I64.one {x : Int} (h : -9223372036854775808 ≤ x ∧ x < 9223372036854775808) : I64 [x] := fun y hy => by
  simp at hy; subst hy; exact h
theorem I64.tz {l : List Int} (h : I64 l) : I64 (Op.tz l) := fun x hx => h x (Op.tz_mem hx)

/-- A slice holds numbers. -/
def HasQ (W : World) (v : Value) (l : List Int) : Prop :=
  I64 l ∧ ∃ a cap, v = .slice a l.length cap ∧ l.length ≤ cap ∧ cap ≤ 9223372036854775807 ∧
    ∀ i, i < l.length → ∃ g o, a = some ⟨g, o, none⟩ ∧ W.cell? ⟨g, o + i, none⟩ = some (.int .i64 (Op.cf l i))
theorem HasQ.later {W W' : World} {v : Value} {l : List Int} (h : HasQ W v l) (hg : Gr W W') : HasQ W' v l := by
  obtain ⟨hd, a, cap, rfl, h1, h2, h3⟩ := h
  refine ⟨hd, a, cap, rfl, h1, h2, fun i hi => ?_⟩
  obtain ⟨g, o, e, hc⟩ := h3 i hi
  exact ⟨g, o, e, hg.keeps hc⟩
theorem HasQ.nil (W : World) : HasQ W (.slice none 0 0) [] := ⟨I64.nil, none, 0, rfl, Nat.le_refl _, by omega, fun i hi => absurd hi (by simp)⟩
theorem HasQ.take {W : World} {a : Option Addr} {l : List Int} {n cap k : Nat} (h : HasQ W (.slice a n cap) l) (hk : k ≤ l.length) : HasQ W (.slice a k cap) (l.take k) := by
  obtain ⟨hd, a', cap', e, h1, h2, hc⟩ := h
  simp only [Value.slice.injEq] at e
  obtain ⟨rfl, -, rfl⟩ := e
  have hlen : (l.take k).length = k := by rw [List.length_take]; omega
  refine ⟨hd.take k, a, cap, by rw [hlen], by omega, h2, fun i hi => ?_⟩
  rw [hlen] at hi
  obtain ⟨g, o, e, hcell⟩ := hc i (by omega)
  exact ⟨g, o, e, by rw [Op.cf_take, if_pos hi]; exact hcell⟩
theorem tz_take (l : List Int) : Op.tz l = l.take (Op.tz l).length := by
  apply Op.ext_cf
  · have := Op.tz_len l
    rw [List.length_take]; omega
  · intro i
    rw [Op.cf_take]
    split
    · exact Op.cf_tz l i
    · exact Op.cf_out (by omega)
theorem HasQ.tz {W : World} {a : Option Addr} {l : List Int} {n cap : Nat} (h : HasQ W (.slice a n cap) l) : HasQ W (.slice a (Op.tz l).length cap) (Op.tz l) := by
  have := h.take (Op.tz_len l)
  rwa [← tz_take] at this
theorem HasQ.len {W : World} {a : Option Addr} {l : List Int} {n cap : Nat} (h : HasQ W (.slice a n cap) l) : n = l.length ∧ n ≤ cap := by
  obtain ⟨hd, a', cap', e, h1, h2, hc⟩ := h
  simp only [Value.slice.injEq] at e
  obtain ⟨rfl, rfl, rfl⟩ := e
  exact ⟨rfl, h1⟩
theorem HasQ.block {W : World} {v : Value} {l : List Int} (h : HasQ W v l) (h0 : 0 < l.length) : ∃ b, v.ownBlock = some b ∧ b < W.heap.size := by
  obtain ⟨_, a, cap, rfl, _, _, hc⟩ := h
  obtain ⟨g, o, rfl, hc0⟩ := hc 0 h0
  exact ⟨g, rfl, World.block_lt_of_cell? W _ hc0⟩

/-- Block g is a row of numbers of 32 bits. -/
def Rw (W : World) (g : Nat) (cur : Array Value) : Prop := W.heap[g]? = some (.cells cur 2 (0, 0))
theorem Rw.cell {W : World} {g : Nat} {cur : Array Value} (h : Rw W g cur) (j : Nat) : W.cell? ⟨g, j, none⟩ = cur[j]? := by
  simp [World.cell?, show W.heap[g]? = _ from h]
theorem Rw.frozen {W : World} {g : Nat} {cur : Array Value} (h : Rw W g cur) (j : Nat) : W.frozen? ⟨g, j, none⟩ = false := by
  simp [World.frozen?, show W.heap[g]? = _ from h]
theorem Rw.set {W : World} {g : Nat} {cur : Array Value} (h : Rw W g cur) (j : Nat) (u : Value) : Rw (W.setCell ⟨g, j, none⟩ u) g (cur.setIfInBounds j u) := by
  obtain ⟨hlt, hk⟩ := Array.getElem?_eq_some_iff.1 (show W.heap[g]? = _ from h)
  show (W.heap.modify g _)[g]? = _
  rw [Array.getElem?_eq_getElem (by rw [Array.size_modify]; exact hlt), Array.getElem_modify_self, hk]
  rfl
theorem Rw.new (w : World) (cur : Array Value) : Rw (w.alloc (.cells cur 2)) w.heap.size cur := heap_alloc_new w _
theorem Rw.lt {W : World} {g : Nat} {cur : Array Value} (h : Rw W g cur) : g < W.heap.size := (Array.getElem?_eq_some_iff.1 (show W.heap[g]? = _ from h)).1
theorem Rw.later {W W' : World} {g : Nat} {cur : Array Value} (h : Rw W g cur) (k : Gr W W') : Rw W' g cur := by
  show W'.heap[g]? = _
  rw [k.block g h.lt]; exact h

/-- W' is W, but for the cells of block g from o on: they hold the numbers l. -/
structure Upd (g o : Nat) (l : List Int) (W W' : World) : Prop where
  os : W'.os = W.os
  tape : W'.tape = W.tape
  output : W'.output = W.output
  size : W'.heap.size = W.heap.size
  block : ∀ k, k ≠ g → W'.heap[k]? = W.heap[k]?
  row : ∃ cur cur', Rw W g cur ∧ Rw W' g cur' ∧ cur'.size = cur.size ∧ o + l.length ≤ cur.size ∧ ∀ j, cur'[j]? = if o ≤ j ∧ j < o + l.length then some (.int .i64 (Op.cf l (j - o))) else cur[j]?
theorem Upd.start {W : World} {g o : Nat} {cur : Array Value} (h : Rw W g cur) (ho : o ≤ cur.size) : Upd g o [] W W :=
  ⟨rfl, rfl, rfl, rfl, fun _ _ => rfl, cur, cur, h, h, rfl, by simpa using ho, fun j => by rw [if_neg (by simp)]⟩
theorem Upd.step {W W' : World} {g o : Nat} {l : List Int} (h : Upd g o l W W') {k : Nat} {d : Int} (hk : l.length = k) {v : Value} (hc : W.cell? ⟨g, o + k, none⟩ = some v) : Upd g o (l ++ [d]) W (W'.setCell ⟨g, o + k, none⟩ (.int .i64 d)) := by
  subst hk
  obtain ⟨h1, h2, h3, h4, h5, cur, cur', r1, r2, r3, r4, r5⟩ := h
  have hlt : o + l.length < cur.size := by
    rw [r1.cell] at hc
    exact (Array.getElem?_eq_some_iff.1 hc).1
  refine ⟨h1, h2, h3, by simpa using h4, fun k hk => ?_, cur, _, r1, r2.set _ _, by simpa using r3, by simp; omega, fun j => ?_⟩
  · rw [Below.heap_setCell _ _ _ _ hk]; exact h5 k hk
  · rw [Array.getElem?_setIfInBounds]
    by_cases e : o + l.length = j
    · subst e
      rw [if_pos rfl, if_pos (by omega), if_pos (by simp)]
      rw [Op.cf_append, if_neg (by omega)]
      simp
    · rw [if_neg e, r5]
      by_cases e2 : o ≤ j ∧ j < o + l.length
      · rw [if_pos e2, if_pos (by simp; omega), Op.cf_append, if_pos (by omega)]
      · rw [if_neg e2, if_neg (by simp; omega)]
theorem Upd.drewN {W W' : World} {g o : Nat} {l : List Int} (h : Upd g o l W W') (n : Nat) : Upd g o l W (W'.drewN n) := by
  obtain ⟨h1, h2, h3, h4, h5, cur, cur', r1, r2, r3⟩ := h
  exact ⟨h1, h2, h3, h4, h5, cur, cur', r1, r2, r3⟩
theorem Upd.cell_out {W W' : World} {g o : Nat} {l : List Int} (h : Upd g o l W W') {j : Nat} (hj : j < o ∨ o + l.length ≤ j) : W'.cell? ⟨g, j, none⟩ = W.cell? ⟨g, j, none⟩ := by
  obtain ⟨_, _, _, _, _, cur, cur', r1, r2, r3, r4, r5⟩ := h
  rw [r2.cell, r5, if_neg (by omega), r1.cell]
theorem Upd.cell_other {W W' : World} {g o : Nat} {l : List Int} (h : Upd g o l W W') {p : Addr} (hp : p.block ≠ g) : W'.cell? p = W.cell? p := World.cell?_of_block (w := W) (h.block p.block hp)
theorem Upd.frozen {W W' : World} {g o : Nat} {l : List Int} (h : Upd g o l W W') (j : Nat) : W'.frozen? ⟨g, j, none⟩ = false := by
  obtain ⟨_, _, _, _, _, cur, cur', r1, r2, _⟩ := h
  exact r2.frozen j
theorem Upd.gr {w W W' : World} {g o : Nat} {l : List Int} (h : Upd g o l W W') (hg : Gr w W) (hs : w.heap.size ≤ g) : Gr w W' :=
  ⟨h.os.trans hg.os, h.tape.trans hg.tape, h.output.trans hg.output, by rw [h.size]; exact hg.size, fun k hk => (h.block k (by omega)).trans (hg.block k hk)⟩
/-- Numbers in another block are as they were. -/
theorem HasQ.upd {W W' : World} {g o : Nat} {l m : List Int} {v : Value} (h : HasQ W v m) (hu : Upd g o l W W') (hg : 0 < m.length → v.ownBlock ≠ some g) : HasQ W' v m := by
  obtain ⟨hd, a, cap, rfl, h1, h2, h3⟩ := h
  refine ⟨hd, a, cap, rfl, h1, h2, fun i hi => ?_⟩
  obtain ⟨b, p, e, hc⟩ := h3 i hi
  subst e
  refine ⟨b, p, rfl, ?_⟩
  rw [hu.cell_other (p := ⟨b, p + i, none⟩) (fun e => hg (by omega) (by simp only [Value.ownBlock]; exact congrArg some e))]
  exact hc

/-- Block g holds just the numbers l, and cells behind them. -/
def Row (W : World) (g : Nat) (l : List Int) : Prop := I64 l ∧ ∃ cur, Rw W g cur ∧ l.length ≤ cur.size ∧ ∀ j, j < l.length → cur[j]? = some (.int .i64 (Op.cf l j))
theorem Row.cell {W : World} {g : Nat} {l : List Int} (h : Row W g l) {j : Nat} (hj : j < l.length) : W.cell? ⟨g, j, none⟩ = some (.int .i64 (Op.cf l j)) := by
  obtain ⟨_, cur, h1, _, h2⟩ := h
  rw [h1.cell, h2 j hj]
theorem Row.frozen {W : World} {g : Nat} {l : List Int} (h : Row W g l) (j : Nat) : W.frozen? ⟨g, j, none⟩ = false := by
  obtain ⟨_, cur, h1, _, h2⟩ := h
  exact h1.frozen j
theorem Row.lt {W : World} {g : Nat} {l : List Int} (h : Row W g l) : g < W.heap.size := by
  obtain ⟨_, cur, h1, _, h2⟩ := h
  exact h1.lt
theorem Row.later {W W' : World} {g : Nat} {l : List Int} (h : Row W g l) (k : Gr W W') : Row W' g l := by
  obtain ⟨h0, cur, h1, h2⟩ := h
  exact ⟨h0, cur, h1.later k, h2⟩
theorem Row.hasQ {W : World} {g : Nat} {l : List Int} (h : Row W g l) {cap : Nat} (h1 : l.length ≤ cap) (h2 : cap ≤ 9223372036854775807) : HasQ W (.slice (some ⟨g, 0, none⟩) l.length cap) l :=
  ⟨h.1, _, cap, rfl, h1, h2, fun i hi => ⟨g, 0, rfl, by rw [Nat.zero_add]; exact h.cell hi⟩⟩
/-- What is written from o on. -/
def put (l : List Int) (o : Nat) (pre : List Int) : List Int := l.take o ++ pre ++ l.drop (o + pre.length)
theorem put_len {l : List Int} {o : Nat} {pre : List Int} (h : o + pre.length ≤ l.length) : (put l o pre).length = l.length := by
  simp only [put, List.length_append, List.length_take, List.length_drop]; omega
theorem cf_put {l : List Int} {o : Nat} {pre : List Int} (h : o + pre.length ≤ l.length) (j : Nat) : Op.cf (put l o pre) j = if o ≤ j ∧ j < o + pre.length then Op.cf pre (j - o) else Op.cf l j := by
  have e1 : (l.take o).length = o := by rw [List.length_take]; omega
  rw [put, Op.cf_append, Op.cf_append, List.length_append, e1, Op.cf_take, Op.cf_drop]
  by_cases h1 : j < o
  · rw [if_pos (by omega), if_pos h1, if_pos h1, if_neg (by omega)]
  · by_cases h2 : j < o + pre.length
    · rw [if_pos h2, if_neg h1, if_pos (by omega)]
    · rw [if_neg h2, if_neg (by omega)]; congr 1; omega
theorem Row.upd {W W' : World} {g o : Nat} {l pre : List Int} (h : Row W g l) (hu : Upd g o pre W W') (hp : I64 pre) (ho : o + pre.length ≤ l.length) : Row W' g (put l o pre) := by
  obtain ⟨h0, cur, h1, h2, h3⟩ := h
  obtain ⟨_, _, _, _, _, c1, c2, r1, r2, r3, r4, r5⟩ := hu
  obtain rfl : c1 = cur := by have := (show W.heap[g]? = _ from r1).symm.trans h1; cases this; rfl
  refine ⟨(h0.take o).app hp |>.app (h0.drop _), c2, r2, by rw [put_len ho]; omega, fun j hj => ?_⟩
  rw [put_len ho] at hj
  rw [r5, cf_put ho]
  by_cases e : o ≤ j ∧ j < o + pre.length
  · rw [if_pos e, if_pos e]
  · rw [if_neg e, if_neg e]; exact h3 j hj

/-- A row of zeros. -/
def zrow (n : Nat) : Array Value := madeCells #[.int .i64 0] n
theorem zrow_size (n : Nat) : (zrow n).size = n := size_madeCells _ _
theorem zrow_at (n j : Nat) (h : j < n) : (zrow n)[j]? = some (.int .i64 0) := by
  unfold zrow madeCells
  rw [Array.getElem?_eq_getElem (by simpa using h)]
  simp [Nat.mod_one]
theorem infoI64 : (Try.prog.info? 2).map (fun i => (i.zero, i.size, i.bytes)) = some (some (.int .i64 0), 1, 8) := by kernel_rfl
theorem mk_row (n : Nat) (L : Int) (hL : L = n) (hn : n ≤ 1000000) (w : World) : (Instr.makeSlice 38 (.int .i64 L) (.int .i64 L)).run Try.prog w = .ok (.slice (some ⟨w.heap.size, 0, none⟩) n n) (w.alloc (.cells (zrow n) 2)) := by
  obtain ⟨i0, hi, hz0, hz1, hz2⟩ := info_parts infoI64
  subst hL
  have := run_make (P := Try.prog) w 38 2 i0 (.int .i64 0) Try.underlying38 hi hz0 .i64 .i64 (n : Int) (n : Int) (by omega) (Int.le_refl _) (by rw [hz2]; omega) (by omega)
  rw [this, hz1, Int.toNat_natCast, Nat.mul_one]
  rfl
theorem cf_rep (n i : Nat) : Op.cf (List.replicate n 0) i = 0 := by
  induction n generalizing i with
  | zero => simp
  | succ n ih => cases i with
    | zero => rfl
    | succ i => exact ih i
theorem Row.zeros (w : World) (n : Nat) : Row (w.alloc (.cells (zrow n) 2)) w.heap.size (List.replicate n 0) :=
  ⟨fun x hx => by rw [List.eq_of_mem_replicate hx]; omega, zrow n, Rw.new w _, by rw [zrow_size]; simp, fun j hj => by rw [List.length_replicate] at hj; rw [zrow_at n j hj, cf_rep]⟩
/-- New numbers. -/
def NewP (l : List Int) (w : World) (e : Ending) (w' : World) : Prop :=
  ∃ a n c, e = .returned (.slice a n c) ∧ HasQ w' (.slice a n c) l ∧ (∀ p, a = some p → w.heap.size ≤ p.block) ∧ Gr w w'
/-- Numbers as cells. -/
def pcells (l : List Int) : List Value := l.map (.int .i64 ·)
theorem pcells_at (l : List Int) (i : Nat) (hi : i < l.length) : (pcells l)[i]? = some (.int .i64 (Op.cf l i)) := by
  rw [← Op.cf_at]; simp [pcells, hi]
theorem pcells_len (l : List Int) : (pcells l).length = l.length := by simp [pcells]
theorem pcells_one (l : List Int) : ∀ v ∈ pcells l, v.oneCell' = true := by
  intro u hu; obtain ⟨x, _, rfl⟩ := List.mem_map.1 hu; rfl
/-- A slice of the call's own that holds numbers. -/
def Own1 (W : World) (base : Nat) (v : Value) (l : List Int) : Prop := I64 l ∧ W.ownsRow base 2 1 v l.length (pcells l)
theorem Own1.hasQ {W : World} {base : Nat} {v : Value} {l : List Int} (h : Own1 W base v l) : HasQ W v l := by
  refine ⟨h.1, ?_⟩
  rcases h.2.2 with ⟨rfl, h0⟩ | ⟨g, cap, cur, rfl, _, hg, h1, h2, h3, h4⟩
  · exact ⟨none, 0, by rw [h0], by omega, by omega, fun i hi => by omega⟩
  · refine ⟨_, cap, rfl, h1, by unfold maxLen at h2; omega, fun i hi => ⟨g, 0, rfl, ?_⟩⟩
    have hc : W.cell? ⟨g, i, none⟩ = (pcells l)[i]? := by
      rw [← h4, List.getElem?_take_of_lt (by omega)]
      simp [World.cell?, hg]
    rw [Nat.zero_add, hc, pcells_at l i hi]
/-- The block that it lies in. -/
theorem Own1.row {W : World} {base : Nat} {v : Value} {l : List Int} (h : Own1 W base v l) (h0 : 0 < l.length) : ∃ g cap, v = .slice (some ⟨g, 0, none⟩) l.length cap ∧ base ≤ g ∧ l.length ≤ cap ∧ cap ≤ 9223372036854775807 ∧ Row W g l := by
  have hd := h.hasQ
  rcases h.2.2 with ⟨rfl, h1⟩ | ⟨g, cap, cur, rfl, hb, hg, h1, h2, h3, h4⟩
  · omega
  · refine ⟨g, cap, rfl, hb, h1, by unfold maxLen at h2; omega, h.1, cur, hg, by omega, fun i hi => ?_⟩
    have : cur.toList[i]? = (pcells l)[i]? := by rw [← h4, List.getElem?_take_of_lt (by omega)]
    rw [Array.getElem?_toList] at this
    rw [this, pcells_at l i hi]
theorem Own1.nil (W : World) (base : Nat) : Own1 W base (.slice none 0 0) [] := ⟨I64.nil, World.ownsRow_nil _ _ _ _⟩
theorem Own1.fresh {W : World} {base : Nat} {v : Value} {l : List Int} (h : Own1 W base v l) {a : Option Addr} {n c : Nat} (hv : v = .slice a n c) : ∀ p, a = some p → base ≤ p.block := by
  intro p hp
  subst hv hp
  rcases h.2.2 with ⟨e, _⟩ | ⟨g, cap, cur, e, hb, _⟩
  · cases e
  · cases e
    exact hb
theorem Own1.form {W : World} {base : Nat} {v : Value} {l : List Int} (h : Own1 W base v l) : ∃ a c, v = .slice a l.length c ∧ l.length ≤ c ∧ c ≤ 9223372036854775807 := by
  obtain ⟨_, a, c, e, h1, h2, _⟩ := h.hasQ
  exact ⟨a, c, e, h1, h2⟩
theorem Own1.alloc {W : World} {base : Nat} {v : Value} {l : List Int} (h : Own1 W base v l) (o : Obj) : Own1 (W.alloc o) base v l := ⟨h.1, h.2.alloc o⟩
theorem Own1.drew {W : World} {base : Nat} {v : Value} {l : List Int} (h : Own1 W base v l) : Own1 W.drew base v l := h

theorem run_app (w : World) (base : Nat) (v : Value) (l0 : List Int) (hown : Own1 w base v l0) (u : Value) (m : List Int) (hu : HasQ w u m) (hlen : l0.length + m.length ≤ 1000000) (hbase : base ≤ w.heap.size) :
    ∃ v' w', (Builtin.append_ #[38, 38] 38 #[v, u]).run Try.prog w = .ok v' w' ∧ Own1 w' base v' (l0 ++ m) ∧ w.grownBy w' v.ownBlock := by
  obtain ⟨i0, hi, hz0, hz1, hz2⟩ := info_parts infoI64
  obtain ⟨hd0, hown⟩ := hown
  obtain ⟨hdm, a, cap, rfl, h1, h2, hc⟩ := hu
  have hdg : I64 (l0 ++ m) := hd0.app hdm
  have hcells : pcells (l0 ++ m) = pcells l0 ++ pcells m := by simp [pcells]
  rcases a with _ | ad
  · have hm : m = [] := by
      rcases m with _ | ⟨x, m⟩
      · rfl
      · obtain ⟨g, o, e, _⟩ := hc 0 (by simp)
        cases e
    subst hm
    refine ⟨v, w, ?_, by rw [List.append_nil]; exact ⟨hd0, hown⟩, World.grownBy.refl w _⟩
    rcases hown.2 with ⟨rfl, _⟩ | ⟨g, cap', cur, rfl, _, _, hnc, _⟩
    · simp [Builtin.append_, run_underlying Try.underlying38, sizeOf, typeInfo, hi, Builtin.lenOf, Builtin.firstCells]
    · simp [Builtin.append_, run_underlying Try.underlying38, sizeOf, typeInfo, hi, Builtin.lenOf, Builtin.firstCells, hnc, storeCells]
  · have hnews : ∀ j x, (pcells m)[j]? = some x → w.cell? (ad.add j) = some x := by
      intro j x hx
      have hj : j < m.length := by
        have := (List.getElem?_eq_some_iff.1 hx).1
        rwa [pcells_len] at this
      obtain ⟨g, o, e, hcell⟩ := hc j hj
      obtain rfl := Option.some.inj e
      rw [pcells_at m j hj] at hx
      have e2 : (⟨g, o, none⟩ : Addr).add j = ⟨g, o + j, none⟩ := addr_add rfl _ rfl
      rw [e2, hcell]; exact hx
    obtain ⟨v', w', hr, h5, h6, _⟩ := run_append_own (P := Try.prog) w base 38 38 2 i0 (.int .i64 0) 1 8 Try.underlying38 hi hz0 hz1 hz2 rfl (by decide) v l0.length (pcells l0) hown ad m.length cap (pcells m) (by rw [pcells_len]; omega) hnews (pcells_one m) (by unfold maxLen; omega) (by omega) hbase
    exact ⟨v', w', hr, ⟨hdg, by rw [hcells, List.length_append]; exact h5⟩, h6⟩
theorem wp_app {o : Oper} {a : Act} {w : World} {K : Act → World → Prop} {Q : Exit → Act → World → Prop} (s x : Operand)
    (ho : o.op = .call { callee := .builtin .append, args := #[s, x], argTypes := #[38, 38] }) (hty : o.type = 38)
    (base : Nat) (v : Value) (l0 : List Int) (hs : a.eval s = v) (hown : Own1 w base v l0) (u : Value) (m : List Int) (hx : a.eval x = u) (hu : HasQ w u m) (hlen : l0.length + m.length ≤ 1000000) (hbase : base ≤ w.heap.size)
    (h : ∀ v' w', Own1 w' base v' (l0 ++ m) → w.grownBy w' v.ownBlock → K (a.put o.dst v') w') : Oper.wp Try.prog o a w K Q := by
  obtain ⟨v', w', hr, h2, h3⟩ := run_app w base v l0 hown u m hu hlen hbase
  unfold Oper.wp execOp
  simp only [ho, hty, resolve, invoke, builtin, Sem.run_bind, Sem.run_pure, Result.andThen_ok, List.map_toArray, List.map_cons, List.map_nil, hs, hx, hr]
  exact h v' w' h2 h3
/-- append as a law of the walk. -/
theorem wpList_app {ops : Array Oper} {rest : List Oper} {o : Oper} {a : Act} {w : World} {Q : Exit → Act → World → Prop} (hgd : o.guard = none) (s x : Operand)
    (ho : o.op = .call { callee := .builtin .append, args := #[s, x], argTypes := #[38, 38] }) (hty : o.type = 38)
    (base : Nat) (v : Value) (l0 : List Int) (hs : a.eval s = v) (hown : Own1 w base v l0) (u : Value) (m : List Int) (hx : a.eval x = u) (hu : HasQ w u m) (hlen : l0.length + m.length ≤ 1000000) (hbase : base ≤ w.heap.size)
    (h : ∀ v' w', Own1 w' base v' (l0 ++ m) → w.grownBy w' v.ownBlock → wpList Try.prog ops Q rest (a.put o.dst v') w') : wpList Try.prog ops Q (o :: rest) a w :=
  wpList_plain hgd fun _ hK => wp_app s x ho hty base v l0 hs hown u m hx hu hlen hbase fun v' w' h2 h3 => hK _ _ (h v' w' h2 h3)
theorem grown_own {w a b : World} {base : Nat} {v : Value} {l : List Int} (h : Gr w a) (ho : Own1 a base v l) (hg : a.grownBy b v.ownBlock) (hb : w.heap.size ≤ base) : Gr w b := by
  refine Below.grown h hg h.size (fun j ej => ?_)
  rcases ho.2.2 with ⟨rfl, _⟩ | ⟨g, cap, cur, rfl, h1, _, _⟩
  · simp [Value.ownBlock] at ej
  · obtain rfl : g = j := by simpa [Value.ownBlock] using ej
    omega
theorem one_hasQ (W : World) (x : Int) (hx : -9223372036854775808 ≤ x ∧ x < 9223372036854775808) : HasQ (W.alloc (.cells #[.int .i64 x] 2)) (.slice (some ⟨W.heap.size, 0, none⟩) 1 1) [x] :=
  ⟨I64.one hx, _, 1, rfl, Nat.le_refl _, by omega, fun i hi => ⟨_, 0, rfl, by
    obtain rfl : i = 0 := by simpa using hi
    exact cell_new _ _ _⟩⟩
end Go.Proofs.Ytplfeeaocjgliaa.Lo
