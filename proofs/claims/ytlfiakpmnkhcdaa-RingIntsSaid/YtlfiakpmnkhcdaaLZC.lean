import Derived.ProofKit
import Derived.Test.YtlfiakpmnkhcdaaLZA
import Derived.IntWalk
import Derived.Deep.RegionHeld3
import Derived.Deep.RegionLaw
import Derived.Deep.DeepCutAuto
import Derived.Test.YtlfiakpmnkhcdaaLZB
import Derived.LaidEqlPtr
import Derived.Lib.SliceRun
namespace Or
set_option linter.unusedVariables false
def pr : List Int → Int
  | [] => 1
  | p :: l => p * pr l
def mv : List Int → List Int → Int
  | p :: l, d :: ds => d + p * mv l ds
  | _, _ => 0
def at_ (l : List Int) (i : Nat) : Int := l[i]?.getD 0
@[simp] theorem mv_nil (l : List Int) : mv l [] = 0 := by cases l <;> rfl
theorem pr_append (a b : List Int) : pr (a ++ b) = pr a * pr b := by
  induction a with
  | nil => simp [pr]
  | cons p a ih => simp only [List.cons_append, pr, ih, Int.mul_assoc]
theorem pr_pos {l : List Int} (h : ∀ p ∈ l, 0 < p) : 0 < pr l := by
  induction l with
  | nil => simp [pr]
  | cons p l ih => exact Int.mul_pos (h p (by simp)) (ih fun q hq => h q (by simp [hq]))
theorem at_mem {l : List Int} {i : Nat} (h : i < l.length) : at_ l i ∈ l := by
  unfold at_; rw [List.getElem?_eq_getElem h]; exact List.getElem_mem h
theorem take_succ {l : List Int} {i : Nat} (h : i < l.length) : l.take (i + 1) = l.take i ++ [at_ l i] := by
  unfold at_; rw [List.getElem?_eq_getElem h, List.take_succ_eq_append_getElem h]; rfl
theorem pr_take_succ {l : List Int} {i : Nat} (h : i < l.length) : pr (l.take (i + 1)) = pr (l.take i) * at_ l i := by
  rw [take_succ h, pr_append]; simp [pr]
theorem mv_snoc : ∀ (l ds : List Int) (d : Int), ds.length < l.length → mv l (ds ++ [d]) = mv l ds + pr (l.take ds.length) * d
  | [], ds, d, h => by simp at h
  | p :: l, [], d, h => by simp [mv, pr]
  | p :: l, e :: ds, d, h => by
    simp only [List.cons_append, mv, List.length_cons, List.take_succ_cons, pr]
    rw [mv_snoc l ds d (by simpa using h), Int.mul_add, Int.mul_assoc]; omega
theorem mv_drop {l ds : List Int} {i : Nat} (hi : i < ds.length) (hl : ds.length ≤ l.length) : mv (l.drop i) (ds.drop i) = at_ ds i + at_ l i * mv (l.drop (i + 1)) (ds.drop (i + 1)) := by
  have hil : i < l.length := by omega
  rw [List.drop_eq_getElem_cons hi, List.drop_eq_getElem_cons hil, mv]
  unfold at_
  rw [List.getElem?_eq_getElem hi, List.getElem?_eq_getElem hil]; rfl
theorem dvd_pr {l : List Int} {j i : Nat} (h : j < i) (hi : i ≤ l.length) : at_ l j ∣ pr (l.take i) := by
  induction i with
  | zero => omega
  | succ i ih =>
    rw [pr_take_succ (by omega)]
    by_cases hji : j = i
    · subst hji; exact ⟨_, Int.mul_comm _ _⟩
    · exact Int.dvd_mul_of_dvd_left (ih (by omega) (by omega))
theorem mv_bound : ∀ (l ds : List Int), ds.length ≤ l.length → (∀ i, i < ds.length → 1 ≤ at_ l i ∧ -(at_ l i) < 2 * at_ ds i ∧ 2 * at_ ds i < at_ l i) → -(pr (l.take ds.length)) < 2 * mv l ds ∧ 2 * mv l ds < pr (l.take ds.length)
  | l, [], h, _ => by simp [pr]
  | [], _ :: _, h, _ => by simp at h
  | p :: l, d :: ds, h, hd => by
    have h0 := hd 0 (by simp)
    simp only [at_, List.getElem?_cons_zero, Option.getD_some] at h0
    have ih := mv_bound l ds (by simpa using h) (fun i hi => by
      have := hd (i + 1) (by simp; omega)
      simpa [at_] using this)
    simp only [List.length_cons, List.take_succ_cons, pr, mv]
    generalize pr (l.take ds.length) = P at *
    generalize mv l ds = m at *
    have e1 : p * (2 * m + 1) ≤ p * P := Int.mul_le_mul_of_nonneg_left (by omega) (by omega)
    have e2 : p * (-P) ≤ p * (2 * m - 1) := Int.mul_le_mul_of_nonneg_left (by omega) (by omega)
    rw [Int.mul_add, Int.mul_one] at e1
    rw [Int.mul_sub, Int.mul_one, Int.mul_neg] at e2
    have e3 : p * (2 * m) = 2 * (p * m) := by rw [← Int.mul_assoc, Int.mul_comm p 2, Int.mul_assoc]
    rw [e3] at e1 e2
    omega
def Cop (l : List Int) : Prop := ∀ i, i < l.length → ∀ j, j < i → Int.gcd (at_ l j) (at_ l i) = 1
theorem gcd_pr {l : List Int} {q : Int} (h : ∀ i, i < l.length → Int.gcd (at_ l i) q = 1) : Int.gcd (pr l) q = 1 := by
  induction l with
  | nil => simp [pr]
  | cons p l ih =>
    have h0 := h 0 (by simp)
    simp only [at_, List.getElem?_cons_zero, Option.getD_some] at h0
    have h1 := ih (fun i hi => by
      have := h (i + 1) (by simp; omega)
      simpa [at_] using this)
    show Int.gcd (p * pr l) q = 1
    have a : Nat.Coprime p.natAbs q.natAbs := h0
    have b : Nat.Coprime (pr l).natAbs q.natAbs := h1
    have c : Nat.Coprime (p.natAbs * (pr l).natAbs) q.natAbs := Nat.Coprime.mul_left a b
    show Nat.gcd (p * pr l).natAbs q.natAbs = 1
    rw [Int.natAbs_mul]; exact c
theorem Cop.take {l : List Int} (h : Cop l) {i : Nat} (hi : i < l.length) : Int.gcd (pr (l.take i)) (at_ l i) = 1 :=
  gcd_pr (fun j hj => by
    have hji : j < i := by simp at hj; omega
    have := h i hi j hji
    have e : at_ (l.take i) j = at_ l j := by unfold at_; rw [List.getElem?_take, if_pos hji]
    rw [e]; exact this)
theorem all_dvd {l : List Int} (h : Cop l) {z : Int} : ∀ i, i ≤ l.length → (∀ j, j < i → at_ l j ∣ z) → pr (l.take i) ∣ z
  | 0, _, _ => by simp [pr]
  | i + 1, hi, hz => by
    rw [pr_take_succ (by omega)]
    have h1 := all_dvd h i (by omega) (fun j hj => hz j (by omega))
    have h2 := hz i (by omega)
    have hc : Nat.Coprime (pr (l.take i)).natAbs (at_ l i).natAbs := h.take (by omega)
    have h3 : (pr (l.take i)).natAbs * (at_ l i).natAbs ∣ z.natAbs := hc.mul_dvd_of_dvd_of_dvd (Int.natAbs_dvd_natAbs.2 h1) (Int.natAbs_dvd_natAbs.2 h2)
    rw [← Int.natAbs_mul] at h3
    exact Int.natAbs_dvd_natAbs.1 h3
theorem unique {l : List Int} (h : Cop l) {x y : Int} (hx : -(pr l) < 2 * x ∧ 2 * x < pr l) (hy : -(pr l) < 2 * y ∧ 2 * y < pr l) (hz : ∀ j, j < l.length → at_ l j ∣ x - y) : x = y := by
  have h1 := all_dvd h l.length (Nat.le_refl _) hz
  rw [List.take_length] at h1
  obtain ⟨k, hk⟩ := h1
  have hP : 0 < pr l := by omega
  rcases Int.lt_trichotomy k 0 with hk0 | hk0 | hk0
  · have : pr l * k ≤ pr l * (-1) := Int.mul_le_mul_of_nonneg_left (by omega) (by omega)
    rw [Int.mul_neg, Int.mul_one] at this; omega
  · subst hk0; rw [Int.mul_zero] at hk; omega
  · have : pr l * 1 ≤ pr l * k := Int.mul_le_mul_of_nonneg_left (by omega) (by omega)
    rw [Int.mul_one] at this; omega
def DgI (l r ds : List Int) : Prop := ds.length ≤ l.length ∧ (∀ i, i < ds.length → -(at_ l i) < 2 * at_ ds i ∧ 2 * at_ ds i < at_ l i) ∧ ∀ j, j < ds.length → at_ l j ∣ mv l ds - at_ r j
theorem DgI.start (l r : List Int) : DgI l r [] := ⟨by simp, fun i hi => by simp at hi, fun j hj => by simp at hj⟩
theorem at_snoc (ds : List Int) (d : Int) (i : Nat) : at_ (ds ++ [d]) i = if i < ds.length then at_ ds i else if i = ds.length then d else 0 := by
  unfold at_
  by_cases h : i < ds.length
  · rw [if_pos h, List.getElem?_append_left h]
  · rw [if_neg h, List.getElem?_append_right (by omega)]
    by_cases h2 : i = ds.length
    · subst h2; simp
    · rw [if_neg h2, List.getElem?_eq_none (by simp; omega)]; rfl
theorem DgI.next {l r ds : List Int} {d W V : Int} (h : DgI l r ds) (hlt : ds.length < l.length) (hd : -(at_ l ds.length) < 2 * d ∧ 2 * d < at_ l ds.length)
    (hW : at_ l ds.length ∣ W - pr (l.take ds.length)) (hV : at_ l ds.length ∣ V - mv l ds) (he : at_ l ds.length ∣ W * d - (at_ r ds.length - V)) : DgI l r (ds ++ [d]) := by
  obtain ⟨h1, h2, h3⟩ := h
  refine ⟨by simp; omega, fun i hi => ?_, fun j hj => ?_⟩
  · rw [at_snoc]
    by_cases hil : i < ds.length
    · rw [if_pos hil]; exact h2 i hil
    · have hie : i = ds.length := by simp at hi; omega
      subst hie
      rw [if_neg hil, if_pos rfl]; exact hd
  · rw [mv_snoc _ _ _ hlt]
    by_cases hjl : j < ds.length
    · have e : mv l ds + pr (l.take ds.length) * d - at_ r j = (mv l ds - at_ r j) + pr (l.take ds.length) * d := by omega
      rw [e]
      exact Int.dvd_add (h3 j hjl) (Int.dvd_mul_of_dvd_left (dvd_pr hjl (by omega)))
    · have hje : j = ds.length := by simp at hj; omega
      subst hje
      have e : mv l ds + pr (l.take ds.length) * d - at_ r ds.length = (W * d - (at_ r ds.length - V)) - (W - pr (l.take ds.length)) * d - (V - mv l ds) := by rw [Int.sub_mul]; omega
      rw [e]
      exact Int.dvd_sub (Int.dvd_sub he (Int.dvd_mul_of_dvd_left hW)) hV
theorem DgI.value {l r ds : List Int} (h : DgI l r ds) (hp : ∀ p ∈ l, 1 ≤ p) (hn : ds.length = l.length) : (-(pr l) < 2 * mv l ds ∧ 2 * mv l ds < pr l) ∧ ∀ j, j < l.length → at_ l j ∣ mv l ds - at_ r j := by
  have hb := mv_bound l ds h.1 (fun i hi => ⟨hp _ (at_mem (by omega)), h.2.1 i hi⟩)
  rw [hn, List.take_length] at hb
  exact ⟨hb, fun j hj => h.2.2 j (by omega)⟩
end Or
namespace Go.Proofs.Ytlfiakpmnkhcdaa.Mo
open Go.RowKit
set_option linter.unusedVariables false
def okP (p : Int) : Prop := 2 ≤ p ∧ p ≤ 2147483647
def isW (v : Int) : Prop := -9223372036854775808 ≤ v ∧ v ≤ 9223372036854775807
def IntU (v : Int) (w : World) (e : Ending) (w' : World) : Prop := e = .returned (.int .u32 v) ∧ Gr w w'
def IntL (v : Int) (w : World) (e : Ending) (w' : World) : Prop := e = .returned (.int .i64 v) ∧ Gr w w'
set_option maxRecDepth 100000 in
set_option maxHeartbeats 1000000 in
theorem reduced_any (v p : Int) (w : World) (hp : okP p) (hv : isW v) : Calls Try.prog 75 #[.int .i64 v, .int .u32 p] w (IntU (v % p) w) := by
  have HP := Lib.hid hp
  have HV := Lib.hid hv
  clear hp hv
  go_enter Try.func75, Try.ntmps75
  go_wp2_with fail
  refine (of_ok v p _ HP.out.1 HP.out.2 HV.out.1 HV.out.2).mono ?_
  rintro e w' ⟨rfl, hg⟩
  have HG := Lib.hid hg
  clear hg
  go_wp2_with fail
  go_ret
  exact ⟨rfl, HG.out⟩
set_option maxRecDepth 100000 in
set_option maxHeartbeats 1000000 in
theorem balance_any (a p : Int) (w : World) (hp : okP p) (ha : 0 ≤ a ∧ a < p) : Calls Try.prog 61 #[.int .u32 a, .int .u32 p] w (IntL (bal a p) w) := by
  have HP := Lib.hid hp
  have HA := Lib.hid ha
  clear hp ha
  go_enter Try.func61, Try.ntmps61
  go_wp2_with fail
  refine (balanced_ok a p _ HP.out.1 HP.out.2 HA.out.1 HA.out.2).mono ?_
  rintro e w' ⟨rfl, hg⟩
  have HG := Lib.hid hg
  clear hg
  go_wp2_with fail
  go_ret
  exact ⟨rfl, HG.out⟩
theorem gcd_mod1 {u p : Int} (h : Int.gcd u p = 1) : Int.gcd (u % p) p = 1 := by
  have a : ((Int.gcd (u % p) p : Nat) : Int) ∣ u % p := Int.gcd_dvd_left ..
  have b : ((Int.gcd (u % p) p : Nat) : Int) ∣ p := Int.gcd_dvd_right ..
  have c : ((Int.gcd (u % p) p : Nat) : Int) ∣ u := by
    have h2 := Int.dvd_add a (Int.dvd_mul_of_dvd_left (c := u / p) b)
    rwa [Int.emod_add_mul_ediv] at h2
  have d : ((Int.gcd (u % p) p : Nat) : Int) ∣ ((Int.gcd u p : Nat) : Int) := Int.dvd_coe_gcd c b
  rw [h] at d
  have e := Int.natCast_dvd_natCast.1 d
  exact Nat.dvd_one.1 e
def Quo (v u p q : Int) : Prop := 0 ≤ q ∧ q < p ∧ p ∣ u * q - v
set_option maxRecDepth 100000 in
set_option maxHeartbeats 1000000 in
theorem quotient_any (v u p : Int) (w : World) (hp : okP p) (hv : isW v) (hu : isW u) (hc : Int.gcd u p = 1) :
    Calls Try.prog 62 #[.int .i64 v, .int .i64 u, .int .u32 p] w (fun e w' => ∃ q, Quo v u p q ∧ IntU q w e w') := by
  have HP := Lib.hid hp
  have HV := Lib.hid hv
  have HU := Lib.hid hu
  have hp1 : 1 ≤ p := by have := hp.1; omega
  obtain ⟨x, hx⟩ : ∃ x : Nat, (x : Int) = u % p := ⟨(u % p).toNat, Int.toNat_of_nonneg (emod_lo u p hp1)⟩
  obtain ⟨n, hn⟩ : ∃ n : Nat, (n : Int) = p := ⟨p.toNat, by omega⟩
  have hxn : x < n := by have := emod_hi u p hp1; omega
  have hg : Nat.gcd x n = 1 := by
    have h1 := gcd_mod1 (u := u) (p := p) hc
    rw [← hx, ← hn] at h1
    simpa using h1
  have HINV := Lib.hid (inverse_ok x n)
  have HX := Lib.hid hx
  have HN := Lib.hid hn
  have HXN := Lib.hid hxn
  have HGG := Lib.hid hg
  clear hp hv hu hc hx hxn hg hn
  go_enter Try.func62, Try.ntmps62
  go_wp2_with fail
  refine (reduced_any u p _ HP.out HU.out).mono ?_
  rintro e w1 ⟨rfl, hg⟩
  have HG := Lib.hid hg
  clear hg
  rw [← HX.out]
  go_wp2_with fail
  rw [← HN.out]
  refine (HINV.out _ (by have := HP.out.1; have := HN.out; omega) (by have := HP.out.2; have := HN.out; omega) HXN.out HGG.out).mono ?_
  rw [HN.out]
  rintro e w2 ⟨b, ⟨rfl, hg⟩, hb⟩
  have HB := Lib.hid hb
  have HG := Lib.hid (HG.out.trans hg)
  clear hg hb
  go_wp2_with fail
  refine (reduced_any v p _ HP.out HV.out).mono ?_
  rintro e w3 ⟨rfl, hg⟩
  have HG := Lib.hid (HG.out.trans hg)
  clear hg
  go_wp2_with fail
  refine (mul_ok (v % p) b p _ HP.out.1 HP.out.2 (emod_lo v p hp1) HB.out.1 (emod_hi v p hp1) HB.out.2.1).mono ?_
  rintro e w4 ⟨rfl, hg⟩
  have HG := Lib.hid (HG.out.trans hg)
  clear hg
  go_wp2_with fail
  go_ret
  refine ⟨_, ⟨emod_lo _ _ hp1, emod_hi _ _ hp1, ?_⟩, rfl, HG.out⟩
  have h1 : p ∣ (v % p * b) % p - v % p * b := Op.dvd_mod p (v % p * b)
  have h2 : p ∣ v % p - v := Op.dvd_mod p v
  have h3 : p ∣ (x : Int) - u := by rw [HX.out]; exact Op.dvd_mod p u
  have h4 : p ∣ (x : Int) * b - 1 := by
    have h := HB.out.2.2
    have := Op.dvd_mod p ((x : Int) * b)
    rw [h] at this
    have := Int.dvd_neg.2 this
    have e : (x : Int) * b - 1 = -(1 - (x : Int) * b) := by omega
    rw [e]; exact this
  generalize (v % p * b) % p = q at *
  generalize v % p = v' at *
  have e : u * q - v = u * (q - v' * b) + (u * b - 1) * v' + (v' - v) := by
    rw [Int.mul_sub, Int.sub_mul, Int.one_mul, Int.mul_right_comm u b v', Int.mul_assoc]
    have : u * v' * b = u * (v' * b) := Int.mul_assoc _ _ _
    omega
  have h5 : p ∣ u * b - 1 := by
    have e2 : u * b - 1 = ((x : Int) * b - 1) - ((x : Int) - u) * b := by rw [Int.sub_mul]; omega
    rw [e2]; exact Int.dvd_sub h4 (Int.dvd_mul_of_dvd_left h3)
  rw [e]
  exact Int.dvd_add (Int.dvd_add (Int.dvd_mul_of_dvd_right h1) (Int.dvd_mul_of_dvd_left h5)) h2
end Go.Proofs.Ytlfiakpmnkhcdaa.Mo
namespace Go.Proofs.Ytlfiakpmnkhcdaa.Mo.Lo
open Go.RowKit
set_option linter.unusedVariables false
def I64 (l : List Int) : Prop := ∀ x ∈ l, -9223372036854775808 ≤ x ∧ x < 9223372036854775808
theorem I64.nil : I64 [] := fun x hx => (by cases hx)
theorem I64.at_ {l : List Int} (h : I64 l) (i : Nat) : -9223372036854775808 ≤ Op.cf l i ∧ Op.cf l i < 9223372036854775808 := by
  by_cases hi : i < l.length
  · exact h _ (Op.cf_mem hi)
  · rw [Op.cf_out (by omega)]; omega
theorem I64.take {l : List Int} (h : I64 l) (k : Nat) : I64 (l.take k) := fun x hx => h x (List.mem_of_mem_take hx)
theorem I64.drop {l : List Int} (h : I64 l) (k : Nat) : I64 (l.drop k) := fun x hx => h x (List.mem_of_mem_drop hx)
theorem I64.app {l m : List Int} (h : I64 l) (k : I64 m) : I64 (l ++ m) := fun x hx => by
  rcases List.mem_append.1 hx with h1 | h1
  · exact h x h1
  · exact k x h1
theorem I64.one {x : Int} (h : -9223372036854775808 ≤ x ∧ x < 9223372036854775808) : I64 [x] := fun y hy => by
  simp at hy; subst hy; exact h
def HasQ (W : World) (v : Value) (l : List Int) : Prop :=
  I64 l ∧ ∃ a cap, v = .slice a l.length cap ∧ l.length ≤ cap ∧ cap ≤ 9223372036854775807 ∧
    ∀ i, i < l.length → ∃ g o, a = some ⟨g, o, none⟩ ∧ W.cell? ⟨g, o + i, none⟩ = some (.int .i64 (Op.cf l i))
theorem HasQ.later {W W' : World} {v : Value} {l : List Int} (h : HasQ W v l) (hg : Gr W W') : HasQ W' v l := by
  obtain ⟨hd, a, cap, rfl, h1, h2, h3⟩ := h
  refine ⟨hd, a, cap, rfl, h1, h2, fun i hi => ?_⟩
  obtain ⟨g, o, e, hc⟩ := h3 i hi
  exact ⟨g, o, e, hg.keeps hc⟩
theorem HasQ.nil (W : World) : HasQ W (.slice none 0 0) [] := ⟨I64.nil, none, 0, rfl, Nat.le_refl _, by omega, fun i hi => absurd hi (by simp)⟩
theorem HasQ.len {W : World} {a : Option Addr} {l : List Int} {n cap : Nat} (h : HasQ W (.slice a n cap) l) : n = l.length ∧ n ≤ cap := by
  obtain ⟨hd, a', cap', e, h1, h2, hc⟩ := h
  simp only [Value.slice.injEq] at e
  obtain ⟨rfl, rfl, rfl⟩ := e
  exact ⟨rfl, h1⟩
def Rw (W : World) (g : Nat) (cur : Array Value) : Prop := W.heap[g]? = some (.cells cur 2 (0, 0))
theorem Rw.cell {W : World} {g : Nat} {cur : Array Value} (h : Rw W g cur) (j : Nat) : W.cell? ⟨g, j, none⟩ = cur[j]? := by
  simp [World.cell?, show W.heap[g]? = _ from h]
theorem Rw.frozen {W : World} {g : Nat} {cur : Array Value} (h : Rw W g cur) (j : Nat) : W.frozen? ⟨g, j, none⟩ = false := by
  simp [World.frozen?, show W.heap[g]? = _ from h]
theorem Rw.set {W : World} {g : Nat} {cur : Array Value} (h : Rw W g cur) (j : Nat) (u : Value) : Rw (W.setCell ⟨g, j, none⟩ u) g (cur.setIfInBounds j u) := by
  obtain ⟨hlt, hk⟩ := Array.getElem?_eq_some_iff.1 (show W.heap[g]? = _ from h)
  show (W.heap.modify g _)[g]? = _
  rw [Array.getElem?_eq_getElem (by rw [Array.size_modify]; exact hlt), Array.getElem_modify_self, hk]
  rfl
theorem Rw.new (w : World) (cur : Array Value) : Rw (w.alloc (.cells cur 2)) w.heap.size cur := heap_alloc_new w _
theorem Rw.lt {W : World} {g : Nat} {cur : Array Value} (h : Rw W g cur) : g < W.heap.size := (Array.getElem?_eq_some_iff.1 (show W.heap[g]? = _ from h)).1
theorem Rw.later {W W' : World} {g : Nat} {cur : Array Value} (h : Rw W g cur) (k : Gr W W') : Rw W' g cur := by
  show W'.heap[g]? = _
  rw [k.block g h.lt]; exact h
structure Upd (g o : Nat) (l : List Int) (W W' : World) : Prop where
  os : W'.os = W.os
  tape : W'.tape = W.tape
  output : W'.output = W.output
  size : W'.heap.size = W.heap.size
  block : ∀ k, k ≠ g → W'.heap[k]? = W.heap[k]?
  row : ∃ cur cur', Rw W g cur ∧ Rw W' g cur' ∧ cur'.size = cur.size ∧ o + l.length ≤ cur.size ∧ ∀ j, cur'[j]? = if o ≤ j ∧ j < o + l.length then some (.int .i64 (Op.cf l (j - o))) else cur[j]?
theorem Upd.start {W : World} {g o : Nat} {cur : Array Value} (h : Rw W g cur) (ho : o ≤ cur.size) : Upd g o [] W W :=
  ⟨rfl, rfl, rfl, rfl, fun _ _ => rfl, cur, cur, h, h, rfl, by simpa using ho, fun j => by rw [if_neg (by simp)]⟩
theorem Upd.step {W W' : World} {g o : Nat} {l : List Int} (h : Upd g o l W W') {k : Nat} {d : Int} (hk : l.length = k) {v : Value} (hc : W.cell? ⟨g, o + k, none⟩ = some v) : Upd g o (l ++ [d]) W (W'.setCell ⟨g, o + k, none⟩ (.int .i64 d)) := by
  subst hk
  obtain ⟨h1, h2, h3, h4, h5, cur, cur', r1, r2, r3, r4, r5⟩ := h
  have hlt : o + l.length < cur.size := by
    rw [r1.cell] at hc
    exact (Array.getElem?_eq_some_iff.1 hc).1
  refine ⟨h1, h2, h3, by simpa using h4, fun k hk => ?_, cur, _, r1, r2.set _ _, by simpa using r3, by simp; omega, fun j => ?_⟩
  · rw [Below.heap_setCell _ _ _ _ hk]; exact h5 k hk
  · rw [Array.getElem?_setIfInBounds]
    by_cases e : o + l.length = j
    · subst e
      rw [if_pos rfl, if_pos (by omega), if_pos (by simp)]
      rw [Op.cf_append, if_neg (by omega)]
      simp
    · rw [if_neg e, r5]
      by_cases e2 : o ≤ j ∧ j < o + l.length
      · rw [if_pos e2, if_pos (by simp; omega), Op.cf_append, if_pos (by omega)]
      · rw [if_neg e2, if_neg (by simp; omega)]
theorem Upd.cell_in {W W' : World} {g o : Nat} {l : List Int} (h : Upd g o l W W') {j : Nat} (hj : j < l.length) : W'.cell? ⟨g, o + j, none⟩ = some (.int .i64 (Op.cf l j)) := by
  obtain ⟨_, _, _, _, _, cur, cur', r1, r2, r3, r4, r5⟩ := h
  rw [r2.cell, r5, if_pos (by omega)]
  simp
theorem Upd.cell_out {W W' : World} {g o : Nat} {l : List Int} (h : Upd g o l W W') {j : Nat} (hj : j < o ∨ o + l.length ≤ j) : W'.cell? ⟨g, j, none⟩ = W.cell? ⟨g, j, none⟩ := by
  obtain ⟨_, _, _, _, _, cur, cur', r1, r2, r3, r4, r5⟩ := h
  rw [r2.cell, r5, if_neg (by omega), r1.cell]
theorem Upd.cell_other {W W' : World} {g o : Nat} {l : List Int} (h : Upd g o l W W') {p : Addr} (hp : p.block ≠ g) : W'.cell? p = W.cell? p := World.cell?_of_block (w := W) (h.block p.block hp)
theorem Upd.frozen {W W' : World} {g o : Nat} {l : List Int} (h : Upd g o l W W') (j : Nat) : W'.frozen? ⟨g, j, none⟩ = false := by
  obtain ⟨_, _, _, _, _, cur, cur', r1, r2, _⟩ := h
  exact r2.frozen j
theorem Upd.gr {w W W' : World} {g o : Nat} {l : List Int} (h : Upd g o l W W') (hg : Gr w W) (hs : w.heap.size ≤ g) : Gr w W' :=
  ⟨h.os.trans hg.os, h.tape.trans hg.tape, h.output.trans hg.output, by rw [h.size]; exact hg.size, fun k hk => (h.block k (by omega)).trans (hg.block k hk)⟩
def Row (W : World) (g : Nat) (l : List Int) : Prop := I64 l ∧ ∃ cur, Rw W g cur ∧ l.length ≤ cur.size ∧ ∀ j, j < l.length → cur[j]? = some (.int .i64 (Op.cf l j))
theorem Row.cell {W : World} {g : Nat} {l : List Int} (h : Row W g l) {j : Nat} (hj : j < l.length) : W.cell? ⟨g, j, none⟩ = some (.int .i64 (Op.cf l j)) := by
  obtain ⟨_, cur, h1, _, h2⟩ := h
  rw [h1.cell, h2 j hj]
theorem Row.frozen {W : World} {g : Nat} {l : List Int} (h : Row W g l) (j : Nat) : W.frozen? ⟨g, j, none⟩ = false := by
  obtain ⟨_, cur, h1, _, h2⟩ := h
  exact h1.frozen j
theorem Row.later {W W' : World} {g : Nat} {l : List Int} (h : Row W g l) (k : Gr W W') : Row W' g l := by
  obtain ⟨h0, cur, h1, h2⟩ := h
  exact ⟨h0, cur, h1.later k, h2⟩
def put (l : List Int) (o : Nat) (pre : List Int) : List Int := l.take o ++ pre ++ l.drop (o + pre.length)
theorem put_len {l : List Int} {o : Nat} {pre : List Int} (h : o + pre.length ≤ l.length) : (put l o pre).length = l.length := by
  simp only [put, List.length_append, List.length_take, List.length_drop]; omega
theorem cf_put {l : List Int} {o : Nat} {pre : List Int} (h : o + pre.length ≤ l.length) (j : Nat) : Op.cf (put l o pre) j = if o ≤ j ∧ j < o + pre.length then Op.cf pre (j - o) else Op.cf l j := by
  have e1 : (l.take o).length = o := by rw [List.length_take]; omega
  rw [put, Op.cf_append, Op.cf_append, List.length_append, e1, Op.cf_take, Op.cf_drop]
  by_cases h1 : j < o
  · rw [if_pos (by omega), if_pos h1, if_pos h1, if_neg (by omega)]
  · by_cases h2 : j < o + pre.length
    · rw [if_pos h2, if_neg h1, if_pos (by omega)]
    · rw [if_neg h2, if_neg (by omega)]; congr 1; omega
theorem Row.upd {W W' : World} {g o : Nat} {l pre : List Int} (h : Row W g l) (hu : Upd g o pre W W') (hp : I64 pre) (ho : o + pre.length ≤ l.length) : Row W' g (put l o pre) := by
  obtain ⟨h0, cur, h1, h2, h3⟩ := h
  obtain ⟨_, _, _, _, _, c1, c2, r1, r2, r3, r4, r5⟩ := hu
  obtain rfl : c1 = cur := by have := (show W.heap[g]? = _ from r1).symm.trans h1; cases this; rfl
  refine ⟨(h0.take o).app hp |>.app (h0.drop _), c2, r2, by rw [put_len ho]; omega, fun j hj => ?_⟩
  rw [put_len ho] at hj
  rw [r5, cf_put ho]
  by_cases e : o ≤ j ∧ j < o + pre.length
  · rw [if_pos e, if_pos e]
  · rw [if_neg e, if_neg e]; exact h3 j hj
def zrow (n : Nat) : Array Value := madeCells #[.int .i64 0] n
theorem zrow_size (n : Nat) : (zrow n).size = n := size_madeCells _ _
theorem zrow_at (n j : Nat) (h : j < n) : (zrow n)[j]? = some (.int .i64 0) := by
  unfold zrow madeCells
  rw [Array.getElem?_eq_getElem (by simpa using h)]
  simp [Nat.mod_one]
theorem infoI64 : (Try.prog.info? 2).map (fun i => (i.zero, i.size, i.bytes)) = some (some (.int .i64 0), 1, 8) := by kernel_rfl
theorem mk_row (n : Nat) (L : Int) (hL : L = n) (hn : n ≤ 1000000) (w : World) : (Instr.makeSlice 29 (.int .i64 L) (.int .i64 L)).run Try.prog w = .ok (.slice (some ⟨w.heap.size, 0, none⟩) n n) (w.alloc (.cells (zrow n) 2)) := by
  obtain ⟨i0, hi, hz0, hz1, hz2⟩ := info_parts infoI64
  subst hL
  have := run_make (P := Try.prog) w 29 2 i0 (.int .i64 0) Try.underlying29 hi hz0 .i64 .i64 (n : Int) (n : Int) (by omega) (Int.le_refl _) (by rw [hz2]; omega) (by omega)
  rw [this, hz1, Int.toNat_natCast, Nat.mul_one]
  rfl
theorem cf_rep (n i : Nat) : Op.cf (List.replicate n 0) i = 0 := by
  induction n generalizing i with
  | zero => simp
  | succ n ih => cases i with
    | zero => rfl
    | succ i => exact ih i
theorem Row.zeros (w : World) (n : Nat) : Row (w.alloc (.cells (zrow n) 2)) w.heap.size (List.replicate n 0) :=
  ⟨fun x hx => by rw [List.eq_of_mem_replicate hx]; omega, zrow n, Rw.new w _, by rw [zrow_size]; simp, fun j hj => by rw [List.length_replicate] at hj; rw [zrow_at n j hj, cf_rep]⟩
def NewP (l : List Int) (w : World) (e : Ending) (w' : World) : Prop :=
  ∃ a n c, e = .returned (.slice a n c) ∧ HasQ w' (.slice a n c) l ∧ (∀ p, a = some p → w.heap.size ≤ p.block) ∧ Gr w w'
def pcells (l : List Int) : List Value := l.map (.int .i64 ·)
theorem pcells_at (l : List Int) (i : Nat) (hi : i < l.length) : (pcells l)[i]? = some (.int .i64 (Op.cf l i)) := by
  rw [← Op.cf_at]; simp [pcells, hi]
theorem pcells_len (l : List Int) : (pcells l).length = l.length := by simp [pcells]
theorem pcells_one (l : List Int) : ∀ v ∈ pcells l, v.oneCell' = true := by
  intro u hu; obtain ⟨x, _, rfl⟩ := List.mem_map.1 hu; rfl
def Own1 (W : World) (base : Nat) (v : Value) (l : List Int) : Prop := I64 l ∧ W.ownsRow base 2 1 v l.length (pcells l)
theorem Own1.hasQ {W : World} {base : Nat} {v : Value} {l : List Int} (h : Own1 W base v l) : HasQ W v l := by
  refine ⟨h.1, ?_⟩
  rcases h.2.2 with ⟨rfl, h0⟩ | ⟨g, cap, cur, rfl, _, hg, h1, h2, h3, h4⟩
  · exact ⟨none, 0, by rw [h0], by omega, by omega, fun i hi => by omega⟩
  · refine ⟨_, cap, rfl, h1, by unfold maxLen at h2; omega, fun i hi => ⟨g, 0, rfl, ?_⟩⟩
    have hc : W.cell? ⟨g, i, none⟩ = (pcells l)[i]? := by
      rw [← h4, List.getElem?_take_of_lt (by omega)]
      simp [World.cell?, hg]
    rw [Nat.zero_add, hc, pcells_at l i hi]
theorem Own1.nil (W : World) (base : Nat) : Own1 W base (.slice none 0 0) [] := ⟨I64.nil, World.ownsRow_nil _ _ _ _⟩
theorem Own1.fresh {W : World} {base : Nat} {v : Value} {l : List Int} (h : Own1 W base v l) {a : Option Addr} {n c : Nat} (hv : v = .slice a n c) : ∀ p, a = some p → base ≤ p.block := by
  intro p hp
  subst hv hp
  rcases h.2.2 with ⟨e, _⟩ | ⟨g, cap, cur, e, hb, _⟩
  · cases e
  · cases e
    exact hb
theorem Own1.form {W : World} {base : Nat} {v : Value} {l : List Int} (h : Own1 W base v l) : ∃ a c, v = .slice a l.length c ∧ l.length ≤ c ∧ c ≤ 9223372036854775807 := by
  obtain ⟨_, a, c, e, h1, h2, _⟩ := h.hasQ
  exact ⟨a, c, e, h1, h2⟩
theorem Own1.alloc {W : World} {base : Nat} {v : Value} {l : List Int} (h : Own1 W base v l) (o : Obj) : Own1 (W.alloc o) base v l := ⟨h.1, h.2.alloc o⟩
theorem run_app (w : World) (base : Nat) (v : Value) (l0 : List Int) (hown : Own1 w base v l0) (u : Value) (m : List Int) (hu : HasQ w u m) (hlen : l0.length + m.length ≤ 1000000) (hbase : base ≤ w.heap.size) :
    ∃ v' w', (Builtin.append_ #[29, 29] 29 #[v, u]).run Try.prog w = .ok v' w' ∧ Own1 w' base v' (l0 ++ m) ∧ w.grownBy w' v.ownBlock := by
  obtain ⟨i0, hi, hz0, hz1, hz2⟩ := info_parts infoI64
  obtain ⟨hd0, hown⟩ := hown
  obtain ⟨hdm, a, cap, rfl, h1, h2, hc⟩ := hu
  have hdg : I64 (l0 ++ m) := hd0.app hdm
  have hcells : pcells (l0 ++ m) = pcells l0 ++ pcells m := by simp [pcells]
  rcases a with _ | ad
  · have hm : m = [] := by
      rcases m with _ | ⟨x, m⟩
      · rfl
      · obtain ⟨g, o, e, _⟩ := hc 0 (by simp)
        cases e
    subst hm
    refine ⟨v, w, ?_, by rw [List.append_nil]; exact ⟨hd0, hown⟩, World.grownBy.refl w _⟩
    rcases hown.2 with ⟨rfl, _⟩ | ⟨g, cap', cur, rfl, _, _, hnc, _⟩
    · simp [Builtin.append_, run_underlying Try.underlying29, sizeOf, typeInfo, hi, Builtin.lenOf, Builtin.firstCells]
    · simp [Builtin.append_, run_underlying Try.underlying29, sizeOf, typeInfo, hi, Builtin.lenOf, Builtin.firstCells, hnc, storeCells]
  · have hnews : ∀ j x, (pcells m)[j]? = some x → w.cell? (ad.add j) = some x := by
      intro j x hx
      have hj : j < m.length := by
        have := (List.getElem?_eq_some_iff.1 hx).1
        rwa [pcells_len] at this
      obtain ⟨g, o, e, hcell⟩ := hc j hj
      obtain rfl := Option.some.inj e
      rw [pcells_at m j hj] at hx
      have e2 : (⟨g, o, none⟩ : Addr).add j = ⟨g, o + j, none⟩ := addr_add rfl _ rfl
      rw [e2, hcell]; exact hx
    obtain ⟨v', w', hr, h5, h6, _⟩ := run_append_own (P := Try.prog) w base 29 29 2 i0 (.int .i64 0) 1 8 Try.underlying29 hi hz0 hz1 hz2 rfl (by decide) v l0.length (pcells l0) hown ad m.length cap (pcells m) (by rw [pcells_len]; omega) hnews (pcells_one m) (by unfold maxLen; omega) (by omega) hbase
    exact ⟨v', w', hr, ⟨hdg, by rw [hcells, List.length_append]; exact h5⟩, h6⟩
theorem wp_app {o : Oper} {a : Act} {w : World} {K : Act → World → Prop} {Q : Exit → Act → World → Prop} (s x : Operand)
    (ho : o.op = .call { callee := .builtin .append, args := #[s, x], argTypes := #[29, 29] }) (hty : o.type = 29)
    (base : Nat) (v : Value) (l0 : List Int) (hs : a.eval s = v) (hown : Own1 w base v l0) (u : Value) (m : List Int) (hx : a.eval x = u) (hu : HasQ w u m) (hlen : l0.length + m.length ≤ 1000000) (hbase : base ≤ w.heap.size)
    (h : ∀ v' w', Own1 w' base v' (l0 ++ m) → w.grownBy w' v.ownBlock → K (a.put o.dst v') w') : Oper.wp Try.prog o a w K Q := by
  obtain ⟨v', w', hr, h2, h3⟩ := run_app w base v l0 hown u m hu hlen hbase
  unfold Oper.wp execOp
  simp only [ho, hty, resolve, invoke, builtin, Sem.run_bind, Sem.run_pure, Result.andThen_ok, List.map_toArray, List.map_cons, List.map_nil, hs, hx, hr]
  exact h v' w' h2 h3
theorem wpList_app {ops : Array Oper} {rest : List Oper} {o : Oper} {a : Act} {w : World} {Q : Exit → Act → World → Prop} (hgd : o.guard = none) (s x : Operand)
    (ho : o.op = .call { callee := .builtin .append, args := #[s, x], argTypes := #[29, 29] }) (hty : o.type = 29)
    (base : Nat) (v : Value) (l0 : List Int) (hs : a.eval s = v) (hown : Own1 w base v l0) (u : Value) (m : List Int) (hx : a.eval x = u) (hu : HasQ w u m) (hlen : l0.length + m.length ≤ 1000000) (hbase : base ≤ w.heap.size)
    (h : ∀ v' w', Own1 w' base v' (l0 ++ m) → w.grownBy w' v.ownBlock → wpList Try.prog ops Q rest (a.put o.dst v') w') : wpList Try.prog ops Q (o :: rest) a w :=
  wpList_plain hgd fun _ hK => wp_app s x ho hty base v l0 hs hown u m hx hu hlen hbase fun v' w' h2 h3 => hK _ _ (h v' w' h2 h3)
theorem grown_own {w a b : World} {base : Nat} {v : Value} {l : List Int} (h : Gr w a) (ho : Own1 a base v l) (hg : a.grownBy b v.ownBlock) (hb : w.heap.size ≤ base) : Gr w b := by
  refine Below.grown h hg h.size (fun j ej => ?_)
  rcases ho.2.2 with ⟨rfl, _⟩ | ⟨g, cap, cur, rfl, h1, _, _⟩
  · simp [Value.ownBlock] at ej
  · obtain rfl : g = j := by simpa [Value.ownBlock] using ej
    omega
theorem one_hasQ (W : World) (x : Int) (hx : -9223372036854775808 ≤ x ∧ x < 9223372036854775808) : HasQ (W.alloc (.cells #[.int .i64 x] 2)) (.slice (some ⟨W.heap.size, 0, none⟩) 1 1) [x] :=
  ⟨I64.one hx, _, 1, rfl, Nat.le_refl _, by omega, fun i hi => ⟨_, 0, rfl, by
    obtain rfl : i = 0 := by simpa using hi
    exact cell_new _ _ _⟩⟩
theorem one_hasQ' (W : World) (x : Int) (g : Nat) (hg : g = W.heap.size) (hx : -9223372036854775808 ≤ x ∧ x < 9223372036854775808) : HasQ (W.alloc (.cells #[.int .i64 x] 2)) (.slice (some ⟨g, 0, none⟩) 1 1) [x] := by
  subst hg; exact one_hasQ W x hx
end Go.Proofs.Ytlfiakpmnkhcdaa.Mo.Lo
namespace Go.Proofs.Ytlfiakpmnkhcdaa.Mo
open Go.RowKit
set_option linter.unusedVariables false
theorem at_cf (l : List Int) (i : Nat) : Or.at_ l i = Op.cf l i := Op.cf_at l i
def okL (l : List Int) : Prop := ∀ q ∈ l, 3 ≤ q ∧ q ≤ 2147483647
theorem okL.at_ {l : List Int} (h : okL l) {i : Nat} (hi : i < l.length) : 3 ≤ Op.cf l i ∧ Op.cf l i ≤ 2147483647 := h _ (Op.cf_mem hi)
theorem mod_mul (X q p : Int) : (X % p * q) % p = X * q % p := by rw [Int.mul_emod, Int.emod_emod, ← Int.mul_emod]
theorem mod_hor (X q d p : Int) : (X % p * q + d) % p = (d + q * X) % p := by
  rw [Int.add_emod, mod_mul, ← Int.add_emod, Int.mul_comm q X, Int.add_comm]
set_option maxRecDepth 100000 in
set_option maxHeartbeats 2000000 in
theorem bproduct_any (l : List Int) (p : Int) (v : Value) (w : World) (hp : okP p) (hl : okL l) (hv : HasP w v l) (hn : l.length ≤ 100000) :
    Calls Try.prog 60 #[v, .int .u32 p] w (IntU (Or.pr l % p) w) := by
  obtain ⟨-, xa, ca, rfl, -, -, -⟩ := id hv
  obtain ⟨n, hnn⟩ : ∃ n, n = l.length := ⟨_, rfl⟩
  rw [← hnn] at hv hn ⊢
  have HP := Lib.hid hp
  have HL := Lib.hid hl
  have HV := Lib.hid hv
  have HN := Lib.hid hnn
  have hp1 : 2 ≤ p := hp.1
  have hp2 : p ≤ 2147483647 := hp.2
  clear hp hl hv hnn
  go_enter Try.func60, Try.ntmps60
  go_wp2_with fail
  go_loopw [5, 10] (fun s t wr => ∃ (k : Nat) (r : Int), s = .int .u32 r ∧ t = .int .i64 k ∧ k ≤ n ∧ r = Or.pr (l.take k) % p ∧ Gr w wr) (fun _ t _ => n - (intOf t).toNat)
  case atStart => exact ⟨0, 1, rfl, rfl, by omega, by rw [List.take_zero]; exact (Int.emod_eq_of_lt (by omega) (by omega)).symm, Gr.refl w⟩
  case round =>
    obtain ⟨k, r, rfl, rfl, hk, hr, hg⟩ := hrel
    have HR := Lib.hid hr
    have HG := Lib.hid hg
    have hr0 : 0 ≤ r := by rw [hr]; exact emod_lo _ p (by omega)
    have hr1 : r < p := by rw [hr]; exact emod_hi _ p (by omega)
    clear hr hg
    by_cases hlt : k < n
    · have hk1 : (k : Int) < (n : Int) := by omega
      have hk0 : (0 : Int) ≤ (k : Int) := by omega
      obtain ⟨gx, ox, rfl, hcx⟩ : ∃ gx ox, xa = some ⟨gx, ox, none⟩ ∧ wr.cell? ⟨gx, ox + k, none⟩ = some (.int .u32 (Op.cf l k)) := by
        obtain ⟨_, a, c', e, _, _, h3⟩ := HV.out.later HG.out
        cases e
        obtain ⟨gx, ox, e, hc⟩ := h3 k (by have := HN.out; omega)
        exact ⟨gx, ox, e, hc⟩
      have hqb := HL.out.at_ (i := k) (by have := HN.out; omega)
      obtain ⟨q, hq⟩ : ∃ q, q = Op.cf l k := ⟨_, rfl⟩
      rw [← hq] at hcx hqb
      have HQ := Lib.hid hq
      have p0 := mul_lo hr0 (show 0 ≤ q by omega)
      have p1 : r * q ≤ 2147483647 * 2147483647 := Int.mul_le_mul (by omega) (by omega) (by omega) (by omega)
      have HW := Lib.hid (show isW (r * q) from ⟨by omega, by omega⟩)
      have HNX := Lib.hid (show r * q % p = Or.pr (l.take (k + 1)) % p from by
        rw [HR.out, Or.pr_take_succ (by have := HN.out; omega), mod_mul, at_cf, ← HQ.out])
      clear hq
      go_wp2_with fail
      refine (reduced_any (r * q) p _ HP.out HW.out).mono ?_
      rintro e w1 ⟨rfl, hg⟩
      have HG1 := Lib.hid (HG.out.trans hg)
      clear hg
      go_wp2_with fail
      go_roundw
      case rel => exact ⟨k + 1, _, rfl, by simp, by omega, HNX.out, HG1.out⟩
      case measure => simp [intOf]; omega
    · obtain rfl : k = n := by omega
      go_wp2_with fail
      go_ret
      have h := HR.out
      rw [HN.out, List.take_length] at h
      exact ⟨by rw [h]; rfl, HG.out⟩
set_option maxRecDepth 100000 in
set_option maxHeartbeats 2000000 in
theorem bvalue_any (l ds : List Int) (p : Int) (v u : Value) (w : World) (hp : okP p) (hl : okL l) (hv : HasP w v l) (hu : Lo.HasQ w u ds) (hn : ds.length ≤ l.length) (hnn : l.length ≤ 100000)
    (hd : ∀ i, i < ds.length → -1073741824 ≤ Op.cf ds i ∧ Op.cf ds i ≤ 1073741824) :
    Calls Try.prog 59 #[v, u, .int .u32 p] w (IntU (Or.mv l ds % p) w) := by
  obtain ⟨-, xa, ca, rfl, -, -, -⟩ := id hv
  obtain ⟨-, xb, cb, rfl, -, -, -⟩ := id hu
  obtain ⟨n, hn1⟩ : ∃ n, n = l.length := ⟨_, rfl⟩
  obtain ⟨m, hm1⟩ : ∃ m, m = ds.length := ⟨_, rfl⟩
  rw [← hn1] at hv ⊢
  rw [← hm1] at hu ⊢
  have hmn : m ≤ n := by omega
  have hn5 : n ≤ 100000 := by omega
  have HP := Lib.hid hp
  have HL := Lib.hid hl
  have HV := Lib.hid hv
  have HU := Lib.hid hu
  have HN := Lib.hid hn1
  have HM := Lib.hid hm1
  have HD := Lib.hid hd
  have hp1 : 2 ≤ p := hp.1
  have hp2 : p ≤ 2147483647 := hp.2
  clear hp hl hv hu hn1 hm1 hn hnn hd
  go_enter Try.func59, Try.ntmps59
  go_wp2_with fail
  go_loopw [7, 8] (fun s t wr => ∃ (j : Nat) (r : Int), s = .int .u32 r ∧ t = .int .i64 ((j : Nat) - 1 : Int) ∧ j ≤ m ∧ r = Or.mv (l.drop j) (ds.drop j) % p ∧ Gr w wr) (fun _ t _ => (intOf t + 1).toNat)
  case atStart => exact ⟨m, 0, rfl, rfl, Nat.le_refl _, by rw [List.drop_of_length_le (l := ds) (by rw [HM.out]; exact Nat.le_refl _), Or.mv_nil]; exact (Int.zero_emod p).symm, Gr.refl w⟩
  case round =>
    obtain ⟨j, r, rfl, rfl, hj, hr, hg⟩ := hrel
    have HR := Lib.hid hr
    have HG := Lib.hid hg
    have hr0 : 0 ≤ r := by rw [hr]; exact emod_lo _ p (by omega)
    have hr1 : r < p := by rw [hr]; exact emod_hi _ p (by omega)
    clear hr hg
    rcases j with _ | k
    · go_wp2_with fail
      go_ret
      have h := HR.out
      rw [List.drop_zero, List.drop_zero] at h
      exact ⟨by rw [h]; rfl, HG.out⟩
    · have i2 : ((k + 1 : Nat) : Int) - 1 = (k : Int) := by omega
      have hk0 : (0 : Int) ≤ (k : Int) := by omega
      have hk1 : (k : Int) < (n : Int) := by omega
      have hk2 : (k : Int) < (m : Int) := by omega
      rw [i2]
      clear i2
      obtain ⟨gx, ox, rfl, hcx⟩ : ∃ gx ox, xa = some ⟨gx, ox, none⟩ ∧ wr.cell? ⟨gx, ox + k, none⟩ = some (.int .u32 (Op.cf l k)) := by
        obtain ⟨_, a, c', e, _, _, h3⟩ := HV.out.later HG.out
        cases e
        obtain ⟨gx, ox, e, hc⟩ := h3 k (by have := HN.out; omega)
        exact ⟨gx, ox, e, hc⟩
      obtain ⟨gy, oy, rfl, hcy⟩ : ∃ gy oy, xb = some ⟨gy, oy, none⟩ ∧ wr.cell? ⟨gy, oy + k, none⟩ = some (.int .i64 (Op.cf ds k)) := by
        obtain ⟨_, a, c', e, _, _, h3⟩ := HU.out.later HG.out
        cases e
        obtain ⟨gx, ox, e, hc⟩ := h3 k (by have := HM.out; omega)
        exact ⟨gx, ox, e, hc⟩
      have hqb := HL.out.at_ (i := k) (by have := HN.out; omega)
      have hdb := HD.out k (by have := HM.out; omega)
      obtain ⟨q, hq⟩ : ∃ q, q = Op.cf l k := ⟨_, rfl⟩
      obtain ⟨d, hdd⟩ : ∃ d, d = Op.cf ds k := ⟨_, rfl⟩
      rw [← hq] at hcx hqb
      rw [← hdd] at hcy hdb
      have HQ := Lib.hid hq
      have HDD := Lib.hid hdd
      have p0 := mul_lo hr0 (show 0 ≤ q by omega)
      have p1 : r * q ≤ 2147483647 * 2147483647 := Int.mul_le_mul (by omega) (by omega) (by omega) (by omega)
      have HW := Lib.hid (show isW (r * q + d) from ⟨by omega, by omega⟩)
      have HNX := Lib.hid (show (r * q + d) % p = Or.mv (l.drop k) (ds.drop k) % p from by
        rw [HR.out, mod_hor, Or.mv_drop (i := k) (by have := HM.out; omega) (by have := HM.out; have := HN.out; omega), at_cf, at_cf, ← HQ.out, ← HDD.out])
      have w1 : IntKind.i64.wrap r = r := IntWalk.i64_in _ (by omega)
      have w2 : IntKind.i64.wrap q = q := IntWalk.i64_in _ (by omega)
      have w3 : IntKind.i64.wrap (r * q) = r * q := IntWalk.i64_in _ (by omega)
      have w4 : IntKind.i64.wrap (r * q + d) = r * q + d := IntWalk.i64_in _ (by omega)
      clear hq hdd
      go_wp2_with fail
      go_region_held3 (fun wz => wz.cell? ⟨gx, ox + k, none⟩ = some (.int .u32 q) ∧ wz.cell? ⟨gy, oy + k, none⟩ = some (.int .i64 d)) (go_keep)
        (first | (go_at_call 75; (with_reducible refine (reduced_any (r * q + d) p _ HP.out HW.out).mono ?_); rintro e w1 ⟨rfl, hg⟩; have HG1 := Lib.hid ((show Gr w wr.drew from HG.out.drew).trans hg); have hcx := hg.keeps hcx; have hcy := hg.keeps hcy; clear hg))
      go_wp2_with fail
      go_roundw
      case rel => exact ⟨k, _, rfl, rfl, by omega, HNX.out, HG1.out⟩
      case measure => simp [intOf]
end Go.Proofs.Ytlfiakpmnkhcdaa.Mo
namespace Go.Proofs.Ytlfiakpmnkhcdaa.Mo
open Go.RowKit
set_option linter.unusedVariables false
def Sys (l : List Int) : Prop := okL l ∧ (∀ q ∈ l, q % 2 = 1) ∧ Or.Cop l ∧ 1 ≤ l.length ∧ l.length ≤ 25
def RowOf (l r : List Int) : Prop := r.length = l.length ∧ ∀ i, i < l.length → 0 ≤ Op.cf r i ∧ Op.cf r i < Op.cf l i
theorem Sys.at_ {l : List Int} (h : Sys l) {i : Nat} (hi : i < l.length) : 3 ≤ Op.cf l i ∧ Op.cf l i ≤ 2147483647 ∧ Op.cf l i % 2 = 1 := ⟨(h.1.at_ hi).1, (h.1.at_ hi).2, h.2.1 _ (Op.cf_mem hi)⟩
theorem Sys.cop {l : List Int} (h : Sys l) {i : Nat} (hi : i < l.length) : Int.gcd (Or.pr (l.take i)) (Op.cf l i) = 1 := by
  have := h.2.2.1.take hi
  rwa [at_cf] at this
theorem dg_small {l r ds : List Int} (h : Or.DgI l r ds) (hl : okL l) {i : Nat} (hi : i < ds.length) : -1073741824 ≤ Op.cf ds i ∧ Op.cf ds i ≤ 1073741824 := by
  have h1 := h.2.1 i hi
  have h2 := h.1
  have h3 := hl.at_ (i := i) (by omega)
  rw [at_cf, at_cf] at h1
  omega
theorem bal_odd {a p : Int} (hp : p % 2 = 1) (h : 0 ≤ a ∧ a < p) : -p < 2 * bal a p ∧ 2 * bal a p < p := by
  by_cases hc : p < 2 * a
  · rw [bal_hi hc]; omega
  · rw [bal_lo hc]; omega
theorem bal_dvd (a p : Int) : p ∣ bal a p - a := by
  by_cases hc : p < 2 * a
  · rw [bal_hi hc]; exact ⟨-1, by omega⟩
  · rw [bal_lo hc]; exact ⟨0, by omega⟩
set_option maxRecDepth 100000 in
set_option maxHeartbeats 4000000 in
theorem digit_any (l r ds : List Int) (v vr vd : Value) (R L K i : Nat) (w : World) (hs : Sys l) (hr : RowOf l r) (hv : HasP w v l) (hu : HasP w vr r) (hd : Lo.HasQ w vd ds) (hdg : Or.DgI l r ds) (hi : ds.length = i) (hil : i < l.length)
    (hR : w.cell? ⟨R, 0, none⟩ = some vr) (hL : w.cell? ⟨L, 0, none⟩ = some v) (hK : w.cell? ⟨K, 0, none⟩ = some vd) :
    Calls Try.prog 58 #[.int .i64 i, .pointer (some ⟨R, 0, none⟩), .pointer (some ⟨L, 0, none⟩), .pointer (some ⟨K, 0, none⟩)] w (fun e w' => ∃ d, Or.DgI l r (ds ++ [d]) ∧ IntL d w e w') := by
  obtain ⟨-, xa, ca, rfl, v1, v2, vc⟩ := id hv
  obtain ⟨-, xb, cb, rfl, u1, u2, uc⟩ := id hu
  obtain ⟨-, xd, cd, rfl, -, -, -⟩ := id hd
  obtain ⟨n, hn⟩ : ∃ n, n = l.length := ⟨_, rfl⟩
  have hrn : r.length = n := by rw [hr.1, hn]
  obtain ⟨gx, ox, rfl, cx⟩ := vc i hil
  obtain ⟨gy, oy, rfl, cy⟩ := uc i (by omega)
  have hq3 := hs.at_ hil
  have hr3 := hr.2 i hil
  obtain ⟨q, hq⟩ : ∃ q, q = Op.cf l i := ⟨_, rfl⟩
  obtain ⟨a, ha⟩ : ∃ a, a = Op.cf r i := ⟨_, rfl⟩
  rw [← hq] at cx hq3 hr3
  rw [← ha] at cy hr3
  have HS := Lib.hid hs
  have HOK := Lib.hid (show okP q from ⟨by omega, by omega⟩)
  have HSL := Lib.hid hs.1
  have HDG := Lib.hid hdg
  have HI := Lib.hid hi
  have HQ := Lib.hid hq
  have HA := Lib.hid ha
  have HN := Lib.hid hn
  have HLE := Lib.hid (show ds.length ≤ l.length by omega)
  have HLE5 := Lib.hid (show l.length ≤ 100000 from by have := hs.2.2.2.2; omega)
  have HDS := Lib.hid (show ∀ j, j < ds.length → -1073741824 ≤ Op.cf ds j ∧ Op.cf ds j ≤ 1073741824 from fun j hj => dg_small hdg hs.1 hj)
  have HGC := Lib.hid (show Int.gcd (Or.pr (l.take i) % q) q = 1 from gcd_mod1 (by rw [hq]; exact hs.cop hil))
  have HTK := Lib.hid (show HasP w (.slice (some ⟨gx, ox, none⟩) i ca) (l.take i) from hv.take (by omega))
  have HTO := Lib.hid (show okL (l.take i) from fun x hx => hs.1 x (List.mem_of_mem_take hx))
  have HTL := Lib.hid (show (l.take i).length ≤ 100000 from by rw [List.length_take]; have := hs.2.2.2.2; omega)
  have hin : i < n := by omega
  have hica : i ≤ ca := by omega
  rw [← hn] at hv v1 hL
  rw [hrn] at hu u1 hR
  rw [hi] at hd hK
  have HV := Lib.hid hv
  have HD := Lib.hid hd
  have hn25 : n ≤ 25 := by have := hs.2.2.2.2; omega
  have i0 : (0 : Int) ≤ (i : Int) := by omega
  have i1 : (i : Int) < (n : Int) := by omega
  have i3 : (i : Int) ≤ (ca : Int) := by omega
  obtain ⟨V, hV⟩ : ∃ V, V = Or.mv l ds % q := ⟨_, rfl⟩
  obtain ⟨U, hU⟩ : ∃ U, U = Or.pr (l.take i) % q := ⟨_, rfl⟩
  have hV0 : 0 ≤ V ∧ V < q := by rw [hV]; exact ⟨emod_lo _ q (by omega), emod_hi _ q (by omega)⟩
  have hU0 : 0 ≤ U ∧ U < q := by rw [hU]; exact ⟨emod_lo _ q (by omega), emod_hi _ q (by omega)⟩
  have HVV := Lib.hid hV
  have HUU := Lib.hid hU
  rw [← hU] at HGC
  have HW1 := Lib.hid (show isW (a - V) from ⟨by omega, by omega⟩)
  have HW2 := Lib.hid (show isW U from ⟨by omega, by omega⟩)
  have w1 : IntKind.i64.wrap a = a := IntWalk.i64_in _ (by omega)
  have w2 : IntKind.i64.wrap V = V := IntWalk.i64_in _ (by omega)
  have w3 : IntKind.i64.wrap (a - V) = a - V := IntWalk.i64_in _ (by omega)
  have w4 : IntKind.i64.wrap U = U := IntWalk.i64_in _ (by omega)
  clear hs hr hv hu hd hdg hi hil vc uc hq ha hn hrn hV hU hin
  go_enter Try.func58, Try.ntmps58
  go_wp2_with fail
  go_region_held3 (fun wz => wz.cell? ⟨R, 0, none⟩ = some (.slice (some ⟨gy, oy, none⟩) n cb) ∧ wz.cell? ⟨L, 0, none⟩ = some (.slice (some ⟨gx, ox, none⟩) n ca) ∧ wz.cell? ⟨K, 0, none⟩ = some (.slice xd i cd) ∧ wz.cell? ⟨gx, ox + i, none⟩ = some (.int .u32 q) ∧ wz.cell? ⟨gy, oy + i, none⟩ = some (.int .u32 a)) (go_keep)
    (first | (go_at_call 59; refine (bvalue_any l ds q _ _ _ HOK.out HSL.out (HV.out.later (Gr.refl w).drew) (HD.out.later (Gr.refl w).drew) HLE.out HLE5.out HDS.out).mono ?_; rintro e w1 ⟨rfl, hg⟩; rw [← HVV.out]; have HG1 := Lib.hid ((show Gr w w.drew from (Gr.refl w).drew).trans hg); have hR := HG1.out.keeps hR; have hL := HG1.out.keeps hL; have hK := HG1.out.keeps hK; have cx := HG1.out.keeps cx; have cy := HG1.out.keeps cy; clear hg))
  clear hR hK cy
  go_wp2_with fail
  go_region_held3 (fun wz => wz.cell? ⟨L, 0, none⟩ = some (.slice (some ⟨gx, ox, none⟩) n ca) ∧ wz.cell? ⟨gx, ox + i, none⟩ = some (.int .u32 q)) (go_keep)
    (first | (go_at_call 60; refine (bproduct_any (l.take i) q _ _ HOK.out HTO.out (HTK.out.later HG1.out.drew) HTL.out).mono ?_; rintro e w2 ⟨rfl, hg⟩; rw [← HUU.out]; have HGN := Lib.hid ((show Gr w1 w1.drew from (Gr.refl w1).drew).trans hg); have hL := HGN.out.keeps hL; have cx := HGN.out.keeps cx; have HG2 := Lib.hid (HG1.out.trans HGN.out); clear hg))
  clear HGN
  go_wp2_with fail
  go_region_held3 (fun wz => wz.cell? ⟨L, 0, none⟩ = some (.slice (some ⟨gx, ox, none⟩) n ca) ∧ wz.cell? ⟨gx, ox + i, none⟩ = some (.int .u32 q)) (go_keep)
    (first
      | (go_at_call 62; refine (quotient_any (a - V) U q _ HOK.out HW1.out HW2.out HGC.out).mono ?_; rintro e w3 ⟨b, hb, rfl, hg⟩; have HB := Lib.hid hb; have HGN := Lib.hid ((show Gr w2 w2.drew from (Gr.refl w2).drew).trans hg); have hL := HGN.out.keeps hL; have cx := HGN.out.keeps cx; have HG3 := Lib.hid (HG2.out.trans HGN.out); have HBB := Lib.hid (show 0 ≤ b ∧ b < q from ⟨hb.1, hb.2.1⟩); clear hg hb)
      | (go_at_call 61; refine (balance_any b q _ HOK.out HBB.out).mono ?_; rintro e w4 ⟨rfl, hg⟩; have HGN := Lib.hid hg; have hL := HGN.out.keeps hL; have cx := HGN.out.keeps cx; have HG4 := Lib.hid (HG3.out.trans HGN.out); clear hg))
  go_wp2_with fail
  go_ret
  refine ⟨_, ?_, rfl, HG4.out⟩
  have hq1 := (HS.out.at_ (i := i) (by have := HN.out; omega)).2.2
  rw [← HQ.out] at hq1
  have hbal := bal_odd hq1 HBB.out
  have hbd := bal_dvd b q
  refine HDG.out.next (W := U) (V := V) (by have := HI.out; have := HN.out; omega) (by rw [HI.out, at_cf, ← HQ.out]; exact hbal) (by rw [HI.out, at_cf, ← HQ.out, HUU.out]; exact Op.dvd_mod q _) (by rw [HI.out, at_cf, ← HQ.out, HVV.out]; exact Op.dvd_mod q _) ?_
  rw [HI.out, at_cf, at_cf, ← HQ.out, ← HA.out]
  have e : U * bal b q - (a - V) = U * (bal b q - b) + (U * b - (a - V)) := by rw [Int.mul_sub]; omega
  rw [e]
  exact Int.dvd_add (Int.dvd_mul_of_dvd_right hbd) HB.out.2.2
end Go.Proofs.Ytlfiakpmnkhcdaa.Mo
namespace Go.Proofs.Ytlfiakpmnkhcdaa.Mo
open Go.RowKit
set_option linter.unusedVariables false
set_option linter.unusedSimpArgs false
theorem chain_any {P : Program} {md : Region.Mode} {ops : Array Oper} {Q : Exit → Act → World → Prop} {S : World → Prop} {f0 : Nat} {l0 : Array Bool} {a0 : Act} {w0 : World}
    (h : ∀ G : Nat → Array Bool → Act → World → Prop, (∀ f l a w, G f l a w → wpAnyH P md ops Q S f l a w) → (∀ f l a w, wpAnyH P md ops Q S f l a w → G f l a w) → wpAnyH P md ops Q S f0 l0 a0 w0) :
    wpAnyH P md ops Q S f0 l0 a0 w0 := h _ (fun _ _ _ _ h => h) (fun _ _ _ _ h => h)
namespace Lo
theorem cell_far {W : World} {p q : Addr} (h : p ≠ q) (u : Value) : (W.setCell p u).cell? q = W.cell? q := World.cell?_setCell_other W p q u h
theorem frozen_set1 (W : World) (p q : Addr) (u : Value) : (W.setCell p u).frozen? q = W.frozen? q := by simp [go_sem]
theorem cell_set {W : World} {B o : Nat} {v : Value} (h : W.cell? ⟨B, o, none⟩ = some v) (u : Value) : (W.setCell ⟨B, o, none⟩ u).cell? ⟨B, o, none⟩ = some u := by
  simp [go_sem, h]
theorem Own1.gr {W W' : World} {base : Nat} {v : Value} {l : List Int} (h : Own1 W base v l) (k : Gr W W') : Own1 W' base v l := by
  refine ⟨h.1, h.2.1, ?_⟩
  rcases h.2.2 with hh | ⟨g, cap, cur, e, hb, hg, hr⟩
  · exact .inl hh
  · exact .inr ⟨g, cap, cur, e, hb, (k.block g (Array.getElem?_eq_some_iff.1 hg).1).trans hg, hr⟩
theorem Own1.setCell {w : World} {base : Nat} {v : Value} {l : List Int} (h : Own1 w base v l) {p : Addr} (hp : p.block < base) (u : Value) : Own1 (w.setCell p u) base v l := by
  refine ⟨h.1, h.2.1, ?_⟩
  rcases h.2.2 with hh | ⟨g, cap, cur, e, hb, hg, hr⟩
  · exact .inl hh
  · exact .inr ⟨g, cap, cur, e, hb, (Below.heap_setCell _ p _ _ (by omega)).trans hg, hr⟩
theorem Own1.fresh' {W : World} {base : Nat} {v : Value} {l : List Int} (h : Own1 W base v l) : ∀ B, some B = v.ownBlock → base ≤ B := by
  intro B hB
  rcases h.2.2 with ⟨rfl, _⟩ | ⟨g, cap, cur, rfl, hb, _⟩
  · simp [Value.ownBlock] at hB
  · obtain rfl : B = g := by simpa [Value.ownBlock] using hB
    exact hb
end Lo
def DgS (base KB : Nat) (vd : Value) (ds : List Int) (w : World) : Prop := w.cell? ⟨KB, 0, none⟩ = some vd ∧ w.frozen? ⟨KB, 0, none⟩ = false ∧ Lo.Own1 w base vd ds ∧ KB < base ∧ base ≤ w.heap.size
theorem DgS.later {base KB : Nat} {vd : Value} {ds : List Int} {w w' : World} (h : DgS base KB vd ds w) (g : Gr w w') : DgS base KB vd ds w' :=
  ⟨g.keeps h.1, (Below.frozen g (World.block_lt_of_cell? w _ h.1)).trans h.2.1, h.2.2.1.gr g, h.2.2.2.1, Nat.le_trans h.2.2.2.2 g.size⟩
def DgN (l r : List Int) (base KB RB LB : Nat) (v vr : Value) (ds : List Int) (w0 wx : World) : Prop := ∃ d vn, Or.DgI l r (ds ++ [d]) ∧ DgS base KB vn (ds ++ [d]) wx ∧ wx.cell? ⟨RB, 0, none⟩ = some vr ∧ wx.cell? ⟨LB, 0, none⟩ = some v ∧ Gr w0 wx
set_option maxRecDepth 100000 in
set_option maxHeartbeats 8000000 in
theorem digits_region (l r ds : List Int) (v vr vd : Value) (base RB LB KB i : Nat) (w0 W : World) (HS : Sys l ∧ RowOf l r ∧ Or.DgI l r ds ∧ ds.length = i ∧ i < l.length) (HRW : HasP w0 v l ∧ HasP w0 vr r)
    (hRb : RB < base) (hLb : LB < base) (hKb : KB < base) (hRK : ¬ (KB = RB)) (hLK : ¬ (KB = LB)) (hK0 : w0.heap.size ≤ KB) (hwb : w0.heap.size ≤ base)
    (hlen : ds.length + 1 ≤ 1000000) (hsm : ∀ d, Or.DgI l r (ds ++ [d]) → -9223372036854775808 ≤ d ∧ d < 9223372036854775808)
    (x0 : W.cell? ⟨RB, 0, none⟩ = some vr) (x1 : W.cell? ⟨LB, 0, none⟩ = some v) (hG : Gr w0 W) (hD0 : DgS base KB vd ds W)
    (v0 v1 v2 v3 v4 v8 v9 v10 v11 v12 v13 v20 v21 s14 s15 s16 s17 s18 s19 : Value) (Q : Exit → Act → World → Prop) (hQ : ∀ (d : Option Tmp) (v : Value) c a w, Q (.panic c) (a.put d v) w → Q (.panic c) a w)
    (hpost : ∀ u14 u15 u16 u17 u18 u19 wx, DgN l r base KB RB LB v vr ds w0 wx → Q .normal { tmps := List.toArray (v0 :: v1 :: v2 :: v3 :: v4 :: .pointer (some ⟨KB, 0, none⟩) :: .func (.func 58) #[] #[.pointer (some ⟨RB, 0, none⟩), .pointer (some ⟨LB, 0, none⟩), .pointer (some ⟨KB, 0, none⟩)] :: .int .i64 i :: v8 :: v9 :: v10 :: v11 :: v12 :: v13 :: u14 :: u15 :: u16 :: u17 :: u18 :: u19 :: v20 :: v21 :: ([] : List Value)), defers := [] } wx) :
    (Code.region 6 #[⟨some 14, .load 29 (.tmp 5), 29, "base.go:42", #[], none⟩,
      ⟨some 15, .move (.tmp 6), 103, "base.go:42", #[], none⟩,
      ⟨some 16, .move (.tmp 7), 3, "base.go:42", #[], none⟩,
      ⟨some 17, .call ⟨.value (.tmp 15), #[.tmp 16], #[3]⟩, 2, "base.go:42", #[⟨1, .data⟩, ⟨2, .data⟩], none⟩,
      ⟨some 18, .buildSlice 29 1 #[(0, .tmp 17)], 29, "base.go:42", #[⟨3, .data⟩], none⟩,
      ⟨some 19, .call ⟨.builtin .append, #[.tmp 14, .tmp 18], #[29, 29]⟩, 29, "base.go:42", #[⟨0, .data⟩, ⟨4, .data⟩, ⟨3, .chain⟩], none⟩,
      ⟨none, .store 29 (.tmp 5) (.tmp 19), 0, "base.go:42", #[⟨5, .data⟩, ⟨5, .chain⟩, ⟨0, .phase⟩, ⟨1, .phase⟩, ⟨2, .phase⟩, ⟨3, .phase⟩, ⟨4, .phase⟩, ⟨5, .phase⟩], none⟩] true).wp Try.prog Q { tmps := List.toArray (v0 :: v1 :: v2 :: v3 :: v4 :: .pointer (some ⟨KB, 0, none⟩) :: .func (.func 58) #[] #[.pointer (some ⟨RB, 0, none⟩), .pointer (some ⟨LB, 0, none⟩), .pointer (some ⟨KB, 0, none⟩)] :: .int .i64 i :: v8 :: v9 :: v10 :: v11 :: v12 :: v13 :: s14 :: s15 :: s16 :: s17 :: s18 :: s19 :: v20 :: v21 :: ([] : List Value)), defers := [] } W := by
  refine wp_region_held_drew (S := fun w' => w'.cell? ⟨RB, 0, none⟩ = some vr ∧ w'.cell? ⟨LB, 0, none⟩ = some v ∧ Gr w0 w') (by kernel_rfl) ⟨x0, x1, hG.drew⟩ (fun hHeld => ?_)
  refine chain_any (fun G out inn => ?_)
  have st13 : ∀ (d : Int) (g1 : Nat) (vn : Value) (w : World), (fun w' => w'.cell? ⟨RB, 0, none⟩ = some vr ∧ w'.cell? ⟨LB, 0, none⟩ = some v ∧ Gr w0 w') w → w.cell? ⟨KB, 0, none⟩ = some vd → w.frozen? ⟨KB, 0, none⟩ = false → Lo.Own1 w base vn (ds ++ [d]) → base ≤ w.heap.size → Or.DgI l r (ds ++ [d]) → G 1 #[true, true, true, true, true, true, false] { tmps := List.toArray (v0 :: v1 :: v2 :: v3 :: v4 :: .pointer (some ⟨KB, 0, none⟩) :: .func (.func 58) #[] #[.pointer (some ⟨RB, 0, none⟩), .pointer (some ⟨LB, 0, none⟩), .pointer (some ⟨KB, 0, none⟩)] :: .int .i64 i :: v8 :: v9 :: v10 :: v11 :: v12 :: v13 :: vd :: .func (.func 58) #[] #[.pointer (some ⟨RB, 0, none⟩), .pointer (some ⟨LB, 0, none⟩), .pointer (some ⟨KB, 0, none⟩)] :: .int .i64 i :: .int .i64 d :: .slice (some ⟨g1, 0, none⟩) 1 1 :: vn :: v20 :: v21 :: ([] : List Value)), defers := [] } w := by
    intro d g1 vn w hS k0 kf hO hB hx
    refine inn _ _ _ _ ?_
    obtain ⟨an, cn, e, -, -⟩ := hO.form
    rw [List.length_append, HS.2.2.2.1] at e
    subst e
    have HO := Lib.hid hO
    have HX := Lib.hid hx
    have HSS := Lib.hid hS
    have HB := Lib.hid hB
    clear hO hx hB
    refine wpAnyH_ready (rs := [6]) (by kernel_rfl) (by simp) ?_
    refine AllReadyH.cons (o := ⟨none, .store 29 (.tmp 5) (.tmp 19), 0, "base.go:42", #[⟨5, .data⟩, ⟨5, .chain⟩, ⟨0, .phase⟩, ⟨1, .phase⟩, ⟨2, .phase⟩, ⟨3, .phase⟩, ⟨4, .phase⟩, ⟨5, .phase⟩], none⟩) rfl (fun K hK => ?_) AllReadyH.nil
    go_simp
    have kS : (fun w' => w'.cell? ⟨RB, 0, none⟩ = some vr ∧ w'.cell? ⟨LB, 0, none⟩ = some v ∧ Gr w0 w') (w.setCell ⟨KB, 0, none⟩ (.slice an (i + 1) cn)) := ⟨(Lo.cell_far (fun e => hRK (congrArg Addr.block e)) _).trans HSS.out.1, (Lo.cell_far (fun e => hLK (congrArg Addr.block e)) _).trans HSS.out.2.1, HSS.out.2.2.setCell (p := ⟨KB, 0, none⟩) hK0 _⟩
    refine hK.out _ _ kS (fun hHeld => ?_)
    clear hK K
    (simp only [Act.put, List.setIfInBounds_toArray, List.set_cons_zero, List.set_cons_succ])
    refine wpAnyH_done (by kernel_rfl) ?_ _
    exact hpost _ _ _ _ _ _ _ ⟨d, _, HX.out, ⟨Lo.cell_set k0 _, (Lo.frozen_set1 _ _ _ _).trans kf, HO.out.setCell hKb _, hKb, by rw [World.size_setCell]; exact HB.out⟩, kS.1, kS.2.1, kS.2.2⟩
  have st12 : ∀ (d : Int) (g1 : Nat) (w : World), (fun w' => w'.cell? ⟨RB, 0, none⟩ = some vr ∧ w'.cell? ⟨LB, 0, none⟩ = some v ∧ Gr w0 w') w → DgS base KB vd ds w → Or.DgI l r (ds ++ [d]) → Lo.HasQ w (.slice (some ⟨g1, 0, none⟩) 1 1) [d] → G 2 #[true, true, true, true, true, false, false] { tmps := List.toArray (v0 :: v1 :: v2 :: v3 :: v4 :: .pointer (some ⟨KB, 0, none⟩) :: .func (.func 58) #[] #[.pointer (some ⟨RB, 0, none⟩), .pointer (some ⟨LB, 0, none⟩), .pointer (some ⟨KB, 0, none⟩)] :: .int .i64 i :: v8 :: v9 :: v10 :: v11 :: v12 :: v13 :: vd :: .func (.func 58) #[] #[.pointer (some ⟨RB, 0, none⟩), .pointer (some ⟨LB, 0, none⟩), .pointer (some ⟨KB, 0, none⟩)] :: .int .i64 i :: .int .i64 d :: .slice (some ⟨g1, 0, none⟩) 1 1 :: s19 :: v20 :: v21 :: ([] : List Value)), defers := [] } w := by
    intro d g1 w hS hD hx hq
    refine inn _ _ _ _ ?_
    refine wpAnyH_ready (rs := [5]) (by kernel_rfl) (by simp) ?_
    refine AllReadyH.cons (o := ⟨some 19, .call ⟨.builtin .append, #[.tmp 14, .tmp 18], #[29, 29]⟩, 29, "base.go:42", #[⟨0, .data⟩, ⟨4, .data⟩, ⟨3, .chain⟩], none⟩) rfl (fun K hK => ?_) ?_
    · refine Lo.wp_app (.tmp 14) (.tmp 18) rfl rfl base vd ds rfl hD.2.2.1 (.slice (some ⟨g1, 0, none⟩) 1 1) [d] rfl hq hlen hD.2.2.2.2 ?_
      intro v' w' hown hgrow
      have g : Gr w0 w' := Lo.grown_own hS.2.2 hD.2.2.1 hgrow hwb
      have hk : ∀ B, B < base → w'.heap[B]? = w.heap[B]? := fun B hB => hgrow.block B (by have := hD.2.2.2.2; omega) (fun e => by have := hD.2.2.1.fresh' B e; omega)
      refine hK.out _ _ ⟨(World.cell?_of_block (w := w) (hk RB hRb)).trans hS.1, (World.cell?_of_block (w := w) (hk LB hLb)).trans hS.2.1, g⟩ (fun hHeld => ?_)
      (simp only [Act.put, List.setIfInBounds_toArray, List.set_cons_zero, List.set_cons_succ])
      exact out _ _ _ _ (st13 _ _ _ _ hHeld ((World.cell?_of_block (w := w) (hk KB hKb)).trans hD.1) ((World.frozen?_of_block (hk KB hKb)).trans hD.2.1) hown (Nat.le_trans hD.2.2.2.2 hgrow.size) hx)
    exact AllReadyH.nil
  have st02 : ∀ (d : Int) (g1 : Nat) (w : World), (fun w' => w'.cell? ⟨RB, 0, none⟩ = some vr ∧ w'.cell? ⟨LB, 0, none⟩ = some v ∧ Gr w0 w') w → DgS base KB vd ds w → Or.DgI l r (ds ++ [d]) → Lo.HasQ w (.slice (some ⟨g1, 0, none⟩) 1 1) [d] → G 3 #[false, true, true, true, true, false, false] { tmps := List.toArray (v0 :: v1 :: v2 :: v3 :: v4 :: .pointer (some ⟨KB, 0, none⟩) :: .func (.func 58) #[] #[.pointer (some ⟨RB, 0, none⟩), .pointer (some ⟨LB, 0, none⟩), .pointer (some ⟨KB, 0, none⟩)] :: .int .i64 i :: v8 :: v9 :: v10 :: v11 :: v12 :: v13 :: s14 :: .func (.func 58) #[] #[.pointer (some ⟨RB, 0, none⟩), .pointer (some ⟨LB, 0, none⟩), .pointer (some ⟨KB, 0, none⟩)] :: .int .i64 i :: .int .i64 d :: .slice (some ⟨g1, 0, none⟩) 1 1 :: s19 :: v20 :: v21 :: ([] : List Value)), defers := [] } w := by
    intro d g1 w hS hD hx hq
    refine inn _ _ _ _ ?_
    refine wpAnyH_ready (rs := [0]) (by kernel_rfl) (by simp) ?_
    refine AllReadyH.cons (o := ⟨some 14, .load 29 (.tmp 5), 29, "base.go:42", #[], none⟩) rfl (fun K hK => ?_) ?_
    · have k0 := hD.1
      go_simp
      refine hK.out _ _ hS (fun hHeld => ?_)
      (simp only [Act.put, List.setIfInBounds_toArray, List.set_cons_zero, List.set_cons_succ])
      exact out _ _ _ _ (st12 _ _ _ hHeld hD hx hq)
    exact AllReadyH.nil
  have st11 : ∀ (d : Int) (w : World), (fun w' => w'.cell? ⟨RB, 0, none⟩ = some vr ∧ w'.cell? ⟨LB, 0, none⟩ = some v ∧ Gr w0 w') w → DgS base KB vd ds w → Or.DgI l r (ds ++ [d]) → G 3 #[true, true, true, true, false, false, false] { tmps := List.toArray (v0 :: v1 :: v2 :: v3 :: v4 :: .pointer (some ⟨KB, 0, none⟩) :: .func (.func 58) #[] #[.pointer (some ⟨RB, 0, none⟩), .pointer (some ⟨LB, 0, none⟩), .pointer (some ⟨KB, 0, none⟩)] :: .int .i64 i :: v8 :: v9 :: v10 :: v11 :: v12 :: v13 :: vd :: .func (.func 58) #[] #[.pointer (some ⟨RB, 0, none⟩), .pointer (some ⟨LB, 0, none⟩), .pointer (some ⟨KB, 0, none⟩)] :: .int .i64 i :: .int .i64 d :: s18 :: s19 :: v20 :: v21 :: ([] : List Value)), defers := [] } w := by
    intro d w hS hD hx
    refine inn _ _ _ _ ?_
    refine wpAnyH_ready (rs := [4]) (by kernel_rfl) (by simp) ?_
    refine AllReadyH.cons (o := ⟨some 18, .buildSlice 29 1 #[(0, .tmp 17)], 29, "base.go:42", #[⟨3, .data⟩], none⟩) rfl (fun K hK => ?_) ?_
    · go_simp
      have g := Gr.new w (.cells #[.int .i64 d] 2)
      refine hK.out _ _ ⟨g.keeps hS.1, g.keeps hS.2.1, hS.2.2.trans g⟩ (fun hHeld => ?_)
      (simp only [Act.put, List.setIfInBounds_toArray, List.set_cons_zero, List.set_cons_succ])
      exact out _ _ _ _ (st12 _ _ _ hHeld (hD.later g) hx (Lo.one_hasQ' w d _ rfl (hsm d hx)))
    exact AllReadyH.nil
  have st01 : ∀ (d : Int) (w : World), (fun w' => w'.cell? ⟨RB, 0, none⟩ = some vr ∧ w'.cell? ⟨LB, 0, none⟩ = some v ∧ Gr w0 w') w → DgS base KB vd ds w → Or.DgI l r (ds ++ [d]) → G 4 #[false, true, true, true, false, false, false] { tmps := List.toArray (v0 :: v1 :: v2 :: v3 :: v4 :: .pointer (some ⟨KB, 0, none⟩) :: .func (.func 58) #[] #[.pointer (some ⟨RB, 0, none⟩), .pointer (some ⟨LB, 0, none⟩), .pointer (some ⟨KB, 0, none⟩)] :: .int .i64 i :: v8 :: v9 :: v10 :: v11 :: v12 :: v13 :: s14 :: .func (.func 58) #[] #[.pointer (some ⟨RB, 0, none⟩), .pointer (some ⟨LB, 0, none⟩), .pointer (some ⟨KB, 0, none⟩)] :: .int .i64 i :: .int .i64 d :: s18 :: s19 :: v20 :: v21 :: ([] : List Value)), defers := [] } w := by
    intro d w hS hD hx
    refine inn _ _ _ _ ?_
    refine wpAnyH_ready (rs := [0, 4]) (by kernel_rfl) (by simp) ?_
    refine AllReadyH.cons (o := ⟨some 14, .load 29 (.tmp 5), 29, "base.go:42", #[], none⟩) rfl (fun K hK => ?_) ?_
    · have k0 := hD.1
      go_simp
      refine hK.out _ _ hS (fun hHeld => ?_)
      (simp only [Act.put, List.setIfInBounds_toArray, List.set_cons_zero, List.set_cons_succ])
      exact out _ _ _ _ (st11 _ _ hHeld hD hx)
    refine AllReadyH.cons (o := ⟨some 18, .buildSlice 29 1 #[(0, .tmp 17)], 29, "base.go:42", #[⟨3, .data⟩], none⟩) rfl (fun K hK => ?_) ?_
    · go_simp
      have g := Gr.new w (.cells #[.int .i64 d] 2)
      refine hK.out _ _ ⟨g.keeps hS.1, g.keeps hS.2.1, hS.2.2.trans g⟩ (fun hHeld => ?_)
      (simp only [Act.put, List.setIfInBounds_toArray, List.set_cons_zero, List.set_cons_succ])
      exact out _ _ _ _ (st02 _ _ _ hHeld (hD.later g) hx (Lo.one_hasQ' w d _ rfl (hsm d hx)))
    exact AllReadyH.nil
  have st10 : ∀ (w : World), (fun w' => w'.cell? ⟨RB, 0, none⟩ = some vr ∧ w'.cell? ⟨LB, 0, none⟩ = some v ∧ Gr w0 w') w → DgS base KB vd ds w → G 4 #[true, true, true, false, false, false, false] { tmps := List.toArray (v0 :: v1 :: v2 :: v3 :: v4 :: .pointer (some ⟨KB, 0, none⟩) :: .func (.func 58) #[] #[.pointer (some ⟨RB, 0, none⟩), .pointer (some ⟨LB, 0, none⟩), .pointer (some ⟨KB, 0, none⟩)] :: .int .i64 i :: v8 :: v9 :: v10 :: v11 :: v12 :: v13 :: vd :: .func (.func 58) #[] #[.pointer (some ⟨RB, 0, none⟩), .pointer (some ⟨LB, 0, none⟩), .pointer (some ⟨KB, 0, none⟩)] :: .int .i64 i :: s17 :: s18 :: s19 :: v20 :: v21 :: ([] : List Value)), defers := [] } w := by
    intro w hS hD
    refine inn _ _ _ _ ?_
    refine wpAnyH_ready (rs := [3]) (by kernel_rfl) (by simp) ?_
    refine AllReadyH.cons (o := ⟨some 17, .call ⟨.value (.tmp 15), #[.tmp 16], #[3]⟩, 2, "base.go:42", #[⟨1, .data⟩, ⟨2, .data⟩], none⟩) rfl (fun K hK => ?_) ?_
    · go_simp
      go_at_call 58
      refine (digit_any l r ds v vr vd RB LB KB i _ HS.1 HS.2.1 (HRW.1.later hS.2.2) (HRW.2.later hS.2.2) hD.2.2.1.hasQ HS.2.2.1 HS.2.2.2.1 HS.2.2.2.2 hS.1 hS.2.1 hD.1).mono ?_
      rintro e w' ⟨d, hx, rfl, g⟩
      go_wp2_with fail
      refine hK.out _ _ ⟨g.keeps hS.1, g.keeps hS.2.1, hS.2.2.trans g⟩ (fun hHeld => ?_)
      (simp only [Act.put, List.setIfInBounds_toArray, List.set_cons_zero, List.set_cons_succ])
      exact out _ _ _ _ (st11 _ _ hHeld (hD.later g) hx)
    exact AllReadyH.nil
  have st00 : ∀ (w : World), (fun w' => w'.cell? ⟨RB, 0, none⟩ = some vr ∧ w'.cell? ⟨LB, 0, none⟩ = some v ∧ Gr w0 w') w → DgS base KB vd ds w → G 5 #[false, true, true, false, false, false, false] { tmps := List.toArray (v0 :: v1 :: v2 :: v3 :: v4 :: .pointer (some ⟨KB, 0, none⟩) :: .func (.func 58) #[] #[.pointer (some ⟨RB, 0, none⟩), .pointer (some ⟨LB, 0, none⟩), .pointer (some ⟨KB, 0, none⟩)] :: .int .i64 i :: v8 :: v9 :: v10 :: v11 :: v12 :: v13 :: s14 :: .func (.func 58) #[] #[.pointer (some ⟨RB, 0, none⟩), .pointer (some ⟨LB, 0, none⟩), .pointer (some ⟨KB, 0, none⟩)] :: .int .i64 i :: s17 :: s18 :: s19 :: v20 :: v21 :: ([] : List Value)), defers := [] } w := by
    intro w hS hD
    refine inn _ _ _ _ ?_
    refine wpAnyH_ready (rs := [0, 3]) (by kernel_rfl) (by simp) ?_
    refine AllReadyH.cons (o := ⟨some 14, .load 29 (.tmp 5), 29, "base.go:42", #[], none⟩) rfl (fun K hK => ?_) ?_
    · have k0 := hD.1
      go_simp
      refine hK.out _ _ hS (fun hHeld => ?_)
      (simp only [Act.put, List.setIfInBounds_toArray, List.set_cons_zero, List.set_cons_succ])
      exact out _ _ _ _ (st10 _ hHeld hD)
    refine AllReadyH.cons (o := ⟨some 17, .call ⟨.value (.tmp 15), #[.tmp 16], #[3]⟩, 2, "base.go:42", #[⟨1, .data⟩, ⟨2, .data⟩], none⟩) rfl (fun K hK => ?_) ?_
    · go_simp
      go_at_call 58
      refine (digit_any l r ds v vr vd RB LB KB i _ HS.1 HS.2.1 (HRW.1.later hS.2.2) (HRW.2.later hS.2.2) hD.2.2.1.hasQ HS.2.2.1 HS.2.2.2.1 HS.2.2.2.2 hS.1 hS.2.1 hD.1).mono ?_
      rintro e w' ⟨d, hx, rfl, g⟩
      go_wp2_with fail
      refine hK.out _ _ ⟨g.keeps hS.1, g.keeps hS.2.1, hS.2.2.trans g⟩ (fun hHeld => ?_)
      (simp only [Act.put, List.setIfInBounds_toArray, List.set_cons_zero, List.set_cons_succ])
      exact out _ _ _ _ (st01 _ _ hHeld (hD.later g) hx)
    exact AllReadyH.nil
  show wpAnyH _ _ _ _ _ 7 #[false, false, false, false, false, false, false] _ _
  refine wpAnyH_take (i := 1) (oi := ⟨some 15, .move (.tmp 6), 103, "base.go:42", #[], none⟩) (v := ?_) rfl (by kernel_rfl) (by kernel_rfl) (by kernel_rfl) (hQ _ _) (_root_.Or.inl ⟨by rfl, ?_⟩) (by assumption) ?_
  rotate_left
  · intro w0 hSw; (try dsimp only at hSw); go_simp; try with_reducible rfl
  (simp only [Act.put, List.setIfInBounds_toArray, List.set_cons_zero, List.set_cons_succ])
  refine wpAnyH_take (i := 2) (oi := ⟨some 16, .move (.tmp 7), 3, "base.go:42", #[], none⟩) (v := ?_) rfl (by kernel_rfl) (by kernel_rfl) (by kernel_rfl) (hQ _ _) (_root_.Or.inl ⟨by rfl, ?_⟩) (by assumption) ?_
  rotate_left
  · intro w0 hSw; (try dsimp only at hSw); go_simp; try with_reducible rfl
  (simp only [Act.put, List.setIfInBounds_toArray, List.set_cons_zero, List.set_cons_succ])
  exact out _ _ _ _ (st00 _ hHeld (hD0.later (Gr.refl W).drew))
end Go.Proofs.Ytlfiakpmnkhcdaa.Mo
namespace Go.Proofs.Ytlfiakpmnkhcdaa.Mo
open Go.RowKit
set_option linter.unusedVariables false
def DigPost (l r : List Int) (w : World) (e : Ending) (w' : World) : Prop := ∃ a n c ds, e = .returned (.slice a n c) ∧ Lo.HasQ w' (.slice a n c) ds ∧ Or.DgI l r ds ∧ ds.length = l.length ∧ Gr w w'
set_option maxRecDepth 100000 in
set_option maxHeartbeats 4000000 in
theorem digits_any (l r : List Int) (v vr : Value) (w : World) (hs : Sys l) (hr : RowOf l r) (hv : HasP w v l) (hu : HasP w vr r) :
    Calls Try.prog 40 #[v, vr] w (DigPost l r w) := by
  obtain ⟨-, xa, ca, rfl, -, -, -⟩ := id hv
  obtain ⟨-, xb, cb, rfl, -, -, -⟩ := id hu
  obtain ⟨n, hn⟩ : ∃ n, n = l.length := ⟨_, rfl⟩
  have hrn : r.length = n := by rw [hr.1, hn]
  have hn25 : n ≤ 25 := by rw [hn]; exact hs.2.2.2.2
  rw [← hn] at hv ⊢
  rw [hrn] at hu ⊢
  have HS := Lib.hid hs
  have HR := Lib.hid hr
  have HV := Lib.hid hv
  have HU := Lib.hid hu
  have HN := Lib.hid hn
  have HSM := Lib.hid (show ∀ ds d, Or.DgI l r (ds ++ [d]) → ds.length < l.length → -9223372036854775808 ≤ d ∧ d < 9223372036854775808 from fun ds d h hl => by
    have h1 := dg_small h hs.1 (i := ds.length) (by simp)
    have e : Op.cf (ds ++ [d]) ds.length = d := by rw [Op.cf_append, if_neg (by omega), Nat.sub_self]; rfl
    rw [e] at h1
    omega)
  clear hs hr hv hu hn hrn
  go_enter Try.func40, Try.ntmps40
  go_wp2_with fail
  obtain ⟨W, hW⟩ : ∃ W : World, W = (((w.alloc (.cells #[.slice xa n ca] 77)).alloc (.cells #[.slice xb n cb] 23)).alloc (.cells #[.slice none 0 0] 29)) := ⟨_, rfl⟩
  try rw [← hW]
  have HG := Lib.hid (show Gr w W by rw [hW]; exact ((Gr.new w _).alloc _).alloc _)
  have hL : W.cell? ⟨w.heap.size, 0, none⟩ = some (.slice xa n ca) := by rw [hW]; simp [go_sem]
  have hR : W.cell? ⟨w.heap.size + 1, 0, none⟩ = some (.slice xb n cb) := by rw [hW]; simp [go_sem]
  have HD := Lib.hid (show DgS (w.heap.size + 1 + 1 + 1) (w.heap.size + 1 + 1) (.slice none 0 0) [] W from ⟨by rw [hW]; simp [go_sem], by rw [hW]; simp [go_sem], Lo.Own1.nil _ _, by omega, by rw [hW]; simp⟩)
  have HL := Lib.hid hL
  have HRR := Lib.hid hR
  clear hW hL hR
  go_loopw [11] (fun t wr => ∃ (k : Nat) (vd : Value) (ds : List Int), t = .int .i64 k ∧ k ≤ n ∧ ds.length = k ∧ Or.DgI l r ds ∧ DgS (w.heap.size + 1 + 1 + 1) (w.heap.size + 1 + 1) vd ds wr ∧ wr.cell? ⟨w.heap.size, 0, none⟩ = some (.slice xa n ca) ∧ wr.cell? ⟨w.heap.size + 1, 0, none⟩ = some (.slice xb n cb) ∧ Gr w wr) (fun t _ => n - (intOf t).toNat)
  case atStart => exact ⟨0, .slice none 0 0, [], rfl, by omega, rfl, Or.DgI.start l r, HD.out, HL.out, HRR.out, HG.out⟩
  case round =>
    obtain ⟨k, vd, ds, rfl, hk, hdl, hdg, hD, hL, hR, hg⟩ := hrel
    have HDL := Lib.hid hdl
    have HDG := Lib.hid hdg
    have HDD := Lib.hid hD
    have HGG := Lib.hid hg
    by_cases hlt : k < n
    · have hk1 : (k : Int) < (n : Int) := by omega
      have hk0 : (0 : Int) ≤ (k : Int) := by omega
      have HLL := Lib.hid hL
      have HRL := Lib.hid hR
      clear hdl hdg hD hg
      go_wp2_with fail
      refine wp_region_noPanic ?_
      refine digits_region l r ds (.slice xa n ca) (.slice xb n cb) vd (w.heap.size + 1 + 1 + 1) (w.heap.size + 1) w.heap.size (w.heap.size + 1 + 1) k w _ ⟨HS.out, HR.out, HDG.out, HDL.out, by have := HN.out; omega⟩ ⟨HV.out, HU.out⟩ (by omega) (by omega) (by omega) (by omega) (by omega) (by omega) (by omega) (by have := HDL.out; omega) (fun d h => HSM.out ds d h (by have := HDL.out; have := HN.out; omega)) HRL.out HLL.out HGG.out HDD.out _ _ _ _ _ _ _ _ _ _ _ _ _ _ _ _ _ _ _ _ (fun _ _ _ _ _ h => h) ?_
      rintro u14 u15 u16 u17 u18 u19 wx ⟨d, vn, hdn, hDn, hRn, hLn, hgn⟩
      refine NoPanic.normal ?_
      have HDN := Lib.hid hdn
      have HDS := Lib.hid hDn
      have HRN := Lib.hid hRn
      have HLN := Lib.hid hLn
      have HGN := Lib.hid hgn
      clear hdn hDn hRn hLn hgn hL hR
      go_wp2_with fail
      go_roundw
      case rel => exact ⟨_, _, _, _, _, _, _, _, _, _, _, ⟨k + 1, vn, ds ++ [d], by simp, by omega, by rw [List.length_append, HDL.out]; rfl, HDN.out, HDS.out, HLN.out, HRN.out, HGN.out⟩, rfl⟩
      case measure => simp [intOf]; omega
    · obtain rfl : k = n := by omega
      have hk1 : ¬ (k : Int) < (k : Int) := by omega
      have hkc := hD.1
      obtain ⟨ad, cd, e, -, -⟩ := hD.2.2.1.form
      rw [hdl] at e
      subst e
      clear hdl hdg hD hL hR hg
      go_wp2_with fail
      go_ret
      have hq := HDD.out.2.2.1.hasQ
      exact ⟨_, _, _, ds, rfl, hq, HDG.out, by rw [HDL.out]; exact HN.out, HGG.out⟩
end Go.Proofs.Ytlfiakpmnkhcdaa.Mo
namespace Go.Proofs.Ytlfiakpmnkhcdaa.Mo
open Go.RowKit
set_option linter.unusedVariables false
set_option maxRecDepth 100000 in
set_option maxHeartbeats 4000000 in
theorem holds_any (l r : List Int) (v vr : Value) (w : World) (hs : Sys l) (hv : HasP w v l) (hu : HasP w vr r) :
    Calls Try.prog 57 #[v, vr] w (fun e w' => ∃ b : Bool, e = .returned (.bool b) ∧ (b = true ↔ RowOf l r) ∧ Gr w w') := by
  obtain ⟨-, xa, ca, rfl, -, -, -⟩ := id hv
  obtain ⟨hu32, xb, cb, rfl, -, hcb, -⟩ := id hu
  obtain ⟨n, hn⟩ : ∃ n, n = l.length := ⟨_, rfl⟩
  obtain ⟨m, hm⟩ : ∃ m, m = r.length := ⟨_, rfl⟩
  have hn25 : n ≤ 25 := by rw [hn]; exact hs.2.2.2.2
  rw [← hn] at hv ⊢
  rw [← hm] at hu ⊢
  have HV := Lib.hid hv
  have HU := Lib.hid hu
  have HN := Lib.hid hn
  have HM := Lib.hid hm
  have HUU := Lib.hid hu32
  have hmb : m ≤ 9223372036854775807 := by have := hu.len; omega
  clear hs hv hu hn hm hu32 hcb
  by_cases he : m = n
  · have HE := Lib.hid he
    subst he
    go_enter Try.func57, Try.ntmps57
    go_wp2_with fail
    go_loopw [14] (fun t wr => ∃ k : Nat, t = .int .i64 k ∧ k ≤ m ∧ (∀ j, j < k → Op.cf r j < Op.cf l j) ∧ Gr w wr) (fun t _ => m - (intOf t).toNat)
    case atStart => exact ⟨0, rfl, by omega, fun j hj => by omega, Gr.refl w⟩
    case round =>
      obtain ⟨k, rfl, hk, hlow, hg⟩ := hrel
      have HLOW := Lib.hid hlow
      have HG := Lib.hid hg
      clear hlow hg
      by_cases hlt : k < m
      · have hk0 : (0 : Int) ≤ (k : Int) := by omega
        have hk1 : (k : Int) < (m : Int) := by omega
        obtain ⟨gx, ox, rfl, hcx⟩ : ∃ gx ox, xa = some ⟨gx, ox, none⟩ ∧ wr.cell? ⟨gx, ox + k, none⟩ = some (.int .u32 (Op.cf l k)) := by
          obtain ⟨_, a, c', e, _, _, h3⟩ := HV.out.later HG.out
          cases e
          obtain ⟨gx, ox, e, hc⟩ := h3 k (by have := HN.out; omega)
          exact ⟨gx, ox, e, hc⟩
        obtain ⟨gy, oy, rfl, hcy⟩ : ∃ gy oy, xb = some ⟨gy, oy, none⟩ ∧ wr.cell? ⟨gy, oy + k, none⟩ = some (.int .u32 (Op.cf r k)) := by
          obtain ⟨_, a, c', e, _, _, h3⟩ := HU.out.later HG.out
          cases e
          obtain ⟨gx, ox, e, hc⟩ := h3 k (by have := HM.out; omega)
          exact ⟨gx, ox, e, hc⟩
        obtain ⟨q, hq⟩ : ∃ q, q = Op.cf l k := ⟨_, rfl⟩
        obtain ⟨a, ha⟩ : ∃ a, a = Op.cf r k := ⟨_, rfl⟩
        rw [← hq] at hcx
        rw [← ha] at hcy
        have HQ := Lib.hid hq
        have HA := Lib.hid ha
        clear hq ha
        by_cases hge : a ≥ q
        · go_wp2_with fail
          go_ret
          refine ⟨false, rfl, ⟨fun h => (by cases h), fun h => ?_⟩, HG.out⟩
          have := (h.2 k (by have := HN.out; omega)).2
          have := HQ.out
          have := HA.out
          omega
        · go_wp2_with fail
          go_roundw
          case rel =>
            refine ⟨k + 1, by simp, by omega, fun j hj => ?_, HG.out⟩
            by_cases hjk : j = k
            · subst hjk; rw [← HQ.out, ← HA.out]; omega
            · exact HLOW.out j (by omega)
          case measure => simp [intOf]; omega
      · obtain rfl : k = m := by omega
        go_wp2_with fail
        go_ret
        exact ⟨true, rfl, ⟨fun _ => ⟨by rw [← HM.out, ← HN.out], fun i hi => ⟨(HUU.out.at_ i).1, HLOW.out i (by have := HN.out; omega)⟩⟩, fun _ => rfl⟩, HG.out⟩
  · have hne : (((m : Int) != (n : Int))) = true := by simp; omega
    have hne2 : ¬ ((m : Int) = (n : Int)) := by omega
    go_enter Try.func57, Try.ntmps57
    go_wp2_with fail
    go_ret
    exact ⟨false, rfl, ⟨fun h => (by cases h), fun h => absurd (by rw [HM.out, HN.out]; exact h.1) he⟩, Gr.refl w⟩
theorem Row.store {W : World} {g k : Nat} {l : List Int} {x : Int} (h : Row W g l) (hk : k < l.length) (hx : 0 ≤ x ∧ x < 4294967296) : Row (W.setCell ⟨g, k, none⟩ (.int .u32 x)) g (put l k [x]) := by
  have h' := h
  obtain ⟨h0, cur, h1, h2, h3⟩ := h'
  have hU := (Upd.start (o := k) h1 (by omega)).step (k := 0) (d := x) rfl (v := .int .u32 (Op.cf l k)) (by rw [Nat.add_zero]; exact h.cell hk)
  rw [Nat.add_zero] at hU
  exact h.upd hU (U32.one hx) (by simp; omega)
theorem cf_put1 {l : List Int} {k j : Nat} {x : Int} (hk : k < l.length) : Op.cf (put l k [x]) j = if j = k then x else Op.cf l j := by
  rw [cf_put (by simp; omega)]
  by_cases h : j = k
  · subst h; rw [if_pos (by simp), if_pos rfl, Nat.sub_self]; rfl
  · rw [if_neg (by simp; omega), if_neg h]
def rowL (n : Nat) (f : Nat → Int) : List Int := (List.range n).map f
theorem rowL_len (n : Nat) (f : Nat → Int) : (rowL n f).length = n := by simp [rowL]
theorem rowL_at (n : Nat) (f : Nat → Int) {i : Nat} (hi : i < n) : Op.cf (rowL n f) i = f i := by
  rw [← Op.cf_at]; simp [rowL, hi]
end Go.Proofs.Ytlfiakpmnkhcdaa.Mo
namespace Go.Proofs.Ytlfiakpmnkhcdaa.Mo
open Go.RowKit
set_option linter.unusedVariables false
set_option maxRecDepth 100000 in
set_option maxHeartbeats 2000000 in
theorem index_any (l : List Int) (x : Int) (v : Value) (w : World) (hv : HasP w v l) (hl : l.length ≤ 1000000) :
    Calls Try.prog 52 #[v, .int .u32 x] w (fun e w' => ∃ k : Int, e = .returned (.int .i64 k) ∧ (0 ≤ k ↔ x ∈ l) ∧ Gr w w') := by
  obtain ⟨-, xa, ca, rfl, -, -, -⟩ := id hv
  obtain ⟨n, hn⟩ : ∃ n, n = l.length := ⟨_, rfl⟩
  rw [← hn] at hv hl ⊢
  have HV := Lib.hid hv
  have HN := Lib.hid hn
  clear hv hn
  go_enter Try.func52, Try.ntmps52
  go_wp2_with fail
  go_loopw [8] (fun t wr => ∃ k : Nat, t = .int .i64 k ∧ k ≤ n ∧ (∀ j, j < k → Op.cf l j ≠ x) ∧ Gr w wr) (fun t _ => n - (intOf t).toNat)
  case atStart => exact ⟨0, rfl, by omega, fun j hj => by omega, Gr.refl w⟩
  case round =>
    obtain ⟨k, rfl, hk, hlow, hg⟩ := hrel
    have HLOW := Lib.hid hlow
    have HG := Lib.hid hg
    clear hlow hg
    by_cases hlt : k < n
    · have hk0 : (0 : Int) ≤ (k : Int) := by omega
      have hk1 : (k : Int) < (n : Int) := by omega
      obtain ⟨gx, ox, rfl, hcx⟩ : ∃ gx ox, xa = some ⟨gx, ox, none⟩ ∧ wr.cell? ⟨gx, ox + k, none⟩ = some (.int .u32 (Op.cf l k)) := by
        obtain ⟨_, a, c', e, _, _, h3⟩ := HV.out.later HG.out
        cases e
        obtain ⟨gx, ox, e, hc⟩ := h3 k (by have := HN.out; omega)
        exact ⟨gx, ox, e, hc⟩
      obtain ⟨q, hq⟩ : ∃ q, q = Op.cf l k := ⟨_, rfl⟩
      rw [← hq] at hcx
      have HQ := Lib.hid hq
      clear hq
      by_cases hxq : x = q
      · have hb : (x == q) = true := by simp [hxq]
        have HXQ := Lib.hid hxq
        clear hxq
        go_wp2_with fail
        go_ret
        exact ⟨(k : Int), rfl, ⟨fun _ => by rw [HXQ.out, HQ.out]; exact Op.cf_mem (by have := HN.out; omega), fun _ => by omega⟩, HG.out⟩
      · have hb : (x == q) = false := by simpa using hxq
        have HXQ := Lib.hid hxq
        clear hxq
        go_wp2_with fail
        go_roundw
        case rel =>
          refine ⟨k + 1, by simp, by omega, fun j hj => ?_, HG.out⟩
          by_cases hjk : j = k
          · subst hjk; rw [← HQ.out]; exact fun e => HXQ.out e.symm
          · exact HLOW.out j (by omega)
        case measure => simp [intOf]; omega
    · obtain rfl : k = n := by omega
      have hk1 : ¬ (k : Int) < (k : Int) := by omega
      go_wp2_with fail
      go_ret
      refine ⟨-1, rfl, ⟨fun h => by omega, fun h => ?_⟩, HG.out⟩
      obtain ⟨j, hj, e⟩ := List.getElem_of_mem h
      have := HLOW.out j (by have := HN.out; omega)
      rw [← Op.cf_at, List.getElem?_eq_getElem hj] at this
      exact absurd e this
set_option maxRecDepth 100000 in
set_option maxHeartbeats 2000000 in
theorem contains_any (l : List Int) (x : Int) (v : Value) (w : World) (hv : HasP w v l) (hl : l.length ≤ 1000000) :
    Calls Try.prog 32 #[v, .int .u32 x] w (BoolPost (x ∈ l) w) := by
  have HV := Lib.hid hv
  have HL := Lib.hid hl
  clear hv hl
  go_enter Try.func32, Try.ntmps32
  go_wp2_with fail
  refine (index_any l x _ _ HV.out HL.out).mono ?_
  rintro e w1 ⟨k, rfl, hk, hg⟩
  have HK := Lib.hid hk
  have HG := Lib.hid hg
  clear hk hg
  go_wp2_with fail
  go_ret
  exact ⟨decide (0 ≤ k), rfl, by simpa using HK.out, HG.out⟩
def Dis (l : List Int) : Prop := 1 ≤ l.length ∧ l.length ≤ 25 ∧ ∀ i, i < l.length → 3 ≤ Op.cf l i ∧ Op.cf l i ≤ 2147483647 ∧ Prm (Op.cf l i).toNat ∧ ¬ Op.cf l i ∈ l.take i
set_option maxRecDepth 100000 in
set_option maxHeartbeats 4000000 in
theorem distinct_any (l : List Int) (v : Value) (w : World) (hv : HasP w v l) :
    Calls Try.prog 35 #[v] w (BoolPost (Dis l) w) := by
  obtain ⟨-, xa, ca, rfl, -, hcap, -⟩ := id hv
  obtain ⟨n, hn⟩ : ∃ n, n = l.length := ⟨_, rfl⟩
  have hlen := hv.len
  rw [← hn] at hv hlen ⊢
  have HV := Lib.hid hv
  have HN := Lib.hid hn
  have hnb : n ≤ 9223372036854775807 := by omega
  clear hv hn hlen hcap
  have hc : n < 1 ∨ (¬ n < 1 ∧ 25 < n) ∨ (¬ n < 1 ∧ n ≤ 25) := by omega
  rcases hc with h1 | ⟨h1, h2⟩ | ⟨h1, h2⟩
  · have i1 : (n : Int) < 1 := by omega
    go_enter Try.func35, Try.ntmps35
    go_wp2_with fail
    go_ret
    exact ⟨false, rfl, ⟨fun h => (by cases h), fun h => by have := h.1; have := HN.out; omega⟩, Gr.refl w⟩
  · have i1 : ¬ (n : Int) < 1 := by omega
    have i2 : (n : Int) > 25 := by omega
    go_enter Try.func35, Try.ntmps35
    go_wp2_with fail
    go_ret
    exact ⟨false, rfl, ⟨fun h => (by cases h), fun h => by have := h.2.1; have := HN.out; omega⟩, Gr.refl w⟩
  · have i1 : ¬ (n : Int) < 1 := by omega
    have i2 : ¬ (n : Int) > 25 := by omega
    go_enter Try.func35, Try.ntmps35
    go_wp2_with fail
    go_loopw [15] (fun t wr => ∃ k : Nat, t = .int .i64 k ∧ k ≤ n ∧ (∀ i, i < k → 3 ≤ Op.cf l i ∧ Op.cf l i ≤ 2147483647 ∧ Prm (Op.cf l i).toNat ∧ ¬ Op.cf l i ∈ l.take i) ∧ Gr w wr) (fun t _ => n - (intOf t).toNat)
    case atStart => exact ⟨0, rfl, by omega, fun j hj => by omega, Gr.refl w⟩
    case round =>
      obtain ⟨k, rfl, hk, hlow, hg⟩ := hrel
      have HLOW := Lib.hid hlow
      have HG := Lib.hid hg
      clear hlow hg
      by_cases hlt : k < n
      · have hk0 : (0 : Int) ≤ (k : Int) := by omega
        have hk1 : (k : Int) < (n : Int) := by omega
        have hkl : k < l.length := by have := HN.out; omega
        have HKL := Lib.hid hkl
        obtain ⟨gx, ox, rfl, hcx⟩ : ∃ gx ox, xa = some ⟨gx, ox, none⟩ ∧ wr.cell? ⟨gx, ox + k, none⟩ = some (.int .u32 (Op.cf l k)) := by
          obtain ⟨_, a, c', e, _, _, h3⟩ := HV.out.later HG.out
          cases e
          obtain ⟨gx, ox, e, hc⟩ := h3 k hkl
          exact ⟨gx, ox, e, hc⟩
        have hqb := HV.out.1.at_ k
        obtain ⟨q, hq⟩ : ∃ q : Nat, (q : Int) = Op.cf l k := ⟨(Op.cf l k).toNat, Int.toNat_of_nonneg hqb.1⟩
        rw [← hq] at hcx hqb
        have HQ := Lib.hid hq
        have hkca : (k : Int) ≤ (ca : Int) := by have := HV.out.len; omega
        have HTK := Lib.hid (show HasP w (.slice (some ⟨gx, ox, none⟩) k ca) (l.take k) from HV.out.take (by omega))
        have HTL := Lib.hid (show (l.take k).length ≤ 1000000 from by rw [List.length_take]; omega)
        clear hq hkl
        have hcase : (q : Int) < 3 ∨ (¬ (q : Int) < 3 ∧ (q : Int) > 2147483647) ∨ (¬ (q : Int) < 3 ∧ ¬ (q : Int) > 2147483647) := by omega
        rcases hcase with h3 | ⟨h3, h4⟩ | ⟨h3, h4⟩
        · go_wp2_with fail
          go_ret
          exact ⟨false, rfl, ⟨fun h => (by cases h), fun h => by have := (h.2.2 k HKL.out).1; have := HQ.out; omega⟩, HG.out⟩
        · go_wp2_with fail
          go_ret
          exact ⟨false, rfl, ⟨fun h => (by cases h), fun h => by have := (h.2.2 k HKL.out).2.1; have := HQ.out; omega⟩, HG.out⟩
        · go_wp2_with fail
          refine (prime_any q _ (by omega)).mono ?_
          rintro e w1 ⟨b, rfl, hb, hg⟩
          have HB := Lib.hid hb
          have HG1 := Lib.hid (HG.out.trans hg)
          clear hb hg
          cases b with
          | false =>
            go_wp2_with fail
            go_ret
            refine ⟨false, rfl, ⟨fun h => (by cases h), fun h => ?_⟩, HG1.out⟩
            have h5 := (h.2.2 k HKL.out).2.2.1
            rw [← HQ.out, Int.toNat_natCast] at h5
            exact absurd (HB.out.2 h5) (by simp)
          | true =>
            go_wp2_with fail
            refine (contains_any (l.take k) q _ _ (HTK.out.later HG1.out) HTL.out).mono ?_
            rintro e w2 ⟨b, rfl, hb, hg⟩
            have HC := Lib.hid hb
            have HG2 := Lib.hid (HG1.out.trans hg)
            clear hb hg
            cases b with
            | true =>
              go_wp2_with fail
              go_ret
              refine ⟨false, rfl, ⟨fun h => (by cases h), fun h => ?_⟩, HG2.out⟩
              have h5 := (h.2.2 k HKL.out).2.2.2
              rw [← HQ.out] at h5
              exact absurd (HC.out.1 (by simp)) h5
            | false =>
              go_wp2_with fail
              go_roundw
              case rel =>
                refine ⟨k + 1, by simp, by omega, fun j hj => ?_, HG2.out⟩
                by_cases hjk : j = k
                · subst hjk
                  rw [← HQ.out, Int.toNat_natCast]
                  exact ⟨by omega, by omega, HB.out.1 (by simp), fun h => by have := HC.out.2 h; simp at this⟩
                · exact HLOW.out j (by omega)
              case measure => simp [intOf]; omega
      · obtain rfl : k = n := by omega
        have hk1 : ¬ (k : Int) < (k : Int) := by omega
        go_wp2_with fail
        go_ret
        exact ⟨true, rfl, ⟨fun _ => ⟨by have := HN.out; omega, by have := HN.out; omega, fun i hi => HLOW.out i (by have := HN.out; omega)⟩, fun _ => rfl⟩, HG.out⟩
end Go.Proofs.Ytlfiakpmnkhcdaa.Mo
namespace Go.Proofs.Ytlfiakpmnkhcdaa.Mo
open Go.RowKit
set_option linter.unusedVariables false
def IsSys (W : World) (S : Nat) (l : List Int) : Prop := ∃ v, W.cell? ⟨S, 0, none⟩ = some v ∧ HasP W v l ∧ W.cell? ⟨S, 1, none⟩ = some (.pointer (some ⟨S, 0, none⟩))
theorem IsSys.later {W W' : World} {S : Nat} {l : List Int} (h : IsSys W S l) (g : Gr W W') : IsSys W' S l := by
  obtain ⟨v, h1, h2, h3⟩ := h
  exact ⟨v, g.keeps h1, h2.later g, g.keeps h3⟩
def IsB (b : Bool) (w : World) (e : Ending) (w' : World) : Prop := e = .returned (.bool b) ∧ Gr w w'
theorem eql_self (w : World) (a : Addr) : (binOp .eql 54 (.pointer (some a)) (.pointer (some a))).run Try.prog w = .ok (.bool true) w := by
  obtain ⟨j, hj⟩ : ∃ j, Try.prog.info? 79 = some j := Option.isSome_iff_exists.1 (by kernel_rfl)
  exact run_eql_ptr_same w a Try.underlying54 hj
set_option maxRecDepth 100000 in
set_option maxHeartbeats 1000000 in
theorem made_yes (S : Nat) (l : List Int) (w : World) (h : IsSys w S l) : Calls Try.prog 56 #[.pointer (some ⟨S, 0, none⟩)] w (IsB true w) := by
  obtain ⟨v, h0, -, h1⟩ := h
  have heq := eql_self w ⟨S, 0, none⟩
  go_enter Try.func56, Try.ntmps56
  go_wp2_with fail
  go_ret
  exact ⟨rfl, Gr.refl w⟩
set_option maxRecDepth 100000 in
set_option maxHeartbeats 1000000 in
theorem check_any (S : Nat) (l r : List Int) (vr : Value) (w : World) (h : IsSys w S l) (hs : Sys l) (hu : HasP w vr r) : Calls Try.prog 39 #[.pointer (some ⟨S, 0, none⟩), vr] w (fun e w' => ∃ c : Int, IntL c w e w' ∧ ((c = 0 ∧ RowOf l r) ∨ (c = 2 ∧ ¬ RowOf l r))) := by
  have H := Lib.hid h
  have HS := Lib.hid hs
  have HU := Lib.hid hu
  obtain ⟨-, xb, cb, rfl, -, -, -⟩ := hu
  clear h hs
  go_enter Try.func39, Try.ntmps39
  go_wp2_with fail
  refine (made_yes S l _ H.out).mono ?_
  rintro e w1 ⟨rfl, hg⟩
  have HG := Lib.hid hg
  obtain ⟨v, h0, h1, h2⟩ := H.out.later hg
  have HV := Lib.hid h1
  obtain ⟨-, xa, ca, rfl, -, -, -⟩ := h1
  clear hg h2
  go_wp2_with fail
  refine (holds_any l r _ _ _ HS.out HV.out (HU.out.later HG.out)).mono ?_
  rintro e w2 ⟨b, rfl, hb, hg⟩
  have HB := Lib.hid hb
  have HG2 := Lib.hid (HG.out.trans hg)
  clear hb hg
  cases b with
  | true =>
    go_wp2_with fail
    go_ret
    exact ⟨0, ⟨rfl, HG2.out⟩, .inl ⟨rfl, HB.out.1 (by simp)⟩⟩
  | false =>
    go_wp2_with fail
    go_ret
    exact ⟨2, ⟨rfl, HG2.out⟩, .inr ⟨rfl, fun h => by have := HB.out.2 h; simp at this⟩⟩
end Go.Proofs.Ytlfiakpmnkhcdaa.Mo
namespace Go.Proofs.Ytlfiakpmnkhcdaa.Mo
open Go.RowKit
set_option linter.unusedVariables false
theorem Own1.start (w : World) (base : Nat) (hb : base ≤ w.heap.size) : Own1 (w.alloc (.cells #[] 22)) base (.slice (some ⟨w.heap.size, 0, none⟩) 0 0) [] :=
  ⟨U32.nil, rfl, .inr ⟨w.heap.size, 0, #[], rfl, hb, heap_alloc_new w _, Nat.le_refl _, by unfold maxLen; omega, rfl, rfl⟩⟩
theorem eql_nil (w : World) (a : Option Addr) (n c : Nat) : (binOp .eql 23 (.slice a n c) (.slice none 0 0)).run Try.prog w = .ok (.bool a.isNone) w :=
  Lib.run_eql_slice_nil w _ _ a n c 0 0 Try.underlying23
set_option maxRecDepth 100000 in
set_option maxHeartbeats 2000000 in
theorem clone_any (l : List Int) (v : Value) (w : World) (hv : HasP w v l) (h1 : 1 ≤ l.length) (h2 : l.length ≤ 1000000) : Calls Try.prog 36 #[v] w (NewP l w) := by
  obtain ⟨-, xa, ca, rfl, -, -, hc⟩ := id hv
  obtain ⟨gx, ox, rfl, -⟩ := hc 0 (by omega)
  obtain ⟨n, hn⟩ : ∃ n, n = l.length := ⟨_, rfl⟩
  rw [← hn] at hv
  have HV := Lib.hid hv
  have HN := Lib.hid hn
  have HOZ := Lib.hid (Own1.start w w.heap.size (Nat.le_refl _))
  have HGZ := Lib.hid (Gr.new w (.cells #[] 22))
  have heq := eql_nil w (some ⟨gx, ox, none⟩) n ca
  have HLL := Lib.hid (show ([] : List Int).length + l.length ≤ 1000000 by simpa using h2)
  rw [← hn]
  clear hv hc h1 h2 hn
  go_enter Try.func36, Try.ntmps36
  go_wp2_with (at_builtin; refine wpList_app rfl (.tmp 5) (.tmp 6) rfl rfl w.heap.size _ [] rfl HOZ.out _ l rfl (HV.out.later HGZ.out) HLL.out (by simp) ?_; intro v' w1 hown hgrow; rw [List.nil_append] at hown; have HO := Lib.hid hown; have HG := Lib.hid (show Gr w w1 from grown_own HGZ.out HOZ.out hgrow (Nat.le_refl _)); clear hown hgrow)
  go_ret
  obtain ⟨a, c, rfl, -, -⟩ := HO.out.form
  exact ⟨a, _, c, rfl, HO.out.hasP, HO.out.fresh rfl, HG.out⟩
def NewSys (l : List Int) (w : World) (e : Ending) (w' : World) : Prop := Gr w w' ∧ ((Dis l ∧ ∃ S, e = .returned (.tuple #[.pointer (some ⟨S, 0, none⟩), .int .i64 0]) ∧ IsSys w' S l ∧ w.heap.size ≤ S) ∨ (¬ Dis l ∧ e = .returned (.tuple #[.pointer none, .int .i64 2])))
set_option maxRecDepth 100000 in
set_option maxHeartbeats 2000000 in
theorem new_any (l : List Int) (v : Value) (w : World) (hv : HasP w v l) : Calls Try.prog 19 #[v] w (NewSys l w) := by
  have HV := Lib.hid hv
  obtain ⟨-, xa, ca, rfl, -, -, -⟩ := hv
  go_enter Try.func19, Try.ntmps19
  go_wp2_with fail
  refine (distinct_any l _ _ HV.out).mono ?_
  rintro e w1 ⟨b, rfl, hb, hg⟩
  have HB := Lib.hid hb
  have HG := Lib.hid hg
  clear hb hg
  cases b with
  | false =>
    go_wp2_with fail
    go_ret2
    exact ⟨HG.out, .inr ⟨fun h => by have := HB.out.2 h; simp at this, rfl⟩⟩
  | true =>
    have HD := Lib.hid (HB.out.1 (by simp))
    go_wp2_with fail
    refine (clone_any l _ _ (HV.out.later HG.out) HD.out.1 (by have := HD.out.2.1; omega)).mono ?_
    rintro e w2 ⟨a, n, c, rfl, hp, hf, hg⟩
    have HP := Lib.hid hp
    have HG2 := Lib.hid (HG.out.trans hg)
    clear hp hf hg
    go_wp2_with fail
    go_ret2
    have hg3 : Gr w2 (w2.alloc (.cells #[.slice a n c, .pointer (some ⟨w2.heap.size, 0, none⟩)] 79)) := Gr.new _ _
    exact ⟨HG2.out.trans hg3, .inl ⟨HD.out, w2.heap.size, rfl, ⟨.slice a n c, by simp [go_sem], HP.out.later hg3, by simp [go_sem]⟩, HG2.out.size⟩⟩
end Go.Proofs.Ytlfiakpmnkhcdaa.Mo
