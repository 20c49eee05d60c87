/- Numbers as lists of digits to the base 2^32, the lowest first: what they stand for, and slices that hold them. -/
import Derived.Test.YtgalgldnhdiggaaDoorBase
namespace Ow
set_option linter.unusedVariables false

/-- What digits stand for. -/
def val : List Nat → Nat
  | [] => 0
  | d :: l => d + 4294967296 * val l

/-- Without zeros at the top. -/
def tr : List Nat → List Nat
  | [] => []
  | d :: l => if d = 0 ∧ tr l = [] then [] else d :: tr l

theorem val_tr : ∀ l, val (tr l) = val l
  | [] => rfl
  | d :: l => by
    have ih := val_tr l
    unfold tr
    split
    · rename_i h
      rw [h.2] at ih
      simp only [val] at ih ⊢
      rw [← ih, h.1]
    · simp only [val, ih]

theorem tr_len : ∀ l, (tr l).length ≤ l.length
  | [] => Nat.le_refl _
  | d :: l => by
    have := tr_len l
    unfold tr
    split
    · simp
    · simp; omega

theorem tr_zero : ∀ l, tr (l ++ [0]) = tr l
  | [] => rfl
  | d :: l => by
    show tr (d :: (l ++ [0])) = tr (d :: l)
    unfold tr
    rw [tr_zero l]

theorem tr_last : ∀ (l : List Nat) (x : Nat), x ≠ 0 → tr (l ++ [x]) = l ++ [x]
  | [], x, h => by simp [tr, h]
  | d :: l, x, h => by
    show tr (d :: (l ++ [x])) = d :: (l ++ [x])
    unfold tr
    rw [tr_last l x h, if_neg (fun hh => by simpa using hh.2)]

/-- All are digits. -/
def Dg (l : List Nat) : Prop := ∀ x ∈ l, x < 4294967296

theorem val_lt : ∀ l, Dg l → val l < 4294967296 ^ l.length
  | [], _ => by simp [val]
  | d :: l, h => by
    have h1 := h d (List.mem_cons_self ..)
    have ih := val_lt l (fun x hx => h x (List.mem_cons_of_mem _ hx))
    simp only [val, List.length_cons, Nat.pow_succ]
    omega

/-- Digits without zeros at the top. -/
def Nm (l : List Nat) : Prop := Dg l ∧ tr l = l

theorem tr_tr : ∀ l, tr (tr l) = tr l
  | [] => rfl
  | d :: l => by
    have ih := tr_tr l
    rw [tr]
    split
    · rfl
    · rename_i h
      rw [tr, ih, if_neg h]

theorem dg_tr : ∀ l, Dg l → Dg (tr l)
  | [], _ => by intro x hx; cases hx
  | d :: l, h => by
    have ih := dg_tr l (fun x hx => h x (List.mem_cons_of_mem _ hx))
    unfold tr
    split
    · intro x hx; cases hx
    · intro x hx
      rw [List.mem_cons] at hx
      rcases hx with rfl | hx
      · exact h _ (List.mem_cons_self ..)
      · exact ih x hx

theorem nm_tr {l : List Nat} (h : Dg l) : Nm (tr l) := ⟨dg_tr l h, tr_tr l⟩

/-- Digits are determined by what they stand for. -/
theorem val_inj : ∀ l m, Dg l → Dg m → tr l = l → tr m = m → val l = val m → l = m
  | [], [], _, _, _, _, _ => rfl
  | [], y :: m, _, hm, _, tm, h => by
    exfalso
    have hz : ∀ k : List Nat, val k = 0 → tr k = [] := by
      intro k
      induction k with
      | nil => intro _; rfl
      | cons a k ih =>
        intro h0
        simp only [val] at h0
        rw [tr, if_pos ⟨by omega, ih (by omega)⟩]
    have := hz (y :: m) (by rw [← h]; rfl)
    rw [tm] at this; cases this
  | x :: l, [], hl, _, tl, _, h => by
    exfalso
    have hz : ∀ k : List Nat, val k = 0 → tr k = [] := by
      intro k
      induction k with
      | nil => intro _; rfl
      | cons a k ih =>
        intro h0
        simp only [val] at h0
        rw [tr, if_pos ⟨by omega, ih (by omega)⟩]
    have := hz (x :: l) (by rw [h]; rfl)
    rw [tl] at this; cases this
  | x :: l, y :: m, hl, hm, tl, tm, h => by
    have hx := hl x (List.mem_cons_self ..)
    have hy := hm y (List.mem_cons_self ..)
    simp only [val] at h
    have e1 : x = y := by omega
    have e2 : val l = val m := by omega
    have key : ∀ (d : Nat) (k : List Nat), tr (d :: k) = d :: k → tr k = k := fun d k h => by
      rw [tr] at h
      split at h
      · cases h
      · exact (List.cons.inj h).2
    rw [e1, val_inj l m (fun z hz => hl z (List.mem_cons_of_mem _ hz)) (fun z hz => hm z (List.mem_cons_of_mem _ hz)) (key x l tl) (key y m tm) e2]
end Ow
namespace Go.Proofs.YtgalgldnhdiggaaDoor
open Go.RowKit
set_option linter.unusedVariables false

/-- A slice holds digits. -/
def HasD (W : World) (v : Value) (l : List Nat) : Prop :=
  Ow.Dg l ∧ ∃ a cap, v = .slice a l.length cap ∧ l.length ≤ cap ∧ cap ≤ 9223372036854775807 ∧
    ∀ i, i < l.length → ∃ g o, a = some ⟨g, o, none⟩ ∧ W.cell? ⟨g, o + i, none⟩ = some (.int .u32 ((l[i]?.getD 0 : Nat) : Int))

theorem HasD.later {W W' : World} {v : Value} {l : List Nat} (h : HasD W v l) (hg : Gr W W') : HasD W' v l := by
  obtain ⟨hd, a, cap, rfl, h1, h2, h3⟩ := h
  refine ⟨hd, a, cap, rfl, h1, h2, fun i hi => ?_⟩
  obtain ⟨g, o, e, hc⟩ := h3 i hi
  exact ⟨g, o, e, hg.keeps hc⟩

theorem HasD.nil (W : World) : HasD W (.slice none 0 0) [] := ⟨fun x hx => (by cases hx), none, 0, rfl, Nat.le_refl _, by omega, fun i hi => absurd hi (by simp)⟩
end Go.Proofs.YtgalgldnhdiggaaDoor
