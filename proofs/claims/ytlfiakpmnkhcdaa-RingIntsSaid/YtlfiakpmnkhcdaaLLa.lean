import Derived.Test.YtlfiakpmnkhcdaaLJs
namespace Go.Proofs.Ytlfiakpmnkhcdaa.Mo
open Go.RowKit Go.Shelf
set_option linter.unusedVariables false
theorem mods_take {ch : List Int} {S : Int} {lv j : Nat} {sp : Bool} (h : lv ≤ ch.length) (hj : j ≤ lv) : (Oj.mods ch S lv sp).take j = ch.take j := by
  unfold Oj.mods
  rw [List.take_append_of_le_length (by rw [List.length_take]; omega), List.take_take, Nat.min_eq_left hj]
def AllPr (ch : List Int) (S : Int) : Prop := (∀ i, i < ch.length → Prm (Op.cf ch i).toNat) ∧ (S = 0 ∨ Prm S.toNat)
theorem dis_of {N : Int} {ch : List Int} {S lv : Int} {sp : Bool} (hv : VP N ch S) (he : EX ch S lv sp) (hp : AllPr ch S) : Dis (Oj.mods ch S lv.toNat sp) := by
  obtain ⟨l, rfl⟩ := Int.eq_ofNat_of_zero_le (show 0 ≤ lv by have := he.1; omega)
  have hok := fun j => mods_ok (j := j) hv he
  rw [Int.toNat_natCast]
  obtain ⟨-, h1, h2, h3⟩ := hv
  obtain ⟨e1, e2, e3⟩ := he
  have e2 : l ≤ ch.length := by omega
  have hl := Oj.mods_len (S := S) (sp := sp) e2
  have hl2 := Oj.mods_len (S := S) (lv := ch.length) (sp := S != 0) (Nat.le_refl _)
  refine ⟨by omega, by cases sp <;> simp at hl <;> omega, fun j hj => ⟨(hok j hj).1, (hok j hj).2, ?_⟩⟩
  by_cases h : j < l
  · rw [Oj.mods_lo e2 h, mods_take e2 (by omega)]
    refine ⟨hp.1 j (by omega), ?_⟩
    have h4 := (h3 j (by unfold allM; rw [hl2]; omega)).2.2.2
    rwa [allM, Oj.mods_lo (Nat.le_refl _) (by omega), mods_take (Nat.le_refl _) (by omega)] at h4
  · cases sp with
    | false => simp at hl; omega
    | true =>
      have hS0 : S ≠ 0 := e3 rfl
      have hS : (S != 0) = true := by simpa using hS0
      have : j = l := by simp at hl; omega
      subst this
      rw [Oj.mods_hi e2, mods_take e2 (Nat.le_refl _)]
      refine ⟨hp.2.resolve_left hS0, fun hm => ?_⟩
      have h4 := (h3 ch.length (by unfold allM; rw [hl2, hS]; simp)).2.2.2
      rw [allM, hS, Oj.mods_hi (Nat.le_refl _), mods_take (Nat.le_refl _) (Nat.le_refl _), List.take_length] at h4
      exact h4 (List.mem_of_mem_take hm)
theorem pr_ge_head {l : List Int} (hs : Sys l) : Op.cf l 0 ≤ Or.pr l := by
  have h1 := pr_le hs.1
  cases l with
  | nil => have := hs.2.2.2.1; simp at this
  | cons p l =>
    have h2 : 0 < Or.pr l := Or.pr_pos fun q hq => by have := hs.1 q (by simp [hq]); omega
    have h3 : 0 < p := by have := hs.1 p (by simp); omega
    show p ≤ p * Or.pr l
    have h4 : p * 1 ≤ p * Or.pr l := Int.mul_le_mul_of_nonneg_left (by omega) (by omega)
    omega
theorem ints_join {N : Int} {ch : List Int} {S lv : Int} {sp : Bool} {l : List Int} (hv : VP N ch S) (he : EX ch S lv sp) (hd : Dis (Oj.mods ch S lv.toNat sp)) {i : Nat} (hi : i < l.length) {X : Int}
    (hX : JoinV (Oj.mods ch S lv.toNat sp) (colR (rwA (Oj.mods ch S lv.toNat sp) (fun _ m => resR l.length m l)) i) X) (hlo : -((Op.cf ch 0 - 1) / 2) ≤ Op.cf l i) (hhi : Op.cf l i ≤ (Op.cf ch 0 - 1) / 2) : X = Op.cf l i := by
  have hs := hd.sys
  refine hX.unique hs ⟨?_, fun j hj => ?_⟩
  · have h1 := pr_ge_head hs
    have e : Op.cf (Oj.mods ch S lv.toNat sp) 0 = Op.cf ch 0 := Oj.mods_lo (by have := he.2.1; omega) (by have := he.1; omega)
    rw [e] at h1
    omega
  · have e : Op.cf (colR (rwA (Oj.mods ch S lv.toNat sp) (fun _ m => resR l.length m l)) i) j = Op.cf l i % Op.cf (Oj.mods ch S lv.toNat sp) j := by
      unfold colR
      rw [Oj.rowL_at _ _ (by rw [rwA_len]; exact hj), rwA_at _ _ hj]
      unfold resR
      rw [Oj.rowL_at _ _ hi]
    rw [e]
    have h1 := Int.emod_add_mul_ediv (Op.cf l i) (Op.cf (Oj.mods ch S lv.toNat sp) j)
    exact ⟨Op.cf l i / Op.cf (Oj.mods ch S lv.toNat sp) j, by omega⟩
end Go.Proofs.Ytlfiakpmnkhcdaa.Mo
