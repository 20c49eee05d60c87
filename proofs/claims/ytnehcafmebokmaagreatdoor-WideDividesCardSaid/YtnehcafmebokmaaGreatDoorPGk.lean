/- Texts lead back to forms, and forms to texts. -/
import Derived.Test.YtnehcafmebokmaaGreatDoorPGj
import Derived.Deep.DeepCutAuto
namespace Go.Proofs.YtnehcafmebokmaaGreatDoor
open Go.RowKit
set_option linter.unusedVariables false

theorem dec_len_pow {n m : Nat} (h : n < 4294967296 ^ m) (hm : 0 < m) : (Lib.decDigits n).length ≤ 10 * m := by
  rw [Lib.decDigits_length]
  obtain ⟨k, hk⟩ : ∃ k, 10 * m = k + 1 := ⟨10 * m - 1, by omega⟩
  rw [hk]
  apply Ow.dec_len_le
  rw [← hk, Nat.pow_mul]
  exact Nat.lt_of_lt_of_le h (Nat.pow_le_pow_left (by omega) _)
theorem prefix_cons (b : UInt8) (t : List UInt8) : Lib.hasPrefix (b :: t) [45] = (b == 45) := by
  simp [Lib.hasPrefix, List.isPrefixOf]
  exact Bool.beq_comm
theorem prefix_text (z : Int) : Lib.hasPrefix (textOf z) [45] = decide (z < 0) ∧ Lib.trimPrefix (textOf z) [45] = Lib.decDigits z.natAbs := by
  by_cases h : z < 0
  · have e : textOf z = 45 :: Lib.decDigits z.natAbs := by unfold textOf; rw [if_pos h]; rfl
    rw [e]
    have hp : Lib.hasPrefix (45 :: Lib.decDigits z.natAbs) [45] = true := by rw [prefix_cons]; decide
    refine ⟨by rw [hp]; simp [h], ?_⟩
    unfold Lib.trimPrefix
    rw [if_pos hp]; rfl
  · have e : textOf z = Lib.decDigits z.natAbs := by unfold textOf; rw [if_neg h]; rfl
    rw [e]
    have hp : Lib.hasPrefix (Lib.decDigits z.natAbs) [45] = false := by
      cases hd : Lib.decDigits z.natAbs with
      | nil => rfl
      | cons b t =>
        rw [prefix_cons]
        have := Ow.dec_digits z.natAbs b (by rw [hd]; exact List.mem_cons_self ..)
        simp only [beq_eq_false_iff_ne]
        intro e2
        rw [e2] at this
        have : (45 : UInt8).toNat = 45 := rfl
        omega
    refine ⟨by rw [hp]; simp [h], ?_⟩
    unfold Lib.trimPrefix
    rw [if_neg (by rw [hp]; decide)]
theorem good_text (z : Int) : Good (decide (z < 0)) (Lib.decDigits z.natAbs) := by
  refine ⟨Ow.digits_ne _, Ow.dec_digits _, ?_⟩
  rintro ⟨h1, h2⟩
  cases hd : Lib.decDigits z.natAbs with
  | nil => exact Ow.digits_ne _ hd
  | cons b t =>
    rw [hd] at h1 h2
    have hb : b = 48 := by
      simp [Lib.hasPrefix, List.isPrefixOf] at h1
      exact h1.symm
    have hz := Ow.digits_head _ b t hd hb
    rw [hz, Lib.decDigits_one (by omega)] at hd
    rcases h2 with h2 | h2
    · simp at h2; omega
    · have := congrArg List.length hd
      simp only [List.length_nil, List.length_cons] at this h2
      omega
theorem read_back (neg : Bool) (s : ByteArray) (w : World) (h : Form neg s) :
    Calls Tryz.prog 14 #[.string ⟨(textOf (zOf neg s)).toArray⟩] w (Res neg s 0 w) := by
  have hlen : (textOf (zOf neg s)).length ≤ 100000 := by
    have hr := form_range h
    have : (Lib.decDigits (zOf neg s).natAbs).length ≤ 640 := by
      exact dec_len_pow (m := 64) (by rw [← Ow.R_digits]; exact hr) (by omega)
    unfold textOf
    split <;> simp <;> omega
  refine (read_any (textOf (zOf neg s)) w hlen).mono ?_
  obtain ⟨p1, p2⟩ := prefix_text (zOf neg s)
  rw [p1, p2]
  have hg := good_text (zOf neg s)
  rintro e w' (⟨_, hres⟩ | ⟨hn, _⟩)
  · rw [Ow.dval_digits, sg_self, fNeg_in (form_range h), fStr_in (form_range h), fErr_in (form_range h), ← form_neg h, ← form_str h] at hres
    exact hres
  · exact absurd hg hn
/-- What was read is written again. -/
theorem text_read (l : List UInt8) (hg : Good (Lib.hasPrefix l [45]) (Lib.trimPrefix l [45])) : textOf (sg (Lib.hasPrefix l [45]) (Ow.dval (Lib.trimPrefix l [45]))) = l := by
  obtain ⟨hne, hd, h0⟩ := hg
  cases hp : Lib.hasPrefix l [45] with
  | false =>
    have ht : Lib.trimPrefix l [45] = l := by unfold Lib.trimPrefix; rw [if_neg (by rw [hp]; decide)]
    rw [ht] at hne hd h0 ⊢
    rw [hp] at h0
    have hz : ¬ sg false (Ow.dval l) < 0 := by unfold sg; simp
    unfold textOf
    rw [if_neg hz, sg_abs, List.nil_append]
    refine Ow.digits_dval l.length l rfl hne hd (fun b t e hb => ?_)
    subst e
    rcases Nat.lt_or_ge 1 (b :: t).length with h1 | h1
    · exact absurd ⟨by rw [hb]; simp [Lib.hasPrefix, List.isPrefixOf], .inr h1⟩ h0
    · exact List.length_eq_zero_iff.1 (by simp at h1; simpa using h1)
  | true =>
    obtain ⟨t, rfl⟩ : ∃ t, l = 45 :: t := by
      cases l with
      | nil => simp [Lib.hasPrefix, List.isPrefixOf] at hp
      | cons b t =>
        rw [prefix_cons] at hp
        exact ⟨t, by rw [eq_of_beq hp]⟩
    have ht : Lib.trimPrefix (45 :: t) [45] = t := by unfold Lib.trimPrefix; rw [if_pos hp]; rfl
    rw [ht] at hne hd h0 ⊢
    rw [hp] at h0
    have hlead : ∀ b u, t = b :: u → b ≠ 48 := fun b u e hb => h0 ⟨by rw [e, hb]; simp [Lib.hasPrefix, List.isPrefixOf], .inl rfl⟩
    have hpos := Ow.lead_pos t.length t rfl hlead hd hne
    have hz : sg true (Ow.dval t) < 0 := by unfold sg; simp; omega
    unfold textOf
    rw [if_pos hz, sg_abs, Ow.digits_dval t.length t rfl hne hd (fun b u e hb => absurd hb (hlead b u e))]
    rfl
end Go.Proofs.YtnehcafmebokmaaGreatDoor

/- The law WideBack. -/
namespace Go.Proofs.YtnehcafmebokmaaGreatDoor
open Go.RowKit
set_option linter.unusedVariables false

theorem sizes_2 (w : World) (o1 o2 : Obj) (a b : Bool) (s t : ByteArray) (T : TypeId) : Sizes (((w.alloc o1).alloc o2).alloc (.cells #[.bool a, .string s, .bool b, .string t] T)) (w.heap.size + 1 + 1) [s, t] := by
  intro i hi
  have : i = 0 ∨ i = 1 := by simp at hi; omega
  rcases this with rfl | rfl <;> simp [go_sem]
theorem same_str {a b : ByteArray} (h : a.toList = b.toList) : a = b := by
  rw [_root_.Go.ByteArray.toList_eq, _root_.Go.ByteArray.toList_eq] at h
  exact ByteArray.ext (Array.toList_inj.1 h)
/-- What Read answers, and what is written of it. -/
def ReadS (S : ByteArray) (w : World) (e : Ending) (w' : World) : Prop :=
  (∃ z : Int, z.natAbs < Ow.R ∧ (⟨(textOf z).toArray⟩ : ByteArray) = S ∧ Res (decide (z < 0)) (bstr z.natAbs) 0 w e w') ∨ (∃ c : Int, (c == 0) = false ∧ Res false ⟨#[]⟩ c w e w')
theorem read_S (S : ByteArray) (w : World) (hS : S.size ≤ 100000) : Calls Tryz.prog 14 #[.string S] w (ReadS S w) := by
  have e : S = ⟨S.data.toList.toArray⟩ := by apply ByteArray.ext; simp
  have hl : S.data.toList.length ≤ 100000 := by rw [list_len]; exact hS
  generalize S.data.toList = l at e hl
  subst e
  refine (read_any l w hl).mono ?_
  rintro e w' (⟨hg, h⟩ | ⟨_, h⟩)
  · have ht := text_read l hg
    generalize sg (Lib.hasPrefix l [45]) (Ow.dval (Lib.trimPrefix l [45])) = z at h ht
    by_cases hz : z.natAbs < Ow.R
    · rw [fNeg_in hz, fStr_in hz, fErr_in hz] at h
      exact .inl ⟨z, hz, by rw [ht], h⟩
    · rw [fNeg_out hz, fStr_out hz, fErr_out hz] at h
      exact .inr ⟨7, by decide, h⟩
  · exact .inr ⟨6, by decide, h⟩
theorem sizes_two (w : World) (a b : Bool) (s t : ByteArray) (T : TypeId) : Sizes (w.alloc (.cells #[.bool a, .string s, .bool b, .string t] T)) w.heap.size [s, t] := by
  intro i hi
  have : i = 0 ∨ i = 1 := by simp at hi; omega
  rcases this with rfl | rfl <;> simp [go_sem]

end Go.Proofs.YtnehcafmebokmaaGreatDoor

