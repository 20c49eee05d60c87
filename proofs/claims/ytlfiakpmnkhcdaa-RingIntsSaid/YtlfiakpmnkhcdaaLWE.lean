import Derived.Test.YtlfiakpmnkhcdaaLWD
import Derived.Test.YtlfiakpmnkhcdaaLWB
namespace Ow
set_option linter.unusedVariables false
end Ow
namespace Go.Proofs.Ytlfiakpmnkhcdaa
open Go.RowKit
set_option linter.unusedVariables false
end Go.Proofs.Ytlfiakpmnkhcdaa
namespace Ow
set_option linter.unusedVariables false
def put (L : List Nat) (i : Nat) (l : List Nat) : List Nat := L.take i ++ (l ++ L.drop (i + l.length))
theorem put_len {L l : List Nat} {i : Nat} (h : i + l.length ≤ L.length) : (put L i l).length = L.length := by simp [put]; omega
theorem dg_drop {l : List Nat} (h : Dg l) (k : Nat) : Dg (l.drop k) := fun x hx => h x (List.mem_of_mem_drop hx)
end Ow
namespace Go.Proofs.Ytlfiakpmnkhcdaa
open Go.RowKit
set_option linter.unusedVariables false
end Go.Proofs.Ytlfiakpmnkhcdaa
namespace Ow
set_option linter.unusedVariables false
end Ow
namespace Go.Proofs.Ytlfiakpmnkhcdaa
open Go.RowKit
set_option linter.unusedVariables false
end Go.Proofs.Ytlfiakpmnkhcdaa
namespace Ow
set_option linter.unusedVariables false
def byt (n : Nat) : List UInt8 := if h : n = 0 then [] else byt (n / 256) ++ [UInt8.ofNat (n % 256)]
termination_by n
decreasing_by omega
theorem byt_zero : byt 0 = [] := by rw [byt]; simp
theorem byt_step {M b : Nat} (hb : b < 256) (h : 0 < 256 * M + b) : byt (256 * M + b) = byt M ++ [UInt8.ofNat b] := by
  rw [byt, dif_neg (by omega), show (256 * M + b) / 256 = M by omega, show (256 * M + b) % 256 = b by omega]
theorem mg_byt (n : Nat) : mg (byt n) = n := by
  induction n using Nat.strongRecOn with
  | ind n ih =>
    rw [byt]
    by_cases h : n = 0
    · rw [dif_pos h, h]; rfl
    · rw [dif_neg h, mg_snoc, ih _ (by omega)]
      have : (UInt8.ofNat (n % 256)).toNat = n % 256 := by
        rw [UInt8.toNat_ofNat']; omega
      rw [this]; omega
theorem byt_ne {n : Nat} (h : 0 < n) : byt n ≠ [] := by
  rw [byt, dif_neg (by omega)]; simp
theorem byt_head (n : Nat) : ∀ b l, byt n = b :: l → b ≠ 0 := by
  induction n using Nat.strongRecOn with
  | ind n ih =>
    intro b l h
    rw [byt] at h
    by_cases h0 : n = 0
    · rw [dif_pos h0] at h; cases h
    · rw [dif_neg h0] at h
      cases hb : byt (n / 256) with
      | nil =>
        rw [hb] at h
        have hz : n / 256 = 0 := by
          apply Classical.byContradiction; intro hz
          exact byt_ne (by omega) hb
        simp only [List.nil_append, List.cons.injEq] at h
        rw [← h.1]
        intro e
        have := congrArg UInt8.toNat e
        rw [UInt8.toNat_ofNat'] at this
        have h3 : (0 : UInt8).toNat = 0 := rfl
        rw [h3] at this
        omega
      | cons c t =>
        rw [hb] at h
        simp only [List.cons_append, List.cons.injEq] at h
        rw [← h.1]
        exact ih (n / 256) (by omega) c t hb
theorem byt_mg : ∀ (k : Nat) (l : List UInt8), l.length = k → (∀ b t, l = b :: t → b ≠ 0) → byt (mg l) = l
  | 0, l, hk, h => by
    have := List.length_eq_zero_iff.1 hk
    subst this; exact byt_zero
  | k + 1, l, hk, h => by
    rcases List.eq_nil_or_concat l with e | ⟨t, b, e⟩
    · subst e; simp at hk
    · rw [List.concat_eq_append] at e; rw [e] at hk h ⊢
      have hl : t.length = k := by simp at hk; omega
      have ht : ∀ c s, t = c :: s → c ≠ 0 := fun c s e2 => h c (s ++ [b]) (by rw [e2]; simp)
      have ih := byt_mg k t hl ht
      rw [mg_snoc, Nat.mul_comm, byt_step b.toNat_lt, ih, UInt8.ofNat_toNat]
      cases t with
      | nil =>
        have := h b [] (by simp)
        have h4 : b.toNat ≠ 0 := fun e3 => this (UInt8.toNat_inj.1 (by rw [e3]; rfl))
        omega
      | cons c s =>
        have := h c (s ++ [b]) (by simp)
        have h4 : 0 < mg (c :: s) := by
          apply Nat.pos_of_ne_zero
          intro e3
          rw [e3, byt_zero] at ih
          cases ih
        omega
theorem byt_lt (n : Nat) : n < 256 ^ (byt n).length := by
  have := mg_bound (byt n); rwa [mg_byt] at this
theorem byt_ge (n : Nat) (h : 0 < n) : 256 ^ ((byt n).length - 1) ≤ n := by
  induction n using Nat.strongRecOn with
  | ind n ih =>
    rw [byt, dif_neg (by omega), List.length_append, List.length_singleton, Nat.add_sub_cancel]
    rcases Nat.eq_zero_or_pos (n / 256) with h0 | h0
    · rw [h0, byt_zero]; simp; omega
    · have := ih (n / 256) (by omega) h0
      have hl : 0 < (byt (n / 256)).length := List.length_pos_iff.2 (byt_ne h0)
      obtain ⟨m, hm⟩ : ∃ m, (byt (n / 256)).length = m + 1 := ⟨_, (Nat.sub_add_cancel hl).symm⟩
      rw [hm] at this ⊢
      rw [Nat.add_sub_cancel] at this
      rw [Nat.pow_succ]
      omega
theorem byt_len {n k : Nat} : n < 256 ^ k ↔ (byt n).length ≤ k := by
  constructor
  · intro h
    rcases Nat.eq_zero_or_pos n with h0 | h0
    · rw [h0, byt_zero]; simp
    · have := byt_ge n h0
      have := (Nat.pow_lt_pow_iff_right (by omega : 1 < 256)).1 (Nat.lt_of_le_of_lt this h)
      omega
  · intro h
    exact Nat.lt_of_lt_of_le (byt_lt n) (Nat.pow_le_pow_right (by omega) h)
theorem byt_at (n i : Nat) (h : i < (byt n).length) : (byt n)[(byt n).length - 1 - i]? = some (UInt8.ofNat (n / 256 ^ i % 256)) := by
  induction i generalizing n with
  | zero =>
    rcases Nat.eq_zero_or_pos n with h0 | h0
    · rw [h0, byt_zero] at h; simp at h
    · rw [byt, dif_neg (by omega)]; simp
  | succ i ih =>
    rcases Nat.eq_zero_or_pos n with h0 | h0
    · rw [h0, byt_zero] at h; simp at h
    · rw [byt, dif_neg (by omega)] at h ⊢
      rw [List.length_append, List.length_singleton] at h ⊢
      have := ih (n / 256) (by omega)
      rw [Nat.add_sub_cancel, List.getElem?_append_left (by omega), show (byt (n / 256)).length - (i + 1) = (byt (n / 256)).length - 1 - i by omega, this, Nat.div_div_eq_div_mul, Nat.pow_succ, Nat.mul_comm]
def R : Nat := 256 ^ 256
theorem R_eq : R = 256 ^ 256 := rfl
theorem R_digits : R = 4294967296 ^ 64 := by unfold R; rw [show (4294967296 : Nat) = 256 ^ 4 from rfl, ← Nat.pow_mul]
end Ow
namespace Go.Proofs.Ytlfiakpmnkhcdaa
open Go.RowKit
set_option linter.unusedVariables false
def bstr (n : Nat) : ByteArray := ⟨(Ow.byt n).toArray⟩
theorem bstr_size (n : Nat) : (bstr n).size = (Ow.byt n).length := by simp [bstr, ByteArray.size]
theorem bstr_list (n : Nat) : (bstr n).data.toList = Ow.byt n := by simp [bstr]
def zOf (neg : Bool) (s : ByteArray) : Int := sg neg (Ow.mg s.data.toList)
theorem zOf_abs (neg : Bool) (s : ByteArray) : (zOf neg s).natAbs = Ow.mg s.data.toList := sg_abs _ _
theorem list_len (s : ByteArray) : s.data.toList.length = s.size := by simp
theorem form_str {neg : Bool} {s : ByteArray} (h : Form neg s) : s = bstr (zOf neg s).natAbs := by
  rw [zOf_abs]
  have hb : Ow.byt (Ow.mg s.data.toList) = s.data.toList := by
    refine Ow.byt_mg _ _ rfl (fun b t e => ?_)
    rcases h with ⟨h0, _⟩ | ⟨h1, h2, h3, h4⟩
    · have := list_len s; rw [h0, e] at this; simp at this
    · intro hb
      apply h4
      have : s.data.toList[0]? = some s[0] := by
        rw [List.getElem?_eq_getElem (by rw [list_len]; exact h3)]; rfl
      rw [e] at this
      have e3 : b = s[0] := by simpa using this
      rw [← e3, hb]
  unfold bstr
  rw [hb]
theorem form_range {neg : Bool} {s : ByteArray} (h : Form neg s) : (zOf neg s).natAbs < Ow.R := by
  rw [zOf_abs, Ow.R_eq]
  refine Nat.lt_of_lt_of_le (Ow.mg_bound _) (Nat.pow_le_pow_right (by omega) ?_)
  rw [list_len]
  rcases h with ⟨h0, _⟩ | ⟨_, h2, _⟩ <;> omega
theorem form_pos {neg : Bool} {s : ByteArray} (h : Form neg s) (h1 : 1 ≤ s.size) : 256 ^ (s.size - 1) ≤ (zOf neg s).natAbs := by
  have e := form_str h
  have hp : 0 < (zOf neg s).natAbs := by
    apply Nat.pos_of_ne_zero; intro e0
    rw [e0] at e
    rw [e, bstr_size, Ow.byt_zero] at h1; simp at h1
  have := Ow.byt_ge _ hp
  rw [← bstr_size, ← e] at this
  exact this
theorem form_neg {neg : Bool} {s : ByteArray} (h : Form neg s) : neg = decide (zOf neg s < 0) := by
  unfold zOf
  rw [sg_neg]
  rcases h with ⟨h0, rfl⟩ | ⟨h1, h2, h3, h4⟩
  · rfl
  · have hp := form_pos (neg := neg) (.inr ⟨h1, h2, h3, h4⟩) h1
    rw [zOf_abs] at hp
    have : 0 < Ow.mg s.data.toList := Nat.lt_of_lt_of_le (Nat.pow_pos (by omega)) hp
    simp [this]
theorem form_bstr (z : Int) (h : z.natAbs < Ow.R) : Form (decide (z < 0)) (bstr z.natAbs) := by
  have hl := (Ow.byt_len (n := z.natAbs) (k := 256)).1 (by rw [← Ow.R_eq]; exact h)
  rw [← bstr_size] at hl
  rcases Nat.eq_zero_or_pos (bstr z.natAbs).size with h0 | h0
  · refine .inl ⟨h0, ?_⟩
    have : z.natAbs = 0 := by
      apply Classical.byContradiction; intro hn
      rw [bstr_size] at h0
      exact Ow.byt_ne (n := z.natAbs) (by omega) (List.length_eq_zero_iff.1 h0)
    simp; omega
  · refine .inr ⟨h0, hl, h0, ?_⟩
    cases hb : Ow.byt z.natAbs with
    | nil => rw [bstr_size, hb] at h0; simp at h0
    | cons b t =>
      have h1 := Ow.byt_head _ b t hb
      have h2 : (bstr z.natAbs).data.toList[0]? = some ((bstr z.natAbs)[0]) := by
        rw [List.getElem?_eq_getElem (by rw [list_len]; exact h0)]; rfl
      rw [bstr_list, hb] at h2
      have e3 : b = (bstr z.natAbs)[0] := by simpa using h2
      rw [← e3]; exact h1
theorem zOf_bstr (z : Int) : zOf (decide (z < 0)) (bstr z.natAbs) = z := by
  unfold zOf; rw [bstr_list, Ow.mg_byt]; exact sg_self z
def fNeg (z : Int) : Bool := decide (z < 0) && decide (z.natAbs < Ow.R)
def fStr (z : Int) : ByteArray := if z.natAbs < Ow.R then bstr z.natAbs else ⟨#[]⟩
def fErr (z : Int) : Int := if z.natAbs < Ow.R then 0 else 7
theorem fNeg_in {z : Int} (h : z.natAbs < Ow.R) : fNeg z = decide (z < 0) := by unfold fNeg; rw [decide_eq_true h, Bool.and_true]
theorem fStr_in {z : Int} (h : z.natAbs < Ow.R) : fStr z = bstr z.natAbs := if_pos h
theorem fErr_in {z : Int} (h : z.natAbs < Ow.R) : fErr z = 0 := if_pos h
theorem fNeg_out {z : Int} (h : ¬ z.natAbs < Ow.R) : fNeg z = false := by unfold fNeg; rw [decide_eq_false h, Bool.and_false]
theorem fStr_out {z : Int} (h : ¬ z.natAbs < Ow.R) : fStr z = ⟨#[]⟩ := if_neg h
theorem fErr_out {z : Int} (h : ¬ z.natAbs < Ow.R) : fErr z = 7 := if_neg h
def Res (a : Bool) (s : ByteArray) (c : Int) (w : World) (e : Ending) (w' : World) : Prop := e = .returned (.tuple #[.agg #[.bool a, .string s], .int .i64 c]) ∧ Gr w w'
theorem integerOf_form (neg : Bool) (s : ByteArray) (w : World) (h : Form neg s) :
    Calls Try.prog 70 #[.agg #[.bool neg, .string s]] w (IntZ 64 (zOf neg s) w) := by
  have hs : s.size ≤ 256 := by rcases h with ⟨h0, _⟩ | ⟨_, h2, _⟩ <;> omega
  refine (integerOf_any neg s w (by omega)).mono ?_
  rintro e w' ⟨v, rfl, hd, hg⟩
  have hM := Ow.mg_bound s.data.toList
  rw [list_len] at hM
  have hlt : Ow.mg s.data.toList < 4294967296 ^ ((s.size + 3) / 4) := by
    rw [show (4294967296 : Nat) = 256 ^ 4 from rfl, ← Nat.pow_mul]
    exact Nat.lt_of_lt_of_le hM (Nat.pow_le_pow_right (by omega) (by omega))
  have hnm : Ow.Nm (Ow.digs ((s.size + 3) / 4) (Ow.mg s.data.toList)) := by
    refine Ow.digs_nm hlt ?_
    rcases Nat.eq_zero_or_pos s.size with h0 | h0
    · left; omega
    · right
      have hp := form_pos h h0
      rw [zOf_abs] at hp
      rw [show (4294967296 : Nat) = 256 ^ 4 from rfl, ← Nat.pow_mul]
      exact Nat.le_trans (Nat.pow_le_pow_right (by omega) (by omega)) hp
  refine ⟨_, rfl, ⟨v, _, by rw [← form_neg h], hd, hnm, by rw [Ow.digs_val _ _ hlt, zOf_abs], by rw [Ow.digs_len]; omega⟩, hg⟩
end Go.Proofs.Ytlfiakpmnkhcdaa
