/- The bits of a string: the number of k bits from a place on; a number below n and the place behind it; lists of such numbers; the marks of a ternary list. No Go here but for small laws of lists. -/
import Derived.Test.YtmankcmmlcfbaaaBase
import Derived.Test.YtmankcmmlcfbaaaOpa
import Derived.Lib.BitFns
import Derived.Lib.ItoaNum
namespace Ov
open Op (cf)
set_option linter.unusedVariables false

def byt (s : ByteArray) (j : Nat) : Nat := match s.data[j]? with | some b => b.toNat | none => 0
theorem byt_lt (s : ByteArray) (j : Nat) : byt s j < 256 := by
  unfold byt; split
  · exact UInt8.toNat_lt _
  · omega
theorem byt_at {s : ByteArray} {j : Nat} (h : j < s.data.size) : byt s j = (s.data[j]).toNat := by
  unfold byt; rw [Array.getElem?_eq_getElem h]
/-- Bit i, of each byte the highest one first. -/
def bit (s : ByteArray) (i : Nat) : Nat := byt s (i / 8) / 2 ^ (7 - i % 8) % 2
theorem bit_lt (s : ByteArray) (i : Nat) : bit s i < 2 := Nat.mod_lt _ (by omega)
/-- The number that the k bits from p on are. -/
def num (s : ByteArray) (p : Nat) : Nat → Nat
  | 0 => 0
  | k + 1 => 2 * num s p k + bit s (p + k)
theorem num_lt (s : ByteArray) (p : Nat) : ∀ k, num s p k < 2 ^ k
  | 0 => by simp [num]
  | k + 1 => by
    have h := num_lt s p k
    have b := bit_lt s (p + k)
    have e : 2 ^ (k + 1) = 2 * 2 ^ k := by rw [Nat.pow_succ]; omega
    simp only [num, e]; omega
theorem num_one (s : ByteArray) (p : Nat) : num s p 1 = bit s p := by simp [num]
def nbits (s : ByteArray) : Nat := 8 * s.size
/-- A number below n, taken by k bits at a time, and the place behind it. -/
def go (s : ByteArray) (n k : Nat) : Nat → Nat → Option (Nat × Nat)
  | 0, _ => none
  | f + 1, p => if p + k ≤ nbits s then (if num s p k < n then some (num s p k, p + k) else go s n k f (p + k)) else none
theorem go_some {s : ByteArray} {n k : Nat} : ∀ {f p v q : Nat}, go s n k f p = some (v, q) → v < n ∧ p ≤ q ∧ q ≤ nbits s
  | 0, p, v, q, h => by cases h
  | f + 1, p, v, q, h => by
    unfold go at h
    split at h
    · split at h
      · cases h; exact ⟨by assumption, by omega, by assumption⟩
      · have := go_some h; omega
    · cases h
/-- How many bits a number below n has. -/
def wid (n : Nat) : Nat := Go.Lib.bitLen (n - 1)
theorem wid_le (n : Nat) (h : n < 18446744073709551616) : wid n ≤ 64 := Go.Lib.bitLen_le _ 64 (Nat.le_refl _) (by omega)
theorem wid_lt (n : Nat) (h : n < 18446744073709551616) : n ≤ 2 ^ wid n := by
  by_cases h0 : n - 1 = 0
  · have := Nat.two_pow_pos (wid n); omega
  · have := (Go.Lib.bitLenAux_bounds 64 (n - 1) (by omega) h0).2.2
    have e : wid n = Go.Lib.bitLenAux 64 (n - 1) := rfl
    rw [e]; omega
theorem wid_zero {n : Nat} (h1 : 1 ≤ n) (h : n < 18446744073709551616) (h0 : wid n = 0) : n = 1 := by
  have := wid_lt n h
  rw [h0] at this; omega
def bel (s : ByteArray) (n p : Nat) : Option (Nat × Nat) := go s n (wid n) (nbits s + 1) p
theorem bel_some {s : ByteArray} {n p v q : Nat} (h : bel s n p = some (v, q)) : v < n ∧ p ≤ q ∧ q ≤ nbits s := go_some h
/-- i numbers below n, one after the other. -/
def many (s : ByteArray) (n p : Nat) : Nat → Option (List Nat × Nat)
  | 0 => some ([], p)
  | i + 1 => match many s n p i with
    | none => none
    | some (l, q) => match bel s n q with
      | none => none
      | some (v, q') => some (l ++ [v], q')
theorem many_none {s : ByteArray} {n p : Nat} : ∀ {i j : Nat}, i ≤ j → many s n p i = none → many s n p j = none := by
  intro i j h h0
  induction j with
  | zero => obtain rfl : i = 0 := by omega
            exact h0
  | succ j ih =>
    by_cases e : i = j + 1
    · subst e; exact h0
    · unfold many; rw [ih (by omega)]
theorem many_some {s : ByteArray} {n p : Nat} (hp : p ≤ nbits s) : ∀ {i : Nat} {l : List Nat} {q : Nat}, many s n p i = some (l, q) → l.length = i ∧ (∀ x ∈ l, x < n) ∧ p ≤ q ∧ q ≤ nbits s
  | 0, l, q, h => by
    cases h
    exact ⟨rfl, by simp, Nat.le_refl _, hp⟩
  | i + 1, l, q, h => by
    unfold many at h
    split at h
    · cases h
    · rename_i l0 q0 h0
      have H := many_some hp h0
      split at h
      · cases h
      · rename_i v q' hb
        cases h
        have B := bel_some hb
        refine ⟨by simp [H.1], fun x hx => ?_, by omega, B.2.2⟩
        rcases List.mem_append.1 hx with h1 | h1
        · exact H.2.1 x h1
        · simp at h1; subst h1; exact B.1
theorem many_step {s : ByteArray} {n p i : Nat} {l : List Nat} {q : Nat} (h : many s n p i = some (l, q)) {v q' : Nat} (hb : bel s n q = some (v, q')) : many s n p (i + 1) = some (l ++ [v], q') := by
  unfold many; rw [h]; simp only; rw [hb]
theorem many_stop {s : ByteArray} {n p i : Nat} {l : List Nat} {q : Nat} (h : many s n p i = some (l, q)) (hb : bel s n q = none) : many s n p (i + 1) = none := by
  unfold many; rw [h]; simp only; rw [hb]

/-- Two elements change places. -/
def sw (L : List Int) (i o : Nat) : List Int := (L.set i (cf L o)).set o (cf L i)
/-- The list of places, the marks, and the place behind the bits, after i rounds. -/
def tern (s : ByteArray) (n p : Nat) : Nat → Option (List Int × List Int × Nat)
  | 0 => some ((List.range n).map (fun (i : Nat) => (i : Int)), List.replicate n 0, p)
  | i + 1 => match tern s n p i with
    | none => none
    | some (L, O, q) => match bel s (n - i) q with
      | none => none
      | some (j, q') => if q' < nbits s then some (sw L i (i + j), O.set (cf (sw L i (i + j)) i).toNat (1 - 2 * (bit s q' : Int)), q' + 1) else none
theorem tern_none {s : ByteArray} {n p : Nat} : ∀ {i j : Nat}, i ≤ j → tern s n p i = none → tern s n p j = none := by
  intro i j h h0
  induction j with
  | zero => obtain rfl : i = 0 := by omega
            exact h0
  | succ j ih =>
    by_cases e : i = j + 1
    · subst e; exact h0
    · unfold tern; rw [ih (by omega)]
theorem tern_step {s : ByteArray} {n p i : Nat} {L O : List Int} {q : Nat} (h : tern s n p i = some (L, O, q)) {j q' : Nat} (hb : bel s (n - i) q = some (j, q')) (hq : q' < nbits s) :
    tern s n p (i + 1) = some (sw L i (i + j), O.set (cf (sw L i (i + j)) i).toNat (1 - 2 * (bit s q' : Int)), q' + 1) := by
  unfold tern; rw [h]; simp only; rw [hb]; simp only; rw [if_pos hq]
theorem tern_stop {s : ByteArray} {n p i : Nat} {L O : List Int} {q : Nat} (h : tern s n p i = some (L, O, q)) (hb : bel s (n - i) q = none) : tern s n p (i + 1) = none := by
  unfold tern; rw [h]; simp only; rw [hb]
theorem tern_end {s : ByteArray} {n p i : Nat} {L O : List Int} {q : Nat} (h : tern s n p i = some (L, O, q)) {j q' : Nat} (hb : bel s (n - i) q = some (j, q')) (hq : nbits s ≤ q') : tern s n p (i + 1) = none := by
  unfold tern; rw [h]; simp only; rw [hb]; simp only; rw [if_neg (by omega)]
end Ov
namespace Go.Proofs.Ytmankcmmlcfbaaa
open Go.RowKit
set_option linter.unusedVariables false
theorem cf_set (l : List Int) (x : Int) : ∀ (j i : Nat), j < l.length → Op.cf (l.set j x) i = if i = j then x else Op.cf l i := by
  intro j i hj
  rw [← Op.cf_at, ← Op.cf_at]
  by_cases h : i = j
  · subst h; rw [if_pos rfl]; simp [hj]
  · rw [if_neg h, List.getElem?_set_ne (fun e => h e.symm)]
theorem cf_rep (n i : Nat) : Op.cf (List.replicate n 0) i = 0 := by
  induction n generalizing i with
  | zero => simp
  | succ n ih => cases i with
    | zero => rfl
    | succ i => exact ih i
theorem addr_add {a : Option Addr} {g o j : Nat} (h : a = some ⟨g, o, none⟩) : ∀ ad, a = some ad → ad.add j = ⟨g, o + j, none⟩ := by
  intro ad e; rw [h] at e; cases e; unfold Addr.add; split <;> simp_all
end Go.Proofs.Ytmankcmmlcfbaaa
namespace Ov
open Op (cf)
open Go.Proofs.Ytmankcmmlcfbaaa (cf_set cf_rep)
set_option linter.unusedVariables false
theorem sw_len (L : List Int) (i o : Nat) : (sw L i o).length = L.length := by simp [sw]
theorem sw_at (L : List Int) (i o : Nat) (hi : i < L.length) (ho : o < L.length) (t : Nat) : cf (sw L i o) t = if t = o then cf L i else if t = i then cf L o else cf L t := by
  unfold sw
  rw [cf_set _ _ _ _ (by simpa using ho), cf_set _ _ _ _ hi]
/-- How many are not zero. -/
def nz : List Int → Nat
  | [] => 0
  | x :: l => (if x = 0 then 0 else 1) + nz l
theorem nz_rep (n : Nat) : nz (List.replicate n 0) = 0 := by
  induction n with
  | zero => rfl
  | succ n ih => simp [List.replicate_succ, nz, ih]
theorem nz_set : ∀ (l : List Int) (j : Nat) (x : Int), j < l.length → cf l j = 0 → x ≠ 0 → nz (l.set j x) = nz l + 1
  | [], j, x, h, _, _ => by simp at h
  | y :: l, 0, x, h, h0, hx => by
    have : y = 0 := by simpa using h0
    simp [nz, this, hx]; omega
  | y :: l, j + 1, x, h, h0, hx => by
    have := nz_set l j x (by simpa using h) (by simpa using h0) hx
    simp [nz, this]; omega
theorem nz_append : ∀ (a b : List Int), nz (a ++ b) = nz a + nz b
  | [], b => by simp [nz]
  | x :: a, b => by simp only [List.cons_append, nz, nz_append a b]; omega
/-- What holds after i rounds. -/
structure TernI (s : ByteArray) (n p i : Nat) (L O : List Int) (q : Nat) : Prop where
  ll : L.length = n
  lo : O.length = n
  rng : ∀ t, t < n → 0 ≤ cf L t ∧ cf L t < n
  inj : ∀ a b, a < n → b < n → cf L a = cf L b → a = b
  fresh : ∀ t, i ≤ t → t < n → cf O (cf L t).toNat = 0
  cnt : nz O = i
  small : ∀ x ∈ O, -1 ≤ x ∧ x ≤ 1
  place : p ≤ q ∧ q ≤ nbits s
theorem cf_range (n t : Nat) (h : t < n) : cf ((List.range n).map (fun (i : Nat) => (i : Int))) t = t := by
  rw [← Op.cf_at]; simp [h]
theorem ternI {s : ByteArray} {n p : Nat} (hp : p ≤ nbits s) : ∀ {i : Nat} {L O : List Int} {q : Nat}, i ≤ n → tern s n p i = some (L, O, q) → TernI s n p i L O q
  | 0, L, O, q, _, h => by
    cases h
    refine ⟨by simp, by simp, fun t ht => ?_, fun a b ha hb e => ?_, fun t _ ht => cf_rep n _, nz_rep n, fun x hx => ?_, Nat.le_refl _, hp⟩
    · rw [cf_range n t ht]; omega
    · rw [cf_range n a ha, cf_range n b hb] at e; omega
    · rw [List.eq_of_mem_replicate hx]; omega
  | i + 1, L', O', q2, hi, h => by
    unfold tern at h
    split at h
    · cases h
    · rename_i L O q h0
      have H := ternI hp (by omega) h0
      split at h
      · cases h
      · rename_i j q' hb
        have B := bel_some hb
        split at h
        · rename_i hq
          cases h
          have hij : i + j < n := by omega
          have e1 := sw_at L i (i + j) (by rw [H.ll]; omega) (by rw [H.ll]; omega)
          have eI : cf (sw L i (i + j)) i = cf L (i + j) := by
            rw [e1]
            by_cases hj : i = i + j
            · rw [if_pos hj, ← hj]
            · rw [if_neg hj, if_pos rfl]
          have R := H.rng (i + j) hij
          have bl := bit_lt s q'
          have hx0 : (1 - 2 * (bit s q' : Int)) ≠ 0 := by omega
          have hlt : (cf L (i + j)).toNat < O.length := by rw [H.lo]; omega
          refine ⟨by rw [sw_len, H.ll], by simp [H.lo], fun t ht => ?_, fun a b ha hb e => ?_, fun t h1 h2 => ?_, ?_, fun x hx => ?_, by have := H.place; omega, by omega⟩
          · rw [e1]
            split
            · exact H.rng i (by omega)
            · split
              · exact H.rng _ hij
              · exact H.rng t ht
          · rw [e1 a, e1 b] at e
            have key : ∀ t, t < n → ∃ t', t' < n ∧ (if t = i + j then cf L i else if t = i then cf L (i + j) else cf L t) = cf L t' ∧ t' = (if t = i + j then i else if t = i then i + j else t) := by
              intro t ht
              by_cases c1 : t = i + j
              · exact ⟨i, by omega, by rw [if_pos c1], by rw [if_pos c1]⟩
              · by_cases c2 : t = i
                · exact ⟨i + j, hij, by rw [if_neg c1, if_pos c2], by rw [if_neg c1, if_pos c2]⟩
                · exact ⟨t, ht, by rw [if_neg c1, if_neg c2], by rw [if_neg c1, if_neg c2]⟩
            obtain ⟨a', ha', ea, fa⟩ := key a ha
            obtain ⟨b', hb', eb, fb⟩ := key b hb
            rw [ea, eb] at e
            have := H.inj a' b' ha' hb' e
            subst this
            rw [fa] at fb
            split at fb <;> split at fb <;> (try split at fb) <;> (try split at fb) <;> omega
          · rw [eI, cf_set _ _ _ _ hlt]
            have eT : ∃ t', i ≤ t' ∧ t' < n ∧ t' ≠ i + j ∧ cf (sw L i (i + j)) t = cf L t' := by
              rw [e1]
              by_cases c1 : t = i + j
              · exact ⟨i, Nat.le_refl _, by omega, by omega, by rw [if_pos c1]⟩
              · exact ⟨t, by omega, h2, c1, by rw [if_neg c1, if_neg (by omega)]⟩
            obtain ⟨t', g1, g2, g3, g4⟩ := eT
            have Rt := H.rng t' g2
            rw [g4, if_neg (fun e => g3 (H.inj t' (i + j) g2 hij (by omega)))]
            exact H.fresh t' g1 g2
          · rw [eI, nz_set O _ _ hlt (H.fresh (i + j) (by omega) hij) hx0, H.cnt]
          · rcases List.mem_or_eq_of_mem_set hx with h1 | h1
            · exact H.small x h1
            · subst h1; omega
        · cases h
end Ov
