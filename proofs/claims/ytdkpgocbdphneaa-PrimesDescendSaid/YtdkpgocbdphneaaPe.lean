/- Chains of primes: which numbers they are; slices of numbers; dimension. -/
import Derived.Test.YtdkpgocbdphneaaPd
namespace Ob
set_option linter.unusedVariables false
open Classical in
/-- The first c primes of k s + 1, (k - 1) s + 1, .. above 2^30. -/
noncomputable def pick (s : Nat) : Nat → Nat → List Nat
  | 0, _ => []
  | k + 1, c => if c = 0 ∨ (k + 1) * s + 1 ≤ 1073741824 then [] else if Pr ((k + 1) * s + 1) then ((k + 1) * s + 1) :: pick s k (c - 1) else pick s k c

theorem pick_zero (s c : Nat) : pick s 0 c = [] := rfl
theorem pick_low {s k c : Nat} (h : k * s + 1 ≤ 1073741824) : pick s k c = [] := by
  cases k with
  | zero => rfl
  | succ k => unfold pick; rw [if_pos (.inr h)]
theorem pick_done (s k : Nat) : pick s k 0 = [] := by
  cases k with
  | zero => rfl
  | succ k => unfold pick; rw [if_pos (.inl rfl)]
theorem pick_yes {s k c : Nat} (hk : 1 ≤ k) (hc : 1 ≤ c) (h : ¬ k * s + 1 ≤ 1073741824) (hp : Pr (k * s + 1)) : pick s k c = (k * s + 1) :: pick s (k - 1) (c - 1) := by
  obtain ⟨k, rfl⟩ : ∃ j, k = j + 1 := ⟨k - 1, by omega⟩
  conv => lhs; unfold pick
  rw [if_neg (by omega), if_pos hp]; rfl
theorem pick_no {s k c : Nat} (hk : 1 ≤ k) (hp : ¬ Pr (k * s + 1)) : pick s k c = pick s (k - 1) c := by
  obtain ⟨k, rfl⟩ : ∃ j, k = j + 1 := ⟨k - 1, by omega⟩
  conv => lhs; unfold pick
  split
  · rename_i h
    rcases h with rfl | h
    · rw [pick_done]
    · rw [pick_low]; have : (k + 1 - 1) * s ≤ (k + 1) * s := Nat.mul_le_mul_right s (by omega); omega
  · rfl
theorem pick_len (s : Nat) : ∀ k c, (pick s k c).length ≤ c
  | 0, c => by simp [pick]
  | k + 1, c => by
    unfold pick
    split
    · simp
    · split
      · have := pick_len s k (c - 1); simp; omega
      · exact pick_len s k c
theorem pick_fits (s : Nat) : ∀ k c x, x ∈ pick s k c → x ≤ k * s + 1
  | 0, c, x, h => by simp [pick] at h
  | k + 1, c, x, h => by
    have h1 : k * s ≤ (k + 1) * s := Nat.mul_le_mul_right s (by omega)
    unfold pick at h
    split at h
    · simp at h
    · split at h
      · rcases List.mem_cons.1 h with rfl | h
        · exact Nat.le_refl _
        · have := pick_fits s k _ x h; omega
      · have := pick_fits s k _ x h; omega
/-- A shorter chain is the beginning of a longer one. -/
theorem pick_take (s : Nat) : ∀ k c d, d ≤ c → pick s k d = (pick s k c).take d
  | 0, c, d, h => by simp [pick]
  | k + 1, c, d, h => by
    by_cases hp : Pr ((k + 1) * s + 1)
    · by_cases hl : (k + 1) * s + 1 ≤ 1073741824
      · rw [pick_low hl, pick_low hl]; simp
      · rcases Nat.eq_zero_or_pos d with rfl | hd
        · rw [pick_done]; simp
        · rw [pick_yes (by omega) hd hl hp, pick_yes (by omega) (by omega) hl hp]
          obtain ⟨e, rfl⟩ : ∃ e, d = e + 1 := ⟨d - 1, by omega⟩
          rw [List.take_succ_cons, show k + 1 - 1 = k by omega, show e + 1 - 1 = e by omega, pick_take s k (c - 1) e (by omega)]
    · rw [pick_no (by omega) hp, pick_no (by omega) hp, show k + 1 - 1 = k by omega]
      exact pick_take s k c d h

/-- Each number of the list is a prime above 2^30 that is 1 modulo s, and there is no other one between it and the one ahead of it (the first: below h). -/
def Desc (s : Nat) : Nat → List Nat → Prop
  | _, [] => True
  | h, p :: l => (∃ k, 1 ≤ k ∧ p = k * s + 1 ∧ p < h ∧ 1073741824 < p ∧ Pr p ∧ ∀ j, k < j → j * s + 1 < h → ¬ Pr (j * s + 1)) ∧ Desc s p l
theorem desc_pick (s : Nat) (hs : 1 ≤ s) : ∀ k c h, k * s + 1 < h → (∀ j, k < j → j * s + 1 < h → ¬ Pr (j * s + 1)) → Desc s h (pick s k c)
  | 0, c, h, _, _ => by simp [pick, Desc]
  | k + 1, c, h, h1, h2 => by
    have h3 : k * s < (k + 1) * s := Nat.mul_lt_mul_of_pos_right (by omega) hs
    by_cases hp : Pr ((k + 1) * s + 1)
    · by_cases hl : (k + 1) * s + 1 ≤ 1073741824
      · rw [pick_low hl]; trivial
      · rcases Nat.eq_zero_or_pos c with rfl | hc
        · rw [pick_done]; trivial
        · rw [pick_yes (by omega) hc hl hp]
          refine ⟨⟨k + 1, by omega, rfl, h1, by omega, hp, h2⟩, desc_pick s hs k _ _ (by omega) (fun j h4 h5 => ?_)⟩
          have h6 : (k + 1) * s ≤ j * s := Nat.mul_le_mul_right s h4
          omega
    · rw [pick_no (by omega) hp]
      refine desc_pick s hs k c h (by omega) (fun j h4 h5 => ?_)
      by_cases e : j = k + 1
      · rw [e]; exact hp
      · exact h2 j (by omega) h5
theorem Desc.at {s : Nat} : ∀ {h : Nat} {l : List Nat}, Desc s h l → ∀ i, i < l.length → ∃ k, 1 ≤ k ∧ l[i]?.getD 0 = k * s + 1 ∧ l[i]?.getD 0 < (if i = 0 then h else l[i - 1]?.getD 0) ∧ 1073741824 < l[i]?.getD 0 ∧ Pr (l[i]?.getD 0) ∧ ∀ j, k < j → j * s + 1 < (if i = 0 then h else l[i - 1]?.getD 0) → ¬ Pr (j * s + 1)
  | h, [], _, i, hi => by simp at hi
  | h, p :: l, hd, 0, _ => by simpa using hd.1
  | h, p :: l, hd, i + 1, hi => by
    obtain ⟨k, a⟩ := Desc.at hd.2 i (by simpa using hi)
    refine ⟨k, ?_⟩
    cases i with
    | zero => simpa using a
    | succ i => simpa using a
end Ob
namespace Go.Proofs.Ytdkpgocbdphneaa
open Go.RowKit Go.Shelf
set_option linter.unusedVariables false

/-- The numbers of 32 bits of a list, as cells. -/
def wcells (l : List Nat) : List Value := l.map (fun x => .int .u32 (x : Nat))
/-- A slice holds numbers of 32 bits. -/
def HasW (W : World) (v : Value) (l : List Nat) : Prop :=
  ∃ a cap, v = .slice a l.length cap ∧ l.length ≤ cap ∧ cap ≤ 9223372036854775807 ∧
    ∀ i, i < l.length → ∃ g o, a = some ⟨g, o, none⟩ ∧ W.cell? ⟨g, o + i, none⟩ = some (.int .u32 ((l[i]?.getD 0 : Nat) : Int))
theorem HasW.later {W W' : World} {v : Value} {l : List Nat} (h : HasW W v l) (hg : Gr W W') : HasW W' v l := by
  obtain ⟨a, cap, rfl, h1, h2, h3⟩ := h
  refine ⟨a, cap, rfl, h1, h2, fun i hi => ?_⟩
  obtain ⟨g, o, e, hc⟩ := h3 i hi
  exact ⟨g, o, e, hg.keeps hc⟩
theorem HasW.nil (W : World) : HasW W (.slice none 0 0) [] := ⟨none, 0, rfl, Nat.le_refl _, by omega, fun i hi => absurd hi (by simp)⟩
theorem wcells_at (l : List Nat) (i : Nat) (hi : i < l.length) : (wcells l)[i]? = some (.int .u32 ((l[i]?.getD 0 : Nat) : Int)) := by
  simp [wcells, hi]
theorem HasW.of_row {W : World} {B : Nat} {v : Value} {l : List Nat} (h : W.ownsRow B 22 1 v l.length (wcells l)) : HasW W v l := by
  rcases h.2 with ⟨rfl, h0⟩ | ⟨g, cap, cur, rfl, _, hg, h1, h2, h3, h4⟩
  · obtain rfl := List.length_eq_zero_iff.1 h0
    exact HasW.nil W
  · refine ⟨_, cap, rfl, h1, by unfold maxLen at h2; omega, fun i hi => ⟨g, 0, rfl, ?_⟩⟩
    have hc : W.cell? ⟨g, i, none⟩ = (wcells l)[i]? := by
      rw [← h4, List.getElem?_take_of_lt (by omega)]
      simp [World.cell?, hg]
    rw [Nat.zero_add, hc, wcells_at l i hi]

/-- A dimension. -/
def Dim (n : Int) : Prop := n = 4 ∨ n = 8 ∨ n = 16 ∨ n = 32
def DimPost (n : Int) (w : World) (e : Ending) (w' : World) : Prop := ∃ r : Bool, e = .returned (.bool r) ∧ (r = true ↔ Dim n) ∧ w = w'
theorem dim_any (n : Int) (w : World) : Calls Try.prog 24 #[.int .i64 n] w (DimPost n w) := by
  by_cases h4 : n = 4
  · subst h4
    go_enter Try.func24, Try.ntmps24
    go_wp2_with fail
    go_ret
    exact ⟨true, rfl, by simp [Dim], rfl⟩
  by_cases h8 : n = 8
  · subst h8
    go_enter Try.func24, Try.ntmps24
    go_wp2_with fail
    go_ret
    exact ⟨true, rfl, by simp [Dim], rfl⟩
  by_cases h16 : n = 16
  · subst h16
    go_enter Try.func24, Try.ntmps24
    go_wp2_with fail
    go_ret
    exact ⟨true, rfl, by simp [Dim], rfl⟩
  by_cases h32 : n = 32
  · subst h32
    go_enter Try.func24, Try.ntmps24
    go_wp2_with fail
    go_ret
    exact ⟨true, rfl, by simp [Dim], rfl⟩
  have b4 : (n == 4) = false := by simpa using h4
  have b8 : (n == 8) = false := by simpa using h8
  have b16 : (n == 16) = false := by simpa using h16
  have b32 : (n == 32) = false := by simpa using h32
  have HD := Lib.hid (show ¬ Dim n from by unfold Dim; omega)
  clear h4 h8 h16 h32
  go_enter Try.func24, Try.ntmps24
  go_wp2_with fail
  go_ret
  exact ⟨false, rfl, by simp [HD.out], rfl⟩
theorem rdim_any (n : Int) (w : World) : Calls Try.prog 26 #[.int .i64 n] w (DimPost n w) := by
  by_cases h4 : n = 4
  · subst h4
    go_enter Try.func26, Try.ntmps26
    go_wp2_with fail
    go_ret
    exact ⟨true, rfl, by simp [Dim], rfl⟩
  by_cases h8 : n = 8
  · subst h8
    go_enter Try.func26, Try.ntmps26
    go_wp2_with fail
    go_ret
    exact ⟨true, rfl, by simp [Dim], rfl⟩
  by_cases h16 : n = 16
  · subst h16
    go_enter Try.func26, Try.ntmps26
    go_wp2_with fail
    go_ret
    exact ⟨true, rfl, by simp [Dim], rfl⟩
  by_cases h32 : n = 32
  · subst h32
    go_enter Try.func26, Try.ntmps26
    go_wp2_with fail
    go_ret
    exact ⟨true, rfl, by simp [Dim], rfl⟩
  have b4 : (n == 4) = false := by simpa using h4
  have b8 : (n == 8) = false := by simpa using h8
  have b16 : (n == 16) = false := by simpa using h16
  have b32 : (n == 32) = false := by simpa using h32
  have HD := Lib.hid (show ¬ Dim n from by unfold Dim; omega)
  clear h4 h8 h16 h32
  go_enter Try.func26, Try.ntmps26
  go_wp2_with fail
  go_ret
  exact ⟨false, rfl, by simp [HD.out], rfl⟩

/-- The arguments of a chain that there is. -/
def ChainOk (n : Int) (t : Nat) (c : Int) : Prop := Dim n ∧ 3 ≤ t ∧ t ≤ 2147483647 ∧ t % 2 = 1 ∧ 1 ≤ c ∧ c ≤ 25
def chainStep (n : Int) (t : Nat) : Nat := 2 * n.toNat * t
noncomputable def chainOf (n : Int) (t : Nat) (c : Int) : List Nat := Ob.pick (chainStep n t) ((2147483648 - 2) / chainStep n t) c.toNat
def ChainR (n : Int) (t : Nat) (c : Int) (L : List Nat) (e : Nat) : Prop :=
  (¬ ChainOk n t c ∧ L = [] ∧ e = 2) ∨ (ChainOk n t c ∧ (chainOf n t c).length < c.toNat ∧ L = [] ∧ e = 4) ∨ (ChainOk n t c ∧ (chainOf n t c).length = c.toNat ∧ L = chainOf n t c ∧ e = 0)
theorem ChainR.unique {n : Int} {t : Nat} {c : Int} {L L' : List Nat} {e e' : Nat} (h : ChainR n t c L e) (h' : ChainR n t c L' e') : L = L' ∧ e = e' := by
  rcases h with ⟨h1, rfl, rfl⟩ | ⟨h1, h2, rfl, rfl⟩ | ⟨h1, h2, rfl, rfl⟩ <;> rcases h' with ⟨g1, rfl, rfl⟩ | ⟨g1, g2, rfl, rfl⟩ | ⟨g1, g2, rfl, rfl⟩ <;>
    first | exact ⟨rfl, rfl⟩ | exact absurd g1 h1 | exact absurd h1 g1 | omega
def ChainPost (n : Int) (t : Nat) (c : Int) (w : World) (e : Ending) (w' : World) : Prop := ∃ v L z, e = .returned (.tuple #[v, .int .i64 (z : Nat)]) ∧ HasW w' v L ∧ ChainR n t c L z ∧ Gr w w'

set_option maxHeartbeats 1000000 in
theorem rchain_bad (n : Int) (t : Nat) (c : Int) (w : World) (ht' : t ≤ 4294967295) (h : ¬ ChainOk n t c) :
    Calls Try.prog 14 #[.int .i64 n, .int .u32 t, .int .i64 c] w (ChainPost n t c w) := by
  have fin : ∀ w : World, ChainPost n t c w (.returned (.tuple #[.slice none 0 0, .int .i64 2])) w := fun w => ⟨_, [], 2, rfl, HasW.nil w, .inl ⟨h, rfl, rfl⟩, Gr.refl _⟩
  have HF := Lib.hid fin
  clear fin
  by_cases hd : Dim n
  · have hh : ¬ (3 ≤ t ∧ t ≤ 2147483647 ∧ t % 2 = 1 ∧ 1 ≤ c ∧ c ≤ 25) := fun h' => h ⟨hd, h'⟩
    have HD := Lib.hid hd
    clear hd h
    by_cases h3 : t < 3
    · clear hh
      go_enter Try.func14, Try.ntmps14
      go_wp2_with fail
      refine (rdim_any n _).mono ?_
      rintro e w1 ⟨r, rfl, hr, rfl⟩
      obtain rfl : r = true := hr.2 HD.out
      clear hr
      go_wp2_with fail
      go_ret2
      exact HF.out _
    by_cases ho : t % 2 = 0
    · have t2 : ((t : Int) % 2 == 0) = true := by simp; omega
      clear hh ho
      go_enter Try.func14, Try.ntmps14
      go_wp2_with fail
      refine (rdim_any n _).mono ?_
      rintro e w1 ⟨r, rfl, hr, rfl⟩
      obtain rfl : r = true := hr.2 HD.out
      clear hr
      go_wp2_with fail
      go_ret2
      exact HF.out _
    have t2 : ((t : Int) % 2 == 0) = false := by simp; omega
    have ho' : t % 2 = 1 := by omega
    have hh' : ¬ (t ≤ 2147483647 ∧ 1 ≤ c ∧ c ≤ 25) := fun ⟨h1, h2, h3⟩ => hh ⟨by omega, h1, ho', h2, h3⟩
    clear hh ho ho'
    by_cases hm : 2147483647 < t
    · clear hh'
      go_enter Try.func14, Try.ntmps14
      go_wp2_with fail
      refine (rdim_any n _).mono ?_
      rintro e w1 ⟨r, rfl, hr, rfl⟩
      obtain rfl : r = true := hr.2 HD.out
      clear hr
      go_wp2_with fail
      go_ret2
      exact HF.out _
    by_cases hc : c < 1
    · clear hh'
      go_enter Try.func14, Try.ntmps14
      go_wp2_with fail
      refine (rdim_any n _).mono ?_
      rintro e w1 ⟨r, rfl, hr, rfl⟩
      obtain rfl : r = true := hr.2 HD.out
      clear hr
      go_wp2_with fail
      go_ret2
      exact HF.out _
    have hc2 : 25 < c := by omega
    clear hh'
    go_enter Try.func14, Try.ntmps14
    go_wp2_with fail
    refine (rdim_any n _).mono ?_
    rintro e w1 ⟨r, rfl, hr, rfl⟩
    obtain rfl : r = true := hr.2 HD.out
    clear hr
    go_wp2_with fail
    go_ret2
    exact HF.out _
  · have HD := Lib.hid hd
    clear hd h
    go_enter Try.func14, Try.ntmps14
    go_wp2_with fail
    refine (rdim_any n _).mono ?_
    rintro e w1 ⟨r, rfl, hr, rfl⟩
    obtain rfl : r = false := by cases r; rfl; exact absurd (hr.1 rfl) HD.out
    clear hr
    go_wp2_with fail
    go_ret2
    exact HF.out _
end Go.Proofs.Ytdkpgocbdphneaa
