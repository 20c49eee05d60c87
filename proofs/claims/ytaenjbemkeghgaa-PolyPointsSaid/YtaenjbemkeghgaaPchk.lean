/- check, Check. -/
import Derived.Test.YtaenjbemkeghgaaPcom
namespace Go.Proofs.Ytaenjbemkeghgaa
open Go.RowKit
set_option linter.unusedVariables false

/-- The error of a polynomial. -/
def chk1 (m : Int) (a : List Int) : Int := if 256 < a.length then 3 else if lowB m a = true ∧ (Op.tz a).length = a.length then 0 else 2
/-- The first error of polynomials. -/
def chk (m : Int) : List (List Int) → Int
  | [] => 0
  | a :: l => if chk1 m a = 0 then chk m l else chk1 m a
/-- The modulus is one. -/
def okM (m : Int) : Prop := 2 ≤ m ∧ m ≤ 2147483647
instance (m : Int) : Decidable (okM m) := by unfold okM; infer_instance
def checkE (m : Int) (l : List (List Int)) : Int := if okM m then chk m l else 2
theorem chk1_iff {m : Int} {a : List Int} (ha : U32 a) : chk1 m a = 0 ↔ a.length ≤ 256 ∧ Op.Nf m a := by
  unfold chk1
  by_cases h : 256 < a.length
  · rw [if_pos h]; constructor
    · intro h; cases h
    · intro h'; omega
  · rw [if_neg h]
    have e : (Op.tz a).length = a.length ↔ Op.tz a = a := by
      constructor
      · intro h; rw [tz_take a, h, List.take_length]
      · intro h; rw [h]
    constructor
    · intro h'
      split at h'
      · rename_i hh
        refine ⟨by omega, ?_, e.1 hh.2⟩
        exact Op.rs_of (fun j hj => ⟨(ha.at_ j).1, lowB_true.1 hh.1 j hj⟩)
      · cases h'
    · rintro ⟨_, h1, h2⟩
      rw [if_pos ⟨lowB_true.2 (fun i hi => (h1 _ (Op.cf_mem hi)).2), e.2 h2⟩]
theorem chk1_vals (m : Int) (a : List Int) : chk1 m a = 0 ∨ chk1 m a = 2 ∨ chk1 m a = 3 := by
  unfold chk1
  split
  · exact .inr (.inr rfl)
  · split
    · exact .inl rfl
    · exact .inr (.inl rfl)
theorem chk_vals (m : Int) : ∀ l, chk m l = 0 ∨ chk m l = 2 ∨ chk m l = 3
  | [] => .inl rfl
  | a :: l => by
    unfold chk
    split
    · exact chk_vals m l
    · exact chk1_vals m a
theorem checkE_vals (m : Int) (l : List (List Int)) : checkE m l = 0 ∨ checkE m l = 2 ∨ checkE m l = 3 := by
  unfold checkE
  split
  · exact chk_vals m l
  · exact .inr (.inl rfl)
theorem chk_drop {m : Int} {l : List (List Int)} {k : Nat} (hk : k < l.length) : chk m (l.drop k) = if chk1 m (l[k]'hk) = 0 then chk m (l.drop (k + 1)) else chk1 m (l[k]'hk) := by
  rw [List.drop_eq_getElem_cons hk]; rfl
theorem checkE_one {m : Int} {a : List Int} (ha : U32 a) : checkE m [a] = 0 ↔ okM m ∧ a.length ≤ 256 ∧ Op.Nf m a := by
  unfold checkE
  by_cases h : okM m
  · rw [if_pos h]
    have e : chk m [a] = chk1 m a := by unfold chk; split <;> simp_all [chk]
    rw [e, chk1_iff ha]; simp [h]
  · rw [if_neg h]; simp [h]
theorem checkE_two {m : Int} {a b : List Int} (ha : U32 a) (hb : U32 b) : checkE m [a, b] = 0 ↔ okM m ∧ (a.length ≤ 256 ∧ Op.Nf m a) ∧ (b.length ≤ 256 ∧ Op.Nf m b) := by
  unfold checkE
  by_cases h : okM m
  · rw [if_pos h]
    have e : chk m [a, b] = if chk1 m a = 0 then chk1 m b else chk1 m a := by
      show (if chk1 m a = 0 then chk m [b] else chk1 m a) = _
      have e : chk m [b] = chk1 m b := by unfold chk; split <;> simp_all [chk]
      rw [e]
    rw [e, ← chk1_iff ha, ← chk1_iff hb]
    by_cases h1 : chk1 m a = 0
    · rw [if_pos h1]; simp [h, h1]
    · rw [if_neg h1]; simp [h, h1]
  · rw [if_neg h]; simp [h]

/-- A slice of slices. -/
def HasLL (W : World) (g n : Nat) (vs : List Value) (ls : List (List Int)) : Prop :=
  n = ls.length ∧ vs.length = ls.length ∧ ∀ i (hi : i < ls.length), ∃ x k c, W.cell? ⟨g, i, none⟩ = some (.slice x k c) ∧ HasP W (.slice x k c) ls[i]

set_option maxRecDepth 100000 in
set_option maxHeartbeats 2000000 in
theorem check_any (m : Int) (g n : Nat) (vs : List Value) (ls : List (List Int)) (w : World) (h : HasLL w g n vs ls) (hn : n ≤ 100) (hl : ∀ a ∈ ls, a.length ≤ 9223372036854775807) :
    Calls Try.prog 44 #[.int .u32 m, .slice (some ⟨g, 0, none⟩) n n] w (fun e w' => e = .returned (.int .i64 (checkE m ls)) ∧ w = w') := by
  have H := Lib.hid h
  have HLL := Lib.hid hl
  have HN := Lib.hid h.1
  clear h hl
  by_cases hm : okM m
  · have HM := Lib.hid hm
    have HE := Lib.hid (show checkE m ls = chk m ls from if_pos hm)
    clear hm
    go_enter Try.func44, Try.ntmps44
    go_wp2_with (go_at_call 62; refine (valid_yes m _ HM.out).mono ?_; rintro e w' ⟨rfl, rfl⟩)
    go_loop [12] (fun t => ∃ k : Nat, t = .int .i64 k ∧ k ≤ n ∧ chk m ls = chk m (ls.drop k)) (fun t => n - (intOf t).toNat)
    case atStart => exact ⟨0, rfl, by omega, rfl⟩
    case round =>
      obtain ⟨k, rfl, hk, hc⟩ := hrel
      have HC := Lib.hid hc
      clear hc
      by_cases hlt : k < n
      · have hkl : k < ls.length := by rw [← HN.out]; exact hlt
        obtain ⟨x, j, c, hcell, hp⟩ := H.out.2.2 k hkl
        have hjl := hp.len
        have hjb : j ≤ 9223372036854775807 := by have := HLL.out _ (List.getElem_mem hkl); omega
        have HD := Lib.hid (chk_drop (m := m) hkl)
        obtain ⟨a, ha⟩ : ∃ a, a = ls[k] := ⟨_, rfl⟩
        rw [← ha] at hp hjl HD
        have HP := Lib.hid hp
        have HJ := Lib.hid hjl.1
        have hlt' : (k : Int) < (n : Int) := by omega
        clear hp hjl ha hkl
        by_cases h256 : (256 : Int) < (j : Int)
        · have HR := Lib.hid (show chk1 m a = 3 from if_pos (by rw [← HJ.out]; omega))
          go_wp2_with fail
          go_ret
          exact ⟨by rw [HE.out, HC.out, HD.out, HR.out]; rfl, rfl⟩
        · have HR := Lib.hid (show chk1 m a = if lowB m a = true ∧ (Op.tz a).length = a.length then 0 else 2 from if_neg (by rw [← HJ.out]; omega))
          have HTL := Lib.hid (Op.tz_len a)
          cases hlow : lowB m a with
          | false =>
            have HR2 := Lib.hid (show chk1 m a = 2 from by rw [HR.out, if_neg (by simp [hlow])])
            have HLOW := Lib.hid hlow
            clear hlow
            go_wp2_with (go_at_call 63; refine (has_any m a _ _ HP.out).mono ?_; rintro e w' ⟨rfl, rfl⟩; rw [HLOW.out])
            go_ret
            exact ⟨by rw [HE.out, HC.out, HD.out, HR2.out]; rfl, rfl⟩
          | true =>
            have HLOW := Lib.hid hlow
            clear hlow
            obtain ⟨i, hi⟩ : ∃ i, i = (Op.tz a).length := ⟨_, rfl⟩
            have hij : i ≤ j := by rw [hi, HJ.out]; exact HTL.out
            have HI := Lib.hid hi
            clear hi
            by_cases hcut : (i : Int) < (j : Int)
            · have HR2 := Lib.hid (show chk1 m a = 2 from by rw [HR.out, if_neg (fun h => by have := h.2; rw [← HI.out, ← HJ.out] at this; omega)])
              go_wp2_with (first | (go_at_call 63; refine (has_any m a _ _ HP.out).mono ?_; rintro e w' ⟨rfl, rfl⟩; rw [HLOW.out]) | (go_at_call 66; refine (trimmed_any a _ _ _ _ HP.out).mono ?_; rintro e w' ⟨rfl, rfl⟩; rw [← HI.out]))
              go_ret
              exact ⟨by rw [HE.out, HC.out, HD.out, HR2.out]; rfl, rfl⟩
            · have HR2 := Lib.hid (show chk1 m a = 0 from by rw [HR.out, if_pos ⟨HLOW.out, by rw [← HI.out, ← HJ.out]; omega⟩])
              go_wp2_with (first | (go_at_call 63; refine (has_any m a _ _ HP.out).mono ?_; rintro e w' ⟨rfl, rfl⟩; rw [HLOW.out]) | (go_at_call 66; refine (trimmed_any a _ _ _ _ HP.out).mono ?_; rintro e w' ⟨rfl, rfl⟩; rw [← HI.out]))
              go_round
              case rel => exact ⟨k + 1, by go_num, by omega, by rw [HC.out, HD.out, if_pos HR2.out]⟩
              case measure => simp [intOf]; omega
      · have HF := Lib.hid (show chk m ls = 0 from by rw [HC.out, List.drop_of_length_le (by rw [← HN.out]; omega)]; rfl)
        go_wp2_with fail
        go_ret
        exact ⟨by rw [HE.out, HF.out]; rfl, rfl⟩
  · have HM := Lib.hid hm
    have HE := Lib.hid (show checkE m ls = 2 from if_neg hm)
    clear hm
    go_enter Try.func44, Try.ntmps44
    go_wp2_with (go_at_call 62; refine (valid_no m _ HM.out).mono ?_; rintro e w' ⟨rfl, rfl⟩)
    go_ret
    exact ⟨by rw [HE.out]; rfl, rfl⟩
end Go.Proofs.Ytaenjbemkeghgaa
