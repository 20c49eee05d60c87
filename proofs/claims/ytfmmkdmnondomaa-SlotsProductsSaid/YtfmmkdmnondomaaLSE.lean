import Derived.Test.YtfmmkdmnondomaaLSD
/- The reference's Balanced. -/
namespace Go.Proofs.Ytfmmkdmnondomaa
open Go.RowKit
set_option linter.unusedVariables false

theorem HasQ_at' {W : World} {g : Option Addr} {m c : Nat} {l : List Int} (h : Lo.HasQ W (.slice g m c) l) {j : Nat} (hj : j < l.length) : ∃ b o, g = some ⟨b, o, none⟩ ∧ W.cell? ⟨b, o + j, none⟩ = some (.int .i64 (Op.cf l j)) := by
  obtain ⟨_, a, c', e, _, _, h3⟩ := h
  cases e
  exact h3 j hj
/-- The balanced value of any number. -/
def rb (x : Int) (m : Nat) : Int := if ((m : Int) - 1) / 2 < x.tmod m then x.tmod m - m else if x.tmod m < -(((m : Int) - 1) / 2) then x.tmod m + m else x.tmod m
theorem rb_bl {x : Int} {m : Nat} (h3 : 3 ≤ m) (ho : m % 2 = 1) : Os.Bl m (rb x m) x := by
  have h1 : Os.C m (x.tmod m) x := Oh7.tmod_dvd m x
  have h2 := Int.lt_tmod_of_pos x (show 0 < (m : Int) by omega)
  have h4 := Int.tmod_lt_of_pos x (show 0 < (m : Int) by omega)
  obtain ⟨t, ht⟩ : ∃ t, t = x.tmod m := ⟨_, rfl⟩
  unfold rb
  rw [← ht] at h1 h2 h4 ⊢
  split
  · refine ⟨?_, by omega, by omega⟩
    have h5 := h1.sub (show Os.C m m 0 from ⟨1, by omega⟩)
    rwa [Int.sub_zero] at h5
  · split
    · refine ⟨?_, by omega, by omega⟩
      have h5 := h1.add (show Os.C m m 0 from ⟨1, by omega⟩)
      rwa [Int.add_zero] at h5
    · exact ⟨h1, by omega, by omega⟩
set_option maxRecDepth 100000 in
set_option maxHeartbeats 1000000 in
theorem rBal8_any (x : Int) (m : Nat) (w : World) (hm : 3 ≤ m ∧ m ≤ 2147483647) (ho : m % 2 = 1) (hx : -9223372036854775808 ≤ x ∧ x ≤ 9223372036854775807) :
    Calls Try.prog 27 #[.int .i64 x, .int .i64 m] w (fun e w' => e = .returned (.int .i64 (rb x m)) ∧ w = w') := by
  obtain ⟨m1, m2⟩ := hm
  obtain ⟨x1, x2⟩ := hx
  have t1 := Int.lt_tmod_of_pos x (show 0 < (m : Int) by omega)
  have t2 := Int.tmod_lt_of_pos x (show 0 < (m : Int) by omega)
  have hm0 : ¬ m = 0 := by omega
  obtain ⟨t, ht⟩ : ∃ t, x.tmod m = t := ⟨_, rfl⟩
  obtain ⟨h, hh⟩ : ∃ h, ((m : Int) - 1) / 2 = h := ⟨_, rfl⟩
  have hn : (-((m : Int) - 1)).tdiv 2 = -h := by
    have e : -((m : Int) - 1) = 2 * (-h) := by omega
    rw [e, Int.mul_tdiv_cancel_left _ (by omega)]
  have hh0 : 0 ≤ h := by omega
  have hh1 : h ≤ 2147483647 := by omega
  rw [ht] at t1 t2
  have HR := Lib.hid (show rb x m = if h < t then t - m else if t < -h then t + m else t from by unfold rb; rw [ht, hh])
  by_cases c1 : h < t
  · have HE := Lib.hid (show rb x m = t - m from by rw [HR.out, if_pos c1])
    clear HR
    go_enter Try.func27, Try.ntmps27
    go_wp2_with fail
    go_ret
    exact ⟨by rw [HE.out]; rfl, rfl⟩
  · by_cases c2 : t < -h
    · have HE := Lib.hid (show rb x m = t + m from by rw [HR.out, if_neg c1, if_pos c2])
      clear HR
      go_enter Try.func27, Try.ntmps27
      go_wp2_with fail
      go_ret
      exact ⟨by rw [HE.out]; rfl, rfl⟩
    · have HE := Lib.hid (show rb x m = t from by rw [HR.out, if_neg c1, if_neg c2])
      clear HR
      go_enter Try.func27, Try.ntmps27
      go_wp2_with fail
      go_ret
      exact ⟨by rw [HE.out]; rfl, rfl⟩
end Go.Proofs.Ytfmmkdmnondomaa
/- The reference's Auto. -/
namespace Os
open Op
set_option linter.unusedVariables false
/-- The first I terms of an automorphism are laid. -/
structure AutR (n Q k : Nat) (A l : List Int) (I : Nat) : Prop where
  len : l.length = n
  zero : ∀ j, j < n → (∀ t, t < I → t * k % n ≠ j) → cf l j = 0
  bd : ∀ j, 2 * cf l j < Q ∧ -(Q : Int) < 2 * cf l j
  val : ∀ p q x, Rt n p q x → ∀ j, j < n → C q (vec n x l j) (S I (fun i => cf A i * ((x : Int) ^ Ex n j) ^ (i * k)))
theorem cf_repl (n i : Nat) : cf (List.replicate n 0) i = 0 := by
  rw [← cf_at, List.getElem?_replicate]; split <;> rfl
theorem AutR.start {n Q k : Nat} (A : List Int) (hQ : 1 ≤ Q) : AutR n Q k A (List.replicate n 0) 0 :=
  ⟨by simp, fun j _ _ => cf_repl n j, fun j => by rw [cf_repl]; omega, fun p q x h j hj => by
    rw [vec_zero n x j (cf_repl n)]; exact C.refl q 0⟩
theorem at_mod {n i k : Nat} (hn : 1 ≤ n) : (if i * k % (2 * n) < n then i * k % (2 * n) else i * k % (2 * n) - n) = i * k % n := by
  have h1 : i * k % (2 * n) % n = i * k % n := Nat.mod_mod_of_dvd _ ⟨2, Nat.mul_comm 2 n⟩
  have h2 := Nat.mod_lt (i * k) (show 0 < 2 * n by omega)
  rw [← h1]
  obtain ⟨t, ht⟩ : ∃ t, t = i * k % (2 * n) := ⟨_, rfl⟩
  rw [← ht] at h2 ⊢
  split
  · rename_i h; rw [Nat.mod_eq_of_lt h]
  · exact ((Nat.mod_eq_sub_mod (by omega)).trans (Nat.mod_eq_of_lt (by omega))).symm
theorem AutR.step {n Q k i : Nat} {A l : List Int} (hd : D4 n) (hk : k % 2 = 1) (hi : i < n) (h : AutR n Q k A l i) {j : Nat} {z : Int} (hz : 2 * cf A i < Q ∧ -(Q : Int) < 2 * cf A i)
    (hj : j = if i * k % (2 * n) < n then i * k % (2 * n) else i * k % (2 * n) - n) (hv : z = if i * k % (2 * n) < n then cf A i else -cf A i) : AutR n Q k A (l.set j z) (i + 1) := by
  have hn := hd.le
  have hlt := Nat.mod_lt (i * k) (show 0 < 2 * n by omega)
  have hjn : j < n := by split at hj <;> omega
  have hj2 : j = i * k % n := hj.trans (at_mod (by omega))
  have hs : ∀ t, cf (l.set j z) t = if t = j then z else cf l t := fun t => by
    rw [← cf_at, ← cf_at, List.getElem?_set]
    by_cases e : j = t
    · subst e; simp [h.len, hjn]
    · rw [if_neg e, if_neg (fun h => e h.symm)]
  have h0 : cf l j = 0 := h.zero j hjn (fun t ht e => auto_inj hd hk hi ht (by rw [e, hj2]))
  refine ⟨by rw [List.length_set]; exact h.len, fun t ht hne => ?_, fun t => ?_, fun p q x hr t ht => ?_⟩
  · rw [hs, if_neg (fun e => hne i (by omega) (by rw [e, hj2]))]
    exact h.zero t ht (fun u hu => hne u (by omega))
  · rw [hs]
    by_cases e : t = j
    · rw [if_pos e, hv]; split <;> omega
    · rw [if_neg e]; exact h.bd t
  · have h1 := hr.put (k := t) (i := i * k % (2 * n)) (j := j) (P := l) (R := l.set j z) (z := cf A i) ht hlt hj (fun s _ hne => by rw [hs, if_neg hne]) (by rw [hs, if_pos rfl, h0, Int.zero_add, hv]; exact C.refl q _) (h.val p q x hr t ht)
    refine h1.trans ?_
    rw [S]
    refine (C.refl q _).add ((C.refl q _).mul ?_)
    rw [← Int.pow_mul, ← Int.pow_mul]
    have h2 := hr.mod (i * k)
    have h3 := h2.pow (Ex n t)
    rw [← Int.pow_mul, ← Int.pow_mul, Nat.mul_comm _ (Ex n t), Nat.mul_comm _ (Ex n t)] at h3
    exact h3
theorem AutR.vl {n Q k : Nat} {A l : List Int} {I : Nat} (h : AutR n Q k A l I) : Vl n Q l := ⟨h.len, fun i _ => h.bd i⟩
end Os
namespace Go.Proofs.Ytfmmkdmnondomaa
open Go.RowKit
set_option linter.unusedVariables false

end Go.Proofs.Ytfmmkdmnondomaa
