import Derived.Test.YtfmmkdmnondomaaLExa
/- The calculations by which it is shown that the strong tests to 2, 7 and 61 are exact below 2^32, and what each of them shows. They are written with the bare operations on numbers, so that the kernel performs them quickly. -/
namespace Ob
set_option linter.unusedVariables false

/-- The value of f at n, where the kernel evaluates n first. -/
def force {α : Type} (n : Nat) (f : Nat → α) : α := match n with
  | 0 => f 0
  | m + 1 => f (Nat.succ m)
theorem force_eq {α : Type} (n : Nat) (f : Nat → α) : force n f = f n := by cases n <;> rfl

def pwb (b p x : Nat) : Nat := Nat.mod (Nat.mul (Nat.pow (Nat.mod (Nat.pow b (Nat.div x (nat_lit 256))) p) (nat_lit 256)) (Nat.pow b (Nat.mod x (nat_lit 256)))) p
theorem pwb_eq (b p x : Nat) : pwb b p x = b ^ x % p := by
  show (b ^ (x / 256) % p) ^ 256 * b ^ (x % 256) % p = b ^ x % p
  rw [Nat.mul_mod, ← Nat.pow_mod, ← Nat.mul_mod, ← Nat.pow_mul, ← Nat.pow_add]
  congr 2
  omega

def inH (p x : Nat) : Bool := Nat.beq (pwb (nat_lit 2) p x) (nat_lit 1) && (Nat.beq (pwb (nat_lit 7) p x) (nat_lit 1) && Nat.beq (pwb (nat_lit 61) p x) (nat_lit 1))

theorem inH_iff {p x : Nat} : inH p x = true ↔ H p x := by
  simp only [inH, Bool.and_eq_true, Nat.beq_eq, pwb_eq]
  exact Iff.rfl

def strip (p r : Nat) : Nat → Nat → Nat
  | 0, M => M
  | f + 1, M => match Nat.beq (Nat.mod M r) (nat_lit 0) && inH p (Nat.div M r) with
    | true => strip p r f (Nat.div M r)
    | false => M
def stripAll (p : Nat) : List Nat → Nat → Nat
  | [], M => M
  | r :: l, M => match Nat.beq (Nat.mod M r) (nat_lit 0) with
    | true => force (strip p r 16 M) fun M => stripAll p l M
    | false => stripAll p l M

def dv (s : Nat) : Nat → Nat → Nat
  | 0, M => M
  | f + 1, M => match Nat.beq (Nat.mod M s) (nat_lit 0) with
    | true => dv s f (Nat.div M s)
    | false => M
def cof : List Nat → Nat → Nat
  | [], M => M
  | s :: l, M => match Nat.beq (Nat.mod M s) (nat_lit 0) with
    | true => force (dv s 16 M) fun M => cof l M
    | false => cof l M

theorem div_dvd {M s : Nat} (h : M % s = 0) : M = s * (M / s) := by
  have := Nat.div_add_mod M s; omega

theorem dv_dvd (s : Nat) : ∀ f M, dv s f M ∣ M
  | 0, M => Nat.dvd_refl _
  | f + 1, M => by
    unfold dv
    split
    · rename_i h
      have h' : M % s = 0 := Nat.eq_of_beq_eq_true h
      exact Nat.dvd_trans (dv_dvd s f _) ⟨s, by rw [Nat.mul_comm]; exact div_dvd h'⟩
    · exact Nat.dvd_refl _
theorem cof_dvd : ∀ l M, cof l M ∣ M
  | [], M => Nat.dvd_refl _
  | s :: l, M => by
    unfold cof
    split
    · rw [force_eq]
      exact Nat.dvd_trans (cof_dvd l _) (dv_dvd s 16 M)
    · exact cof_dvd l M

theorem dvd_dv {r s : Nat} (hr : Pr r) (hs : ¬ r ∣ s) : ∀ f M, r ∣ M → r ∣ dv s f M
  | 0, M, h => h
  | f + 1, M, h => by
    unfold dv
    split
    · rename_i h1
      have h' : M % s = 0 := Nat.eq_of_beq_eq_true h1
      refine dvd_dv hr hs f _ ?_
      rw [div_dvd h'] at h
      rcases hr.mul h with h2 | h2
      · exact absurd h2 hs
      · exact h2
    · exact h
theorem dvd_cof {r : Nat} (hr : Pr r) : ∀ l M, (∀ s ∈ l, ¬ r ∣ s) → r ∣ M → r ∣ cof l M
  | [], M, _, h => h
  | s :: l, M, hl, h => by
    unfold cof
    split
    · rw [force_eq]
      exact dvd_cof hr l _ (fun x hx => hl x (List.mem_cons_of_mem _ hx)) (dvd_dv hr (hl s (List.mem_cons_self ..)) 16 M h)
    · exact dvd_cof hr l _ (fun x hx => hl x (List.mem_cons_of_mem _ hx)) h

def okMin (p M : Nat) : List Nat → Bool
  | [] => true
  | r :: l => match Nat.beq (Nat.mod M r) (nat_lit 0) with
    | true => (not (inH p (Nat.div M r))) && okMin p M l
    | false => okMin p M l
theorem okMin_ok {p M : Nat} : ∀ l, okMin p M l = true → ∀ r ∈ l, r ∣ M → ¬ H p (M / r)
  | [], _, r, h, _ => by cases h
  | s :: l, h, r, hr, hd => by
    unfold okMin at h
    rw [List.mem_cons] at hr
    split at h
    · rw [Bool.and_eq_true] at h
      rcases hr with rfl | hr
      · intro hH
        have := inH_iff.2 hH
        have h1 := h.1
        change (!inH p (M / r)) = true at h1
        rw [this] at h1; cases h1
      · exact okMin_ok l h.2 r hr hd
    · rename_i hb
      rcases hr with rfl | hr
      · exfalso
        have : M % r = 0 := Nat.mod_eq_zero_of_dvd hd
        rw [show Nat.mod M r = 0 from this] at hb
        cases hb
      · exact okMin_ok l h r hr hd

def noSm (u : Nat) : List Nat → Bool
  | [] => true
  | r :: l => match Nat.beq (Nat.mod u r) (nat_lit 0) with
    | true => false
    | false => noSm u l
theorem noSm_iff {u : Nat} : ∀ l, noSm u l = true ↔ ∀ r ∈ l, ¬ r ∣ u
  | [] => by simp [noSm]
  | s :: l => by
    unfold noSm
    split
    · rename_i hb
      have h' : u % s = 0 := Nat.eq_of_beq_eq_true hb
      constructor
      · intro h; cases h
      · intro h; exact absurd (Nat.dvd_of_mod_eq_zero h') (h s (List.mem_cons_self ..))
    · rename_i hb
      rw [noSm_iff l]
      constructor
      · intro h r hr
        rw [List.mem_cons] at hr
        rcases hr with rfl | hr
        · intro hd
          rw [show Nat.mod u r = 0 from Nat.mod_eq_zero_of_dvd hd] at hb
          cases hb
        · exact h r hr
      · intro h r hr; exact h r (List.mem_cons_of_mem _ hr)

def okU (p M u : Nat) : Bool := Nat.beq u (nat_lit 1) || (noSm u sml && not (inH p (Nat.div M u)))
def okL (p M : Nat) : Bool := Nat.ble (nat_lit 1) M && (Nat.ble M (nat_lit 65535) && (inH p M && (okMin p M sml && force (cof sml M) (okU p M))))

theorem okL_ok {p M : Nat} (hp : 2 ≤ p) (h : okL p M = true) : 1 ≤ M ∧ ∀ x, H p x → M ∣ x := by
  simp only [okL, Bool.and_eq_true, Nat.ble_eq, force_eq] at h
  obtain ⟨h1, h2, h3, h4, h5⟩ := h
  refine ⟨h1, fun x hx => H.least hp h1 (inH_iff.1 h3) ?_ hx⟩
  intro r hr hd hH
  by_cases hs : r < 256
  · exact okMin_ok sml h4 r (hr.small hs) hd hH
  · have hu : r ∣ cof sml M := dvd_cof hr sml M (fun s hs' hd' => by
      have := sml_lt s hs'
      have := Nat.le_of_dvd (by omega) hd'
      omega) hd
    have hM := Nat.le_of_dvd (by omega) (cof_dvd sml M)
    have h0 : cof sml M ≠ 0 := fun h0 => by
      have := cof_dvd sml M; rw [h0] at this; have := Nat.eq_zero_of_zero_dvd this; omega
    have hle := Nat.le_of_dvd (by omega) hu
    have hr2 := hr.1
    simp only [okU, Bool.or_eq_true, Nat.beq_eq, Bool.and_eq_true] at h5
    rcases h5 with h5 | ⟨h5, h6⟩
    · have h5' : cof sml M = 1 := h5
      omega
    · have hpu := no_small (by omega) (Nat.lt_of_le_of_lt hM (Nat.lt_of_le_of_lt h2 (by decide))) ((noSm_iff sml).1 h5)
      have e : r = cof sml M := by
        apply Classical.byContradiction
        intro hne
        exact hpu.2 r hr2 (by omega) hu
      have h7 : (!inH p (M / cof sml M)) = true := h6
      rw [← e, inH_iff.2 hH] at h7
      cases h7

/-- A candidate for the least common exponent; okL tells whether it is. -/
def Lof (p : Nat) : Nat := force (Nat.sub p (nat_lit 1)) fun q => force (stripAll p sml q) fun M => force (cof sml q) fun u => match Nat.beq u (nat_lit 1) with | true => M | false => strip p u 2 M

/-! Powers of 2, by 8 bits at once. -/
def stp (n x b : Nat) : Nat := Nat.mod (Nat.mul (Nat.pow x (nat_lit 256)) (Nat.pow (nat_lit 2) b)) n
def pw (n e : Nat) : Nat := stp n (stp n (stp n (Nat.mod (Nat.pow (nat_lit 2) (Nat.div e (nat_lit 16777216))) n) (Nat.mod (Nat.div e (nat_lit 65536)) (nat_lit 256))) (Nat.mod (Nat.div e (nat_lit 256)) (nat_lit 256))) (Nat.mod e (nat_lit 256))

theorem stp_eq {n x a b : Nat} (h : x = 2 ^ a % n) : stp n x b = 2 ^ (a * 256 + b) % n := by
  show x ^ 256 * 2 ^ b % n = _
  rw [h, Nat.mul_mod, ← Nat.pow_mod, ← Nat.mul_mod, ← Nat.pow_mul, ← Nat.pow_add]

theorem pw_eq (n e : Nat) : pw n e = 2 ^ e % n := by
  unfold pw
  have h1 : Nat.mod (Nat.pow (nat_lit 2) (Nat.div e (nat_lit 16777216))) n = 2 ^ (e / 16777216) % n := rfl
  rw [stp_eq (stp_eq (stp_eq h1))]
  congr 2
  show ((e / 16777216 * 256 + e / 65536 % 256) * 256 + e / 256 % 256) * 256 + e % 256 = e
  omega

/-! The strong test, as a calculation. -/
def pq (n : Nat) : Nat → Nat → Nat → Nat → Nat
  | 0, _, _, r => r
  | f + 1, a, e, r => match Nat.beq e (nat_lit 0) with
    | true => r
    | false => match Nat.beq (Nat.mod e (nat_lit 2)) (nat_lit 1) with
      | true => pq n f (Nat.mod (Nat.mul a a) n) (Nat.div e (nat_lit 2)) (Nat.mod (Nat.mul r a) n)
      | false => pq n f (Nat.mod (Nat.mul a a) n) (Nat.div e (nat_lit 2)) r

theorem pq_eq (n : Nat) : ∀ (f a e r : Nat), e < 2 ^ f → pq n f a e r % n = r * a ^ e % n
  | 0, a, e, r, h => by
    obtain rfl : e = 0 := by simpa using h
    simp [pq]
  | f + 1, a, e, r, h => by
    have h2 : e / 2 < 2 ^ f := by rw [Nat.pow_succ] at h; omega
    have hsq : (a * a % n) ^ (e / 2) % n = (a * a) ^ (e / 2) % n := by rw [← Nat.pow_mod]
    unfold pq
    split
    · rename_i hb
      obtain rfl : e = 0 := Nat.eq_of_beq_eq_true hb
      simp
    · split
      · rename_i hb
        have ho : e % 2 = 1 := Nat.eq_of_beq_eq_true hb
        show pq n f (a * a % n) (e / 2) (r * a % n) % n = _
        rw [pq_eq n f _ _ _ h2, Nat.mul_mod, hsq, Nat.mod_mod, ← Nat.mul_mod, Nat.mul_assoc]
        congr 2
        rw [← Nat.pow_two, ← Nat.pow_mul, Nat.mul_comm a, ← Nat.pow_succ]
        congr 1
        omega
      · rename_i hb
        have ho : e % 2 = 0 := by
          rcases Nat.mod_two_eq_zero_or_one e with h0 | h0
          · exact h0
          · rw [show Nat.mod e 2 = 1 from h0] at hb; cases hb
        show pq n f (a * a % n) (e / 2) r % n = _
        rw [pq_eq n f _ _ _ h2, Nat.mul_mod, hsq, ← Nat.mul_mod]
        congr 2
        rw [← Nat.pow_two, ← Nat.pow_mul, show 2 * (e / 2) = e by omega]

def spl (n : Nat) : Nat → Nat → Bool
  | 0, _ => false
  | t + 1, x => Nat.beq x (Nat.sub n (nat_lit 1)) || spl n t (Nat.mod (Nat.mul x x) n)
theorem spl_ok {n b o : Nat} : ∀ (t j : Nat), (∃ i, j ≤ i ∧ i < j + t ∧ b ^ (o * 2 ^ i) % n = n - 1) → spl n t (b ^ (o * 2 ^ j) % n) = true
  | 0, j, ⟨i, h1, h2, _⟩ => by omega
  | t + 1, j, ⟨i, h1, h2, h3⟩ => by
    unfold spl
    rw [Bool.or_eq_true]
    by_cases e : i = j
    · left; rw [Nat.beq_eq, ← e]; exact h3
    · right
      show spl n t ((b ^ (o * 2 ^ j) % n) * (b ^ (o * 2 ^ j) % n) % n) = true
      rw [sq_step]
      exact spl_ok t (j + 1) ⟨i, by omega, by omega, h3⟩

def spE (n t x : Nat) : Bool := Nat.beq x (nat_lit 1) || spl n t x
def spGo (n b : Nat) : Nat → Nat → Nat → Bool
  | 0, _, _ => true
  | f + 1, o, t => match Nat.beq (Nat.mod o (nat_lit 2)) (nat_lit 0) with
    | true => spGo n b f (Nat.div o (nat_lit 2)) (Nat.succ t)
    | false => spE n t (Nat.mod (pq n 40 b o (nat_lit 1)) n)

theorem spGo_ok {n b : Nat} (hs : SP n b) (hn : n < 4294967296) : ∀ (f o t : Nat), n - 1 = o * 2 ^ t → spGo n b f o t = true
  | 0, _, _, _ => rfl
  | f + 1, o, t, h => by
    unfold spGo
    split
    · rename_i hb
      have h0 : o % 2 = 0 := Nat.eq_of_beq_eq_true hb
      refine spGo_ok hs hn f _ _ ?_
      show n - 1 = o / 2 * 2 ^ (t + 1)
      rw [h, Nat.pow_succ, Nat.mul_comm (2 ^ t) 2, ← Nat.mul_assoc]
      congr 1; omega
    · rename_i hb
      have ho : o % 2 = 1 := by
        rcases Nat.mod_two_eq_zero_or_one o with h0 | h0
        · rw [show Nat.mod o 2 = 0 from h0] at hb; cases hb
        · exact h0
      have h1 := (SP.iff h ho).1 hs
      have hle : o * 1 ≤ o * 2 ^ t := Nat.mul_le_mul_left o (Nat.two_pow_pos t)
      have e : Nat.mod (pq n 40 b o (nat_lit 1)) n = b ^ o % n := by
        have := pq_eq n 40 b o 1 (by omega)
        rw [Nat.one_mul] at this
        exact this
      rw [e]
      unfold spE
      rw [Bool.or_eq_true]
      rcases h1 with h1 | ⟨i, h2, h3⟩
      · left; rw [Nat.beq_eq]; exact h1
      · right
        have := spl_ok (n := n) (b := b) (o := o) t 0 ⟨i, by omega, by omega, h3⟩
        simpa using this

def bad (n : Nat) : Bool := match Nat.beq (pw n (Nat.sub n (nat_lit 1))) (nat_lit 1) with
  | false => true
  | true => not (spGo n (nat_lit 2) 40 (Nat.sub n (nat_lit 1)) (nat_lit 0) && (spGo n (nat_lit 7) 40 (Nat.sub n (nat_lit 1)) (nat_lit 0) && spGo n (nat_lit 61) 40 (Nat.sub n (nat_lit 1)) (nat_lit 0)))

theorem bad_ok {n : Nat} (h2 : 2 ≤ n) (hn : n < 4294967296) (hb : bad n = true) : ¬ Pass n := by
  rintro ⟨a, b, c⟩
  have e0 : n - 1 = (n - 1) * 2 ^ 0 := by simp
  have ea := spGo_ok a hn 40 (n - 1) 0 e0
  have eb := spGo_ok b hn 40 (n - 1) 0 e0
  have ec := spGo_ok c hn 40 (n - 1) 0 e0
  have e : Nat.beq (pw n (Nat.sub n (nat_lit 1))) (nat_lit 1) = true := by
    rw [Nat.beq_eq, pw_eq]; exact a.fermat h2
  unfold bad at hb
  rw [e] at hb
  change (!(spGo n 2 40 (n - 1) 0 && (spGo n 7 40 (n - 1) 0 && spGo n 61 40 (n - 1) 0))) = true at hb
  rw [ea, eb, ec] at hb
  cases hb

def en (D : Nat) : Nat → Nat → Bool
  | 0, _ => true
  | f + 1, n => bad n && en D f (Nat.add n D)
theorem en_ok {D : Nat} : ∀ f n, en D f n = true → ∀ j, j < f → bad (n + j * D) = true
  | 0, n, _, j, h => by omega
  | f + 1, n, h, j, hj => by
    unfold en at h
    rw [Bool.and_eq_true] at h
    rcases j with _ | j
    · simpa using h.1
    · have := en_ok f _ h.2 j (by omega)
      change bad (n + D + j * D) = true at this
      rw [Nat.add_mul, Nat.one_mul, Nat.add_comm (j * D) D, ← Nat.add_assoc]
      exact this

/-! Primes from 1024 to 65535: the cofactors are 1 modulo the exponent. -/
def b1c (p M : Nat) : Bool := okL p M && force (Nat.mul p M) fun D => en D (Nat.div (Nat.div (nat_lit 4294967295) p) M) (Nat.mul p (Nat.succ M))
def b1 (p : Nat) : Bool := match noSm p sml with
  | false => true
  | true => force (Lof p) (b1c p)
def lb1 : Nat → Nat → Bool
  | 0, _ => true
  | f + 1, p => force p fun p => b1 p && lb1 f (Nat.add p (nat_lit 2))

theorem b1_ok {p k : Nat} (hp : Pr p) (h1 : 256 ≤ p) (hb : b1 p = true) (hk : 2 ≤ k) (hn : p * k < 4294967296) : ¬ Pass (p * k) := by
  intro hpass
  have hp2 := hp.1
  have h4 : 3 ≤ p * k := by
    have := Nat.mul_le_mul h1 hk; omega
  unfold b1 at hb
  have hno : noSm p sml = true := (noSm_iff sml).2 fun r hr hd => by
    have := sml_lt r hr
    exact hp.2 r (by omega) (by omega) hd
  rw [hno] at hb
  change force (Lof p) (b1c p) = true at hb
  rw [force_eq] at hb
  generalize Lof p = M at hb
  unfold b1c at hb
  rw [Bool.and_eq_true, force_eq] at hb
  obtain ⟨hM1, hM⟩ := okL_ok hp2 hb.1
  obtain ⟨hc, _⟩ := hpass.cofactor hp (by omega) h4
  obtain ⟨j, hj⟩ := hM _ hc
  have hj0 : j ≠ 0 := fun h => by rw [h] at hj; omega
  obtain ⟨i, rfl⟩ : ∃ i, j = i + 1 := ⟨j - 1, by omega⟩
  have hke : k = M * (i + 1) + 1 := by omega
  have hJ : i < 4294967295 / p / M := by
    rw [Nat.lt_iff_add_one_le, Nat.le_div_iff_mul_le (by omega), Nat.le_div_iff_mul_le (by omega)]
    have h5 : (i + 1) * M * p ≤ k * p := Nat.mul_le_mul_right p (by rw [Nat.mul_comm]; omega)
    rw [Nat.mul_comm k p] at h5
    omega
  have hbad := en_ok _ _ hb.2 i hJ
  have e : Nat.mul p (Nat.succ M) + i * Nat.mul p M = p * k := by
    show p * (M + 1) + i * (p * M) = p * k
    rw [hke, Nat.mul_left_comm i p M, ← Nat.mul_add]
    congr 1
    rw [Nat.mul_add M, Nat.mul_comm i M]; omega
  rw [e] at hbad
  exact bad_ok (by omega) hn hbad hpass

theorem lb1_ok : ∀ f p, lb1 f p = true → ∀ j, j < f → b1 (p + j * 2) = true
  | 0, p, _, j, h => by omega
  | f + 1, p, h, j, hj => by
    unfold lb1 at h
    rw [force_eq, Bool.and_eq_true] at h
    rcases j with _ | j
    · simpa using h.1
    · have := lb1_ok f _ h.2 j (by omega)
      change b1 (p + 2 + j * 2) = true at this
      rw [show p + (j + 1) * 2 = p + 2 + j * 2 by omega]
      exact this
end Ob
