/- Words of 64 bits, the permutation; it is invertible. No Go. -/
namespace Oz
set_option linter.unusedVariables false
/-- Five words. -/
structure St where
  a : BitVec 64
  b : BitVec 64
  c : BitVec 64
  d : BitVec 64
  e : BitVec 64
theorem St.eq {x y : St} (h1 : x.a = y.a) (h2 : x.b = y.b) (h3 : x.c = y.c) (h4 : x.d = y.d) (h5 : x.e = y.e) : x = y := by
  cases x; cases y; simp_all
def rotr (x : BitVec 64) (k : Nat) : BitVec 64 := x >>> k ||| x <<< (64 - k)
def lin (x : BitVec 64) (i j : Nat) : BitVec 64 := x ^^^ rotr x i ^^^ rotr x j
def s1 (x : St) (k : BitVec 64) : St := ⟨x.a, x.b, x.c ^^^ k, x.d, x.e⟩
def s2 (x : St) : St := ⟨x.a ^^^ x.e, x.b, x.c ^^^ x.b, x.d, x.e ^^^ x.d⟩
def s3 (x : St) : St := ⟨x.a ^^^ (~~~x.b &&& x.c), x.b ^^^ (~~~x.c &&& x.d), x.c ^^^ (~~~x.d &&& x.e), x.d ^^^ (~~~x.e &&& x.a), x.e ^^^ (~~~x.a &&& x.b)⟩
def s4 (x : St) : St := ⟨x.a ^^^ x.e, x.b ^^^ x.a, ~~~x.c, x.d ^^^ x.c, x.e⟩
def s5 (x : St) : St := ⟨lin x.a 19 28, lin x.b 61 39, lin x.c 1 6, lin x.d 10 17, lin x.e 7 41⟩
def rnd (x : St) (k : BitVec 64) : St := s5 (s4 (s3 (s2 (s1 x k))))
/-- The constant of round i. -/
def cst (i : Nat) : BitVec 64 := BitVec.ofNat 64 (240 - 15 * i)
/-- k rounds, from round i on. -/
def prm (x : St) (i : Nat) : Nat → St
  | 0 => x
  | k + 1 => rnd (prm x i k) (cst (i + k))
def perm (x : St) (n : Nat) : St := prm x (12 - n) n

/-- The bits of a word, round and round. -/
def bt (x : BitVec 64) (n : Nat) : Bool := x.getLsbD (n % 64)
theorem bt_per (x : BitVec 64) (n k : Nat) : bt x (n + 64 * k) = bt x n := by unfold bt; rw [Nat.add_mul_mod_self_left]
theorem bt_inj {x y : BitVec 64} (h : ∀ n, bt x n = bt y n) : x = y := by
  apply BitVec.eq_of_getLsbD_eq
  intro i hi
  have := h i
  unfold bt at this
  rwa [Nat.mod_eq_of_lt hi] at this
theorem bt_rotr (x : BitVec 64) (k : Nat) (h0 : 0 < k) (h1 : k < 64) (n : Nat) : bt (rotr x k) n = bt x (n + k) := by
  unfold bt rotr
  have hn : n % 64 < 64 := Nat.mod_lt _ (by omega)
  generalize hm : n % 64 = m at hn
  have e : (n + k) % 64 = (m + k) % 64 := by omega
  rw [e]
  simp only [BitVec.getLsbD_or, BitVec.getLsbD_ushiftRight, BitVec.getLsbD_shiftLeft]
  by_cases h : m + k < 64
  · rw [Nat.mod_eq_of_lt h]
    have : m < 64 - k := by omega
    simp [this, Nat.add_comm k m]
  · have e2 : (m + k) % 64 = m - (64 - k) := by omega
    have e3 : x.getLsbD (k + m) = false := BitVec.getLsbD_of_ge x _ (by omega)
    have e4 : ¬ m < 64 - k := by omega
    rw [e2, e3]
    simp [hn, e4]
/-- x(n) + x(n + i) + x(n + j), over the field of two elements. -/
def L (f : Nat → Bool) (i j n : Nat) : Bool := f n ^^ (f (n + i) ^^ f (n + j))
theorem bt_lin (x : BitVec 64) (i j : Nat) (hi0 : 0 < i) (hi : i < 64) (hj0 : 0 < j) (hj : j < 64) : bt (lin x i j) = L (bt x) i j := by
  funext n
  unfold L
  rw [← bt_rotr x i hi0 hi, ← bt_rotr x j hj0 hj]
  unfold lin bt
  simp [BitVec.getLsbD_xor]
theorem LL (f : Nat → Bool) (i j : Nat) : L (L f i j) i j = L f (i + i) (j + j) := by
  funext n
  unfold L
  rw [show n + j + i = n + i + j from by omega, show n + i + i = n + (i + i) from by omega, show n + j + j = n + (j + j) from by omega]
  cases f n <;> cases f (n + i) <;> cases f (n + j) <;> cases f (n + i + j) <;> cases f (n + (i + i)) <;> cases f (n + (j + j)) <;> rfl
theorem lin_inj {x y : BitVec 64} {i j : Nat} (hi0 : 0 < i) (hi : i < 64) (hj0 : 0 < j) (hj : j < 64) (h : lin x i j = lin y i j) : x = y := by
  have h0 : L (bt x) i j = L (bt y) i j := by rw [← bt_lin x i j hi0 hi hj0 hj, ← bt_lin y i j hi0 hi hj0 hj, h]
  have step : ∀ {a b : Nat}, L (bt x) a b = L (bt y) a b → L (bt x) (a + a) (b + b) = L (bt y) (a + a) (b + b) := fun {a b} k => by rw [← LL, ← LL, k]
  have h6 := step (step (step (step (step (step h0)))))
  apply bt_inj
  intro n
  have h7 := congrFun h6 n
  unfold L at h7
  rw [show n + (i + i + (i + i) + (i + i + (i + i)) + (i + i + (i + i) + (i + i + (i + i))) + (i + i + (i + i) + (i + i + (i + i)) + (i + i + (i + i) + (i + i + (i + i)))) + (i + i + (i + i) + (i + i + (i + i)) + (i + i + (i + i) + (i + i + (i + i))) + (i + i + (i + i) + (i + i + (i + i)) + (i + i + (i + i) + (i + i + (i + i)))))) = n + 64 * i from by omega,
    show n + (j + j + (j + j) + (j + j + (j + j)) + (j + j + (j + j) + (j + j + (j + j))) + (j + j + (j + j) + (j + j + (j + j)) + (j + j + (j + j) + (j + j + (j + j)))) + (j + j + (j + j) + (j + j + (j + j)) + (j + j + (j + j) + (j + j + (j + j))) + (j + j + (j + j) + (j + j + (j + j)) + (j + j + (j + j) + (j + j + (j + j)))))) = n + 64 * j from by omega,
    bt_per, bt_per, bt_per, bt_per] at h7
  revert h7
  cases bt x n <;> cases bt y n <;> decide

theorem xr {a b k : BitVec 64} (h : a ^^^ k = b ^^^ k) : a = b := by
  have := congrArg (fun z => z ^^^ k) h
  simpa [BitVec.xor_assoc] using this
theorem nt {a b : BitVec 64} (h : ~~~a = ~~~b) : a = b := by
  have := congrArg (fun z => ~~~z) h
  simpa using this
theorem s1_inj {x y : St} {k : BitVec 64} (h : s1 x k = s1 y k) : x = y := by
  unfold s1 at h
  injection h with h1 h2 h3 h4 h5
  exact St.eq h1 h2 (xr h3) h4 h5
theorem s2_inj {x y : St} (h : s2 x = s2 y) : x = y := by
  unfold s2 at h
  injection h with h1 h2 h3 h4 h5
  have e5 : x.e = y.e := by rw [h4] at h5; exact xr h5
  rw [h2] at h3
  rw [e5] at h1
  exact St.eq (xr h1) h2 (xr h3) h4 e5
theorem s4_inj {x y : St} (h : s4 x = s4 y) : x = y := by
  unfold s4 at h
  injection h with h1 h2 h3 h4 h5
  have e1 : x.a = y.a := by rw [h5] at h1; exact xr h1
  have e3 := nt h3
  rw [e1] at h2
  rw [e3] at h4
  exact St.eq e1 (xr h2) e3 (xr h4) h5
theorem s5_inj {x y : St} (h : s5 x = s5 y) : x = y := by
  unfold s5 at h
  injection h with h1 h2 h3 h4 h5
  exact St.eq (lin_inj (by omega) (by omega) (by omega) (by omega) h1) (lin_inj (by omega) (by omega) (by omega) (by omega) h2) (lin_inj (by omega) (by omega) (by omega) (by omega) h3) (lin_inj (by omega) (by omega) (by omega) (by omega) h4) (lin_inj (by omega) (by omega) (by omega) (by omega) h5)
/-- The middle step, bit by bit. -/
theorem box : ∀ a b c d e a' b' c' d' e' : Bool, (a ^^ (!b && c)) = (a' ^^ (!b' && c')) → (b ^^ (!c && d)) = (b' ^^ (!c' && d')) → (c ^^ (!d && e)) = (c' ^^ (!d' && e')) → (d ^^ (!e && a)) = (d' ^^ (!e' && a')) → (e ^^ (!a && b)) = (e' ^^ (!a' && b')) → a = a' ∧ b = b' ∧ c = c' ∧ d = d' ∧ e = e' := by decide
theorem s3_inj {x y : St} (h : s3 x = s3 y) : x = y := by
  unfold s3 at h
  injection h with h1 h2 h3 h4 h5
  have hb : ∀ i, i < 64 → x.a.getLsbD i = y.a.getLsbD i ∧ x.b.getLsbD i = y.b.getLsbD i ∧ x.c.getLsbD i = y.c.getLsbD i ∧ x.d.getLsbD i = y.d.getLsbD i ∧ x.e.getLsbD i = y.e.getLsbD i := fun i hi => by
    have g1 := congrArg (fun z => z.getLsbD i) h1
    have g2 := congrArg (fun z => z.getLsbD i) h2
    have g3 := congrArg (fun z => z.getLsbD i) h3
    have g4 := congrArg (fun z => z.getLsbD i) h4
    have g5 := congrArg (fun z => z.getLsbD i) h5
    simp only [BitVec.getLsbD_xor, BitVec.getLsbD_and, BitVec.getLsbD_not, hi, decide_true, Bool.true_and] at g1 g2 g3 g4 g5
    exact box _ _ _ _ _ _ _ _ _ _ g1 g2 g3 g4 g5
  exact St.eq (BitVec.eq_of_getLsbD_eq fun i hi => (hb i hi).1) (BitVec.eq_of_getLsbD_eq fun i hi => (hb i hi).2.1) (BitVec.eq_of_getLsbD_eq fun i hi => (hb i hi).2.2.1) (BitVec.eq_of_getLsbD_eq fun i hi => (hb i hi).2.2.2.1) (BitVec.eq_of_getLsbD_eq fun i hi => (hb i hi).2.2.2.2)
theorem rnd_inj {x y : St} {k : BitVec 64} (h : rnd x k = rnd y k) : x = y := s1_inj (s2_inj (s3_inj (s4_inj (s5_inj h))))
theorem prm_inj {x y : St} {i : Nat} : ∀ {k : Nat}, prm x i k = prm y i k → x = y
  | 0, h => h
  | k + 1, h => prm_inj (rnd_inj h)
theorem perm_inj {x y : St} {n : Nat} (h : perm x n = perm y n) : x = y := prm_inj h
end Oz
