/- Polynomials as lists of integers: coefficients, sums, products, equality modulo m, normal forms, values. No Go here. -/
namespace Op
set_option linter.unusedVariables false

/-- The coefficient of x^i. -/
def cf : List Int → Nat → Int
  | [], _ => 0
  | x :: _, 0 => x
  | _ :: l, i + 1 => cf l i
@[simp] theorem cf_nil (i : Nat) : cf [] i = 0 := by cases i <;> rfl
@[simp] theorem cf_zero (x : Int) (l : List Int) : cf (x :: l) 0 = x := rfl
@[simp] theorem cf_succ (x : Int) (l : List Int) (i : Nat) : cf (x :: l) (i + 1) = cf l i := rfl
theorem cf_at (l : List Int) : ∀ i, l[i]?.getD 0 = cf l i := by
  induction l with
  | nil => intro i; simp
  | cons x l ih => intro i; cases i with
    | zero => rfl
    | succ i => simpa using ih i
theorem cf_out {l : List Int} : ∀ {i : Nat}, l.length ≤ i → cf l i = 0 := by
  induction l with
  | nil => intro i _; simp
  | cons x l ih => intro i h; cases i with
    | zero => simp at h
    | succ i => exact ih (by simp at h; omega)
theorem cf_mem {l : List Int} {i : Nat} (h : i < l.length) : cf l i ∈ l := by
  rw [← cf_at, List.getElem?_eq_getElem h]; exact List.getElem_mem h
theorem cf_map (f : Int → Int) (h0 : f 0 = 0) (l : List Int) : ∀ i, cf (l.map f) i = f (cf l i) := by
  induction l with
  | nil => intro i; simp [h0]
  | cons x l ih => intro i; cases i with
    | zero => rfl
    | succ i => exact ih i
theorem cf_append (a b : List Int) : ∀ i, cf (a ++ b) i = if i < a.length then cf a i else cf b (i - a.length) := by
  induction a with
  | nil => intro i; simp
  | cons x a ih => intro i; cases i with
    | zero => simp
    | succ i =>
      show cf (a ++ b) i = _
      rw [ih i]
      simp only [List.length_cons, cf_succ, Nat.add_lt_add_iff_right, Nat.add_sub_add_right]
theorem cf_take (l : List Int) (n : Nat) : ∀ i, cf (l.take n) i = if i < n then cf l i else 0 := by
  induction l generalizing n with
  | nil => intro i; simp
  | cons x l ih => intro i; cases n with
    | zero => simp
    | succ n => cases i with
      | zero => simp
      | succ i => show cf (l.take n) i = _; rw [ih n i]; simp
theorem cf_drop (l : List Int) (n : Nat) : ∀ i, cf (l.drop n) i = cf l (n + i) := by
  induction l generalizing n with
  | nil => intro i; simp
  | cons x l ih => intro i; cases n with
    | zero => simp
    | succ n => show cf (l.drop n) i = _; rw [ih n i, Nat.add_right_comm]; rfl
theorem ext_cf : ∀ {a b : List Int}, a.length = b.length → (∀ i, cf a i = cf b i) → a = b
  | [], [], _, _ => rfl
  | [], _ :: _, h, _ => by simp at h
  | _ :: _, [], h, _ => by simp at h
  | x :: a, y :: b, h, k => by
    have h0 : x = y := k 0
    have h1 : a = b := ext_cf (by simpa using h) (fun i => k (i + 1))
    rw [h0, h1]

/-- The zeros at the end left out. -/
def tz : List Int → List Int
  | [] => []
  | d :: l => if d = 0 ∧ tz l = [] then [] else d :: tz l
theorem tz_len : ∀ l, (tz l).length ≤ l.length
  | [] => Nat.le_refl _
  | d :: l => by
    have := tz_len l
    unfold tz
    split
    · simp
    · simp; omega
theorem cf_tz : ∀ (l : List Int) i, cf (tz l) i = cf l i
  | [], i => rfl
  | d :: l, i => by
    have ih := cf_tz l
    unfold tz
    split
    · rename_i h
      cases i with
      | zero => simp [h.1]
      | succ i => rw [cf_succ, ← ih i, h.2]; simp
    · cases i with
      | zero => rfl
      | succ i => exact ih i
theorem tz_tz : ∀ l, tz (tz l) = tz l
  | [] => rfl
  | d :: l => by
    have ih := tz_tz l
    rw [tz]
    split
    · rfl
    · rename_i h
      rw [tz, ih, if_neg h]
theorem tz_mem {x : Int} : ∀ {l : List Int}, x ∈ tz l → x ∈ l
  | [], h => h
  | d :: l, h => by
    unfold tz at h
    split at h
    · cases h
    · rw [List.mem_cons] at h
      rcases h with rfl | h
      · exact List.mem_cons_self ..
      · exact List.mem_cons_of_mem _ (tz_mem h)
theorem tz_nil : ∀ {l : List Int}, (∀ i, cf l i = 0) → tz l = []
  | [], _ => rfl
  | d :: l, h => by
    rw [tz, if_pos ⟨h 0, tz_nil (fun i => h (i + 1))⟩]
theorem tz_cong : ∀ {a b : List Int}, (∀ i, cf a i = cf b i) → tz a = tz b
  | [], b, h => by rw [tz_nil (l := b) (fun i => by rw [← h i]; simp)]; rfl
  | x :: a, [], h => by rw [tz_nil (l := x :: a) (fun i => by rw [h i]; simp)]; rfl
  | x :: a, y :: b, h => by
    have h0 : x = y := h 0
    have h1 := tz_cong (a := a) (b := b) (fun i => h (i + 1))
    rw [tz, tz, h0, h1]
theorem tz_last : ∀ {l : List Int}, tz l = l → l ≠ [] → cf l (l.length - 1) ≠ 0
  | [], _, h => absurd rfl h
  | [d], h, _ => by
    intro hd
    simp only [List.length_cons, List.length_nil, cf_zero, Nat.zero_add, Nat.sub_self] at hd
    rw [tz, if_pos ⟨hd, rfl⟩] at h
    cases h
  | d :: e :: l, h, _ => by
    have h1 : tz (e :: l) = e :: l := by
      rw [tz] at h
      split at h
      · cases h
      · exact (List.cons.inj h).2
    have := tz_last h1 (by simp)
    simpa using this
theorem tz_id : ∀ {l : List Int}, (l ≠ [] → cf l (l.length - 1) ≠ 0) → tz l = l
  | [], _ => rfl
  | [d], h => by
    have hd : d ≠ 0 := h (by simp)
    rw [tz, if_neg (fun hh => hd hh.1)]; rfl
  | d :: e :: l, h => by
    have h1 : tz (e :: l) = e :: l := tz_id (fun _ => by have := h (by simp); simpa using this)
    rw [tz, h1, if_neg (fun hh => by simpa using hh.2)]
theorem tz_take_zero {l : List Int} {j : Nat} (hz : cf l j = 0) : tz (l.take (j + 1)) = tz (l.take j) := by
  apply tz_cong
  intro i
  rw [cf_take, cf_take]
  by_cases h : i < j
  · rw [if_pos (by omega), if_pos h]
  · rw [if_neg h]
    split
    · have : i = j := by omega
      rw [this, hz]
    · rfl
theorem tz_take_last {l : List Int} {j : Nat} (h : j < l.length) (hz : cf l j ≠ 0) : tz (l.take (j + 1)) = l.take (j + 1) := by
  apply tz_id
  intro _
  have : (l.take (j + 1)).length = j + 1 := by rw [List.length_take]; omega
  rw [this, cf_take, if_pos (by omega)]
  simpa using hz

/-- Sums. -/
def S : Nat → (Nat → Int) → Int
  | 0, _ => 0
  | n + 1, f => S n f + f n
theorem S_cong {f g : Nat → Int} : ∀ {n : Nat}, (∀ k, k < n → f k = g k) → S n f = S n g
  | 0, _ => rfl
  | n + 1, h => by rw [S, S, S_cong (fun k hk => h k (by omega)), h n (by omega)]
theorem S_add (f g : Nat → Int) : ∀ n, S n (fun k => f k + g k) = S n f + S n g
  | 0 => rfl
  | n + 1 => by rw [S, S, S, S_add f g n]; omega
theorem S_mul (c : Int) (f : Nat → Int) : ∀ n, S n (fun k => c * f k) = c * S n f
  | 0 => (Int.mul_zero c).symm
  | n + 1 => by rw [S, S, S_mul c f n, Int.mul_add]
theorem S_left (f : Nat → Int) : ∀ n, S (n + 1) f = f 0 + S n (fun k => f (k + 1))
  | 0 => by simp [S]
  | n + 1 => by rw [S, S_left f n]; simp only [S]; omega
theorem S_dvd {m : Int} {f : Nat → Int} : ∀ {n : Nat}, (∀ k, k < n → m ∣ f k) → m ∣ S n f
  | 0, _ => ⟨0, (Int.mul_zero m).symm⟩
  | n + 1, h => Int.dvd_add (S_dvd (fun k hk => h k (by omega))) (h n (by omega))
theorem S_sub (f g : Nat → Int) : ∀ n, S n (fun k => f k - g k) = S n f - S n g
  | 0 => rfl
  | n + 1 => by rw [S, S, S, S_sub f g n]; omega
theorem S_one {m : Int} {f : Nat → Int} {s : Nat} : ∀ {n : Nat}, s < n → (∀ k, k < n → k ≠ s → m ∣ f k) → m ∣ S n f - f s
  | 0, h, _ => by omega
  | n + 1, h, hk => by
    rw [S]
    by_cases e : s = n
    · subst e
      have := S_dvd (m := m) (f := f) (n := s) (fun k h' => hk k (by omega) (by omega))
      have e2 : S s f + f s - f s = S s f := by omega
      rw [e2]; exact this
    · have h1 := S_one (n := n) (m := m) (f := f) (s := s) (by omega) (fun k h' h'' => hk k (by omega) h'')
      have h2 := hk n (by omega) (fun h => e h.symm)
      have e2 : S n f + f n - f s = (S n f - f s) + f n := by omega
      rw [e2]; exact Int.dvd_add h1 h2

/-- Sum, multiple and product of polynomials. -/
def add : List Int → List Int → List Int
  | [], b => b
  | x :: a, [] => x :: a
  | x :: a, y :: b => (x + y) :: add a b
def sc (k : Int) (l : List Int) : List Int := l.map (k * ·)
def mul : List Int → List Int → List Int
  | [], _ => []
  | x :: a, b => add (sc x b) (0 :: mul a b)
@[simp] theorem cf_add : ∀ (a b : List Int) i, cf (add a b) i = cf a i + cf b i
  | [], b, i => by simp [add]
  | x :: a, [], i => by simp [add]
  | x :: a, y :: b, i => by
    cases i with
    | zero => rfl
    | succ i => exact cf_add a b i
@[simp] theorem cf_sc (k : Int) (l : List Int) (i : Nat) : cf (sc k l) i = k * cf l i := cf_map _ (Int.mul_zero k) l i
@[simp] theorem cf_mul_nil (b : List Int) (i : Nat) : cf (mul [] b) i = 0 := by simp [mul]
theorem cf_mul_zero (x : Int) (a b : List Int) : cf (mul (x :: a) b) 0 = x * cf b 0 := by simp [mul]
theorem cf_mul_succ (x : Int) (a b : List Int) (i : Nat) : cf (mul (x :: a) b) (i + 1) = x * cf b (i + 1) + cf (mul a b) i := by simp [mul]
theorem add_len : ∀ (a b : List Int), (add a b).length = max a.length b.length
  | [], b => by simp [add]
  | x :: a, [] => by simp [add]
  | x :: a, y :: b => by simp [add, add_len a b]
theorem sc_len (k : Int) (l : List Int) : (sc k l).length = l.length := by simp [sc]
theorem mul_len : ∀ (a b : List Int), (mul a b).length ≤ a.length + b.length
  | [], b => by simp [mul]
  | x :: a, b => by
    have := mul_len a b
    simp only [mul, add_len, sc_len, List.length_cons]; omega
/-- the product by its sums -/
theorem cf_mul (b : List Int) : ∀ (a : List Int) i, cf (mul a b) i = S (i + 1) (fun k => cf a k * cf b (i - k))
  | [], i => by
    rw [cf_mul_nil]
    have : S (i + 1) (fun k => cf [] k * cf b (i - k)) = S (i + 1) (fun k => 0 * 0) := S_cong (fun k _ => by simp)
    rw [this, S_mul 0 (fun _ => 0)]; simp
  | x :: a, 0 => by rw [cf_mul_zero]; simp [S]
  | x :: a, i + 1 => by
    rw [cf_mul_succ, cf_mul b a i, S_left (fun k => cf (x :: a) k * cf b (i + 1 - k))]
    simp only [cf_zero, Nat.sub_zero, cf_succ, Nat.add_sub_add_right]
theorem cf_mul_out {a b : List Int} {i : Nat} (h : a.length + b.length ≤ i + 1) : cf (mul a b) i = 0 := by
  rw [cf_mul]
  have : S (i + 1) (fun k => cf a k * cf b (i - k)) = S (i + 1) (fun k => 0 * 0) := S_cong (fun k hk => by
    by_cases h1 : a.length ≤ k
    · rw [cf_out h1]; simp
    · rw [cf_out (l := b) (i := i - k) (by omega)]; simp)
  rw [this, S_mul 0 (fun _ => 0)]; simp

theorem mul_add_left (a b c : List Int) (i : Nat) : cf (mul (add a b) c) i = cf (mul a c) i + cf (mul b c) i := by
  rw [cf_mul, cf_mul, cf_mul, ← S_add]
  exact S_cong (fun k _ => by rw [cf_add, Int.add_mul])
theorem mul_add_right (a b c : List Int) (i : Nat) : cf (mul c (add a b)) i = cf (mul c a) i + cf (mul c b) i := by
  rw [cf_mul, cf_mul, cf_mul, ← S_add]
  exact S_cong (fun k _ => by rw [cf_add, Int.mul_add])
theorem mul_sc_left (k : Int) (a c : List Int) (i : Nat) : cf (mul (sc k a) c) i = k * cf (mul a c) i := by
  rw [cf_mul, cf_mul, ← S_mul]
  exact S_cong (fun j _ => by rw [cf_sc, Int.mul_assoc])
theorem mul_sc_right (k : Int) (a c : List Int) (i : Nat) : cf (mul a (sc k c)) i = k * cf (mul a c) i := by
  rw [cf_mul, cf_mul, ← S_mul]
  exact S_cong (fun j _ => by rw [cf_sc]; rw [← Int.mul_assoc, ← Int.mul_assoc, Int.mul_comm k])
theorem mul_shift_left (a c : List Int) : ∀ (i : Nat), cf (mul (0 :: a) c) i = cf (0 :: mul a c) i
  | 0 => by rw [cf_mul_zero]; simp
  | i + 1 => by rw [cf_mul_succ]; simp
theorem mul_congr {a a' b b' : List Int} (h : ∀ i, cf a i = cf a' i) (k : ∀ i, cf b i = cf b' i) (i : Nat) : cf (mul a b) i = cf (mul a' b') i := by
  rw [cf_mul, cf_mul]; exact S_cong (fun j _ => by rw [h, k])
theorem cf_mul_right_nil (a : List Int) (i : Nat) : cf (mul a []) i = 0 := by
  induction a generalizing i with
  | nil => simp
  | cons x a ih => cases i with
    | zero => rw [cf_mul_zero]; simp
    | succ i => rw [cf_mul_succ, ih]; simp
theorem cf_mul_right_succ (y : Int) (b : List Int) : ∀ (a : List Int) (i : Nat), cf (mul a (y :: b)) (i + 1) = cf a (i + 1) * y + cf (mul a b) i
  | [], i => by simp
  | x :: a, 0 => by
    rw [cf_mul_succ, cf_mul_zero]
    cases a with
    | nil => simp
    | cons z a => rw [cf_mul_zero]; simp; rw [Int.add_comm]
  | x :: a, i + 1 => by
    rw [cf_mul_succ, cf_mul_right_succ y b a i, cf_mul_succ]
    simp only [cf_succ]; omega
theorem cf_mul_right_zero (y : Int) (b : List Int) (a : List Int) : cf (mul a (y :: b)) 0 = cf a 0 * y := by
  cases a with
  | nil => simp
  | cons x a => rw [cf_mul_zero]; rfl
theorem mul_comm' : ∀ (a b : List Int) (i : Nat), cf (mul a b) i = cf (mul b a) i
  | [], b, i => by rw [cf_mul_right_nil]; simp
  | x :: a, b, 0 => by rw [cf_mul_zero, cf_mul_right_zero, Int.mul_comm]
  | x :: a, b, i + 1 => by rw [cf_mul_succ, cf_mul_right_succ, mul_comm' a b i, Int.mul_comm]
theorem mul_assoc' (b c : List Int) : ∀ (a : List Int) (i : Nat), cf (mul (mul a b) c) i = cf (mul a (mul b c)) i
  | [], i => by simp [mul]
  | x :: a, i => by
    have h : ∀ j, cf (mul (x :: a) b) j = cf (add (sc x b) (0 :: mul a b)) j := fun j => rfl
    rw [mul_congr (b := c) h (fun _ => rfl), mul_add_left, mul_sc_left, mul_shift_left]
    cases i with
    | zero => rw [cf_mul_zero]; simp
    | succ i => rw [cf_mul_succ, cf_succ, mul_assoc' b c a i]

/-- Equal modulo m. -/
def Cg (m : Int) (a b : List Int) : Prop := ∀ i, m ∣ cf a i - cf b i
theorem Cg.refl (m : Int) (a : List Int) : Cg m a a := fun i => by rw [Int.sub_self]; exact ⟨0, (Int.mul_zero m).symm⟩
theorem Cg.of {m : Int} {a b : List Int} (h : ∀ i, cf a i = cf b i) : Cg m a b := fun i => by rw [h, Int.sub_self]; exact ⟨0, (Int.mul_zero m).symm⟩
theorem Cg.symm {m : Int} {a b : List Int} (h : Cg m a b) : Cg m b a := fun i => by
  have := Int.dvd_neg.2 (h i)
  have e : cf b i - cf a i = -(cf a i - cf b i) := by omega
  rw [e]; exact this
theorem Cg.trans {m : Int} {a b c : List Int} (h : Cg m a b) (k : Cg m b c) : Cg m a c := fun i => by
  have e : cf a i - cf c i = (cf a i - cf b i) + (cf b i - cf c i) := by omega
  rw [e]; exact Int.dvd_add (h i) (k i)
theorem Cg.add {m : Int} {a b c d : List Int} (h : Cg m a b) (k : Cg m c d) : Cg m (add a c) (add b d) := fun i => by
  rw [cf_add, cf_add]
  have e : cf a i + cf c i - (cf b i + cf d i) = (cf a i - cf b i) + (cf c i - cf d i) := by omega
  rw [e]; exact Int.dvd_add (h i) (k i)
theorem Cg.sc {m : Int} {a b : List Int} (k : Int) (h : Cg m a b) : Cg m (sc k a) (sc k b) := fun i => by
  rw [cf_sc, cf_sc, ← Int.mul_sub]; exact Int.dvd_mul_of_dvd_right (h i)
theorem Cg.mul {m : Int} {a b c d : List Int} (h : Cg m a b) (k : Cg m c d) : Cg m (mul a c) (mul b d) := fun i => by
  rw [cf_mul, cf_mul, ← S_sub]
  apply S_dvd
  intro j _
  have e : cf a j * cf c (i - j) - cf b j * cf d (i - j) = (cf a j - cf b j) * cf c (i - j) + cf b j * (cf c (i - j) - cf d (i - j)) := by
    rw [Int.sub_mul, Int.mul_sub]; omega
  rw [e]
  exact Int.dvd_add (Int.dvd_mul_of_dvd_left (h j)) (Int.dvd_mul_of_dvd_right (k _))
theorem Cg.scm {m k k' : Int} (a : List Int) (h : m ∣ k - k') : Cg m (Op.sc k a) (Op.sc k' a) := fun i => by
  rw [cf_sc, cf_sc, ← Int.sub_mul]; exact Int.dvd_mul_of_dvd_left h

/-- Residues modulo m without zeros at the end. -/
def Rs (m : Int) (l : List Int) : Prop := ∀ x ∈ l, 0 ≤ x ∧ x < m
def Nf (m : Int) (l : List Int) : Prop := Rs m l ∧ tz l = l
def red (m : Int) (l : List Int) : List Int := l.map (· % m)
def nf (m : Int) (l : List Int) : List Int := tz (red m l)
theorem cf_red (m : Int) (l : List Int) (i : Nat) : cf (red m l) i = cf l i % m := cf_map _ (Int.zero_emod m) l i
theorem red_len (m : Int) (l : List Int) : (red m l).length = l.length := by simp [red]
theorem red_rs {m : Int} (hm : 0 < m) (l : List Int) : Rs m (red m l) := fun x hx => by
  simp only [red, List.mem_map] at hx
  obtain ⟨y, _, rfl⟩ := hx
  exact ⟨Int.emod_nonneg _ (by omega), Int.emod_lt_of_pos _ hm⟩
theorem red_cg (m : Int) (l : List Int) : Cg m (red m l) l := fun i => by
  rw [cf_red]
  exact ⟨-(cf l i / m), by have := Int.emod_add_mul_ediv (cf l i) m; rw [Int.mul_neg]; omega⟩
theorem nf_nf {m : Int} (hm : 0 < m) (l : List Int) : Nf m (nf m l) := ⟨fun x hx => red_rs hm l x (tz_mem hx), tz_tz _⟩
theorem nf_cg (m : Int) (l : List Int) : Cg m (nf m l) l := fun i => by
  rw [nf, cf_tz]; exact red_cg m l i
theorem nf_len (m : Int) (l : List Int) : (nf m l).length ≤ l.length := by
  have := tz_len (red m l); rw [red_len] at this; exact this
theorem rs_cf {m : Int} (hm : 0 < m) {l : List Int} (h : Rs m l) (i : Nat) : 0 ≤ cf l i ∧ cf l i < m := by
  by_cases hi : i < l.length
  · exact h _ (cf_mem hi)
  · rw [cf_out (by omega)]; exact ⟨Int.le_refl _, hm⟩
theorem dvd_small {m x y : Int} (h : m ∣ x - y) (hx : 0 ≤ x ∧ x < m) (hy : 0 ≤ y ∧ y < m) : x = y := by
  have h2 : x % m = y % m := Int.emod_eq_emod_iff_emod_sub_eq_zero.2 (Int.emod_eq_zero_of_dvd h)
  rwa [Int.emod_eq_of_lt hx.1 hx.2, Int.emod_eq_of_lt hy.1 hy.2] at h2
theorem rs_eq {m : Int} (hm : 0 < m) {a b : List Int} (ha : Rs m a) (hb : Rs m b) (h : Cg m a b) (i : Nat) : cf a i = cf b i :=
  dvd_small (h i) (rs_cf hm ha i) (rs_cf hm hb i)
theorem nf_eq {m : Int} (hm : 0 < m) {a b : List Int} (ha : Nf m a) (hb : Nf m b) (h : Cg m a b) : a = b := by
  rw [← ha.2, ← hb.2]; exact tz_cong (rs_eq hm ha.1 hb.1 h)
theorem nf_iff {m : Int} (hm : 0 < m) {a b : List Int} (h : Cg m a b) : nf m a = nf m b :=
  nf_eq hm (nf_nf hm a) (nf_nf hm b) (((nf_cg m a).trans h).trans (nf_cg m b).symm)
theorem nf_self {m : Int} (hm : 0 < m) {a : List Int} (h : Nf m a) : nf m a = a := nf_eq hm (nf_nf hm a) h (nf_cg m a)
theorem nf_is {m : Int} (hm : 0 < m) {a b : List Int} (ha : Nf m a) (h : Cg m a b) : a = nf m b := nf_eq hm ha (nf_nf hm b) (h.trans (nf_cg m b).symm)
theorem nf_nil (m : Int) : nf m [] = [] := rfl
theorem Nf.nil (m : Int) : Nf m [] := ⟨fun x hx => (by cases hx), rfl⟩
theorem nf_short {m : Int} (hm : 0 < m) {a b : List Int} (ha : Nf m a) (h : Cg m a b) : a.length ≤ b.length := by
  rw [nf_is hm ha h]; exact nf_len m b

/-- Values. -/
def ev : List Int → Int → Int
  | [], _ => 0
  | c :: l, x => c + x * ev l x
theorem ev_add (x : Int) : ∀ a b, ev (add a b) x = ev a x + ev b x
  | [], b => by simp [add, ev]
  | c :: a, [] => by simp [add, ev]
  | c :: a, d :: b => by simp only [add, ev, ev_add x a b, Int.mul_add]; omega
theorem ev_sc (k x : Int) : ∀ a, ev (sc k a) x = k * ev a x
  | [] => by simp [sc, ev]
  | c :: a => by
    have := ev_sc k x a
    simp only [sc, List.map_cons, ev] at this ⊢
    rw [this, Int.mul_add, ← Int.mul_assoc, ← Int.mul_assoc, Int.mul_comm x k]
theorem ev_mul (x : Int) : ∀ a b, ev (mul a b) x = ev a x * ev b x
  | [], b => by simp [mul, ev]
  | c :: a, b => by
    rw [mul, ev_add, ev_sc]
    simp only [ev]
    rw [ev_mul x a b, Int.add_mul, Int.mul_assoc]; omega
theorem ev_cg {m : Int} (x : Int) : ∀ {a b : List Int}, Cg m a b → m ∣ ev a x - ev b x
  | [], [], _ => by simp [ev]
  | c :: a, [], h => by
    have h1 := ev_cg x (a := a) (b := []) (fun i => by have := h (i + 1); simpa using this)
    have h0 := h 0
    simp only [ev, cf_zero, cf_nil] at h0 h1 ⊢
    have e : c + x * ev a x - 0 = (c - 0) + x * (ev a x - 0) := by rw [Int.sub_zero, Int.sub_zero, Int.sub_zero]
    rw [e]; exact Int.dvd_add h0 (Int.dvd_mul_of_dvd_right h1)
  | [], d :: b, h => by
    have h1 := ev_cg x (a := []) (b := b) (fun i => by have := h (i + 1); simpa using this)
    have h0 := h 0
    simp only [ev, cf_zero, cf_nil] at h0 h1 ⊢
    have e : 0 - (d + x * ev b x) = (0 - d) + x * (0 - ev b x) := by rw [Int.mul_sub]; omega
    rw [e]; exact Int.dvd_add h0 (Int.dvd_mul_of_dvd_right h1)
  | c :: a, d :: b, h => by
    have h1 := ev_cg x (a := a) (b := b) (fun i => h (i + 1))
    have h0 := h 0
    simp only [ev, cf_zero] at h0 h1 ⊢
    have e : c + x * ev a x - (d + x * ev b x) = (c - d) + x * (ev a x - ev b x) := by rw [Int.mul_sub]; omega
    rw [e]; exact Int.dvd_add h0 (Int.dvd_mul_of_dvd_right h1)
end Op
