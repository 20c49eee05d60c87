import Derived.Test.YtfmmkdmnondomaaLMA
import Derived.Laws.MakeOwn
import Derived.Maps.AppendAt
import Derived.Lib.SliceRun
import Derived.Laws.CopyOwn
/- Polynomials as lists of integers: coefficients, sums, products, equality modulo m, normal forms, values. No Go here. -/
namespace Op
set_option linter.unusedVariables false

/-- The coefficient of x^i. -/
def cf : List Int → Nat → Int
  | [], _ => 0
  | x :: _, 0 => x
  | _ :: l, i + 1 => cf l i
@[simp] theorem cf_nil (i : Nat) : cf [] i = 0 := by cases i <;> rfl
@[simp] theorem cf_zero (x : Int) (l : List Int) : cf (x :: l) 0 = x := rfl
@[simp] theorem cf_succ (x : Int) (l : List Int) (i : Nat) : cf (x :: l) (i + 1) = cf l i := rfl
theorem cf_at (l : List Int) : ∀ i, l[i]?.getD 0 = cf l i := by
  induction l with
  | nil => intro i; simp
  | cons x l ih => intro i; cases i with
    | zero => rfl
    | succ i => simpa using ih i
theorem cf_out {l : List Int} : ∀ {i : Nat}, l.length ≤ i → cf l i = 0 := by
  induction l with
  | nil => intro i _; simp
  | cons x l ih => intro i h; cases i with
    | zero => simp at h
    | succ i => exact ih (by simp at h; omega)
theorem cf_mem {l : List Int} {i : Nat} (h : i < l.length) : cf l i ∈ l := by
  rw [← cf_at, List.getElem?_eq_getElem h]; exact List.getElem_mem h
theorem cf_map (f : Int → Int) (h0 : f 0 = 0) (l : List Int) : ∀ i, cf (l.map f) i = f (cf l i) := by
  induction l with
  | nil => intro i; simp [h0]
  | cons x l ih => intro i; cases i with
    | zero => rfl
    | succ i => exact ih i
theorem cf_append (a b : List Int) : ∀ i, cf (a ++ b) i = if i < a.length then cf a i else cf b (i - a.length) := by
  induction a with
  | nil => intro i; simp
  | cons x a ih => intro i; cases i with
    | zero => simp
    | succ i =>
      show cf (a ++ b) i = _
      rw [ih i]
      simp only [List.length_cons, cf_succ, Nat.add_lt_add_iff_right, Nat.add_sub_add_right]
theorem cf_take (l : List Int) (n : Nat) : ∀ i, cf (l.take n) i = if i < n then cf l i else 0 := by
  induction l generalizing n with
  | nil => intro i; simp
  | cons x l ih => intro i; cases n with
    | zero => simp
    | succ n => cases i with
      | zero => simp
      | succ i => show cf (l.take n) i = _; rw [ih n i]; simp
theorem cf_drop (l : List Int) (n : Nat) : ∀ i, cf (l.drop n) i = cf l (n + i) := by
  induction l generalizing n with
  | nil => intro i; simp
  | cons x l ih => intro i; cases n with
    | zero => simp
    | succ n => show cf (l.drop n) i = _; rw [ih n i, Nat.add_right_comm]; rfl
theorem ext_cf : ∀ {a b : List Int}, a.length = b.length → (∀ i, cf a i = cf b i) → a = b
  | [], [], _, _ => rfl
  | [], _ :: _, h, _ => by simp at h
  | _ :: _, [], h, _ => by simp at h
  | x :: a, y :: b, h, k => by
    have h0 : x = y := k 0
    have h1 : a = b := ext_cf (by simpa using h) (fun i => k (i + 1))
    rw [h0, h1]

/-- The zeros at the end left out. -/
def tz : List Int → List Int
  | [] => []
  | d :: l => if d = 0 ∧ tz l = [] then [] else d :: tz l
theorem tz_len : ∀ l, (tz l).length ≤ l.length
  | [] => Nat.le_refl _
  | d :: l => by
    have := tz_len l
    unfold tz
    split
    · simp
    · simp; omega
theorem cf_tz : ∀ (l : List Int) i, cf (tz l) i = cf l i
  | [], i => rfl
  | d :: l, i => by
    have ih := cf_tz l
    unfold tz
    split
    · rename_i h
      cases i with
      | zero => simp [h.1]
      | succ i => rw [cf_succ, ← ih i, h.2]; simp
    · cases i with
      | zero => rfl
      | succ i => exact ih i
theorem tz_tz : ∀ l, tz (tz l) = tz l
  | [] => rfl
  | d :: l => by
    have ih := tz_tz l
    rw [tz]
    split
    · rfl
    · rename_i h
      rw [tz, ih, if_neg h]
theorem tz_mem {x : Int} : ∀ {l : List Int}, x ∈ tz l → x ∈ l
  | [], h => h
  | d :: l, h => by
    unfold tz at h
    split at h
    · cases h
    · rw [List.mem_cons] at h
      rcases h with rfl | h
      · exact List.mem_cons_self ..
      · exact List.mem_cons_of_mem _ (tz_mem h)
theorem tz_nil : ∀ {l : List Int}, (∀ i, cf l i = 0) → tz l = []
  | [], _ => rfl
  | d :: l, h => by
    rw [tz, if_pos ⟨h 0, tz_nil (fun i => h (i + 1))⟩]
theorem tz_cong : ∀ {a b : List Int}, (∀ i, cf a i = cf b i) → tz a = tz b
  | [], b, h => by rw [tz_nil (l := b) (fun i => by rw [← h i]; simp)]; rfl
  | x :: a, [], h => by rw [tz_nil (l := x :: a) (fun i => by rw [h i]; simp)]; rfl
  | x :: a, y :: b, h => by
    have h0 : x = y := h 0
    have h1 := tz_cong (a := a) (b := b) (fun i => h (i + 1))
    rw [tz, tz, h0, h1]
theorem tz_last : ∀ {l : List Int}, tz l = l → l ≠ [] → cf l (l.length - 1) ≠ 0
  | [], _, h => absurd rfl h
  | [d], h, _ => by
    intro hd
    simp only [List.length_cons, List.length_nil, cf_zero, Nat.zero_add, Nat.sub_self] at hd
    rw [tz, if_pos ⟨hd, rfl⟩] at h
    cases h
  | d :: e :: l, h, _ => by
    have h1 : tz (e :: l) = e :: l := by
      rw [tz] at h
      split at h
      · cases h
      · exact (List.cons.inj h).2
    have := tz_last h1 (by simp)
    simpa using this
theorem tz_id : ∀ {l : List Int}, (l ≠ [] → cf l (l.length - 1) ≠ 0) → tz l = l
  | [], _ => rfl
  | [d], h => by
    have hd : d ≠ 0 := h (by simp)
    rw [tz, if_neg (fun hh => hd hh.1)]; rfl
  | d :: e :: l, h => by
    have h1 : tz (e :: l) = e :: l := tz_id (fun _ => by have := h (by simp); simpa using this)
    rw [tz, h1, if_neg (fun hh => by simpa using hh.2)]
/-- Sums. -/
def S : Nat → (Nat → Int) → Int
  | 0, _ => 0
  | n + 1, f => S n f + f n
theorem S_cong {f g : Nat → Int} : ∀ {n : Nat}, (∀ k, k < n → f k = g k) → S n f = S n g
  | 0, _ => rfl
  | n + 1, h => by rw [S, S, S_cong (fun k hk => h k (by omega)), h n (by omega)]
theorem S_add (f g : Nat → Int) : ∀ n, S n (fun k => f k + g k) = S n f + S n g
  | 0 => rfl
  | n + 1 => by rw [S, S, S, S_add f g n]; omega
theorem S_mul (c : Int) (f : Nat → Int) : ∀ n, S n (fun k => c * f k) = c * S n f
  | 0 => (Int.mul_zero c).symm
  | n + 1 => by rw [S, S, S_mul c f n, Int.mul_add]
theorem S_left (f : Nat → Int) : ∀ n, S (n + 1) f = f 0 + S n (fun k => f (k + 1))
  | 0 => by simp [S]
  | n + 1 => by rw [S, S_left f n]; simp only [S]; omega
theorem S_dvd {m : Int} {f : Nat → Int} : ∀ {n : Nat}, (∀ k, k < n → m ∣ f k) → m ∣ S n f
  | 0, _ => ⟨0, (Int.mul_zero m).symm⟩
  | n + 1, h => Int.dvd_add (S_dvd (fun k hk => h k (by omega))) (h n (by omega))
theorem S_sub (f g : Nat → Int) : ∀ n, S n (fun k => f k - g k) = S n f - S n g
  | 0 => rfl
  | n + 1 => by rw [S, S, S, S_sub f g n]; omega
theorem S_one {m : Int} {f : Nat → Int} {s : Nat} : ∀ {n : Nat}, s < n → (∀ k, k < n → k ≠ s → m ∣ f k) → m ∣ S n f - f s
  | 0, h, _ => by omega
  | n + 1, h, hk => by
    rw [S]
    by_cases e : s = n
    · subst e
      have := S_dvd (m := m) (f := f) (n := s) (fun k h' => hk k (by omega) (by omega))
      have e2 : S s f + f s - f s = S s f := by omega
      rw [e2]; exact this
    · have h1 := S_one (n := n) (m := m) (f := f) (s := s) (by omega) (fun k h' h'' => hk k (by omega) h'')
      have h2 := hk n (by omega) (fun h => e h.symm)
      have e2 : S n f + f n - f s = (S n f - f s) + f n := by omega
      rw [e2]; exact Int.dvd_add h1 h2

/-- Sum, multiple and product of polynomials. -/
def add : List Int → List Int → List Int
  | [], b => b
  | x :: a, [] => x :: a
  | x :: a, y :: b => (x + y) :: add a b
def sc (k : Int) (l : List Int) : List Int := l.map (k * ·)
def mul : List Int → List Int → List Int
  | [], _ => []
  | x :: a, b => add (sc x b) (0 :: mul a b)
@[simp] theorem cf_add : ∀ (a b : List Int) i, cf (add a b) i = cf a i + cf b i
  | [], b, i => by simp [add]
  | x :: a, [], i => by simp [add]
  | x :: a, y :: b, i => by
    cases i with
    | zero => rfl
    | succ i => exact cf_add a b i
@[simp] theorem cf_sc (k : Int) (l : List Int) (i : Nat) : cf (sc k l) i = k * cf l i := cf_map _ (Int.mul_zero k) l i
@[simp] theorem cf_mul_nil (b : List Int) (i : Nat) : cf (mul [] b) i = 0 := by simp [mul]
theorem cf_mul_zero (x : Int) (a b : List Int) : cf (mul (x :: a) b) 0 = x * cf b 0 := by simp [mul]
theorem cf_mul_succ (x : Int) (a b : List Int) (i : Nat) : cf (mul (x :: a) b) (i + 1) = x * cf b (i + 1) + cf (mul a b) i := by simp [mul]
theorem add_len : ∀ (a b : List Int), (add a b).length = max a.length b.length
  | [], b => by simp [add]
  | x :: a, [] => by simp [add]
  | x :: a, y :: b => by simp [add, add_len a b]
theorem sc_len (k : Int) (l : List Int) : (sc k l).length = l.length := by simp [sc]
/-- the product by its sums -/
theorem cf_mul (b : List Int) : ∀ (a : List Int) i, cf (mul a b) i = S (i + 1) (fun k => cf a k * cf b (i - k))
  | [], i => by
    rw [cf_mul_nil]
    have : S (i + 1) (fun k => cf [] k * cf b (i - k)) = S (i + 1) (fun k => 0 * 0) := S_cong (fun k _ => by simp)
    rw [this, S_mul 0 (fun _ => 0)]; simp
  | x :: a, 0 => by rw [cf_mul_zero]; simp [S]
  | x :: a, i + 1 => by
    rw [cf_mul_succ, cf_mul b a i, S_left (fun k => cf (x :: a) k * cf b (i + 1 - k))]
    simp only [cf_zero, Nat.sub_zero, cf_succ, Nat.add_sub_add_right]
theorem cf_mul_out {a b : List Int} {i : Nat} (h : a.length + b.length ≤ i + 1) : cf (mul a b) i = 0 := by
  rw [cf_mul]
  have : S (i + 1) (fun k => cf a k * cf b (i - k)) = S (i + 1) (fun k => 0 * 0) := S_cong (fun k hk => by
    by_cases h1 : a.length ≤ k
    · rw [cf_out h1]; simp
    · rw [cf_out (l := b) (i := i - k) (by omega)]; simp)
  rw [this, S_mul 0 (fun _ => 0)]; simp

theorem mul_add_left (a b c : List Int) (i : Nat) : cf (mul (add a b) c) i = cf (mul a c) i + cf (mul b c) i := by
  rw [cf_mul, cf_mul, cf_mul, ← S_add]
  exact S_cong (fun k _ => by rw [cf_add, Int.add_mul])
theorem mul_add_right (a b c : List Int) (i : Nat) : cf (mul c (add a b)) i = cf (mul c a) i + cf (mul c b) i := by
  rw [cf_mul, cf_mul, cf_mul, ← S_add]
  exact S_cong (fun k _ => by rw [cf_add, Int.mul_add])
theorem mul_sc_left (k : Int) (a c : List Int) (i : Nat) : cf (mul (sc k a) c) i = k * cf (mul a c) i := by
  rw [cf_mul, cf_mul, ← S_mul]
  exact S_cong (fun j _ => by rw [cf_sc, Int.mul_assoc])
theorem mul_shift_left (a c : List Int) : ∀ (i : Nat), cf (mul (0 :: a) c) i = cf (0 :: mul a c) i
  | 0 => by rw [cf_mul_zero]; simp
  | i + 1 => by rw [cf_mul_succ]; simp
theorem mul_congr {a a' b b' : List Int} (h : ∀ i, cf a i = cf a' i) (k : ∀ i, cf b i = cf b' i) (i : Nat) : cf (mul a b) i = cf (mul a' b') i := by
  rw [cf_mul, cf_mul]; exact S_cong (fun j _ => by rw [h, k])
theorem cf_mul_right_nil (a : List Int) (i : Nat) : cf (mul a []) i = 0 := by
  induction a generalizing i with
  | nil => simp
  | cons x a ih => cases i with
    | zero => rw [cf_mul_zero]; simp
    | succ i => rw [cf_mul_succ, ih]; simp
theorem cf_mul_right_succ (y : Int) (b : List Int) : ∀ (a : List Int) (i : Nat), cf (mul a (y :: b)) (i + 1) = cf a (i + 1) * y + cf (mul a b) i
  | [], i => by simp
  | x :: a, 0 => by
    rw [cf_mul_succ, cf_mul_zero]
    cases a with
    | nil => simp
    | cons z a => rw [cf_mul_zero]; simp; rw [Int.add_comm]
  | x :: a, i + 1 => by
    rw [cf_mul_succ, cf_mul_right_succ y b a i, cf_mul_succ]
    simp only [cf_succ]; omega
theorem cf_mul_right_zero (y : Int) (b : List Int) (a : List Int) : cf (mul a (y :: b)) 0 = cf a 0 * y := by
  cases a with
  | nil => simp
  | cons x a => rw [cf_mul_zero]; rfl
theorem mul_comm' : ∀ (a b : List Int) (i : Nat), cf (mul a b) i = cf (mul b a) i
  | [], b, i => by rw [cf_mul_right_nil]; simp
  | x :: a, b, 0 => by rw [cf_mul_zero, cf_mul_right_zero, Int.mul_comm]
  | x :: a, b, i + 1 => by rw [cf_mul_succ, cf_mul_right_succ, mul_comm' a b i, Int.mul_comm]
theorem mul_assoc' (b c : List Int) : ∀ (a : List Int) (i : Nat), cf (mul (mul a b) c) i = cf (mul a (mul b c)) i
  | [], i => by simp [mul]
  | x :: a, i => by
    have h : ∀ j, cf (mul (x :: a) b) j = cf (add (sc x b) (0 :: mul a b)) j := fun j => rfl
    rw [mul_congr (b := c) h (fun _ => rfl), mul_add_left, mul_sc_left, mul_shift_left]
    cases i with
    | zero => rw [cf_mul_zero]; simp
    | succ i => rw [cf_mul_succ, cf_succ, mul_assoc' b c a i]

/-- Equal modulo m. -/
def Cg (m : Int) (a b : List Int) : Prop := ∀ i, m ∣ cf a i - cf b i
theorem Cg.refl (m : Int) (a : List Int) : Cg m a a := fun i => by rw [Int.sub_self]; exact ⟨0, (Int.mul_zero m).symm⟩
theorem Cg.of {m : Int} {a b : List Int} (h : ∀ i, cf a i = cf b i) : Cg m a b := fun i => by rw [h, Int.sub_self]; exact ⟨0, (Int.mul_zero m).symm⟩
theorem Cg.symm {m : Int} {a b : List Int} (h : Cg m a b) : Cg m b a := fun i => by
  have := Int.dvd_neg.2 (h i)
  have e : cf b i - cf a i = -(cf a i - cf b i) := by omega
  rw [e]; exact this
theorem Cg.trans {m : Int} {a b c : List Int} (h : Cg m a b) (k : Cg m b c) : Cg m a c := fun i => by
  have e : cf a i - cf c i = (cf a i - cf b i) + (cf b i - cf c i) := by omega
  rw [e]; exact Int.dvd_add (h i) (k i)
theorem Cg.add {m : Int} {a b c d : List Int} (h : Cg m a b) (k : Cg m c d) : Cg m (add a c) (add b d) := fun i => by
  rw [cf_add, cf_add]
  have e : cf a i + cf c i - (cf b i + cf d i) = (cf a i - cf b i) + (cf c i - cf d i) := by omega
  rw [e]; exact Int.dvd_add (h i) (k i)
theorem Cg.sc {m : Int} {a b : List Int} (k : Int) (h : Cg m a b) : Cg m (sc k a) (sc k b) := fun i => by
  rw [cf_sc, cf_sc, ← Int.mul_sub]; exact Int.dvd_mul_of_dvd_right (h i)
theorem Cg.mul {m : Int} {a b c d : List Int} (h : Cg m a b) (k : Cg m c d) : Cg m (mul a c) (mul b d) := fun i => by
  rw [cf_mul, cf_mul, ← S_sub]
  apply S_dvd
  intro j _
  have e : cf a j * cf c (i - j) - cf b j * cf d (i - j) = (cf a j - cf b j) * cf c (i - j) + cf b j * (cf c (i - j) - cf d (i - j)) := by
    rw [Int.sub_mul, Int.mul_sub]; omega
  rw [e]
  exact Int.dvd_add (Int.dvd_mul_of_dvd_left (h j)) (Int.dvd_mul_of_dvd_right (k _))
theorem Cg.scm {m k k' : Int} (a : List Int) (h : m ∣ k - k') : Cg m (Op.sc k a) (Op.sc k' a) := fun i => by
  rw [cf_sc, cf_sc, ← Int.sub_mul]; exact Int.dvd_mul_of_dvd_left h

/-- Residues modulo m without zeros at the end. -/
def Rs (m : Int) (l : List Int) : Prop := ∀ x ∈ l, 0 ≤ x ∧ x < m
def Nf (m : Int) (l : List Int) : Prop := Rs m l ∧ tz l = l
def red (m : Int) (l : List Int) : List Int := l.map (· % m)
def nf (m : Int) (l : List Int) : List Int := tz (red m l)
theorem cf_red (m : Int) (l : List Int) (i : Nat) : cf (red m l) i = cf l i % m := cf_map _ (Int.zero_emod m) l i
theorem red_len (m : Int) (l : List Int) : (red m l).length = l.length := by simp [red]
theorem red_rs {m : Int} (hm : 0 < m) (l : List Int) : Rs m (red m l) := fun x hx => by
  simp only [red, List.mem_map] at hx
  obtain ⟨y, _, rfl⟩ := hx
  exact ⟨Int.emod_nonneg _ (by omega), Int.emod_lt_of_pos _ hm⟩
theorem red_cg (m : Int) (l : List Int) : Cg m (red m l) l := fun i => by
  rw [cf_red]
  exact ⟨-(cf l i / m), by have := Int.emod_add_mul_ediv (cf l i) m; rw [Int.mul_neg]; omega⟩
theorem nf_nf {m : Int} (hm : 0 < m) (l : List Int) : Nf m (nf m l) := ⟨fun x hx => red_rs hm l x (tz_mem hx), tz_tz _⟩
theorem nf_cg (m : Int) (l : List Int) : Cg m (nf m l) l := fun i => by
  rw [nf, cf_tz]; exact red_cg m l i
theorem nf_len (m : Int) (l : List Int) : (nf m l).length ≤ l.length := by
  have := tz_len (red m l); rw [red_len] at this; exact this
theorem rs_cf {m : Int} (hm : 0 < m) {l : List Int} (h : Rs m l) (i : Nat) : 0 ≤ cf l i ∧ cf l i < m := by
  by_cases hi : i < l.length
  · exact h _ (cf_mem hi)
  · rw [cf_out (by omega)]; exact ⟨Int.le_refl _, hm⟩
theorem dvd_small {m x y : Int} (h : m ∣ x - y) (hx : 0 ≤ x ∧ x < m) (hy : 0 ≤ y ∧ y < m) : x = y := by
  have h2 : x % m = y % m := Int.emod_eq_emod_iff_emod_sub_eq_zero.2 (Int.emod_eq_zero_of_dvd h)
  rwa [Int.emod_eq_of_lt hx.1 hx.2, Int.emod_eq_of_lt hy.1 hy.2] at h2
theorem rs_eq {m : Int} (hm : 0 < m) {a b : List Int} (ha : Rs m a) (hb : Rs m b) (h : Cg m a b) (i : Nat) : cf a i = cf b i :=
  dvd_small (h i) (rs_cf hm ha i) (rs_cf hm hb i)
theorem nf_eq {m : Int} (hm : 0 < m) {a b : List Int} (ha : Nf m a) (hb : Nf m b) (h : Cg m a b) : a = b := by
  rw [← ha.2, ← hb.2]; exact tz_cong (rs_eq hm ha.1 hb.1 h)
theorem nf_iff {m : Int} (hm : 0 < m) {a b : List Int} (h : Cg m a b) : nf m a = nf m b :=
  nf_eq hm (nf_nf hm a) (nf_nf hm b) (((nf_cg m a).trans h).trans (nf_cg m b).symm)
theorem nf_is {m : Int} (hm : 0 < m) {a b : List Int} (ha : Nf m a) (h : Cg m a b) : a = nf m b := nf_eq hm ha (nf_nf hm b) (h.trans (nf_cg m b).symm)
theorem Nf.nil (m : Int) : Nf m [] := ⟨fun x hx => (by cases hx), rfl⟩
/-- Values. -/
def ev : List Int → Int → Int
  | [], _ => 0
  | c :: l, x => c + x * ev l x
theorem ev_add (x : Int) : ∀ a b, ev (add a b) x = ev a x + ev b x
  | [], b => by simp [add, ev]
  | c :: a, [] => by simp [add, ev]
  | c :: a, d :: b => by simp only [add, ev, ev_add x a b, Int.mul_add]; omega
end Op
/- Division by what has a unit at its top, the greatest common divisor. No Go here. -/
namespace Op
set_option linter.unusedVariables false
/-- A unit modulo m. -/
def Un (m u : Int) : Prop := ∃ v, m ∣ u * v - 1
theorem Un.cancel {m u d : Int} (h : Un m u) (k : m ∣ d * u) : m ∣ d := by
  obtain ⟨v, hv⟩ := h
  have e : d = d * u * v - d * (u * v - 1) := by rw [Int.mul_sub, Int.mul_assoc]; omega
  rw [e]; exact Int.dvd_sub (Int.dvd_mul_of_dvd_left k) (Int.dvd_mul_of_dvd_right hv)
/-- The last element. -/
def ld (l : List Int) : Int := cf l (l.length - 1)
/-- Quotients and rests of a division by what has a unit at its top are unique, modulo m. -/
theorem div_cg {m : Int} {b : List Int} {n : Nat} (hb : ∀ i, n < i → m ∣ cf b i) (hu : Un m (cf b n))
    {q q' r r' : List Int} (hr : r.length ≤ n) (hr' : r'.length ≤ n) (h : Cg m (add (mul q b) r) (add (mul q' b) r')) : Cg m q q' ∧ Cg m r r' := by
  have key : ∀ j t, t + j = q.length + q'.length → ∀ i, t ≤ i → m ∣ cf q i - cf q' i := by
    intro j
    induction j with
    | zero =>
      intro t ht i hi
      rw [cf_out (l := q) (by omega), cf_out (l := q') (by omega)]
      exact ⟨0, (Int.mul_zero m).symm⟩
    | succ j ih =>
      intro t ht i hi
      have hup := ih (t + 1) (by omega)
      by_cases e : t + 1 ≤ i
      · exact hup i e
      · have e : i = t := by omega
        subst e
        have h0 := h (i + n)
        rw [cf_add, cf_add, cf_out (l := r) (by omega), cf_out (l := r') (by omega), cf_mul, cf_mul] at h0
        have e1 : ∀ x y : Int, x + 0 - (y + 0) = x - y := by intros; omega
        rw [e1, ← S_sub] at h0
        have h1 : m ∣ S (i + n + 1) (fun k => cf q k * cf b (i + n - k) - cf q' k * cf b (i + n - k)) - (cf q i * cf b (i + n - i) - cf q' i * cf b (i + n - i)) := by
          apply S_one (s := i) (by omega)
          intro k hk hki
          rw [← Int.sub_mul]
          by_cases hlt : k < i
          · exact Int.dvd_mul_of_dvd_right (hb _ (by omega))
          · exact Int.dvd_mul_of_dvd_left (hup k (by omega))
        have e2 : i + n - i = n := by omega
        rw [e2] at h1
        have h2 : m ∣ (cf q i - cf q' i) * cf b n := by
          have e3 : (cf q i - cf q' i) * cf b n = S (i + n + 1) (fun k => cf q k * cf b (i + n - k) - cf q' k * cf b (i + n - k)) - (S (i + n + 1) (fun k => cf q k * cf b (i + n - k) - cf q' k * cf b (i + n - k)) - (cf q i * cf b n - cf q' i * cf b n)) := by
            rw [Int.sub_mul]; omega
          rw [e3]; exact Int.dvd_sub h0 h1
        exact hu.cancel h2
  have hq : Cg m q q' := fun i => key (q.length + q'.length) 0 (by omega) i (by omega)
  refine ⟨hq, fun i => ?_⟩
  have h0 := h i
  have h1 := (hq.mul (Cg.refl m b)) i
  rw [cf_add, cf_add] at h0
  have e : cf r i - cf r' i = (cf (mul q b) i + cf r i - (cf (mul q' b) i + cf r' i)) - (cf (mul q b) i - cf (mul q' b) i) := by omega
  rw [e]; exact Int.dvd_sub h0 h1

/-- Quotient and rest. -/
def Dv (m : Int) (a b q r : List Int) : Prop := Nf m q ∧ Nf m r ∧ r.length < b.length ∧ Cg m a (add (mul q b) r)
theorem Dv.unique {m : Int} (hm : 0 < m) {a a' b q r q' r' : List Int} (hu : Un m (ld b)) (ha : Cg m a a') (h : Dv m a b q r) (k : Dv m a' b q' r') : q = q' ∧ r = r' := by
  obtain ⟨h1, h2, h3, h4⟩ := h
  obtain ⟨k1, k2, k3, k4⟩ := k
  have := div_cg (n := b.length - 1) (fun i hi => by rw [cf_out (by omega)]; exact ⟨0, (Int.mul_zero m).symm⟩) hu (by omega) (by omega) ((h4.symm.trans ha).trans k4)
  exact ⟨nf_eq hm h1 k1 this.1, nf_eq hm h2 k2 this.2⟩
theorem cg_swap (m : Int) (a b : List Int) : Cg m (mul a b) (mul b a) := Cg.of (mul_comm' a b)
theorem cg_assoc (m : Int) (a b c : List Int) : Cg m (mul (mul a b) c) (mul a (mul b c)) := Cg.of (mul_assoc' b c a)
theorem cg_distl (m : Int) (a b c : List Int) : Cg m (mul (Op.add a b) c) (Op.add (mul a c) (mul b c)) := Cg.of (fun i => by rw [mul_add_left, cf_add])
theorem cg_distr (m : Int) (a b c : List Int) : Cg m (mul c (Op.add a b)) (Op.add (mul c a) (mul c b)) := Cg.of (fun i => by rw [mul_add_right, cf_add])
theorem cg_addc (m : Int) (a b : List Int) : Cg m (Op.add a b) (Op.add b a) := Cg.of (fun i => by rw [cf_add, cf_add, Int.add_comm])
theorem cg_addn (m : Int) (a : List Int) : Cg m (Op.add a []) a := Cg.of (fun i => by rw [cf_add, cf_nil, Int.add_zero])
theorem cg_muln (m : Int) (a : List Int) : Cg m (mul a []) [] := Cg.of (fun i => by rw [cf_mul_right_nil, cf_nil])
theorem cg_scn (m k : Int) (a : List Int) : Cg m (mul a [k]) (Op.sc k a) := Cg.of (fun i => by
  cases i with
  | zero => rw [cf_mul_right_zero, cf_sc, Int.mul_comm]
  | succ i => rw [cf_mul_right_succ, cf_mul_right_nil, cf_sc, Int.mul_comm]; simp)
theorem cg_scn' (m k : Int) (a : List Int) : Cg m (mul [k] a) (Op.sc k a) := (cg_swap m [k] a).trans (cg_scn m k a)
/-- Exact division: the rest is empty. -/
theorem Dv.exact {m : Int} (hm : 0 < m) {a b k q r : List Int} (hb : b ≠ []) (hu : Un m (ld b)) (hk : Cg m a (mul k b)) (h : Dv m a b q r) : r = [] := by
  refine ((Dv.unique hm hu (Cg.refl m a) h (q' := nf m k) (r' := []) ⟨nf_nf hm k, Nf.nil m, ?_, ?_⟩)).2
  · cases b with
    | nil => exact absurd rfl hb
    | cons => simp
  · exact (hk.trans (((nf_cg m k).symm).mul (Cg.refl m b))).trans (cg_addn m _).symm

/-- Euclid's algorithm: x is the last divisor. -/
inductive Eu (m : Int) : List Int → List Int → List Int → Prop
  | done (a : List Int) : Eu m a [] a
  | step {a b q r x : List Int} (hb : b ≠ []) (hd : Dv m a b q r) (h : Eu m b r x) : Eu m a b x
/-- Each residue but 0 is a unit. -/
def Fld (m : Int) : Prop := ∀ u, 0 < u → u < m → Un m u
theorem ld_unit {m : Int} (hF : Fld m) (hm : 0 < m) {b : List Int} (h : Nf m b) (hb : b ≠ []) : Un m (ld b) := by
  have h1 := rs_cf hm h.1 (b.length - 1)
  have h2 := tz_last h.2 hb
  exact hF _ (by show 0 < cf b _; omega) h1.2
theorem Eu.unique {m : Int} (hF : Fld m) (hm : 0 < m) {a b x y : List Int} (hb : Nf m b) (h : Eu m a b x) (k : Eu m a b y) : x = y := by
  induction h generalizing y with
  | done a => cases k with
    | done => rfl
    | step hb' _ _ => exact absurd rfl hb'
  | step hb' hd _ ih => cases k with
    | done => exact absurd rfl hb'
    | step hb'' hd' h' =>
      have hu := ld_unit hF hm hb hb'
      have e := (Dv.unique hm hu (Cg.refl m _) hd hd').2
      subst e
      exact ih hd.2.1 h'
/-- c divides a. -/
def Dd (m : Int) (c a : List Int) : Prop := ∃ k, Cg m a (mul k c)
theorem Dd.refl (m : Int) (a : List Int) : Dd m a a := ⟨[1], ((cg_scn' m 1 a).trans (Cg.of (fun i => by rw [cf_sc, Int.one_mul]))).symm⟩
theorem Dd.nil (m : Int) (a : List Int) : Dd m a [] := ⟨[], Cg.of (fun i => by simp)⟩
theorem Dd.comb {m : Int} {c a b : List Int} (q : List Int) (h : Dd m c a) (k : Dd m c b) : Dd m c (add (mul q a) b) := by
  obtain ⟨x, hx⟩ := h
  obtain ⟨y, hy⟩ := k
  refine ⟨add (mul q x) y, ?_⟩
  exact ((((Cg.refl m q).mul hx).add hy).trans (((cg_assoc m q x c).symm).add (Cg.refl m _))).trans (cg_distl m _ _ c).symm
theorem Dd.cg {m : Int} {c a b : List Int} (h : Dd m c a) (k : Cg m b a) : Dd m c b := by
  obtain ⟨x, hx⟩ := h; exact ⟨x, k.trans hx⟩
theorem rest_cg {m : Int} {a b q r : List Int} (h : Cg m a (add (mul q b) r)) : Cg m r (add (mul (sc (-1) q) b) a) := fun i => by
  have h0 := h i
  rw [cf_add] at h0
  rw [cf_add, mul_sc_left]
  have e : cf r i - (-1 * cf (mul q b) i + cf a i) = -(cf a i - (cf (mul q b) i + cf r i)) := by omega
  rw [e]; exact Int.dvd_neg.2 h0
theorem Eu.divides {m : Int} {a b x : List Int} (h : Eu m a b x) : Dd m x a ∧ Dd m x b := by
  induction h with
  | done a => exact ⟨Dd.refl m a, Dd.nil m a⟩
  | step hb hd _ ih => exact ⟨(Dd.comb _ ih.1 ih.2).cg hd.2.2.2, ih.1⟩
theorem Eu.greatest {m : Int} {a b c x : List Int} (h : Eu m a b x) (ha : Dd m c a) (hb : Dd m c b) : Dd m c x := by
  induction h with
  | done a => exact ha
  | step hb' hd _ ih => exact ih hb ((Dd.comb _ hb ha).cg (rest_cg hd.2.2.2))
theorem Eu.nf {m : Int} {a b x : List Int} (h : Eu m a b x) (ha : Nf m a) (hb : Nf m b) : Nf m x := by
  induction h with
  | done a => exact ha
  | step hb' hd _ ih => exact ih hb hd.2.1
theorem Dd.zero {m : Int} {a : List Int} (hm : 0 < m) (ha : Nf m a) (h : Dd m [] a) : a = [] := by
  obtain ⟨k, hk⟩ := h
  rw [nf_is hm ha (hk.trans (cg_muln m k))]; rfl
theorem Dd.trans {m : Int} {a b c : List Int} (h : Dd m a b) (k : Dd m b c) : Dd m a c := by
  obtain ⟨x, hx⟩ := h
  obtain ⟨y, hy⟩ := k
  exact ⟨mul y x, (hy.trans ((Cg.refl m y).mul hx)).trans (cg_assoc m y x a).symm⟩
theorem Un.mul {m u v : Int} (h : Un m u) (k : Un m v) : Un m (u * v) := by
  obtain ⟨x, hx⟩ := h
  obtain ⟨y, hy⟩ := k
  refine ⟨x * y, ?_⟩
  have e : u * v * (x * y) - 1 = (u * x - 1) * (v * y) + (v * y - 1) := by
    rw [Int.sub_mul, Int.one_mul]
    have : u * v * (x * y) = u * x * (v * y) := by
      rw [Int.mul_assoc, Int.mul_assoc, Int.mul_left_comm v x y]
    omega
  rw [e]; exact Int.dvd_add (Int.dvd_mul_of_dvd_left hx) hy
theorem Un.ne {m u : Int} (hm : 2 ≤ m) (h : Un m u) : ¬ m ∣ u := by
  intro hd
  obtain ⟨v, hv⟩ := h
  have h1 : m ∣ 1 := by
    have e : (1 : Int) = u * v - (u * v - 1) := by omega
    rw [e]; exact Int.dvd_sub (Int.dvd_mul_of_dvd_left hd) hv
  have := Int.le_of_dvd (by omega) h1
  omega
/-- The top of a product. -/
theorem top_mul (a b : List Int) (ha : a ≠ []) (hb : b ≠ []) : cf (mul a b) (a.length - 1 + (b.length - 1)) = ld a * ld b := by
  have hla : a.length ≠ 0 := by cases a with
    | nil => exact absurd rfl ha
    | cons => simp
  have h0 : (0 : Int) ∣ S (a.length - 1 + (b.length - 1) + 1) (fun k => cf a k * cf b (a.length - 1 + (b.length - 1) - k)) - cf a (a.length - 1) * cf b (a.length - 1 + (b.length - 1) - (a.length - 1)) := by
    apply S_one (s := a.length - 1) (by omega)
    intro k hk hne
    by_cases h : k < a.length - 1
    · rw [cf_out (l := b) (by omega), Int.mul_zero]; exact ⟨0, rfl⟩
    · rw [cf_out (l := a) (by omega), Int.zero_mul]; exact ⟨0, rfl⟩
  have h1 := Int.zero_dvd.1 h0
  rw [cf_mul]
  have e : a.length - 1 + (b.length - 1) - (a.length - 1) = b.length - 1 := by omega
  rw [e] at h1
  show _ = cf a (a.length - 1) * cf b (b.length - 1)
  omega
end Op
/- Wrapping modulo x^n + 1; roots; Newton. No Go here. -/
namespace Op
set_option linter.unusedVariables false
/-- n zeros in front. -/
def sh (n : Nat) (l : List Int) : List Int := List.replicate n 0 ++ l
theorem sh_succ (n : Nat) (l : List Int) : sh (n + 1) l = 0 :: sh n l := rfl
theorem sh_len (n : Nat) (l : List Int) : (sh n l).length = n + l.length := by simp [sh]
theorem cf_sh (l : List Int) : ∀ (n i : Nat), cf (sh n l) i = if i < n then 0 else cf l (i - n)
  | 0, i => by simp [sh]
  | n + 1, 0 => by simp [sh_succ]
  | n + 1, i + 1 => by
    rw [sh_succ, cf_succ, cf_sh l n i]
    by_cases h : i < n
    · rw [if_pos h, if_pos (by omega)]
    · rw [if_neg h, if_neg (by omega)]; congr 1; omega
theorem mul_sh_left (a c : List Int) : ∀ (n i : Nat), cf (mul (sh n a) c) i = cf (sh n (mul a c)) i
  | 0, i => rfl
  | n + 1, i => by
    rw [sh_succ, sh_succ, mul_shift_left]
    cases i with
    | zero => rfl
    | succ i => exact mul_sh_left a c n i
theorem mul_one (a : List Int) (i : Nat) : cf (mul [1] a) i = cf a i := by
  rw [mul_comm']
  cases i with
  | zero => rw [cf_mul_right_zero, Int.mul_one]
  | succ i => rw [cf_mul_right_succ, cf_mul_right_nil]; simp
/-- x^n + 1. -/
def xn (n : Nat) : List Int := add [1] (sh n [1])
theorem cf_mul_xn (n : Nat) (d : List Int) (i : Nat) : cf (mul d (xn n)) i = cf d i + cf (sh n d) i := by
  rw [mul_comm', xn, mul_add_left, mul_one, mul_sh_left]
  congr 1
  rw [cf_sh, cf_sh]
  split
  · rfl
  · rw [mul_one]
theorem cf_xn (n i : Nat) (hn : 1 ≤ n) : cf (xn n) i = if i = 0 ∨ i = n then 1 else 0 := by
  rw [xn, cf_add, cf_sh]
  cases i with
  | zero => rw [if_pos (by omega), if_pos (by omega)]; rfl
  | succ i =>
    rw [cf_succ, cf_nil]
    by_cases h : i + 1 < n
    · rw [if_pos h, if_neg (by omega)]; rfl
    · by_cases h2 : i + 1 = n
      · rw [if_neg h, if_pos (by omega), h2, Nat.sub_self]; rfl
      · rw [if_neg h, if_neg (by omega), cf_out (by simp; omega)]; rfl
/-- What is left modulo x^n + 1. -/
def Wr (m : Int) (n : Nat) (a w : List Int) : Prop := ∃ q, Cg m a (add (mul q (xn n)) w)
theorem Wr.unique {m : Int} {n : Nat} (hn : 1 ≤ n) {a b w v : List Int} (hw : w.length ≤ n) (hv : v.length ≤ n) (hab : Cg m a b) (h : Wr m n a w) (k : Wr m n b v) : Cg m w v := by
  obtain ⟨q, hq⟩ := h
  obtain ⟨p, hp⟩ := k
  refine (div_cg (b := xn n) (n := n) (fun i hi => ?_) ?_ hw hv ((hq.symm.trans hab).trans hp)).2
  · rw [cf_xn n i hn, if_neg (by omega)]; exact ⟨0, (Int.mul_zero m).symm⟩
  · rw [cf_xn n n hn, if_pos (by omega)]; exact ⟨1, ⟨0, by omega⟩⟩
theorem Wr.start (m : Int) (n : Nat) (a : List Int) (s : Int) (hs : s = 1) : Wr m n a (add [] (sc s a)) := ⟨[], Cg.of (fun i => by subst hs; rw [cf_add, cf_add, cf_mul_nil, cf_nil, cf_sc]; omega)⟩
theorem Wr.cg {m : Int} {n : Nat} {a w v : List Int} (h : Wr m n a w) (k : Cg m w v) : Wr m n a v := by
  obtain ⟨q, hq⟩ := h
  exact ⟨q, hq.trans ((Cg.refl m _).add k)⟩
/-- A further chunk: its sign is s, the next one's is t. -/
theorem Wr.next {m s t : Int} {n : Nat} {a acc rest : List Int} (hst : m ∣ s + t) (h : Wr m n a (add acc (sc s rest))) :
    Wr m n a (add (add acc (sc s (rest.take n))) (sc t (rest.drop n))) := by
  obtain ⟨q, hq⟩ := h
  refine ⟨add q (sc s (rest.drop n)), hq.trans ?_⟩
  intro i
  have h1 : cf (mul (sc s (rest.drop n)) (xn n)) i = s * (cf (rest.drop n) i + (if i < n then 0 else cf (rest.drop n) (i - n))) := by
    rw [mul_sc_left, cf_mul_xn, cf_sh]
  rw [cf_add, cf_add, cf_sc, cf_add, cf_add, cf_add, cf_sc, cf_sc, mul_add_left, h1, cf_take]
  have e : cf rest i = (if i < n then cf rest i else 0) + (if i < n then 0 else cf (rest.drop n) (i - n)) := by
    split
    · omega
    · rw [cf_drop]; have : n + (i - n) = i := by omega
      rw [this]; omega
  generalize (if i < n then 0 else cf (rest.drop n) (i - n)) = y at e ⊢
  generalize (if i < n then cf rest i else 0) = x at e ⊢
  rw [e]
  have e2 : cf (mul q (xn n)) i + (cf acc i + s * (x + y)) - (cf (mul q (xn n)) i + s * (cf (rest.drop n) i + y) + (cf acc i + s * x + t * cf (rest.drop n) i)) = -((s + t) * cf (rest.drop n) i) := by
    rw [Int.mul_add, Int.mul_add, Int.add_mul]; omega
  rw [e2]
  exact Int.dvd_neg.2 (Int.dvd_mul_of_dvd_left hst)
theorem Wr.mul {m : Int} {n : Nat} {a b v w : List Int} (h : Wr m n a v) (k : Wr m n b w) : Wr m n (mul a b) (mul v w) := by
  obtain ⟨p, hp⟩ := h
  obtain ⟨q, hq⟩ := k
  refine ⟨add (Op.mul p b) (Op.mul v q), ?_⟩
  refine (hp.mul (Cg.refl m b)).trans ?_
  refine (cg_distl m _ _ b).trans ?_
  have h1 : Cg m (Op.mul (Op.mul p (xn n)) b) (Op.mul (Op.mul p b) (xn n)) :=
    ((cg_assoc m p (xn n) b).trans ((Cg.refl m p).mul (cg_swap m (xn n) b))).trans (cg_assoc m p b (xn n)).symm
  have h2 : Cg m (Op.mul v b) (Op.add (Op.mul (Op.mul v q) (xn n)) (Op.mul v w)) :=
    (((Cg.refl m v).mul hq).trans (cg_distr m _ _ v)).trans ((cg_assoc m v q (xn n)).symm.add (Cg.refl m _))
  refine (h1.add h2).trans ?_
  refine Cg.trans ?_ ((cg_distl m (Op.mul p b) (Op.mul v q) (xn n)).symm.add (Cg.refl m _))
  exact Cg.of (fun i => by rw [cf_add, cf_add, cf_add, cf_add, Int.add_assoc])

/-- All differences of different places are units. -/
def Au (m : Int) (xs : List Int) : Prop := ∀ i, i < xs.length → ∀ j, j < i → Un m (cf xs i - cf xs j)
theorem Un.neg {m u : Int} (h : Un m u) : Un m (-u) := by
  obtain ⟨v, hv⟩ := h
  exact ⟨-v, by rw [Int.neg_mul_neg]; exact hv⟩
theorem Au.ne {m : Int} {xs : List Int} (h : Au m xs) {i j : Nat} (hi : i < xs.length) (hj : j < xs.length) (hij : i ≠ j) : Un m (cf xs i - cf xs j) := by
  by_cases hlt : j < i
  · exact h i hi j hlt
  · have := (h j hj i (by omega)).neg
    have e : -(cf xs j - cf xs i) = cf xs i - cf xs j := by omega
    rwa [e] at this
theorem Un.cg {m u v : Int} (h : Un m u) (k : m ∣ u - v) : Un m v := by
  obtain ⟨w, hw⟩ := h
  refine ⟨w, ?_⟩
  have e : v * w - 1 = (u * w - 1) - (u - v) * w := by rw [Int.sub_mul]; omega
  rw [e]; exact Int.dvd_sub hw (Int.dvd_mul_of_dvd_left k)
/-- Newton: what is left of a value y at the place x behind j places. -/
def Ch (m : Int) (xs cs : List Int) (x y : Int) : Nat → Int → Prop
  | 0, v => m ∣ v - y
  | j + 1, v => ∃ u, Ch m xs cs x y j u ∧ m ∣ (x - cf xs j) * v - (u - cf cs j)
end Op
/- Remainders, powers, the greatest common divisor with the last element 1. No Go here. -/
namespace Op
set_option linter.unusedVariables false
/-- x and y differ by a multiple of f, modulo m. -/
def MC (m : Int) (f x y : List Int) : Prop := ∃ q, Cg m x (add (mul q f) y)
theorem MC.of {m : Int} {f x y : List Int} (h : Cg m x y) : MC m f x y := ⟨[], h.trans (Cg.of (fun i => by simp))⟩
theorem MC.refl (m : Int) (f x : List Int) : MC m f x x := MC.of (Cg.refl m x)
theorem MC.symm {m : Int} {f x y : List Int} (h : MC m f x y) : MC m f y x := by
  obtain ⟨q, hq⟩ := h
  refine ⟨sc (-1) q, fun i => ?_⟩
  have h0 := hq i
  rw [cf_add] at h0
  rw [cf_add, mul_sc_left]
  have e : cf y i - (-1 * cf (mul q f) i + cf x i) = -(cf x i - (cf (mul q f) i + cf y i)) := by omega
  rw [e]; exact Int.dvd_neg.2 h0
theorem MC.trans {m : Int} {f x y z : List Int} (h : MC m f x y) (k : MC m f y z) : MC m f x z := by
  obtain ⟨q, hq⟩ := h
  obtain ⟨p, hp⟩ := k
  refine ⟨add q p, (hq.trans ((Cg.refl m _).add hp)).trans (Cg.of (fun i => ?_))⟩
  rw [cf_add, cf_add, cf_add, mul_add_left]; omega
theorem MC.mul {m : Int} {f x y z w : List Int} (h : MC m f x y) (k : MC m f z w) : MC m f (mul x z) (mul y w) := by
  obtain ⟨q, hq⟩ := h
  obtain ⟨p, hp⟩ := k
  refine ⟨add (Op.mul q z) (Op.mul y p), ?_⟩
  refine (hq.mul (Cg.refl m z)).trans ?_
  refine (cg_distl m _ _ z).trans ?_
  have h1 : Cg m (Op.mul (Op.mul q f) z) (Op.mul (Op.mul q z) f) :=
    ((cg_assoc m q f z).trans ((Cg.refl m q).mul (cg_swap m f z))).trans (cg_assoc m q z f).symm
  have h2 : Cg m (Op.mul y z) (Op.add (Op.mul (Op.mul y p) f) (Op.mul y w)) :=
    (((Cg.refl m y).mul hp).trans (cg_distr m _ _ y)).trans ((cg_assoc m y p f).symm.add (Cg.refl m _))
  refine (h1.add h2).trans ?_
  refine Cg.trans ?_ ((cg_distl m (Op.mul q z) (Op.mul y p) f).symm.add (Cg.refl m _))
  exact Cg.of (fun i => by rw [cf_add, cf_add, cf_add, cf_add, Int.add_assoc])
/-- The remainder. -/
def Rem (m : Int) (f x r : List Int) : Prop := Nf m r ∧ r.length < f.length ∧ MC m f x r
theorem Rem.unique {m : Int} (hm : 0 < m) {f x r r' : List Int} (hu : Un m (ld f)) (h : Rem m f x r) (k : Rem m f x r') : r = r' := by
  obtain ⟨h1, h2, q, h3⟩ := h
  obtain ⟨k1, k2, p, k3⟩ := k
  have := div_cg (b := f) (n := f.length - 1) (fun i hi => by rw [cf_out (by omega)]; exact ⟨0, (Int.mul_zero m).symm⟩) hu (by omega) (by omega) (h3.symm.trans k3)
  exact nf_eq hm h1 k1 this.2
/-- Powers. -/
def pw (a : List Int) : Nat → List Int
  | 0 => [1]
  | n + 1 => mul (pw a n) a
theorem pw_mc {m : Int} {f a b : List Int} (h : MC m f a b) : ∀ n, MC m f (pw a n) (pw b n)
  | 0 => MC.refl m f [1]
  | n + 1 => (pw_mc h n).mul h
theorem pw_sq (m : Int) (f a : List Int) : ∀ n, MC m f (pw a (2 * n)) (pw (mul a a) n)
  | 0 => MC.refl m f [1]
  | n + 1 => by
    have e : pw a (2 * (n + 1)) = mul (mul (pw a (2 * n)) a) a := rfl
    rw [e]
    exact (MC.of (cg_assoc m _ a a)).trans ((pw_sq m f a n).mul (MC.refl m f _))
/-- Powers by squaring. -/
def PwI (m : Int) (f a : List Int) (N : Nat) (res sq : List Int) (n : Nat) : Prop := MC m f (pw a N) (mul res (pw sq n))
theorem PwI.odd {m : Int} {f a : List Int} {N : Nat} {res res' sq sq' : List Int} {n k : Nat} (hn : n = 2 * k + 1) (hr : MC m f (mul res sq) res') (hs : MC m f (mul sq sq) sq') (h : PwI m f a N res sq n) : PwI m f a N res' sq' k := by
  subst hn
  refine MC.trans h ?_
  have e : pw sq (2 * k + 1) = mul (pw sq (2 * k)) sq := rfl
  rw [e]
  refine ((MC.refl m f res).mul (((pw_sq m f sq k).trans (pw_mc hs k)).mul (MC.refl m f sq))).trans ?_
  refine ((MC.refl m f res).mul (MC.of (cg_swap m _ sq))).trans ?_
  exact (MC.of (cg_assoc m res sq _).symm).trans (hr.mul (MC.refl m f _))
theorem PwI.start {m : Int} {f a : List Int} {N : Nat} {res sq : List Int} (hr : MC m f [1] res) (hs : MC m f a sq) : PwI m f a N res sq N :=
  ((pw_mc hs N).trans (MC.of (Cg.of (fun i => (mul_one _ i).symm)))).trans (hr.mul (MC.refl m f _))
theorem PwI.done {m : Int} {f a : List Int} {N : Nat} {res sq : List Int} (h : PwI m f a N res sq 0) : MC m f (pw a N) res :=
  MC.trans h (MC.of (Cg.of (fun i => by
    rw [mul_comm']; exact mul_one res i)))
/-- The greatest common divisor whose last element is 1. -/
def Gd (m : Int) (a b g : List Int) : Prop := ∃ x, Eu m a b x ∧ ((x = [] ∧ g = []) ∨ (x ≠ [] ∧ ∃ v, m ∣ ld x * v - 1 ∧ g = nf m (sc v x)))
theorem inv_cg {m u v w : Int} (h : m ∣ u * v - 1) (k : m ∣ u * w - 1) : m ∣ v - w := by
  have e : v - w = (u * v - 1) * w - (u * w - 1) * v := by
    rw [Int.sub_mul, Int.sub_mul, Int.mul_right_comm u v w]; omega
  rw [e]; exact Int.dvd_sub (Int.dvd_mul_of_dvd_left h) (Int.dvd_mul_of_dvd_left k)
theorem Gd.unique {m : Int} (hF : Fld m) (hm : 0 < m) {a b g h : List Int} (hb : Nf m b) (k : Gd m a b g) (l : Gd m a b h) : g = h := by
  obtain ⟨x, hx, hx'⟩ := k
  obtain ⟨y, hy, hy'⟩ := l
  obtain rfl := Eu.unique hF hm hb hx hy
  rcases hx' with ⟨h1, h2⟩ | ⟨h1, v, h2, h3⟩
  · rcases hy' with ⟨k1, k2⟩ | ⟨k1, _⟩
    · rw [h2, k2]
    · exact absurd h1 k1
  · rcases hy' with ⟨k1, _⟩ | ⟨k1, w, k2, k3⟩
    · exact absurd k1 h1
    · rw [h3, k3]; exact nf_iff hm (Cg.scm x (inv_cg h2 k2))
theorem nf_len_unit {m : Int} (hm : 2 ≤ m) {x : List Int} {v : Int} (hx : x ≠ []) (hv : m ∣ ld x * v - 1) : (nf m (sc v x)).length = x.length ∧ ld (nf m (sc v x)) = 1 := by
  have hl : x.length ≠ 0 := by cases x with
    | nil => exact absurd rfl hx
    | cons => simp
  have h1 : cf (red m (sc v x)) (x.length - 1) = 1 := by
    rw [cf_red, cf_sc, Int.mul_comm]
    have h2 : (ld x * v) % m = 1 % m := Int.emod_eq_emod_iff_emod_sub_eq_zero.2 (Int.emod_eq_zero_of_dvd hv)
    show (ld x * v) % m = 1
    rw [h2]; exact Int.emod_eq_of_lt (by omega) (by omega)
  have h3 : (red m (sc v x)).length = x.length := by rw [red_len, sc_len]
  have h4 : nf m (sc v x) = red m (sc v x) := tz_id (fun _ => by rw [h3, h1]; omega)
  rw [h4]
  exact ⟨h3, by unfold ld; rw [h3]; exact h1⟩
end Op
/- Slices that hold numbers of 32 bits; numbers that are written in place. -/
namespace Go.Proofs.Ytfmmkdmnondomaa
open Go.RowKit
set_option linter.unusedVariables false

/-- Numbers of 32 bits. -/
def U32 (l : List Int) : Prop := ∀ x ∈ l, 0 ≤ x ∧ x < 4294967296
theorem U32.nil : U32 [] := fun x hx => (by cases hx)
theorem U32.at_ {l : List Int} (h : U32 l) (i : Nat) : 0 ≤ Op.cf l i ∧ Op.cf l i < 4294967296 := by
  by_cases hi : i < l.length
  · exact h _ (Op.cf_mem hi)
  · rw [Op.cf_out (by omega)]; omega
theorem U32.take {l : List Int} (h : U32 l) (k : Nat) : U32 (l.take k) := fun x hx => h x (List.mem_of_mem_take hx)
theorem U32.drop {l : List Int} (h : U32 l) (k : Nat) : U32 (l.drop k) := fun x hx => h x (List.mem_of_mem_drop hx)
theorem U32.one {x : Int} (h : 0 ≤ x ∧ x < 4294967296) : U32 [x] := fun y hy => by
  simp at hy; subst hy; exact h
theorem U32.tz {l : List Int} (h : U32 l) : U32 (Op.tz l) := fun x hx => h x (Op.tz_mem hx)
/-- A slice holds numbers. -/
def HasP (W : World) (v : Value) (l : List Int) : Prop :=
  U32 l ∧ ∃ a cap, v = .slice a l.length cap ∧ l.length ≤ cap ∧ cap ≤ 9223372036854775807 ∧
    ∀ i, i < l.length → ∃ g o, a = some ⟨g, o, none⟩ ∧ W.cell? ⟨g, o + i, none⟩ = some (.int .u32 (Op.cf l i))
theorem HasP.later {W W' : World} {v : Value} {l : List Int} (h : HasP W v l) (hg : Gr W W') : HasP W' v l := by
  obtain ⟨hd, a, cap, rfl, h1, h2, h3⟩ := h
  refine ⟨hd, a, cap, rfl, h1, h2, fun i hi => ?_⟩
  obtain ⟨g, o, e, hc⟩ := h3 i hi
  exact ⟨g, o, e, hg.keeps hc⟩
theorem HasP.nil (W : World) : HasP W (.slice none 0 0) [] := ⟨U32.nil, none, 0, rfl, Nat.le_refl _, by omega, fun i hi => absurd hi (by simp)⟩
theorem HasP.take {W : World} {a : Option Addr} {l : List Int} {n cap k : Nat} (h : HasP W (.slice a n cap) l) (hk : k ≤ l.length) : HasP W (.slice a k cap) (l.take k) := by
  obtain ⟨hd, a', cap', e, h1, h2, hc⟩ := h
  simp only [Value.slice.injEq] at e
  obtain ⟨rfl, -, rfl⟩ := e
  have hlen : (l.take k).length = k := by rw [List.length_take]; omega
  refine ⟨hd.take k, a, cap, by rw [hlen], by omega, h2, fun i hi => ?_⟩
  rw [hlen] at hi
  obtain ⟨g, o, e, hcell⟩ := hc i (by omega)
  exact ⟨g, o, e, by rw [Op.cf_take, if_pos hi]; exact hcell⟩
theorem tz_take (l : List Int) : Op.tz l = l.take (Op.tz l).length := by
  apply Op.ext_cf
  · have := Op.tz_len l
    rw [List.length_take]; omega
  · intro i
    rw [Op.cf_take]
    split
    · exact Op.cf_tz l i
    · exact Op.cf_out (by omega)
theorem HasP.tz {W : World} {a : Option Addr} {l : List Int} {n cap : Nat} (h : HasP W (.slice a n cap) l) : HasP W (.slice a (Op.tz l).length cap) (Op.tz l) := by
  have := h.take (Op.tz_len l)
  rwa [← tz_take] at this
theorem HasP.len {W : World} {a : Option Addr} {l : List Int} {n cap : Nat} (h : HasP W (.slice a n cap) l) : n = l.length ∧ n ≤ cap := by
  obtain ⟨hd, a', cap', e, h1, h2, hc⟩ := h
  simp only [Value.slice.injEq] at e
  obtain ⟨rfl, rfl, rfl⟩ := e
  exact ⟨rfl, h1⟩
theorem HasP.block {W : World} {v : Value} {l : List Int} (h : HasP W v l) (h0 : 0 < l.length) : ∃ b, v.ownBlock = some b ∧ b < W.heap.size := by
  obtain ⟨_, a, cap, rfl, _, _, hc⟩ := h
  obtain ⟨g, o, rfl, hc0⟩ := hc 0 h0
  exact ⟨g, rfl, World.block_lt_of_cell? W _ hc0⟩

/-- Block g is a row of numbers of 32 bits. -/
def Rw (W : World) (g : Nat) (cur : Array Value) : Prop := W.heap[g]? = some (.cells cur 22 (0, 0))
theorem Rw.cell {W : World} {g : Nat} {cur : Array Value} (h : Rw W g cur) (j : Nat) : W.cell? ⟨g, j, none⟩ = cur[j]? := by
  simp [World.cell?, show W.heap[g]? = _ from h]
theorem Rw.frozen {W : World} {g : Nat} {cur : Array Value} (h : Rw W g cur) (j : Nat) : W.frozen? ⟨g, j, none⟩ = false := by
  simp [World.frozen?, show W.heap[g]? = _ from h]
theorem Rw.set {W : World} {g : Nat} {cur : Array Value} (h : Rw W g cur) (j : Nat) (u : Value) : Rw (W.setCell ⟨g, j, none⟩ u) g (cur.setIfInBounds j u) := by
  obtain ⟨hlt, hk⟩ := Array.getElem?_eq_some_iff.1 (show W.heap[g]? = _ from h)
  show (W.heap.modify g _)[g]? = _
  rw [Array.getElem?_eq_getElem (by rw [Array.size_modify]; exact hlt), Array.getElem_modify_self, hk]
  rfl
theorem Rw.new (w : World) (cur : Array Value) : Rw (w.alloc (.cells cur 22)) w.heap.size cur := heap_alloc_new w _
theorem Rw.lt {W : World} {g : Nat} {cur : Array Value} (h : Rw W g cur) : g < W.heap.size := (Array.getElem?_eq_some_iff.1 (show W.heap[g]? = _ from h)).1
theorem Rw.later {W W' : World} {g : Nat} {cur : Array Value} (h : Rw W g cur) (k : Gr W W') : Rw W' g cur := by
  show W'.heap[g]? = _
  rw [k.block g h.lt]; exact h

/-- W' is W, but for the cells of block g from o on: they hold the numbers l. -/
structure Upd (g o : Nat) (l : List Int) (W W' : World) : Prop where
  os : W'.os = W.os
  tape : W'.tape = W.tape
  output : W'.output = W.output
  size : W'.heap.size = W.heap.size
  block : ∀ k, k ≠ g → W'.heap[k]? = W.heap[k]?
  row : ∃ cur cur', Rw W g cur ∧ Rw W' g cur' ∧ cur'.size = cur.size ∧ o + l.length ≤ cur.size ∧ ∀ j, cur'[j]? = if o ≤ j ∧ j < o + l.length then some (.int .u32 (Op.cf l (j - o))) else cur[j]?
theorem Upd.start {W : World} {g o : Nat} {cur : Array Value} (h : Rw W g cur) (ho : o ≤ cur.size) : Upd g o [] W W :=
  ⟨rfl, rfl, rfl, rfl, fun _ _ => rfl, cur, cur, h, h, rfl, by simpa using ho, fun j => by rw [if_neg (by simp)]⟩
theorem Upd.step {W W' : World} {g o : Nat} {l : List Int} (h : Upd g o l W W') {k : Nat} {d : Int} (hk : l.length = k) {v : Value} (hc : W.cell? ⟨g, o + k, none⟩ = some v) : Upd g o (l ++ [d]) W (W'.setCell ⟨g, o + k, none⟩ (.int .u32 d)) := by
  subst hk
  obtain ⟨h1, h2, h3, h4, h5, cur, cur', r1, r2, r3, r4, r5⟩ := h
  have hlt : o + l.length < cur.size := by
    rw [r1.cell] at hc
    exact (Array.getElem?_eq_some_iff.1 hc).1
  refine ⟨h1, h2, h3, by simpa using h4, fun k hk => ?_, cur, _, r1, r2.set _ _, by simpa using r3, by simp; omega, fun j => ?_⟩
  · rw [Below.heap_setCell _ _ _ _ hk]; exact h5 k hk
  · rw [Array.getElem?_setIfInBounds]
    by_cases e : o + l.length = j
    · subst e
      rw [if_pos rfl, if_pos (by omega), if_pos (by simp)]
      rw [Op.cf_append, if_neg (by omega)]
      simp
    · rw [if_neg e, r5]
      by_cases e2 : o ≤ j ∧ j < o + l.length
      · rw [if_pos e2, if_pos (by simp; omega), Op.cf_append, if_pos (by omega)]
      · rw [if_neg e2, if_neg (by simp; omega)]
theorem Upd.drewN {W W' : World} {g o : Nat} {l : List Int} (h : Upd g o l W W') (n : Nat) : Upd g o l W (W'.drewN n) := by
  obtain ⟨h1, h2, h3, h4, h5, cur, cur', r1, r2, r3⟩ := h
  exact ⟨h1, h2, h3, h4, h5, cur, cur', r1, r2, r3⟩
theorem Upd.frozen {W W' : World} {g o : Nat} {l : List Int} (h : Upd g o l W W') (j : Nat) : W'.frozen? ⟨g, j, none⟩ = false := by
  obtain ⟨_, _, _, _, _, cur, cur', r1, r2, _⟩ := h
  exact r2.frozen j
theorem Upd.gr {w W W' : World} {g o : Nat} {l : List Int} (h : Upd g o l W W') (hg : Gr w W) (hs : w.heap.size ≤ g) : Gr w W' :=
  ⟨h.os.trans hg.os, h.tape.trans hg.tape, h.output.trans hg.output, by rw [h.size]; exact hg.size, fun k hk => (h.block k (by omega)).trans (hg.block k hk)⟩
/-- Block g holds just the numbers l, and cells behind them. -/
def Row (W : World) (g : Nat) (l : List Int) : Prop := U32 l ∧ ∃ cur, Rw W g cur ∧ l.length ≤ cur.size ∧ ∀ j, j < l.length → cur[j]? = some (.int .u32 (Op.cf l j))
theorem Row.cell {W : World} {g : Nat} {l : List Int} (h : Row W g l) {j : Nat} (hj : j < l.length) : W.cell? ⟨g, j, none⟩ = some (.int .u32 (Op.cf l j)) := by
  obtain ⟨_, cur, h1, _, h2⟩ := h
  rw [h1.cell, h2 j hj]
theorem Row.frozen {W : World} {g : Nat} {l : List Int} (h : Row W g l) (j : Nat) : W.frozen? ⟨g, j, none⟩ = false := by
  obtain ⟨_, cur, h1, _, h2⟩ := h
  exact h1.frozen j
theorem Row.lt {W : World} {g : Nat} {l : List Int} (h : Row W g l) : g < W.heap.size := by
  obtain ⟨_, cur, h1, _, h2⟩ := h
  exact h1.lt
theorem Row.later {W W' : World} {g : Nat} {l : List Int} (h : Row W g l) (k : Gr W W') : Row W' g l := by
  obtain ⟨h0, cur, h1, h2⟩ := h
  exact ⟨h0, cur, h1.later k, h2⟩
theorem Row.hasP {W : World} {g : Nat} {l : List Int} (h : Row W g l) {cap : Nat} (h1 : l.length ≤ cap) (h2 : cap ≤ 9223372036854775807) : HasP W (.slice (some ⟨g, 0, none⟩) l.length cap) l :=
  ⟨h.1, _, cap, rfl, h1, h2, fun i hi => ⟨g, 0, rfl, by rw [Nat.zero_add]; exact h.cell hi⟩⟩
/-- What is written from o on. -/
def put (l : List Int) (o : Nat) (pre : List Int) : List Int := l.take o ++ pre ++ l.drop (o + pre.length)
/-- A row of zeros. -/
def zrow (n : Nat) : Array Value := madeCells #[.int .u32 0] n
theorem zrow_size (n : Nat) : (zrow n).size = n := size_madeCells _ _
theorem zrow_at (n j : Nat) (h : j < n) : (zrow n)[j]? = some (.int .u32 0) := by
  unfold zrow madeCells
  rw [Array.getElem?_eq_getElem (by simpa using h)]
  simp [Nat.mod_one]
theorem infoU32 : (Try.prog.info? 22).map (fun i => (i.zero, i.size, i.bytes)) = some (some (.int .u32 0), 1, 4) := by kernel_rfl
theorem mk_row (n : Nat) (L : Int) (hL : L = n) (hn : n ≤ 1000000) (w : World) : (Instr.makeSlice 61 (.int .i64 L) (.int .i64 L)).run Try.prog w = .ok (.slice (some ⟨w.heap.size, 0, none⟩) n n) (w.alloc (.cells (zrow n) 22)) := by
  obtain ⟨i0, hi, hz0, hz1, hz2⟩ := info_parts infoU32
  subst hL
  have := run_make (P := Try.prog) w 61 22 i0 (.int .u32 0) Try.underlying61 hi hz0 .i64 .i64 (n : Int) (n : Int) (by omega) (Int.le_refl _) (by rw [hz2]; omega) (by omega)
  rw [this, hz1, Int.toNat_natCast, Nat.mul_one]
  rfl
theorem cf_rep (n i : Nat) : Op.cf (List.replicate n 0) i = 0 := by
  induction n generalizing i with
  | zero => simp
  | succ n ih => cases i with
    | zero => rfl
    | succ i => exact ih i
theorem Row.zeros (w : World) (n : Nat) : Row (w.alloc (.cells (zrow n) 22)) w.heap.size (List.replicate n 0) :=
  ⟨fun x hx => by rw [List.eq_of_mem_replicate hx]; omega, zrow n, Rw.new w _, by rw [zrow_size]; simp, fun j hj => by rw [List.length_replicate] at hj; rw [zrow_at n j hj, cf_rep]⟩
end Go.Proofs.Ytfmmkdmnondomaa
/- trimmed, plus, less, valid, has. -/
namespace Go.Proofs.Ytfmmkdmnondomaa
open Go.RowKit
set_option linter.unusedVariables false

/-- All are below m. -/
def lowB (m : Int) (l : List Int) : Bool := l.all (fun x => decide (x < m))
theorem lowB_true {m : Int} {l : List Int} : lowB m l = true ↔ ∀ i, i < l.length → Op.cf l i < m := by
  unfold lowB
  rw [List.all_eq_true]
  constructor
  · intro h i hi
    simpa using h _ (Op.cf_mem hi)
  · intro h x hx
    obtain ⟨i, hi, rfl⟩ := List.mem_iff_getElem.1 hx
    have := h i hi
    rw [← Op.cf_at, List.getElem?_eq_getElem hi] at this
    simpa using this

end Go.Proofs.Ytfmmkdmnondomaa
/- add, sum, product, value. -/
namespace Op
set_option linter.unusedVariables false
end Op
namespace Go.Proofs.Ytfmmkdmnondomaa
open Go.RowKit
set_option linter.unusedVariables false

/-- Numbers as cells. -/
def pcells (l : List Int) : List Value := l.map (.int .u32 ·)
theorem pcells_at (l : List Int) (i : Nat) (hi : i < l.length) : (pcells l)[i]? = some (.int .u32 (Op.cf l i)) := by
  rw [← Op.cf_at]; simp [pcells, hi]
theorem pcells_len (l : List Int) : (pcells l).length = l.length := by simp [pcells]
theorem addr_add {a : Option Addr} {g o j : Nat} (h : a = some ⟨g, o, none⟩) : ∀ ad, a = some ad → ad.add j = ⟨g, o + j, none⟩ := by
  intro ad e; rw [h] at e; cases e; unfold Addr.add; split <;> simp_all

end Go.Proofs.Ytfmmkdmnondomaa
/- product, value, inverse. -/
namespace Op
set_option linter.unusedVariables false
theorem horner (a E x m : Int) : (a + E % m * x) % m = (a + x * E) % m := by
  rw [Int.mul_comm (E % m) x, Int.add_emod, Int.mul_emod, Int.emod_emod, ← Int.mul_emod, ← Int.add_emod]
theorem rs_of {m : Int} {l : List Int} (h : ∀ j, j < l.length → 0 ≤ cf l j ∧ cf l j < m) : Rs m l := fun x hx => by
  obtain ⟨i, hi, rfl⟩ := List.mem_iff_getElem.1 hx
  have := h i hi
  rwa [← cf_at, List.getElem?_eq_getElem hi] at this
theorem dvd_mod (m x : Int) : m ∣ x % m - x := ⟨-(x / m), by have := Int.emod_add_mul_ediv x m; rw [Int.mul_neg]; omega⟩
end Op
namespace Go.Proofs.Ytfmmkdmnondomaa
open Go.RowKit
set_option linter.unusedVariables false

theorem gcd_un {a n : Nat} (hn : 2 ≤ n) (h : Nat.gcd a n = 1) : Op.Un n a := by
  obtain ⟨x, y, hxy⟩ : ∃ x y : Int, (a : Int) * x + n * y = 1 := by
    have key : ∀ (k a n : Nat), a + n ≤ k → ∃ x y : Int, (a : Int) * x + n * y = (Nat.gcd a n : Nat) := by
      intro k
      induction k with
      | zero => intro a n hk; exact ⟨0, 0, by have h1 : a = 0 := by omega
                                              have h2 : n = 0 := by omega
                                              subst h1 h2; simp⟩
      | succ k ih =>
        intro a n hk
        rcases Nat.eq_zero_or_pos a with rfl | ha
        · exact ⟨0, 1, by simp⟩
        · rcases Nat.eq_zero_or_pos n with rfl | hn
          · exact ⟨1, 0, by simp⟩
          · by_cases hle : a ≤ n
            · obtain ⟨x, y, h⟩ := ih a (n - a) (by omega)
              refine ⟨x - y, y, ?_⟩
              have e : Nat.gcd a n = Nat.gcd a (n - a) := (Nat.gcd_sub_self_right hle).symm
              rw [e, ← h, Int.mul_sub]
              have : ((n - a : Nat) : Int) = (n : Int) - a := by omega
              rw [this, Int.sub_mul]; omega
            · obtain ⟨x, y, h⟩ := ih (a - n) n (by omega)
              refine ⟨x, y - x, ?_⟩
              have e : Nat.gcd a n = Nat.gcd (a - n) n := (Nat.gcd_sub_self_left (by omega)).symm
              rw [e, ← h, Int.mul_sub]
              have : ((a - n : Nat) : Int) = (a : Int) - n := by omega
              rw [this, Int.sub_mul]; omega
    obtain ⟨x, y, hh⟩ := key (a + n) a n (Nat.le_refl _)
    exact ⟨x, y, by rw [hh, h]; rfl⟩
  exact ⟨x, -y, by rw [Int.mul_neg]; omega⟩
end Go.Proofs.Ytfmmkdmnondomaa
/- append to numbers of the call's own. -/
namespace Go.Proofs.Ytfmmkdmnondomaa
open Go.RowKit
set_option linter.unusedVariables false

/-- A slice of the call's own that holds numbers. -/
def Own1 (W : World) (base : Nat) (v : Value) (l : List Int) : Prop := U32 l ∧ W.ownsRow base 22 1 v l.length (pcells l)
theorem Own1.hasP {W : World} {base : Nat} {v : Value} {l : List Int} (h : Own1 W base v l) : HasP W v l := by
  refine ⟨h.1, ?_⟩
  rcases h.2.2 with ⟨rfl, h0⟩ | ⟨g, cap, cur, rfl, _, hg, h1, h2, h3, h4⟩
  · exact ⟨none, 0, by rw [h0], by omega, by omega, fun i hi => by omega⟩
  · refine ⟨_, cap, rfl, h1, by unfold maxLen at h2; omega, fun i hi => ⟨g, 0, rfl, ?_⟩⟩
    have hc : W.cell? ⟨g, i, none⟩ = (pcells l)[i]? := by
      rw [← h4, List.getElem?_take_of_lt (by omega)]
      simp [World.cell?, hg]
    rw [Nat.zero_add, hc, pcells_at l i hi]
/-- The block that it lies in. -/
theorem Own1.row {W : World} {base : Nat} {v : Value} {l : List Int} (h : Own1 W base v l) (h0 : 0 < l.length) : ∃ g cap, v = .slice (some ⟨g, 0, none⟩) l.length cap ∧ base ≤ g ∧ l.length ≤ cap ∧ cap ≤ 9223372036854775807 ∧ Row W g l := by
  have hd := h.hasP
  rcases h.2.2 with ⟨rfl, h1⟩ | ⟨g, cap, cur, rfl, hb, hg, h1, h2, h3, h4⟩
  · omega
  · refine ⟨g, cap, rfl, hb, h1, by unfold maxLen at h2; omega, h.1, cur, hg, by omega, fun i hi => ?_⟩
    have : cur.toList[i]? = (pcells l)[i]? := by rw [← h4, List.getElem?_take_of_lt (by omega)]
    rw [Array.getElem?_toList] at this
    rw [this, pcells_at l i hi]
theorem Own1.nil (W : World) (base : Nat) : Own1 W base (.slice none 0 0) [] := ⟨U32.nil, World.ownsRow_nil _ _ _ _⟩
theorem Own1.alloc {W : World} {base : Nat} {v : Value} {l : List Int} (h : Own1 W base v l) (o : Obj) : Own1 (W.alloc o) base v l := ⟨h.1, h.2.alloc o⟩
theorem Own1.drew {W : World} {base : Nat} {v : Value} {l : List Int} (h : Own1 W base v l) : Own1 W.drew base v l := h

end Go.Proofs.Ytfmmkdmnondomaa
