/- Wrapping modulo x^n + 1; roots; Newton. No Go here. -/
import Derived.Test.YtaenjbemkeghgaaOpb
namespace Op
set_option linter.unusedVariables false
/-- n zeros in front. -/
def sh (n : Nat) (l : List Int) : List Int := List.replicate n 0 ++ l
theorem sh_succ (n : Nat) (l : List Int) : sh (n + 1) l = 0 :: sh n l := rfl
theorem sh_len (n : Nat) (l : List Int) : (sh n l).length = n + l.length := by simp [sh]
theorem cf_sh (l : List Int) : ∀ (n i : Nat), cf (sh n l) i = if i < n then 0 else cf l (i - n)
  | 0, i => by simp [sh]
  | n + 1, 0 => by simp [sh_succ]
  | n + 1, i + 1 => by
    rw [sh_succ, cf_succ, cf_sh l n i]
    by_cases h : i < n
    · rw [if_pos h, if_pos (by omega)]
    · rw [if_neg h, if_neg (by omega)]; congr 1; omega
theorem mul_sh_left (a c : List Int) : ∀ (n i : Nat), cf (mul (sh n a) c) i = cf (sh n (mul a c)) i
  | 0, i => rfl
  | n + 1, i => by
    rw [sh_succ, sh_succ, mul_shift_left]
    cases i with
    | zero => rfl
    | succ i => exact mul_sh_left a c n i
theorem mul_one (a : List Int) (i : Nat) : cf (mul [1] a) i = cf a i := by
  rw [mul_comm']
  cases i with
  | zero => rw [cf_mul_right_zero, Int.mul_one]
  | succ i => rw [cf_mul_right_succ, cf_mul_right_nil]; simp
/-- The next element of the first factor. -/
theorem mul_next (a b : List Int) (j : Nat) (i : Nat) : cf (mul (a.take (j + 1)) b) i = cf (mul (a.take j) b) i + cf (sh j (sc (cf a j) b)) i := by
  have h : ∀ i, cf (a.take (j + 1)) i = cf (add (a.take j) (sh j [cf a j])) i := fun i => by
    rw [cf_take, cf_add, cf_take, cf_sh]
    by_cases h1 : i < j
    · rw [if_pos (by omega), if_pos h1, if_pos h1]; omega
    · by_cases h2 : i = j
      · subst h2; simp
      · rw [if_neg (by omega), if_neg h1, if_neg h1, cf_out (by simp; omega)]; rfl
  rw [mul_congr h (fun _ => rfl), mul_add_left, mul_sh_left]
  congr 1
  rw [cf_sh, cf_sh]
  split
  · rfl
  · rw [← (Op.cg_scn' 0 (cf a j) b).symm |> fun h => (Int.sub_eq_zero.1 (Int.zero_dvd.1 (h (i - j))))]

/-- x^n + 1. -/
def xn (n : Nat) : List Int := add [1] (sh n [1])
theorem cf_mul_xn (n : Nat) (d : List Int) (i : Nat) : cf (mul d (xn n)) i = cf d i + cf (sh n d) i := by
  rw [mul_comm', xn, mul_add_left, mul_one, mul_sh_left]
  congr 1
  rw [cf_sh, cf_sh]
  split
  · rfl
  · rw [mul_one]
theorem cf_xn (n i : Nat) (hn : 1 ≤ n) : cf (xn n) i = if i = 0 ∨ i = n then 1 else 0 := by
  rw [xn, cf_add, cf_sh]
  cases i with
  | zero => rw [if_pos (by omega), if_pos (by omega)]; rfl
  | succ i =>
    rw [cf_succ, cf_nil]
    by_cases h : i + 1 < n
    · rw [if_pos h, if_neg (by omega)]; rfl
    · by_cases h2 : i + 1 = n
      · rw [if_neg h, if_pos (by omega), h2, Nat.sub_self]; rfl
      · rw [if_neg h, if_neg (by omega), cf_out (by simp; omega)]; rfl
/-- What is left modulo x^n + 1. -/
def Wr (m : Int) (n : Nat) (a w : List Int) : Prop := ∃ q, Cg m a (add (mul q (xn n)) w)
theorem Wr.unique {m : Int} {n : Nat} (hn : 1 ≤ n) {a b w v : List Int} (hw : w.length ≤ n) (hv : v.length ≤ n) (hab : Cg m a b) (h : Wr m n a w) (k : Wr m n b v) : Cg m w v := by
  obtain ⟨q, hq⟩ := h
  obtain ⟨p, hp⟩ := k
  refine (div_cg (b := xn n) (n := n) (fun i hi => ?_) ?_ hw hv ((hq.symm.trans hab).trans hp)).2
  · rw [cf_xn n i hn, if_neg (by omega)]; exact ⟨0, (Int.mul_zero m).symm⟩
  · rw [cf_xn n n hn, if_pos (by omega)]; exact ⟨1, ⟨0, by omega⟩⟩
theorem Wr.start (m : Int) (n : Nat) (a : List Int) (s : Int) (hs : s = 1) : Wr m n a (add [] (sc s a)) := ⟨[], Cg.of (fun i => by subst hs; rw [cf_add, cf_add, cf_mul_nil, cf_nil, cf_sc]; omega)⟩
theorem Wr.cg {m : Int} {n : Nat} {a w v : List Int} (h : Wr m n a w) (k : Cg m w v) : Wr m n a v := by
  obtain ⟨q, hq⟩ := h
  exact ⟨q, hq.trans ((Cg.refl m _).add k)⟩
theorem Wr.cgl {m : Int} {n : Nat} {a b w : List Int} (h : Wr m n a w) (k : Cg m b a) : Wr m n b w := by
  obtain ⟨q, hq⟩ := h
  exact ⟨q, k.trans hq⟩
/-- A further chunk: its sign is s, the next one's is t. -/
theorem Wr.next {m s t : Int} {n : Nat} {a acc rest : List Int} (hst : m ∣ s + t) (h : Wr m n a (add acc (sc s rest))) :
    Wr m n a (add (add acc (sc s (rest.take n))) (sc t (rest.drop n))) := by
  obtain ⟨q, hq⟩ := h
  refine ⟨add q (sc s (rest.drop n)), hq.trans ?_⟩
  intro i
  have h1 : cf (mul (sc s (rest.drop n)) (xn n)) i = s * (cf (rest.drop n) i + (if i < n then 0 else cf (rest.drop n) (i - n))) := by
    rw [mul_sc_left, cf_mul_xn, cf_sh]
  rw [cf_add, cf_add, cf_sc, cf_add, cf_add, cf_add, cf_sc, cf_sc, mul_add_left, h1, cf_take]
  have e : cf rest i = (if i < n then cf rest i else 0) + (if i < n then 0 else cf (rest.drop n) (i - n)) := by
    split
    · omega
    · rw [cf_drop]; have : n + (i - n) = i := by omega
      rw [this]; omega
  generalize (if i < n then 0 else cf (rest.drop n) (i - n)) = y at e ⊢
  generalize (if i < n then cf rest i else 0) = x at e ⊢
  rw [e]
  have e2 : cf (mul q (xn n)) i + (cf acc i + s * (x + y)) - (cf (mul q (xn n)) i + s * (cf (rest.drop n) i + y) + (cf acc i + s * x + t * cf (rest.drop n) i)) = -((s + t) * cf (rest.drop n) i) := by
    rw [Int.mul_add, Int.mul_add, Int.add_mul]; omega
  rw [e2]
  exact Int.dvd_neg.2 (Int.dvd_mul_of_dvd_left hst)
/-- The signs. -/
def sg (k : Nat) : Int := if k % 2 = 0 then 1 else -1
theorem sg_succ (k : Nat) : sg (k + 1) = - sg k := by
  unfold sg
  by_cases h : k % 2 = 0
  · rw [if_pos h, if_neg (by omega)]
  · rw [if_neg h, if_pos (by omega)]; rfl
def wc (n K : Nat) (a : List Int) (j : Nat) : Int := S K (fun k => sg k * cf a (j + k * n))
theorem wc_succ (n K : Nat) (a : List Int) (j : Nat) : wc n (K + 1) a j = cf a j - wc n K (a.drop n) j := by
  unfold wc
  rw [S_left]
  have e : S K (fun k => sg (k + 1) * cf a (j + (k + 1) * n)) = S K (fun k => (-1) * (sg k * cf (a.drop n) (j + k * n))) := S_cong (fun k _ => by
    rw [sg_succ, cf_drop]
    have : n + (j + k * n) = j + (k + 1) * n := by rw [Nat.add_mul]; omega
    rw [this, Int.neg_mul]; omega)
  rw [e, S_mul]
  have : sg 0 = 1 := rfl
  rw [this]; simp; omega
theorem wc_wr (m : Int) (n : Nat) (hn : 1 ≤ n) : ∀ (K : Nat) (a w : List Int), a.length ≤ K * n → w.length = n → (∀ j, j < n → m ∣ cf w j - wc n K a j) → Wr m n a w
  | 0, a, w, h, hl, hw => by
    have ha : a = [] := by cases a with
      | nil => rfl
      | cons => simp at h
    subst ha
    refine ⟨[], fun i => ?_⟩
    rw [cf_nil, cf_add, cf_mul_nil]
    by_cases hi : i < n
    · have := hw i hi
      simp only [wc, S, Int.sub_zero] at this
      have e : 0 - (0 + cf w i) = -cf w i := by omega
      rw [e]; exact Int.dvd_neg.2 this
    · rw [cf_out (by omega)]; exact ⟨0, by omega⟩
  | K + 1, a, w, h, hl, hw => by
    have hd : (a.drop n).length ≤ K * n := by
      have : (K + 1) * n = K * n + n := by rw [Nat.add_mul]; omega
      rw [List.length_drop]; omega
    obtain ⟨v, hv⟩ : ∃ v, v = (List.range n).map (fun j => cf a j - cf w j) := ⟨_, rfl⟩
    have hvl : v.length = n := by rw [hv]; simp
    have hvc : ∀ j, j < n → cf v j = cf a j - cf w j := fun j hj => by
      rw [hv, ← cf_at]; simp [hj]
    obtain ⟨q, hq⟩ := wc_wr m n hn K (a.drop n) v hd hvl (fun j hj => by
      have h0 := hw j hj
      rw [wc_succ] at h0
      rw [hvc j hj]
      have e : cf a j - cf w j - wc n K (a.drop n) j = -(cf w j - (cf a j - wc n K (a.drop n) j)) := by omega
      rw [e]; exact Int.dvd_neg.2 h0)
    refine ⟨add (a.drop n) (sc (-1) q), fun i => ?_⟩
    have h0 := hq i
    rw [cf_add] at h0
    rw [cf_add, mul_add_left, mul_sc_left, cf_mul_xn, cf_sh]
    by_cases hi : i < n
    · rw [hvc i hi] at h0
      rw [if_pos hi]
      have e : cf a i - (cf (a.drop n) i + 0 + -1 * cf (mul q (xn n)) i + cf w i) = -(cf (a.drop n) i - (cf (mul q (xn n)) i + (cf a i - cf w i))) := by omega
      rw [e]; exact Int.dvd_neg.2 h0
    · rw [if_neg hi, cf_drop a n (i - n)]
      have e1 : n + (i - n) = i := by omega
      rw [cf_out (l := v) (by omega)] at h0
      rw [e1, cf_out (l := w) (by omega)]
      have e : cf a i - (cf (a.drop n) i + cf a i + -1 * cf (mul q (xn n)) i + 0) = -(cf (a.drop n) i - (cf (mul q (xn n)) i + 0)) := by omega
      rw [e]; exact Int.dvd_neg.2 h0
theorem Wr.mul {m : Int} {n : Nat} {a b v w : List Int} (h : Wr m n a v) (k : Wr m n b w) : Wr m n (mul a b) (mul v w) := by
  obtain ⟨p, hp⟩ := h
  obtain ⟨q, hq⟩ := k
  refine ⟨add (Op.mul p b) (Op.mul v q), ?_⟩
  refine (hp.mul (Cg.refl m b)).trans ?_
  refine (cg_distl m _ _ b).trans ?_
  have h1 : Cg m (Op.mul (Op.mul p (xn n)) b) (Op.mul (Op.mul p b) (xn n)) :=
    ((cg_assoc m p (xn n) b).trans ((Cg.refl m p).mul (cg_swap m (xn n) b))).trans (cg_assoc m p b (xn n)).symm
  have h2 : Cg m (Op.mul v b) (Op.add (Op.mul (Op.mul v q) (xn n)) (Op.mul v w)) :=
    (((Cg.refl m v).mul hq).trans (cg_distr m _ _ v)).trans ((cg_assoc m v q (xn n)).symm.add (Cg.refl m _))
  refine (h1.add h2).trans ?_
  refine Cg.trans ?_ ((cg_distl m (Op.mul p b) (Op.mul v q) (xn n)).symm.add (Cg.refl m _))
  exact Cg.of (fun i => by rw [cf_add, cf_add, cf_add, cf_add, Int.add_assoc])

/-- Division by x - r. -/
def sd (r : Int) : List Int → List Int
  | [] => []
  | [_] => []
  | _ :: d :: l => ev (d :: l) r :: sd r (d :: l)
theorem sd_len (r : Int) : ∀ l, (sd r l).length = l.length - 1
  | [] => rfl
  | [_] => rfl
  | c :: d :: l => by simp only [sd, List.length_cons, sd_len r (d :: l)]; omega
theorem ev_sd (r x : Int) : ∀ l, ev l x = (x - r) * ev (sd r l) x + ev l r
  | [] => by simp [sd, ev]
  | [c] => by simp [sd, ev]
  | c :: d :: l => by
    have h := ev_sd r x (d :: l)
    have e1 : ev (c :: d :: l) x = c + x * ev (d :: l) x := rfl
    have e2 : ev (c :: d :: l) r = c + r * ev (d :: l) r := rfl
    have e3 : ev (sd r (c :: d :: l)) x = ev (d :: l) r + x * ev (sd r (d :: l)) x := rfl
    rw [e1, e2, e3, h]
    generalize ev (d :: l) r = A
    generalize ev (sd r (d :: l)) x = B
    have e4 : x * ((x - r) * B + A) = (x - r) * (x * B) + x * A := by rw [Int.mul_add, Int.mul_left_comm]
    rw [e4, Int.mul_add (x - r) A, Int.sub_mul x r A]; omega
theorem cf_sd (r : Int) : ∀ (l : List Int) (i : Nat), cf l i = cf (0 :: sd r l) i - r * cf (sd r l) i + (if i = 0 then ev l r else 0)
  | [], i => by cases i <;> simp [sd, ev]
  | [c], i => by cases i <;> simp [sd, ev]
  | c :: d :: l, 0 => by
    have e1 : ev (c :: d :: l) r = c + r * ev (d :: l) r := rfl
    have e : sd r (c :: d :: l) = ev (d :: l) r :: sd r (d :: l) := rfl
    rw [e, e1, cf_zero, cf_zero, cf_zero, if_pos rfl]; omega
  | c :: d :: l, i + 1 => by
    have h := cf_sd r (d :: l) i
    rw [cf_succ, h]
    have e : sd r (c :: d :: l) = ev (d :: l) r :: sd r (d :: l) := rfl
    rw [e, cf_succ, cf_succ]
    have e3 : (if i + 1 = 0 then ev (c :: d :: l) r else 0) = 0 := if_neg (fun h => by cases h)
    rw [e3]
    cases i with
    | zero =>
      have e4 : (if (0 : Nat) = 0 then ev (d :: l) r else 0) = ev (d :: l) r := if_pos rfl
      rw [cf_zero, cf_zero, e4]; omega
    | succ i =>
      have e4 : (if i + 1 = 0 then ev (d :: l) r else 0) = 0 := if_neg (fun h => by cases h)
      rw [cf_succ, cf_succ, e4]
/-- All differences of different places are units. -/
def Au (m : Int) (xs : List Int) : Prop := ∀ i, i < xs.length → ∀ j, j < i → Un m (cf xs i - cf xs j)
theorem Un.neg {m u : Int} (h : Un m u) : Un m (-u) := by
  obtain ⟨v, hv⟩ := h
  exact ⟨-v, by rw [Int.neg_mul_neg]; exact hv⟩
theorem Au.ne {m : Int} {xs : List Int} (h : Au m xs) {i j : Nat} (hi : i < xs.length) (hj : j < xs.length) (hij : i ≠ j) : Un m (cf xs i - cf xs j) := by
  by_cases hlt : j < i
  · exact h i hi j hlt
  · have := (h j hj i (by omega)).neg
    have e : -(cf xs j - cf xs i) = cf xs i - cf xs j := by omega
    rwa [e] at this
theorem Un.cg {m u v : Int} (h : Un m u) (k : m ∣ u - v) : Un m v := by
  obtain ⟨w, hw⟩ := h
  refine ⟨w, ?_⟩
  have e : v * w - 1 = (u * w - 1) - (u - v) * w := by rw [Int.sub_mul]; omega
  rw [e]; exact Int.dvd_sub hw (Int.dvd_mul_of_dvd_left k)
theorem Au.tail {m x : Int} {xs : List Int} (h : Au m (x :: xs)) : Au m xs := fun i hi j hj => h (i + 1) (by simp; omega) (j + 1) (by omega)
/-- A polynomial with at most as many elements as it has places with the value 0 is zero. -/
theorem roots_zero {m : Int} : ∀ (xs l : List Int), Au m xs → l.length ≤ xs.length → (∀ i, i < xs.length → m ∣ ev l (cf xs i)) → Cg m l []
  | [], l, _, hl, _ => by
    cases l with
    | nil => exact Cg.refl m []
    | cons => simp at hl
  | r :: xs, l, hA, hl, hv => by
    have h0 : m ∣ ev l r := hv 0 (by simp)
    have ih := roots_zero xs (sd r l) hA.tail (by rw [sd_len]; simp at hl; omega) (fun i hi => by
      have h1 := hv (i + 1) (by simp; omega)
      rw [cf_succ, ev_sd r] at h1
      have h2 : m ∣ (cf xs i - r) * ev (sd r l) (cf xs i) := by
        have e : (cf xs i - r) * ev (sd r l) (cf xs i) = (cf xs i - r) * ev (sd r l) (cf xs i) + ev l r - ev l r := by omega
        rw [e]; exact Int.dvd_sub h1 h0
      have hu : Un m (cf xs i - r) := hA (i + 1) (by simp; omega) 0 (by omega)
      rw [Int.mul_comm] at h2
      exact hu.cancel h2)
    intro i
    rw [cf_nil, Int.sub_zero, cf_sd r l i]
    have hs : ∀ j, m ∣ cf (sd r l) j := fun j => by have := ih j; simpa using this
    refine Int.dvd_add (Int.dvd_sub ?_ (Int.dvd_mul_of_dvd_right (hs i))) ?_
    · cases i with
      | zero => exact ⟨0, by simp⟩
      | succ i => exact hs i
    · split
      · exact h0
      · exact ⟨0, by simp⟩
theorem points_unique {m : Int} (hm : 0 < m) {xs a b : List Int} (hA : Au m xs) (ha : Nf m a) (hb : Nf m b) (la : a.length ≤ xs.length) (lb : b.length ≤ xs.length)
    (h : ∀ i, i < xs.length → m ∣ ev a (cf xs i) - ev b (cf xs i)) : a = b := by
  have hz := roots_zero xs (add a (sc (-1) b)) hA (by rw [add_len, sc_len]; omega) (fun i hi => by
    rw [ev_add, ev_sc]
    have := h i hi
    have e : ev a (cf xs i) + -1 * ev b (cf xs i) = ev a (cf xs i) - ev b (cf xs i) := by omega
    rw [e]; exact this)
  refine nf_eq hm ha hb (fun i => ?_)
  have := hz i
  rw [cf_add, cf_sc, cf_nil] at this
  have e : cf a i - cf b i = cf a i + -1 * cf b i - 0 := by omega
  rw [e]; exact this

/-- Newton: what is left of a value y at the place x behind j places. -/
def Ch (m : Int) (xs cs : List Int) (x y : Int) : Nat → Int → Prop
  | 0, v => m ∣ v - y
  | j + 1, v => ∃ u, Ch m xs cs x y j u ∧ m ∣ (x - cf xs j) * v - (u - cf cs j)
theorem Ch.cong {m : Int} {xs cs ds : List Int} {x y : Int} : ∀ {j : Nat} {v : Int}, (∀ k, k < j → cf cs k = cf ds k) → Ch m xs cs x y j v → Ch m xs ds x y j v
  | 0, v, _, h => h
  | j + 1, v, hk, ⟨u, hu, hd⟩ => ⟨u, Ch.cong (fun k h => hk k (by omega)) hu, by rw [← hk j (by omega)]; exact hd⟩
/-- Newton's sum, from its end. -/
def nw (xs cs : List Int) (n : Nat) : Nat → List Int
  | 0 => []
  | d + 1 => add (mul (nw xs cs n d) [-cf xs (n - (d + 1)), 1]) [cf cs (n - (d + 1))]
theorem ev_nw (xs cs : List Int) (n d : Nat) (x : Int) : ev (nw xs cs n (d + 1)) x = ev (nw xs cs n d) x * (x - cf xs (n - (d + 1))) + cf cs (n - (d + 1)) := by
  rw [nw, ev_add, ev_mul]
  simp only [ev]
  have e : -cf xs (n - (d + 1)) + x * (1 + x * 0) = x - cf xs (n - (d + 1)) := by simp; omega
  rw [e]; simp
theorem ch_nw {m : Int} {xs cs : List Int} {n i : Nat} {y : Int} (hi : i < n) : ∀ (j : Nat) (v : Int), j ≤ i → Ch m xs cs (cf xs i) y j v → m ∣ v - ev (nw xs cs n (n - j)) (cf xs i) → m ∣ ev (nw xs cs n n) (cf xs i) - y
  | 0, v, _, h, hv => by
    rw [Nat.sub_zero] at hv
    have e : ev (nw xs cs n n) (cf xs i) - y = (v - y) - (v - ev (nw xs cs n n) (cf xs i)) := by omega
    rw [e]; exact Int.dvd_sub h hv
  | j + 1, v, hj, ⟨u, hu, hd⟩, hv => by
    refine ch_nw hi j u (by omega) hu ?_
    have e1 : n - j = (n - (j + 1)) + 1 := by omega
    have e2 : n - (n - (j + 1) + 1) = j := by omega
    rw [e1, ev_nw, e2]
    obtain ⟨A, hA⟩ : ∃ A, A = ev (nw xs cs n (n - (j + 1))) (cf xs i) := ⟨_, rfl⟩
    rw [← hA] at hv ⊢
    have e3 : u - (A * (cf xs i - cf xs j) + cf cs j) = (cf xs i - cf xs j) * (v - A) - ((cf xs i - cf xs j) * v - (u - cf cs j)) := by
      rw [Int.mul_sub (cf xs i - cf xs j), Int.mul_comm A]; omega
    rw [e3]; exact Int.dvd_sub (Int.dvd_mul_of_dvd_right hv) hd
theorem nw_at {m : Int} {xs cs : List Int} {n i : Nat} {y : Int} (hi : i < n) (h : Ch m xs cs (cf xs i) y i (cf cs i)) : m ∣ ev (nw xs cs n n) (cf xs i) - y := by
  refine ch_nw hi i _ (Nat.le_refl _) h ?_
  have e1 : n - i = (n - i - 1) + 1 := by omega
  have e2 : n - (n - i - 1 + 1) = i := by omega
  rw [e1, ev_nw, e2, Int.sub_self, Int.mul_zero, Int.zero_add, Int.sub_self]
  exact ⟨0, by simp⟩
theorem nw_len (xs cs : List Int) (n : Nat) : ∀ d, (nw xs cs n d).length ≤ 2 * d
  | 0 => by simp [nw]
  | d + 1 => by
    have h1 := nw_len xs cs n d
    have h2 := mul_len (nw xs cs n d) [-cf xs (n - (d + 1)), 1]
    rw [nw, add_len]; simp at h2 ⊢; omega
theorem nw_deg (xs cs : List Int) (n : Nat) : ∀ d i, d ≤ i → cf (nw xs cs n d) i = 0
  | 0, i, _ => by simp [nw]
  | d + 1, 0, h => by omega
  | d + 1, i + 1, h => by
    rw [nw, cf_add, cf_mul_right_succ, nw_deg xs cs n d (i + 1) (by omega)]
    cases i with
    | zero =>
      have : d = 0 := by omega
      subst this
      simp [nw]
    | succ i => rw [cf_mul_right_succ, nw_deg xs cs n d (i + 1) (by omega), cf_mul_right_nil]; simp
theorem len_deg {l : List Int} {n : Nat} (h : tz l = l) (k : ∀ i, n ≤ i → cf l i = 0) : l.length ≤ n := by
  apply Classical.byContradiction
  intro hn
  have h1 := tz_last h (by intro e; subst e; simp at hn)
  exact h1 (k _ (by omega))
end Op
