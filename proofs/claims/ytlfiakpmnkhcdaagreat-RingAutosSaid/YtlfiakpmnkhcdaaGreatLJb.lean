import Derived.Test.YtlfiakpmnkhcdaaGreatLJa
/- Rows: sums, products modulo x^n + 1, automorphisms. No Go here. -/
namespace Oj
open Op Oq
set_option linter.unusedVariables false

/-- A row as a function makes it. -/
def rowL (n : Nat) (f : Nat → Int) : List Int := (List.range n).map f
theorem rowL_len (n : Nat) (f : Nat → Int) : (rowL n f).length = n := by simp [rowL]
theorem rowL_at (n : Nat) (f : Nat → Int) {i : Nat} (hi : i < n) : cf (rowL n f) i = f i := by
  rw [← cf_at]; simp [rowL, hi]
theorem rowL_out (n : Nat) (f : Nat → Int) {i : Nat} (hi : n ≤ i) : cf (rowL n f) i = 0 := cf_out (by rw [rowL_len]; exact hi)
theorem rowL_cong {n : Nat} {f g : Nat → Int} (h : ∀ i, i < n → f i = g i) : rowL n f = rowL n g := by
  unfold rowL; exact List.map_congr_left fun i hi => h i (List.mem_range.1 hi)
/-- Residues: n of them. -/
def Rws (n : Nat) (m : Int) (l : List Int) : Prop := l.length = n ∧ ∀ i, i < n → 0 ≤ cf l i ∧ cf l i < m
theorem Rws.all {n : Nat} {m : Int} {l : List Int} (hm : 0 < m) (h : Rws n m l) (i : Nat) : 0 ≤ cf l i ∧ cf l i < m := by
  by_cases hi : i < n
  · exact h.2 i hi
  · rw [cf_out (by rw [h.1]; omega)]; omega
theorem Rws.ext {n : Nat} {m : Int} {a b : List Int} (ha : Rws n m a) (hb : Rws n m b) (h : ∀ i, i < n → m ∣ cf a i - cf b i) : a = b := by
  refine ext_cf (by rw [ha.1, hb.1]) fun i => ?_
  by_cases hi : i < n
  · exact dvd_small (h i hi) (ha.2 i hi) (hb.2 i hi)
  · rw [cf_out (by rw [ha.1]; omega), cf_out (by rw [hb.1]; omega)]
theorem Rws.mod {n : Nat} {m : Int} (hm : 0 < m) (f : Nat → Int) : Rws n m (rowL n (fun i => f i % m)) :=
  ⟨rowL_len _ _, fun i hi => by rw [rowL_at _ _ hi]; exact ⟨Int.emod_nonneg _ (by omega), Int.emod_lt_of_pos _ hm⟩⟩

theorem xn_len {n : Nat} (hn : 1 ≤ n) : (xn n).length = n + 1 := by
  rw [xn, add_len, sh_len]; simp
theorem xn_ld {n : Nat} (hn : 1 ≤ n) : ld (xn n) = 1 := by
  unfold ld
  rw [xn_len hn, Nat.add_sub_cancel, cf_xn n n hn, if_pos (by omega)]
theorem Rws.uniq {n : Nat} {m : Int} (hn : 1 ≤ n) (hm : 2 ≤ m) {a b : List Int} (ha : Rws n m a) (hb : Rws n m b) (h : cl m (xn n) a = cl m (xn n) b) : a = b := by
  refine ha.ext hb fun i _ => ?_
  have L := laws m (xn n)
  have h0 : cl m (xn n) (add a (sc (-1) b)) = 0 := by
    rw [← cl_add, ← cl_neg, h, L.an]
  have h1 := short_zero hm (xn_ld hn) (by rw [add_len, sc_len, ha.1, hb.1, xn_len hn]; omega) h0 i
  rw [cf_add, cf_sc, cf_nil] at h1
  have e : cf a i - cf b i = cf a i + -1 * cf b i - 0 := by omega
  rw [e]; exact h1
theorem X_neg {n : Nat} {m : Int} : pw (X m (xn n)) n = -1 := by
  have L := laws m (xn n)
  have h := cl_xn (m := m) (f := xn n) n
  rw [cl_self] at h
  exact L.neg_of h.symm
theorem kk_mod {m : Int} {f : List Int} (x : Int) : kk m f (x % m) = kk m f x := by
  have L := laws m f
  have h : x = m * (x / m) + x % m := (Int.mul_ediv_add_emod x m).symm
  have h2 : kk m f x = kk m f (m * (x / m) + x % m) := by rw [← h]
  rw [h2, L.ka, L.km, k_m, L.zm, L.za]

section
variable {m : Int} {f : List Int}
/-- Values as sums. -/
theorem ev_sum (Y : Q m f) : ∀ (l : List Int), evR (kk m f) l Y = Sm l.length (fun i => kk m f (cf l i) * pw Y i)
  | [] => rfl
  | c :: l => by
    have L := laws m f
    rw [evR, ev_sum Y l, List.length_cons, L.Sm_left]
    rw [cf_zero, show pw Y 0 = 1 from rfl, L.mo, L.mc Y, ← L.Sm_mul]
    congr 1
    exact Sm_cong fun j _ => by rw [cf_succ, pw, L.ma]
theorem cl_sum (l : List Int) : cl m f l = Sm l.length (fun i => kk m f (cf l i) * pw (X m f) i) := by rw [← ev_X, ev_sum]
theorem kk_S (g : Nat → Int) : ∀ n, kk m f (S n g) = Sm n (fun i => kk m f (g i))
  | 0 => (laws m f).k0
  | n + 1 => by rw [S, (laws m f).ka, kk_S g n, Sm]
theorem Sm_swap (g : Nat → Nat → Q m f) (a : Nat) : ∀ b, Sm a (fun i => Sm b (fun j => g i j)) = Sm b (fun j => Sm a (fun i => g i j))
  | 0 => (laws m f).Sm_zero fun _ _ => rfl
  | b + 1 => by
    simp only [Sm]
    rw [(laws m f).Sm_add, Sm_swap g a b]
theorem Sm_mul' (c : Q m f) (g : Nat → Q m f) (n : Nat) : Sm n (fun j => c * g j) = c * Sm n g := by
  have L := laws m f
  rw [L.mc c, ← L.Sm_mul]
  exact Sm_cong fun j _ => L.mc _ _
theorem ev_add' (Y : Q m f) : ∀ a b : List Int, evR (kk m f) (add a b) Y = evR (kk m f) a Y + evR (kk m f) b Y
  | [], b => by rw [show add [] b = b by cases b <;> rfl]; exact ((laws m f).za _).symm
  | x :: a, [] => by rw [show add (x :: a) [] = x :: a from rfl]; exact ((laws m f).az _).symm
  | x :: a, y :: b => by
    have L := laws m f
    rw [show add (x :: a) (y :: b) = (x + y) :: add a b from rfl, evR, evR, evR, ev_add' Y a b, L.ka, L.md, L.add4]
theorem ev_sc' (Y : Q m f) (c : Int) : ∀ a : List Int, evR (kk m f) (sc c a) Y = kk m f c * evR (kk m f) a Y
  | [] => ((laws m f).mz _).symm
  | x :: a => by
    have L := laws m f
    rw [show sc c (x :: a) = (c * x) :: sc c a from rfl, evR, evR, ev_sc' Y c a, L.km, L.md]
    congr 1
    rw [← L.ma, L.mc Y, L.ma]
theorem ev_mul' (Y : Q m f) : ∀ a b : List Int, evR (kk m f) (mul a b) Y = evR (kk m f) a Y * evR (kk m f) b Y
  | [], b => ((laws m f).zm _).symm
  | x :: a, b => by
    have L := laws m f
    rw [show mul (x :: a) b = add (sc x b) (0 :: mul a b) from rfl, ev_add', ev_sc', evR, L.k0, L.za, ev_mul' Y a b, evR, L.dm, L.ma]
theorem ev_zero' (Y : Q m f) : ∀ a : List Int, (∀ i, m ∣ cf a i) → evR (kk m f) a Y = 0
  | [], _ => rfl
  | x :: a, h => by
    have L := laws m f
    obtain ⟨q, hq⟩ := h 0
    rw [cf_zero] at hq
    rw [evR, ev_zero' Y a (fun i => h (i + 1)), hq, L.km, k_m, L.zm, L.mz, L.az]
theorem ev_cg' (Y : Q m f) {a b : List Int} (h : Cg m a b) : evR (kk m f) a Y = evR (kk m f) b Y := by
  have L := laws m f
  have h1 := ev_zero' Y (add a (sc (-1) b)) (fun i => by
    rw [cf_add, cf_sc, show cf a i + -1 * cf b i = cf a i - cf b i by omega]; exact h i)
  rw [ev_add', ev_sc', L.kn, L.k1, L.nm, L.om] at h1
  exact L.eq_of h1
theorem ev_mc (Y : Q m f) (h0 : evR (kk m f) f Y = 0) {a b : List Int} (h : cl m f a = cl m f b) : evR (kk m f) a Y = evR (kk m f) b Y := by
  obtain ⟨q, hq⟩ := cl_eq.1 h
  rw [ev_cg' Y hq, ev_add', ev_mul', h0, (laws m f).mz, (laws m f).za]
theorem ev_set (Y : Q m f) (v : Int) : ∀ (l : List Int) (p : Nat), p < l.length → evR (kk m f) (l.set p v) Y = evR (kk m f) l Y + kk m f (v - cf l p) * pw Y p
  | [], p, h => by simp at h
  | c :: l, 0, _ => by
    have L := laws m f
    rw [List.set_cons_zero, evR, evR, cf_zero, show pw Y 0 = 1 from rfl, L.mo, L.ks, L.aa, L.ac (Y * _), ← L.aa, ← L.aa, L.ac (kk m f c), L.aa (kk m f v), L.aa, L.an, L.za]
  | c :: l, p + 1, h => by
    have L := laws m f
    rw [List.set_cons_succ, evR, evR, ev_set Y v l p (by simpa using h), cf_succ, L.md, L.aa, pw, L.mc Y (_ * _), L.ma]
theorem ev_rep (Y : Q m f) (n : Nat) : evR (kk m f) (List.replicate n 0) Y = 0 := ev_zero' Y _ fun i => by
  have : cf (List.replicate n 0) i = 0 := by
    rw [← cf_at]
    by_cases h : i < n <;> simp [h]
  rw [this]; exact ⟨0, by simp⟩
end
theorem ev_xn {n : Nat} {m : Int} (Y : Q m (xn n)) (hY : pw Y n = -1) : evR (kk m (xn n)) (xn n) Y = 0 := by
  have L := laws m (xn n)
  have hs : ∀ j (l : List Int), evR (kk m (xn n)) (sh j l) Y = pw Y j * evR (kk m (xn n)) l Y := by
    intro j
    induction j with
    | zero => intro l; exact (L.om _).symm
    | succ j ih => intro l; rw [sh_succ, evR, ih, L.k0, L.za, pw, ← L.ma, L.mc Y]
  have e : evR (kk m (xn n)) (xn n) Y = evR (kk m (xn n)) (add [1] (sh n [1])) Y := rfl
  rw [e, ev_add', hs, hY]
  have h1 : evR (kk m (xn n)) [1] Y = 1 := by rw [evR, evR, L.mz, L.az, L.k1]
  rw [h1, L.mo, L.an]

/-- The sum of a row and a multiple of another one. -/
def sumR (n : Nat) (m : Int) (a : List Int) (s : Int) (b : List Int) : List Int := rowL n (fun i => (cf a i + s * cf b i) % m)
theorem sumR_len (n : Nat) (m : Int) (a : List Int) (s : Int) (b : List Int) : (sumR n m a s b).length = n := rowL_len _ _
theorem sumR_rws {n : Nat} {m : Int} (hm : 0 < m) (a : List Int) (s : Int) (b : List Int) : Rws n m (sumR n m a s b) := Rws.mod hm _
theorem cl_sumR {n : Nat} {m : Int} {f : List Int} {a b : List Int} (s : Int) (ha : a.length = n) (hb : b.length = n) : cl m f (sumR n m a s b) = cl m f a + kk m f s * cl m f b := by
  have L := laws m f
  rw [cl_sum, cl_sum a, cl_sum b, sumR, rowL_len, ha, hb, ← Sm_mul', ← L.Sm_add]
  refine Sm_cong fun j hj => ?_
  rw [rowL_at _ _ hj, kk_mod, L.ka, L.km, L.dm, L.ma]
/-- Products modulo x^n + 1. -/
def sb (n : Nat) (b : List Int) (k i : Nat) : Int := if i ≤ k then cf b (k - i) else - cf b (n + k - i)
def np (n : Nat) (a b : List Int) (k : Nat) : Int := S n (fun i => cf a i * sb n b k i)
def prodR (n : Nat) (m : Int) (a b : List Int) : List Int := rowL n (fun k => np n a b k % m)
theorem prodR_len (n : Nat) (m : Int) (a b : List Int) : (prodR n m a b).length = n := rowL_len _ _
theorem prodR_rws {n : Nat} {m : Int} (hm : 0 < m) (a b : List Int) : Rws n m (prodR n m a b) := Rws.mod hm _
theorem sb_row {n : Nat} {m : Int} {b : List Int} (hb : b.length = n) : ∀ i, i ≤ n → Sm n (fun k => kk m (xn n) (sb n b k i) * pw (X m (xn n)) k) = pw (X m (xn n)) i * cl m (xn n) b
  | 0, _ => by
    have L := laws m (xn n)
    rw [show pw (X m (xn n)) 0 = 1 from rfl, L.om, cl_sum, hb]
    exact Sm_cong fun k _ => by rw [sb, if_pos (by omega), Nat.sub_zero]
  | i + 1, hi => by
    have L := laws m (xn n)
    have ih := sb_row (m := m) hb i (by omega)
    have hX := X_neg (n := n) (m := m)
    have e1 : pw (X m (xn n)) (i + 1) * cl m (xn n) b = Sm n (fun k => kk m (xn n) (sb n b k i) * pw (X m (xn n)) k) * X m (xn n) := by
      rw [ih, pw, L.ma, L.mc (X m (xn n)), L.ma]
    rw [e1, ← L.Sm_mul]
    obtain ⟨q, rfl⟩ : ∃ q, n = q + 1 := ⟨n - 1, by omega⟩
    rw [L.Sm_left, Sm, L.ac]
    congr 1
    · refine Sm_cong fun k hk => ?_
      have e2 : pw (X m (xn (q + 1))) (k + 1) = pw (X m (xn (q + 1))) k * X m (xn (q + 1)) := rfl
      have e3 : sb (q + 1) b (k + 1) (i + 1) = sb (q + 1) b k i := by
        unfold sb
        by_cases h : i ≤ k
        · rw [if_pos h, if_pos (by omega), show k + 1 - (i + 1) = k - i by omega]
        · rw [if_neg h, if_neg (by omega), show q + 1 + (k + 1) - (i + 1) = q + 1 + k - i by omega]
      rw [L.ma, ← e2, e3]
    · have e2 : pw (X m (xn (q + 1))) (q + 1) = pw (X m (xn (q + 1))) q * X m (xn (q + 1)) := rfl
      have e3 : sb (q + 1) b 0 (i + 1) = - sb (q + 1) b q i := by
        unfold sb
        rw [if_neg (by omega), if_pos (by omega), show q + 1 + 0 - (i + 1) = q - i by omega]
      rw [L.ma, ← e2, hX, L.mn, L.mo, show pw (X m (xn (q + 1))) 0 = 1 from rfl, L.mo, e3, L.kn]
theorem cl_prodR {n : Nat} {m : Int} {a b : List Int} (ha : a.length = n) (hb : b.length = n) : cl m (xn n) (prodR n m a b) = cl m (xn n) a * cl m (xn n) b := by
  have L := laws m (xn n)
  rw [cl_sum, prodR, rowL_len]
  have e1 : Sm n (fun k => kk m (xn n) (cf (rowL n (fun k => np n a b k % m)) k) * pw (X m (xn n)) k) = Sm n (fun k => Sm n (fun i => kk m (xn n) (cf a i) * (kk m (xn n) (sb n b k i) * pw (X m (xn n)) k))) := Sm_cong fun k hk => by
    rw [rowL_at _ _ hk, kk_mod, np, kk_S, ← L.Sm_mul]
    exact Sm_cong fun i _ => by rw [L.km, L.ma]
  rw [e1, Sm_swap]
  have e2 : Sm n (fun i => Sm n (fun k => kk m (xn n) (cf a i) * (kk m (xn n) (sb n b k i) * pw (X m (xn n)) k))) = Sm n (fun i => kk m (xn n) (cf a i) * pw (X m (xn n)) i * cl m (xn n) b) := Sm_cong fun i hi => by
    rw [Sm_mul', sb_row hb i (by omega), L.ma]
  rw [e2, L.Sm_mul, cl_sum a, ha]
section
variable {n : Nat} {m : Int} {a b c : List Int}
theorem prod_comm (hn : 1 ≤ n) (hm : 2 ≤ m) (ha : a.length = n) (hb : b.length = n) : prodR n m a b = prodR n m b a :=
  (prodR_rws (by omega) a b).uniq hn hm (prodR_rws (by omega) b a) (by rw [cl_prodR ha hb, cl_prodR hb ha, (laws m (xn n)).mc])
theorem prod_assoc (hn : 1 ≤ n) (hm : 2 ≤ m) (ha : a.length = n) (hb : b.length = n) (hc : c.length = n) : prodR n m (prodR n m a b) c = prodR n m a (prodR n m b c) :=
  (prodR_rws (by omega) _ c).uniq hn hm (prodR_rws (by omega) a _) (by
    rw [cl_prodR (prodR_len _ _ _ _) hc, cl_prodR ha hb, cl_prodR ha (prodR_len _ _ _ _), cl_prodR hb hc, (laws m (xn n)).ma])
theorem prod_dist (hn : 1 ≤ n) (hm : 2 ≤ m) (ha : a.length = n) (hb : b.length = n) (hc : c.length = n) : prodR n m (sumR n m a 1 c) b = sumR n m (prodR n m a b) 1 (prodR n m b c) := by
  have L := laws m (xn n)
  refine (prodR_rws (by omega) _ b).uniq hn hm (sumR_rws (by omega) _ _ _) ?_
  rw [cl_prodR (sumR_len _ _ _ _ _) hb, cl_sumR 1 ha hc, cl_sumR 1 (prodR_len _ _ _ _) (prodR_len _ _ _ _), cl_prodR ha hb, cl_prodR hb hc, L.k1, L.om, L.om, L.dm, L.mc (cl m (xn n) b) (cl m (xn n) c)]
theorem sum_back (hm : 0 < m) (ha : Rws n m a) : sumR n m (sumR n m a 1 c) (-1) c = a := by
  refine (sumR_rws hm _ _ _).ext ha fun i hi => ?_
  unfold sumR
  rw [rowL_at _ _ hi, rowL_at _ _ hi]
  have h1 := dvd_mod m ((cf a i + 1 * cf c i) % m + -1 * cf c i)
  have h2 := dvd_mod m (cf a i + 1 * cf c i)
  have e : ((cf a i + 1 * cf c i) % m + -1 * cf c i) % m - cf a i = (((cf a i + 1 * cf c i) % m + -1 * cf c i) % m - ((cf a i + 1 * cf c i) % m + -1 * cf c i)) + ((cf a i + 1 * cf c i) % m - (cf a i + 1 * cf c i)) := by omega
  rw [e]; exact Int.dvd_add h1 h2
end

/-- Automorphisms. -/
def ps (n k i : Nat) : Nat := if i * k % (2 * n) < n then i * k % (2 * n) else i * k % (2 * n) - n
def vl (n : Nat) (m : Int) (k : Nat) (a : List Int) (i : Nat) : Int := if i * k % (2 * n) < n then cf a i else (-(cf a i)) % m
def autoS (n : Nat) (m : Int) (k : Nat) (a : List Int) : Nat → List Int
  | 0 => List.replicate n 0
  | j + 1 => (autoS n m k a j).set (ps n k j) (vl n m k a j)
def autoR (n : Nat) (m : Int) (k : Nat) (a : List Int) : List Int := autoS n m k a n
theorem autoS_len (n : Nat) (m : Int) (k : Nat) (a : List Int) : ∀ j, (autoS n m k a j).length = n
  | 0 => by simp [autoS]
  | j + 1 => by rw [autoS, List.length_set, autoS_len n m k a j]
theorem autoR_len (n : Nat) (m : Int) (k : Nat) (a : List Int) : (autoR n m k a).length = n := autoS_len n m k a n
def Dim (n : Nat) : Prop := n = 4 ∨ n = 8 ∨ n = 16 ∨ n = 32
theorem ps_lt {n k i : Nat} (hn : 1 ≤ n) : ps n k i < n := by
  unfold ps
  have := Nat.mod_lt (i * k) (show 2 * n > 0 by omega)
  split <;> omega
theorem ps_mod {n k i : Nat} (hn : 1 ≤ n) : ps n k i = i * k % n := by
  have h1 := Nat.mod_lt (i * k) (show 2 * n > 0 by omega)
  have h2 : i * k % (2 * n) % n = i * k % n := Nat.mod_mod_of_dvd _ ⟨2, by omega⟩
  unfold ps
  generalize i * k % (2 * n) = z at *
  generalize i * k % n = y at *
  split
  · rename_i h
    rw [Nat.mod_eq_of_lt h] at h2; exact h2
  · rename_i h
    obtain ⟨t, rfl⟩ : ∃ t, z = t + n := ⟨z - n, by omega⟩
    rw [Nat.add_mod_right, Nat.mod_eq_of_lt (by omega)] at h2
    omega
theorem cop_pow {k : Nat} (hk : k % 2 = 1) : ∀ (e d : Nat), 2 ^ e ∣ d * k → 2 ^ e ∣ d
  | 0, d, _ => by simp
  | e + 1, d, h => by
    have h1 : 2 ∣ d * k := Nat.dvd_trans ⟨2 ^ e, by rw [Nat.pow_succ, Nat.mul_comm]⟩ h
    have h2 : d % 2 = 0 := by
      have h3 : d * k % 2 = 0 := Nat.mod_eq_zero_of_dvd h1
      rw [Nat.mul_mod, hk] at h3
      omega
    obtain ⟨t, rfl⟩ : ∃ t, d = 2 * t := ⟨d / 2, by omega⟩
    have h4 : 2 ^ e ∣ t * k := by
      rw [Nat.pow_succ, Nat.mul_comm (2 ^ e), Nat.mul_assoc] at h
      exact Nat.dvd_of_mul_dvd_mul_left (by omega) h
    rw [Nat.pow_succ, Nat.mul_comm (2 ^ e)]
    exact Nat.mul_dvd_mul_left 2 (cop_pow hk e t h4)
theorem ps_inj {n k i j : Nat} (hn : Dim n) (hk : k % 2 = 1) (hi : i < n) (hj : j < n) (h : ps n k i = ps n k j) : i = j := by
  have hn1 : 1 ≤ n := by rcases hn with rfl | rfl | rfl | rfl <;> omega
  obtain ⟨e, he⟩ : ∃ e, n = 2 ^ e := by
    rcases hn with rfl | rfl | rfl | rfl
    · exact ⟨2, rfl⟩
    · exact ⟨3, rfl⟩
    · exact ⟨4, rfl⟩
    · exact ⟨5, rfl⟩
  rw [ps_mod hn1, ps_mod hn1] at h
  have key : ∀ x y, x ≤ y → y < n → x * k % n = y * k % n → x = y := fun x y hxy hy h => by
    have h1 : n ∣ (y - x) * k := by
      rw [Nat.sub_mul]
      exact Nat.dvd_of_mod_eq_zero (Nat.sub_mod_eq_zero_of_mod_eq h.symm)
    rw [he] at h1
    have h2 := cop_pow hk e _ h1
    rw [← he] at h2
    rcases Nat.eq_zero_or_pos (y - x) with h3 | h3
    · omega
    · have := Nat.le_of_dvd h3 h2; omega
  rcases Nat.le_total i j with h1 | h1
  · exact key i j h1 hj h
  · exact (key j i h1 hi h.symm).symm
theorem cf_set' (l : List Int) (p : Nat) (v : Int) (hp : p < l.length) (i : Nat) : cf (l.set p v) i = if i = p then v else cf l i := by
  rw [← cf_at, ← cf_at]
  by_cases h : i = p
  · subst h; rw [if_pos rfl]; simp [hp]
  · rw [if_neg h, List.getElem?_set_ne (fun e => h e.symm)]
theorem cf_rep' (n i : Nat) : cf (List.replicate n 0) i = 0 := by
  rw [← cf_at]
  by_cases h : i < n <;> simp [h]
theorem autoS_cf {n k : Nat} {m : Int} {a : List Int} (hn : Dim n) (hk : k % 2 = 1) : ∀ j, j ≤ n → (∀ i, i < j → cf (autoS n m k a j) (ps n k i) = vl n m k a i) ∧ (∀ p, (∀ i, i < j → p ≠ ps n k i) → cf (autoS n m k a j) p = 0)
  | 0, _ => ⟨fun i hi => by omega, fun p _ => cf_rep' n p⟩
  | j + 1, hj => by
    have hn1 : 1 ≤ n := by rcases hn with rfl | rfl | rfl | rfl <;> omega
    obtain ⟨h1, h2⟩ := autoS_cf (a := a) (m := m) hn hk j (by omega)
    have hl := autoS_len n m k a j
    refine ⟨fun i hi => ?_, fun p hp => ?_⟩
    · rw [autoS, cf_set' _ _ _ (by rw [hl]; exact ps_lt hn1)]
      by_cases hij : i = j
      · subst hij; rw [if_pos rfl]
      · rw [if_neg (fun e => hij (ps_inj hn hk (by omega) (by omega) e)), h1 i (by omega)]
    · rw [autoS, cf_set' _ _ _ (by rw [hl]; exact ps_lt hn1), if_neg (hp j (by omega)), h2 p (fun i hi => hp i (by omega))]
theorem vl_rng {n k i : Nat} {m : Int} {a : List Int} (hm : 0 < m) (ha : Rws n m a) : 0 ≤ vl n m k a i ∧ vl n m k a i < m := by
  unfold vl
  split
  · exact ha.all hm i
  · exact ⟨Int.emod_nonneg _ (by omega), Int.emod_lt_of_pos _ hm⟩
theorem autoS_rws {n k : Nat} {m : Int} {a : List Int} (hn : 1 ≤ n) (hm : 0 < m) (ha : Rws n m a) : ∀ j, Rws n m (autoS n m k a j)
  | 0 => ⟨by simp [autoS], fun i _ => by rw [autoS, cf_rep']; omega⟩
  | j + 1 => ⟨autoS_len n m k a (j + 1), fun i hi => by
    have h := autoS_rws (k := k) hn hm ha j
    rw [autoS, cf_set' _ _ _ (by rw [h.1]; exact ps_lt hn)]
    split
    · exact vl_rng hm ha
    · exact h.2 i hi⟩
theorem autoR_rws {n k : Nat} {m : Int} {a : List Int} (hn : 1 ≤ n) (hm : 0 < m) (ha : Rws n m a) : Rws n m (autoR n m k a) := autoS_rws hn hm ha n
theorem pw_period {n : Nat} {m : Int} {Y : Q m (xn n)} (hY : pw Y n = -1) (e : Nat) : pw Y e = pw Y (e % (2 * n)) := by
  have L := laws m (xn n)
  have h2 : pw Y (2 * n) = 1 := by
    rw [Nat.mul_comm, L.pw_mul, hY]
    simp only [pw]
    rw [L.om, L.nm, L.mn, L.nn, L.mo]
  have h := Nat.div_add_mod e (2 * n)
  have h3 : pw Y e = pw Y (2 * n * (e / (2 * n)) + e % (2 * n)) := by rw [h]
  rw [h3, L.pw_add, L.pw_mul, h2, L.one_pw, L.om]
theorem auto_term {n k i : Nat} {m : Int} {a : List Int} {Y : Q m (xn n)} (hY : pw Y n = -1) (hn : 1 ≤ n) : kk m (xn n) (vl n m k a i) * pw Y (ps n k i) = kk m (xn n) (cf a i) * pw (pw Y k) i := by
  have L := laws m (xn n)
  have h1 := Nat.mod_lt (i * k) (show 2 * n > 0 by omega)
  rw [← L.pw_mul, Nat.mul_comm k i, pw_period hY (i * k)]
  unfold vl ps
  split
  · rfl
  · rename_i h
    obtain ⟨t, ht⟩ : ∃ t, i * k % (2 * n) = n + t := ⟨i * k % (2 * n) - n, by omega⟩
    rw [ht, Nat.add_sub_cancel_left, L.pw_add, hY, kk_mod, L.kn, L.nm, L.nm, L.om, L.mn]
theorem autoS_ev {n k : Nat} {m : Int} {a : List Int} {Y : Q m (xn n)} (hn : Dim n) (hk : k % 2 = 1) (hY : pw Y n = -1) : ∀ j, j ≤ n → evR (kk m (xn n)) (autoS n m k a j) Y = Sm j (fun i => kk m (xn n) (cf a i) * pw (pw Y k) i)
  | 0, _ => ev_rep Y n
  | j + 1, hj => by
    have hn1 : 1 ≤ n := by rcases hn with rfl | rfl | rfl | rfl <;> omega
    rw [autoS, ev_set Y _ _ _ (by rw [autoS_len]; exact ps_lt hn1), autoS_ev hn hk hY j (by omega), Sm,
      (autoS_cf (a := a) (m := m) hn hk j (by omega)).2 (ps n k j) (fun i hi e => by have := ps_inj hn hk (by omega) (by omega) e; omega), Int.sub_zero, auto_term hY hn1]
theorem autoR_ev {n k : Nat} {m : Int} {a : List Int} {Y : Q m (xn n)} (hn : Dim n) (hk : k % 2 = 1) (hY : pw Y n = -1) (ha : a.length = n) : evR (kk m (xn n)) (autoR n m k a) Y = evR (kk m (xn n)) a (pw Y k) := by
  rw [autoR, autoS_ev hn hk hY n (Nat.le_refl _), ev_sum, ha]
theorem pw_odd {n k : Nat} {m : Int} {Y : Q m (xn n)} (hk : k % 2 = 1) (hY : pw Y n = -1) : pw (pw Y k) n = -1 := by
  have L := laws m (xn n)
  rw [← L.pw_mul, Nat.mul_comm, L.pw_mul, hY, L.neg_pw _ hk, L.one_pw]
theorem cl_auto {n k : Nat} {m : Int} {a : List Int} (hn : Dim n) (hk : k % 2 = 1) (ha : a.length = n) : cl m (xn n) (autoR n m k a) = evR (kk m (xn n)) a (pw (X m (xn n)) k) := by
  rw [← ev_X, autoR_ev hn hk X_neg ha]
/-- The automorphism of a product. -/
theorem auto_prod {n k : Nat} {m : Int} {a b : List Int} (hn : Dim n) (hk : k % 2 = 1) (hm : 2 ≤ m) (ha : Rws n m a) (hb : Rws n m b) : autoR n m k (prodR n m a b) = prodR n m (autoR n m k a) (autoR n m k b) := by
  have hn1 : 1 ≤ n := by rcases hn with rfl | rfl | rfl | rfl <;> omega
  refine (autoR_rws hn1 (by omega) (prodR_rws (by omega) a b)).uniq hn1 hm (prodR_rws (by omega) _ _) ?_
  rw [cl_auto hn hk (prodR_len _ _ _ _), cl_prodR (autoR_len _ _ _ _) (autoR_len _ _ _ _), cl_auto hn hk ha.1, cl_auto hn hk hb.1,
    ev_mc (pw (X m (xn n)) k) (ev_xn _ (pw_odd hk X_neg)) (a := prodR n m a b) (b := mul a b) (by rw [cl_prodR ha.1 hb.1]; rfl), ev_mul']
/-- One automorphism behind another. -/
theorem auto_auto {n k l : Nat} {m : Int} {a : List Int} (hn : Dim n) (hk : k % 2 = 1) (hl : l % 2 = 1) (hm : 2 ≤ m) (ha : Rws n m a) : autoR n m (k * l % (2 * n)) a = autoR n m l (autoR n m k a) := by
  have hn1 : 1 ≤ n := by rcases hn with rfl | rfl | rfl | rfl <;> omega
  have L := laws m (xn n)
  have hkl : k * l % (2 * n) % 2 = 1 := by
    rw [Nat.mod_mod_of_dvd _ ⟨n, rfl⟩, Nat.mul_mod, hk, hl]
  refine (autoR_rws hn1 (by omega) ha).uniq hn1 hm (autoR_rws hn1 (by omega) (autoR_rws hn1 (by omega) ha)) ?_
  rw [cl_auto hn hkl ha.1, cl_auto hn hl (autoR_len _ _ _ _), autoR_ev hn hk (pw_odd hl X_neg) ha.1, ← pw_period X_neg, ← L.pw_mul, Nat.mul_comm l k]
end Oj
