import Derived.Test.YtlfiakpmnkhcdaaGreatLJa
/- Rows: sums, products modulo x^n + 1, automorphisms. No Go here. -/
namespace Oj
open Op Oq
set_option linter.unusedVariables false

/-- A row as a function makes it. -/
def rowL (n : Nat) (f : Nat → Int) : List Int := (List.range n).map f
theorem rowL_len (n : Nat) (f : Nat → Int) : (rowL n f).length = n := by simp [rowL]
theorem rowL_at (n : Nat) (f : Nat → Int) {i : Nat} (hi : i < n) : cf (rowL n f) i = f i := by
  rw [← cf_at]; simp [rowL, hi]
theorem rowL_out (n : Nat) (f : Nat → Int) {i : Nat} (hi : n ≤ i) : cf (rowL n f) i = 0 := cf_out (by rw [rowL_len]; exact hi)
theorem rowL_cong {n : Nat} {f g : Nat → Int} (h : ∀ i, i < n → f i = g i) : rowL n f = rowL n g := by
  unfold rowL; exact List.map_congr_left fun i hi => h i (List.mem_range.1 hi)
/-- Residues: n of them. -/
def Rws (n : Nat) (m : Int) (l : List Int) : Prop := l.length = n ∧ ∀ i, i < n → 0 ≤ cf l i ∧ cf l i < m
theorem Rws.all {n : Nat} {m : Int} {l : List Int} (hm : 0 < m) (h : Rws n m l) (i : Nat) : 0 ≤ cf l i ∧ cf l i < m := by
  by_cases hi : i < n
  · exact h.2 i hi
  · rw [cf_out (by rw [h.1]; omega)]; omega
theorem Rws.ext {n : Nat} {m : Int} {a b : List Int} (ha : Rws n m a) (hb : Rws n m b) (h : ∀ i, i < n → m ∣ cf a i - cf b i) : a = b := by
  refine ext_cf (by rw [ha.1, hb.1]) fun i => ?_
  by_cases hi : i < n
  · exact dvd_small (h i hi) (ha.2 i hi) (hb.2 i hi)
  · rw [cf_out (by rw [ha.1]; omega), cf_out (by rw [hb.1]; omega)]
theorem Rws.mod {n : Nat} {m : Int} (hm : 0 < m) (f : Nat → Int) : Rws n m (rowL n (fun i => f i % m)) :=
  ⟨rowL_len _ _, fun i hi => by rw [rowL_at _ _ hi]; exact ⟨Int.emod_nonneg _ (by omega), Int.emod_lt_of_pos _ hm⟩⟩

theorem xn_len {n : Nat} (hn : 1 ≤ n) : (xn n).length = n + 1 := by
  rw [xn, add_len, sh_len]; simp
theorem xn_ld {n : Nat} (hn : 1 ≤ n) : ld (xn n) = 1 := by
  unfold ld
  rw [xn_len hn, Nat.add_sub_cancel, cf_xn n n hn, if_pos (by omega)]
theorem Rws.uniq {n : Nat} {m : Int} (hn : 1 ≤ n) (hm : 2 ≤ m) {a b : List Int} (ha : Rws n m a) (hb : Rws n m b) (h : cl m (xn n) a = cl m (xn n) b) : a = b := by
  refine ha.ext hb fun i _ => ?_
  have L := laws m (xn n)
  have h0 : cl m (xn n) (add a (sc (-1) b)) = 0 := by
    rw [← cl_add, ← cl_neg, h, L.an]
  have h1 := short_zero hm (xn_ld hn) (by rw [add_len, sc_len, ha.1, hb.1, xn_len hn]; omega) h0 i
  rw [cf_add, cf_sc, cf_nil] at h1
  have e : cf a i - cf b i = cf a i + -1 * cf b i - 0 := by omega
  rw [e]; exact h1
theorem X_neg {n : Nat} {m : Int} : pw (X m (xn n)) n = -1 := by
  have L := laws m (xn n)
  have h := cl_xn (m := m) (f := xn n) n
  rw [cl_self] at h
  exact L.neg_of h.symm
theorem kk_mod {m : Int} {f : List Int} (x : Int) : kk m f (x % m) = kk m f x := by
  have L := laws m f
  have h : x = m * (x / m) + x % m := (Int.mul_ediv_add_emod x m).symm
  have h2 : kk m f x = kk m f (m * (x / m) + x % m) := by rw [← h]
  rw [h2, L.ka, L.km, k_m, L.zm, L.za]

section
variable {m : Int} {f : List Int}
/-- Values as sums. -/
theorem ev_sum (Y : Q m f) : ∀ (l : List Int), evR (kk m f) l Y = Sm l.length (fun i => kk m f (cf l i) * pw Y i)
  | [] => rfl
  | c :: l => by
    have L := laws m f
    rw [evR, ev_sum Y l, List.length_cons, L.Sm_left]
    rw [cf_zero, show pw Y 0 = 1 from rfl, L.mo, L.mc Y, ← L.Sm_mul]
    congr 1
    exact Sm_cong fun j _ => by rw [cf_succ, pw, L.ma]
theorem cl_sum (l : List Int) : cl m f l = Sm l.length (fun i => kk m f (cf l i) * pw (X m f) i) := by rw [← ev_X, ev_sum]
theorem kk_S (g : Nat → Int) : ∀ n, kk m f (S n g) = Sm n (fun i => kk m f (g i))
  | 0 => (laws m f).k0
  | n + 1 => by rw [S, (laws m f).ka, kk_S g n, Sm]
theorem Sm_swap (g : Nat → Nat → Q m f) (a : Nat) : ∀ b, Sm a (fun i => Sm b (fun j => g i j)) = Sm b (fun j => Sm a (fun i => g i j))
  | 0 => (laws m f).Sm_zero fun _ _ => rfl
  | b + 1 => by
    simp only [Sm]
    rw [(laws m f).Sm_add, Sm_swap g a b]
theorem Sm_mul' (c : Q m f) (g : Nat → Q m f) (n : Nat) : Sm n (fun j => c * g j) = c * Sm n g := by
  have L := laws m f
  rw [L.mc c, ← L.Sm_mul]
  exact Sm_cong fun j _ => L.mc _ _
theorem ev_zero' (Y : Q m f) : ∀ a : List Int, (∀ i, m ∣ cf a i) → evR (kk m f) a Y = 0
  | [], _ => rfl
  | x :: a, h => by
    have L := laws m f
    obtain ⟨q, hq⟩ := h 0
    rw [cf_zero] at hq
    rw [evR, ev_zero' Y a (fun i => h (i + 1)), hq, L.km, k_m, L.zm, L.mz, L.az]
theorem ev_set (Y : Q m f) (v : Int) : ∀ (l : List Int) (p : Nat), p < l.length → evR (kk m f) (l.set p v) Y = evR (kk m f) l Y + kk m f (v - cf l p) * pw Y p
  | [], p, h => by simp at h
  | c :: l, 0, _ => by
    have L := laws m f
    rw [List.set_cons_zero, evR, evR, cf_zero, show pw Y 0 = 1 from rfl, L.mo, L.ks, L.aa, L.ac (Y * _), ← L.aa, ← L.aa, L.ac (kk m f c), L.aa (kk m f v), L.aa, L.an, L.za]
  | c :: l, p + 1, h => by
    have L := laws m f
    rw [List.set_cons_succ, evR, evR, ev_set Y v l p (by simpa using h), cf_succ, L.md, L.aa, pw, L.mc Y (_ * _), L.ma]
theorem ev_rep (Y : Q m f) (n : Nat) : evR (kk m f) (List.replicate n 0) Y = 0 := ev_zero' Y _ fun i => by
  have : cf (List.replicate n 0) i = 0 := by
    rw [← cf_at]
    by_cases h : i < n <;> simp [h]
  rw [this]; exact ⟨0, by simp⟩
end
/-- The sum of a row and a multiple of another one. -/
def sumR (n : Nat) (m : Int) (a : List Int) (s : Int) (b : List Int) : List Int := rowL n (fun i => (cf a i + s * cf b i) % m)
theorem sumR_rws {n : Nat} {m : Int} (hm : 0 < m) (a : List Int) (s : Int) (b : List Int) : Rws n m (sumR n m a s b) := Rws.mod hm _
/-- Products modulo x^n + 1. -/
def sb (n : Nat) (b : List Int) (k i : Nat) : Int := if i ≤ k then cf b (k - i) else - cf b (n + k - i)
def np (n : Nat) (a b : List Int) (k : Nat) : Int := S n (fun i => cf a i * sb n b k i)
def prodR (n : Nat) (m : Int) (a b : List Int) : List Int := rowL n (fun k => np n a b k % m)
theorem prodR_rws {n : Nat} {m : Int} (hm : 0 < m) (a b : List Int) : Rws n m (prodR n m a b) := Rws.mod hm _
theorem sb_row {n : Nat} {m : Int} {b : List Int} (hb : b.length = n) : ∀ i, i ≤ n → Sm n (fun k => kk m (xn n) (sb n b k i) * pw (X m (xn n)) k) = pw (X m (xn n)) i * cl m (xn n) b
  | 0, _ => by
    have L := laws m (xn n)
    rw [show pw (X m (xn n)) 0 = 1 from rfl, L.om, cl_sum, hb]
    exact Sm_cong fun k _ => by rw [sb, if_pos (by omega), Nat.sub_zero]
  | i + 1, hi => by
    have L := laws m (xn n)
    have ih := sb_row (m := m) hb i (by omega)
    have hX := X_neg (n := n) (m := m)
    have e1 : pw (X m (xn n)) (i + 1) * cl m (xn n) b = Sm n (fun k => kk m (xn n) (sb n b k i) * pw (X m (xn n)) k) * X m (xn n) := by
      rw [ih, pw, L.ma, L.mc (X m (xn n)), L.ma]
    rw [e1, ← L.Sm_mul]
    obtain ⟨q, rfl⟩ : ∃ q, n = q + 1 := ⟨n - 1, by omega⟩
    rw [L.Sm_left, Sm, L.ac]
    congr 1
    · refine Sm_cong fun k hk => ?_
      have e2 : pw (X m (xn (q + 1))) (k + 1) = pw (X m (xn (q + 1))) k * X m (xn (q + 1)) := rfl
      have e3 : sb (q + 1) b (k + 1) (i + 1) = sb (q + 1) b k i := by
        unfold sb
        by_cases h : i ≤ k
        · rw [if_pos h, if_pos (by omega), show k + 1 - (i + 1) = k - i by omega]
        · rw [if_neg h, if_neg (by omega), show q + 1 + (k + 1) - (i + 1) = q + 1 + k - i by omega]
      rw [L.ma, ← e2, e3]
    · have e2 : pw (X m (xn (q + 1))) (q + 1) = pw (X m (xn (q + 1))) q * X m (xn (q + 1)) := rfl
      have e3 : sb (q + 1) b 0 (i + 1) = - sb (q + 1) b q i := by
        unfold sb
        rw [if_neg (by omega), if_pos (by omega), show q + 1 + 0 - (i + 1) = q - i by omega]
      rw [L.ma, ← e2, hX, L.mn, L.mo, show pw (X m (xn (q + 1))) 0 = 1 from rfl, L.mo, e3, L.kn]
theorem cl_prodR {n : Nat} {m : Int} {a b : List Int} (ha : a.length = n) (hb : b.length = n) : cl m (xn n) (prodR n m a b) = cl m (xn n) a * cl m (xn n) b := by
  have L := laws m (xn n)
  rw [cl_sum, prodR, rowL_len]
  have e1 : Sm n (fun k => kk m (xn n) (cf (rowL n (fun k => np n a b k % m)) k) * pw (X m (xn n)) k) = Sm n (fun k => Sm n (fun i => kk m (xn n) (cf a i) * (kk m (xn n) (sb n b k i) * pw (X m (xn n)) k))) := Sm_cong fun k hk => by
    rw [rowL_at _ _ hk, kk_mod, np, kk_S, ← L.Sm_mul]
    exact Sm_cong fun i _ => by rw [L.km, L.ma]
  rw [e1, Sm_swap]
  have e2 : Sm n (fun i => Sm n (fun k => kk m (xn n) (cf a i) * (kk m (xn n) (sb n b k i) * pw (X m (xn n)) k))) = Sm n (fun i => kk m (xn n) (cf a i) * pw (X m (xn n)) i * cl m (xn n) b) := Sm_cong fun i hi => by
    rw [Sm_mul', sb_row hb i (by omega), L.ma]
  rw [e2, L.Sm_mul, cl_sum a, ha]
section
variable {n : Nat} {m : Int} {a b c : List Int}
end

def Dim (n : Nat) : Prop := n = 4 ∨ n = 8 ∨ n = 16 ∨ n = 32
theorem cf_set' (l : List Int) (p : Nat) (v : Int) (hp : p < l.length) (i : Nat) : cf (l.set p v) i = if i = p then v else cf l i := by
  rw [← cf_at, ← cf_at]
  by_cases h : i = p
  · subst h; rw [if_pos rfl]; simp [hp]
  · rw [if_neg h, List.getElem?_set_ne (fun e => h e.symm)]
theorem cf_rep' (n i : Nat) : cf (List.replicate n 0) i = 0 := by
  rw [← cf_at]
  by_cases h : i < n <;> simp [h]
end Oj
