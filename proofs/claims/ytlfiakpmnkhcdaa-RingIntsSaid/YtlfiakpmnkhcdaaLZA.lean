import Derived.Test.YtlfiakpmnkhcdaaRows
import Derived.WalkKit
import Derived.WalkSpells
import Derived.WalkLawsBesides
import Derived.IntWalk
import Derived.Lib.Hide
import Derived.Carry
import Derived.WalkSmall
import Derived.Laws.MakeOwn
import Derived.Maps.AppendAt
import Derived.Lib.SliceRun
import Derived.Laws.CopyOwn
import Derived.ProofKit
import Derived.OpenShut
import Derived.Lib.SmallJoins
import Derived.Deep.Fields
import Derived.ChangeSlices
namespace Op
set_option linter.unusedVariables false
def cf : List Int → Nat → Int
  | [], _ => 0
  | x :: _, 0 => x
  | _ :: l, i + 1 => cf l i
@[simp] theorem cf_nil (i : Nat) : cf [] i = 0 := by cases i <;> rfl
@[simp] theorem cf_zero (x : Int) (l : List Int) : cf (x :: l) 0 = x := rfl
@[simp] theorem cf_succ (x : Int) (l : List Int) (i : Nat) : cf (x :: l) (i + 1) = cf l i := rfl
theorem cf_at (l : List Int) : ∀ i, l[i]?.getD 0 = cf l i := by
  induction l with
  | nil => intro i; simp
  | cons x l ih => intro i; cases i with
    | zero => rfl
    | succ i => simpa using ih i
theorem cf_out {l : List Int} : ∀ {i : Nat}, l.length ≤ i → cf l i = 0 := by
  induction l with
  | nil => intro i _; simp
  | cons x l ih => intro i h; cases i with
    | zero => simp at h
    | succ i => exact ih (by simp at h; omega)
theorem cf_mem {l : List Int} {i : Nat} (h : i < l.length) : cf l i ∈ l := by
  rw [← cf_at, List.getElem?_eq_getElem h]; exact List.getElem_mem h
theorem cf_map (f : Int → Int) (h0 : f 0 = 0) (l : List Int) : ∀ i, cf (l.map f) i = f (cf l i) := by
  induction l with
  | nil => intro i; simp [h0]
  | cons x l ih => intro i; cases i with
    | zero => rfl
    | succ i => exact ih i
theorem cf_append (a b : List Int) : ∀ i, cf (a ++ b) i = if i < a.length then cf a i else cf b (i - a.length) := by
  induction a with
  | nil => intro i; simp
  | cons x a ih => intro i; cases i with
    | zero => simp
    | succ i =>
      show cf (a ++ b) i = _
      rw [ih i]
      simp only [List.length_cons, cf_succ, Nat.add_lt_add_iff_right, Nat.add_sub_add_right]
theorem cf_take (l : List Int) (n : Nat) : ∀ i, cf (l.take n) i = if i < n then cf l i else 0 := by
  induction l generalizing n with
  | nil => intro i; simp
  | cons x l ih => intro i; cases n with
    | zero => simp
    | succ n => cases i with
      | zero => simp
      | succ i => show cf (l.take n) i = _; rw [ih n i]; simp
theorem cf_drop (l : List Int) (n : Nat) : ∀ i, cf (l.drop n) i = cf l (n + i) := by
  induction l generalizing n with
  | nil => intro i; simp
  | cons x l ih => intro i; cases n with
    | zero => simp
    | succ n => show cf (l.drop n) i = _; rw [ih n i, Nat.add_right_comm]; rfl
theorem ext_cf : ∀ {a b : List Int}, a.length = b.length → (∀ i, cf a i = cf b i) → a = b
  | [], [], _, _ => rfl
  | [], _ :: _, h, _ => by simp at h
  | _ :: _, [], h, _ => by simp at h
  | x :: a, y :: b, h, k => by
    have h0 : x = y := k 0
    have h1 : a = b := ext_cf (by simpa using h) (fun i => k (i + 1))
    rw [h0, h1]
def tz : List Int → List Int
  | [] => []
  | d :: l => if d = 0 ∧ tz l = [] then [] else d :: tz l
theorem cf_tz : ∀ (l : List Int) i, cf (tz l) i = cf l i
  | [], i => rfl
  | d :: l, i => by
    have ih := cf_tz l
    unfold tz
    split
    · rename_i h
      cases i with
      | zero => simp [h.1]
      | succ i => rw [cf_succ, ← ih i, h.2]; simp
    · cases i with
      | zero => rfl
      | succ i => exact ih i
def S : Nat → (Nat → Int) → Int
  | 0, _ => 0
  | n + 1, f => S n f + f n
theorem S_cong {f g : Nat → Int} : ∀ {n : Nat}, (∀ k, k < n → f k = g k) → S n f = S n g
  | 0, _ => rfl
  | n + 1, h => by rw [S, S, S_cong (fun k hk => h k (by omega)), h n (by omega)]
theorem S_add (f g : Nat → Int) : ∀ n, S n (fun k => f k + g k) = S n f + S n g
  | 0 => rfl
  | n + 1 => by rw [S, S, S, S_add f g n]; omega
theorem S_mul (c : Int) (f : Nat → Int) : ∀ n, S n (fun k => c * f k) = c * S n f
  | 0 => (Int.mul_zero c).symm
  | n + 1 => by rw [S, S, S_mul c f n, Int.mul_add]
theorem S_left (f : Nat → Int) : ∀ n, S (n + 1) f = f 0 + S n (fun k => f (k + 1))
  | 0 => by simp [S]
  | n + 1 => by rw [S, S_left f n]; simp only [S]; omega
theorem S_dvd {m : Int} {f : Nat → Int} : ∀ {n : Nat}, (∀ k, k < n → m ∣ f k) → m ∣ S n f
  | 0, _ => ⟨0, (Int.mul_zero m).symm⟩
  | n + 1, h => Int.dvd_add (S_dvd (fun k hk => h k (by omega))) (h n (by omega))
theorem S_sub (f g : Nat → Int) : ∀ n, S n (fun k => f k - g k) = S n f - S n g
  | 0 => rfl
  | n + 1 => by rw [S, S, S, S_sub f g n]; omega
def add : List Int → List Int → List Int
  | [], b => b
  | x :: a, [] => x :: a
  | x :: a, y :: b => (x + y) :: add a b
def sc (k : Int) (l : List Int) : List Int := l.map (k * ·)
def mul : List Int → List Int → List Int
  | [], _ => []
  | x :: a, b => add (sc x b) (0 :: mul a b)
@[simp] theorem cf_add : ∀ (a b : List Int) i, cf (add a b) i = cf a i + cf b i
  | [], b, i => by simp [add]
  | x :: a, [], i => by simp [add]
  | x :: a, y :: b, i => by
    cases i with
    | zero => rfl
    | succ i => exact cf_add a b i
@[simp] theorem cf_sc (k : Int) (l : List Int) (i : Nat) : cf (sc k l) i = k * cf l i := cf_map _ (Int.mul_zero k) l i
@[simp] theorem cf_mul_nil (b : List Int) (i : Nat) : cf (mul [] b) i = 0 := by simp [mul]
theorem cf_mul_zero (x : Int) (a b : List Int) : cf (mul (x :: a) b) 0 = x * cf b 0 := by simp [mul]
theorem cf_mul_succ (x : Int) (a b : List Int) (i : Nat) : cf (mul (x :: a) b) (i + 1) = x * cf b (i + 1) + cf (mul a b) i := by simp [mul]
theorem cf_mul (b : List Int) : ∀ (a : List Int) i, cf (mul a b) i = S (i + 1) (fun k => cf a k * cf b (i - k))
  | [], i => by
    rw [cf_mul_nil]
    have : S (i + 1) (fun k => cf [] k * cf b (i - k)) = S (i + 1) (fun k => 0 * 0) := S_cong (fun k _ => by simp)
    rw [this, S_mul 0 (fun _ => 0)]; simp
  | x :: a, 0 => by rw [cf_mul_zero]; simp [S]
  | x :: a, i + 1 => by
    rw [cf_mul_succ, cf_mul b a i, S_left (fun k => cf (x :: a) k * cf b (i + 1 - k))]
    simp only [cf_zero, Nat.sub_zero, cf_succ, Nat.add_sub_add_right]
theorem mul_add_left (a b c : List Int) (i : Nat) : cf (mul (add a b) c) i = cf (mul a c) i + cf (mul b c) i := by
  rw [cf_mul, cf_mul, cf_mul, ← S_add]
  exact S_cong (fun k _ => by rw [cf_add, Int.add_mul])
theorem mul_add_right (a b c : List Int) (i : Nat) : cf (mul c (add a b)) i = cf (mul c a) i + cf (mul c b) i := by
  rw [cf_mul, cf_mul, cf_mul, ← S_add]
  exact S_cong (fun k _ => by rw [cf_add, Int.mul_add])
theorem mul_sc_left (k : Int) (a c : List Int) (i : Nat) : cf (mul (sc k a) c) i = k * cf (mul a c) i := by
  rw [cf_mul, cf_mul, ← S_mul]
  exact S_cong (fun j _ => by rw [cf_sc, Int.mul_assoc])
theorem mul_shift_left (a c : List Int) : ∀ (i : Nat), cf (mul (0 :: a) c) i = cf (0 :: mul a c) i
  | 0 => by rw [cf_mul_zero]; simp
  | i + 1 => by rw [cf_mul_succ]; simp
theorem mul_congr {a a' b b' : List Int} (h : ∀ i, cf a i = cf a' i) (k : ∀ i, cf b i = cf b' i) (i : Nat) : cf (mul a b) i = cf (mul a' b') i := by
  rw [cf_mul, cf_mul]; exact S_cong (fun j _ => by rw [h, k])
theorem cf_mul_right_nil (a : List Int) (i : Nat) : cf (mul a []) i = 0 := by
  induction a generalizing i with
  | nil => simp
  | cons x a ih => cases i with
    | zero => rw [cf_mul_zero]; simp
    | succ i => rw [cf_mul_succ, ih]; simp
theorem cf_mul_right_succ (y : Int) (b : List Int) : ∀ (a : List Int) (i : Nat), cf (mul a (y :: b)) (i + 1) = cf a (i + 1) * y + cf (mul a b) i
  | [], i => by simp
  | x :: a, 0 => by
    rw [cf_mul_succ, cf_mul_zero]
    cases a with
    | nil => simp
    | cons z a => rw [cf_mul_zero]; simp; rw [Int.add_comm]
  | x :: a, i + 1 => by
    rw [cf_mul_succ, cf_mul_right_succ y b a i, cf_mul_succ]
    simp only [cf_succ]; omega
theorem cf_mul_right_zero (y : Int) (b : List Int) (a : List Int) : cf (mul a (y :: b)) 0 = cf a 0 * y := by
  cases a with
  | nil => simp
  | cons x a => rw [cf_mul_zero]; rfl
theorem mul_comm' : ∀ (a b : List Int) (i : Nat), cf (mul a b) i = cf (mul b a) i
  | [], b, i => by rw [cf_mul_right_nil]; simp
  | x :: a, b, 0 => by rw [cf_mul_zero, cf_mul_right_zero, Int.mul_comm]
  | x :: a, b, i + 1 => by rw [cf_mul_succ, cf_mul_right_succ, mul_comm' a b i, Int.mul_comm]
theorem mul_assoc' (b c : List Int) : ∀ (a : List Int) (i : Nat), cf (mul (mul a b) c) i = cf (mul a (mul b c)) i
  | [], i => by simp [mul]
  | x :: a, i => by
    have h : ∀ j, cf (mul (x :: a) b) j = cf (add (sc x b) (0 :: mul a b)) j := fun j => rfl
    rw [mul_congr (b := c) h (fun _ => rfl), mul_add_left, mul_sc_left, mul_shift_left]
    cases i with
    | zero => rw [cf_mul_zero]; simp
    | succ i => rw [cf_mul_succ, cf_succ, mul_assoc' b c a i]
def Cg (m : Int) (a b : List Int) : Prop := ∀ i, m ∣ cf a i - cf b i
theorem Cg.refl (m : Int) (a : List Int) : Cg m a a := fun i => by rw [Int.sub_self]; exact ⟨0, (Int.mul_zero m).symm⟩
theorem Cg.of {m : Int} {a b : List Int} (h : ∀ i, cf a i = cf b i) : Cg m a b := fun i => by rw [h, Int.sub_self]; exact ⟨0, (Int.mul_zero m).symm⟩
theorem Cg.symm {m : Int} {a b : List Int} (h : Cg m a b) : Cg m b a := fun i => by
  have := Int.dvd_neg.2 (h i)
  have e : cf b i - cf a i = -(cf a i - cf b i) := by omega
  rw [e]; exact this
theorem Cg.trans {m : Int} {a b c : List Int} (h : Cg m a b) (k : Cg m b c) : Cg m a c := fun i => by
  have e : cf a i - cf c i = (cf a i - cf b i) + (cf b i - cf c i) := by omega
  rw [e]; exact Int.dvd_add (h i) (k i)
theorem Cg.add {m : Int} {a b c d : List Int} (h : Cg m a b) (k : Cg m c d) : Cg m (add a c) (add b d) := fun i => by
  rw [cf_add, cf_add]
  have e : cf a i + cf c i - (cf b i + cf d i) = (cf a i - cf b i) + (cf c i - cf d i) := by omega
  rw [e]; exact Int.dvd_add (h i) (k i)
theorem Cg.mul {m : Int} {a b c d : List Int} (h : Cg m a b) (k : Cg m c d) : Cg m (mul a c) (mul b d) := fun i => by
  rw [cf_mul, cf_mul, ← S_sub]
  apply S_dvd
  intro j _
  have e : cf a j * cf c (i - j) - cf b j * cf d (i - j) = (cf a j - cf b j) * cf c (i - j) + cf b j * (cf c (i - j) - cf d (i - j)) := by
    rw [Int.sub_mul, Int.mul_sub]; omega
  rw [e]
  exact Int.dvd_add (Int.dvd_mul_of_dvd_left (h j)) (Int.dvd_mul_of_dvd_right (k _))
end Op
namespace Op
set_option linter.unusedVariables false
theorem cg_swap (m : Int) (a b : List Int) : Cg m (mul a b) (mul b a) := Cg.of (mul_comm' a b)
theorem cg_assoc (m : Int) (a b c : List Int) : Cg m (mul (mul a b) c) (mul a (mul b c)) := Cg.of (mul_assoc' b c a)
theorem cg_distl (m : Int) (a b c : List Int) : Cg m (mul (Op.add a b) c) (Op.add (mul a c) (mul b c)) := Cg.of (fun i => by rw [mul_add_left, cf_add])
theorem cg_distr (m : Int) (a b c : List Int) : Cg m (mul c (Op.add a b)) (Op.add (mul c a) (mul c b)) := Cg.of (fun i => by rw [mul_add_right, cf_add])
theorem cg_addc (m : Int) (a b : List Int) : Cg m (Op.add a b) (Op.add b a) := Cg.of (fun i => by rw [cf_add, cf_add, Int.add_comm])
theorem cg_addn (m : Int) (a : List Int) : Cg m (Op.add a []) a := Cg.of (fun i => by rw [cf_add, cf_nil, Int.add_zero])
theorem cg_scn (m k : Int) (a : List Int) : Cg m (mul a [k]) (Op.sc k a) := Cg.of (fun i => by
  cases i with
  | zero => rw [cf_mul_right_zero, cf_sc, Int.mul_comm]
  | succ i => rw [cf_mul_right_succ, cf_mul_right_nil, cf_sc, Int.mul_comm]; simp)
end Op
namespace Op
set_option linter.unusedVariables false
def sh (n : Nat) (l : List Int) : List Int := List.replicate n 0 ++ l
def xn (n : Nat) : List Int := add [1] (sh n [1])
def sg (k : Nat) : Int := if k % 2 = 0 then 1 else -1
end Op
namespace Go.Proofs.Ytlfiakpmnkhcdaa.Mo
open Go.RowKit
set_option linter.unusedVariables false
def Gr (w w' : World) : Prop := Below w.heap.size w w'
theorem Gr.refl (w : World) : Gr w w := Below.refl _ _
theorem Gr.trans {a b c : World} (h : Gr a b) (k : Gr b c) : Gr a c := Below.trans h (Below.mono k (Below.size h))
theorem Gr.size {a b : World} (h : Gr a b) : a.heap.size ≤ b.heap.size := Below.size h
theorem Gr.alloc {a b : World} (h : Gr a b) (o : Obj) : Gr a (b.alloc o) := Below.alloc h h.size o
def Truth (w : World) (e : Ending) (w' : World) : Prop := e = .returned (.bool true) ∧ Gr w w'
theorem Gr.new (w : World) (o : Obj) : Gr w (w.alloc o) := (Gr.refl w).alloc o
theorem Gr.setCell {a b : World} (h : Gr a b) {p : Addr} (hp : a.heap.size ≤ p.block) (u : Value) : Gr a (b.setCell p u) := Below.setCell h hp u
theorem Gr.cell {a b : World} (h : Gr a b) {p : Addr} (hp : p.block < a.heap.size) : b.cell? p = a.cell? p := Below.cell h hp
theorem Gr.keeps {a b : World} (h : Gr a b) {p : Addr} {v : Value} (hv : a.cell? p = some v) : b.cell? p = some v := by
  have hp : p.block < a.heap.size := by
    apply Classical.byContradiction; intro hn
    have : a.heap[p.block]? = none := by simp; omega
    simp [World.cell?, this] at hv
  rw [h.cell hp]; exact hv
theorem Gr.drewN {a b : World} (h : Gr a b) (n : Nat) : Gr a (b.drewN n) := below_drewN h n
theorem cell_new (w : World) (v : Value) (t : TypeId) : (w.alloc (.cells #[v] t)).cell? ⟨w.heap.size, 0, none⟩ = some v := by
  simp [go_sem]
theorem ret_int {k : IntKind} {a b : Int} (h : a = b) : Ending.returned (.int k a) = .returned (.int k b) := by rw [h]
theorem ret_bool {a b : Bool} (h : a = b) : Ending.returned (.bool a) = .returned (.bool b) := by rw [h]
theorem emod_lo (x n : Int) (h : 1 ≤ n) : 0 ≤ x % n := Int.emod_nonneg _ (by omega)
theorem emod_hi (x n : Int) (h : 1 ≤ n) : x % n < n := Int.emod_lt_of_pos _ (by omega)
theorem mul_lo {a b : Int} (ha : 0 ≤ a) (hb : 0 ≤ b) : 0 ≤ a * b := Int.mul_nonneg ha hb
theorem mul_hi {a b : Int} (ha : 0 ≤ a) (hb : 0 ≤ b) (ha' : a ≤ 4294967295) (hb' : b ≤ 4294967295) : a * b ≤ 18446744065119617025 := by
  have h1 : a * b ≤ 4294967295 * b := Int.mul_le_mul_of_nonneg_right ha' hb
  omega
theorem tmod_emod (v n : Int) : v % n = v.tmod n % n := by
  have h : v = v.tmod n + n * v.tdiv n := (Int.tmod_add_mul_tdiv v n).symm
  conv => lhs; rw [h]
  exact Int.add_mul_emod_self_left _ _ _
theorem emod_neg_case (v n : Int) (h : v.tmod n < 0) (h2 : - n < v.tmod n) : v % n = v.tmod n + n := by
  rw [tmod_emod, ← Int.add_emod_right]
  exact Int.emod_eq_of_lt (by omega) (by omega)
theorem emod_pos_case (v n : Int) (h : ¬ v.tmod n < 0) (h2 : v.tmod n < n) : v % n = v.tmod n := by
  rw [tmod_emod]
  exact Int.emod_eq_of_lt (by omega) (by omega)
end Go.Proofs.Ytlfiakpmnkhcdaa.Mo
namespace Go.Proofs.Ytlfiakpmnkhcdaa.Mo
open Go.RowKit
set_option linter.unusedVariables false
def U32 (l : List Int) : Prop := ∀ x ∈ l, 0 ≤ x ∧ x < 4294967296
theorem U32.nil : U32 [] := fun x hx => (by cases hx)
theorem U32.at_ {l : List Int} (h : U32 l) (i : Nat) : 0 ≤ Op.cf l i ∧ Op.cf l i < 4294967296 := by
  by_cases hi : i < l.length
  · exact h _ (Op.cf_mem hi)
  · rw [Op.cf_out (by omega)]; omega
theorem U32.take {l : List Int} (h : U32 l) (k : Nat) : U32 (l.take k) := fun x hx => h x (List.mem_of_mem_take hx)
theorem U32.drop {l : List Int} (h : U32 l) (k : Nat) : U32 (l.drop k) := fun x hx => h x (List.mem_of_mem_drop hx)
theorem U32.app {l m : List Int} (h : U32 l) (k : U32 m) : U32 (l ++ m) := fun x hx => by
  rcases List.mem_append.1 hx with h1 | h1
  · exact h x h1
  · exact k x h1
theorem U32.one {x : Int} (h : 0 ≤ x ∧ x < 4294967296) : U32 [x] := fun y hy => by
  simp at hy; subst hy; exact h
def HasP (W : World) (v : Value) (l : List Int) : Prop :=
  U32 l ∧ ∃ a cap, v = .slice a l.length cap ∧ l.length ≤ cap ∧ cap ≤ 9223372036854775807 ∧
    ∀ i, i < l.length → ∃ g o, a = some ⟨g, o, none⟩ ∧ W.cell? ⟨g, o + i, none⟩ = some (.int .u32 (Op.cf l i))
theorem HasP.later {W W' : World} {v : Value} {l : List Int} (h : HasP W v l) (hg : Gr W W') : HasP W' v l := by
  obtain ⟨hd, a, cap, rfl, h1, h2, h3⟩ := h
  refine ⟨hd, a, cap, rfl, h1, h2, fun i hi => ?_⟩
  obtain ⟨g, o, e, hc⟩ := h3 i hi
  exact ⟨g, o, e, hg.keeps hc⟩
theorem HasP.nil (W : World) : HasP W (.slice none 0 0) [] := ⟨U32.nil, none, 0, rfl, Nat.le_refl _, by omega, fun i hi => absurd hi (by simp)⟩
theorem HasP.take {W : World} {a : Option Addr} {l : List Int} {n cap k : Nat} (h : HasP W (.slice a n cap) l) (hk : k ≤ l.length) : HasP W (.slice a k cap) (l.take k) := by
  obtain ⟨hd, a', cap', e, h1, h2, hc⟩ := h
  simp only [Value.slice.injEq] at e
  obtain ⟨rfl, -, rfl⟩ := e
  have hlen : (l.take k).length = k := by rw [List.length_take]; omega
  refine ⟨hd.take k, a, cap, by rw [hlen], by omega, h2, fun i hi => ?_⟩
  rw [hlen] at hi
  obtain ⟨g, o, e, hcell⟩ := hc i (by omega)
  exact ⟨g, o, e, by rw [Op.cf_take, if_pos hi]; exact hcell⟩
theorem HasP.len {W : World} {a : Option Addr} {l : List Int} {n cap : Nat} (h : HasP W (.slice a n cap) l) : n = l.length ∧ n ≤ cap := by
  obtain ⟨hd, a', cap', e, h1, h2, hc⟩ := h
  simp only [Value.slice.injEq] at e
  obtain ⟨rfl, rfl, rfl⟩ := e
  exact ⟨rfl, h1⟩
theorem HasP.block {W : World} {v : Value} {l : List Int} (h : HasP W v l) (h0 : 0 < l.length) : ∃ b, v.ownBlock = some b ∧ b < W.heap.size := by
  obtain ⟨_, a, cap, rfl, _, _, hc⟩ := h
  obtain ⟨g, o, rfl, hc0⟩ := hc 0 h0
  exact ⟨g, rfl, World.block_lt_of_cell? W _ hc0⟩
def Rw (W : World) (g : Nat) (cur : Array Value) : Prop := W.heap[g]? = some (.cells cur 22 (0, 0))
theorem Rw.cell {W : World} {g : Nat} {cur : Array Value} (h : Rw W g cur) (j : Nat) : W.cell? ⟨g, j, none⟩ = cur[j]? := by
  simp [World.cell?, show W.heap[g]? = _ from h]
theorem Rw.frozen {W : World} {g : Nat} {cur : Array Value} (h : Rw W g cur) (j : Nat) : W.frozen? ⟨g, j, none⟩ = false := by
  simp [World.frozen?, show W.heap[g]? = _ from h]
theorem Rw.set {W : World} {g : Nat} {cur : Array Value} (h : Rw W g cur) (j : Nat) (u : Value) : Rw (W.setCell ⟨g, j, none⟩ u) g (cur.setIfInBounds j u) := by
  obtain ⟨hlt, hk⟩ := Array.getElem?_eq_some_iff.1 (show W.heap[g]? = _ from h)
  show (W.heap.modify g _)[g]? = _
  rw [Array.getElem?_eq_getElem (by rw [Array.size_modify]; exact hlt), Array.getElem_modify_self, hk]
  rfl
theorem Rw.new (w : World) (cur : Array Value) : Rw (w.alloc (.cells cur 22)) w.heap.size cur := heap_alloc_new w _
theorem Rw.lt {W : World} {g : Nat} {cur : Array Value} (h : Rw W g cur) : g < W.heap.size := (Array.getElem?_eq_some_iff.1 (show W.heap[g]? = _ from h)).1
theorem Rw.later {W W' : World} {g : Nat} {cur : Array Value} (h : Rw W g cur) (k : Gr W W') : Rw W' g cur := by
  show W'.heap[g]? = _
  rw [k.block g h.lt]; exact h
structure Upd (g o : Nat) (l : List Int) (W W' : World) : Prop where
  os : W'.os = W.os
  tape : W'.tape = W.tape
  output : W'.output = W.output
  size : W'.heap.size = W.heap.size
  block : ∀ k, k ≠ g → W'.heap[k]? = W.heap[k]?
  row : ∃ cur cur', Rw W g cur ∧ Rw W' g cur' ∧ cur'.size = cur.size ∧ o + l.length ≤ cur.size ∧ ∀ j, cur'[j]? = if o ≤ j ∧ j < o + l.length then some (.int .u32 (Op.cf l (j - o))) else cur[j]?
theorem Upd.start {W : World} {g o : Nat} {cur : Array Value} (h : Rw W g cur) (ho : o ≤ cur.size) : Upd g o [] W W :=
  ⟨rfl, rfl, rfl, rfl, fun _ _ => rfl, cur, cur, h, h, rfl, by simpa using ho, fun j => by rw [if_neg (by simp)]⟩
theorem Upd.step {W W' : World} {g o : Nat} {l : List Int} (h : Upd g o l W W') {k : Nat} {d : Int} (hk : l.length = k) {v : Value} (hc : W.cell? ⟨g, o + k, none⟩ = some v) : Upd g o (l ++ [d]) W (W'.setCell ⟨g, o + k, none⟩ (.int .u32 d)) := by
  subst hk
  obtain ⟨h1, h2, h3, h4, h5, cur, cur', r1, r2, r3, r4, r5⟩ := h
  have hlt : o + l.length < cur.size := by
    rw [r1.cell] at hc
    exact (Array.getElem?_eq_some_iff.1 hc).1
  refine ⟨h1, h2, h3, by simpa using h4, fun k hk => ?_, cur, _, r1, r2.set _ _, by simpa using r3, by simp; omega, fun j => ?_⟩
  · rw [Below.heap_setCell _ _ _ _ hk]; exact h5 k hk
  · rw [Array.getElem?_setIfInBounds]
    by_cases e : o + l.length = j
    · subst e
      rw [if_pos rfl, if_pos (by omega), if_pos (by simp)]
      rw [Op.cf_append, if_neg (by omega)]
      simp
    · rw [if_neg e, r5]
      by_cases e2 : o ≤ j ∧ j < o + l.length
      · rw [if_pos e2, if_pos (by simp; omega), Op.cf_append, if_pos (by omega)]
      · rw [if_neg e2, if_neg (by simp; omega)]
theorem Upd.cell_in {W W' : World} {g o : Nat} {l : List Int} (h : Upd g o l W W') {j : Nat} (hj : j < l.length) : W'.cell? ⟨g, o + j, none⟩ = some (.int .u32 (Op.cf l j)) := by
  obtain ⟨_, _, _, _, _, cur, cur', r1, r2, r3, r4, r5⟩ := h
  rw [r2.cell, r5, if_pos (by omega)]
  simp
theorem Upd.cell_out {W W' : World} {g o : Nat} {l : List Int} (h : Upd g o l W W') {j : Nat} (hj : j < o ∨ o + l.length ≤ j) : W'.cell? ⟨g, j, none⟩ = W.cell? ⟨g, j, none⟩ := by
  obtain ⟨_, _, _, _, _, cur, cur', r1, r2, r3, r4, r5⟩ := h
  rw [r2.cell, r5, if_neg (by omega), r1.cell]
theorem Upd.cell_other {W W' : World} {g o : Nat} {l : List Int} (h : Upd g o l W W') {p : Addr} (hp : p.block ≠ g) : W'.cell? p = W.cell? p := World.cell?_of_block (w := W) (h.block p.block hp)
theorem Upd.frozen {W W' : World} {g o : Nat} {l : List Int} (h : Upd g o l W W') (j : Nat) : W'.frozen? ⟨g, j, none⟩ = false := by
  obtain ⟨_, _, _, _, _, cur, cur', r1, r2, _⟩ := h
  exact r2.frozen j
theorem Upd.gr {w W W' : World} {g o : Nat} {l : List Int} (h : Upd g o l W W') (hg : Gr w W) (hs : w.heap.size ≤ g) : Gr w W' :=
  ⟨h.os.trans hg.os, h.tape.trans hg.tape, h.output.trans hg.output, by rw [h.size]; exact hg.size, fun k hk => (h.block k (by omega)).trans (hg.block k hk)⟩
def Row (W : World) (g : Nat) (l : List Int) : Prop := U32 l ∧ ∃ cur, Rw W g cur ∧ l.length ≤ cur.size ∧ ∀ j, j < l.length → cur[j]? = some (.int .u32 (Op.cf l j))
theorem Row.cell {W : World} {g : Nat} {l : List Int} (h : Row W g l) {j : Nat} (hj : j < l.length) : W.cell? ⟨g, j, none⟩ = some (.int .u32 (Op.cf l j)) := by
  obtain ⟨_, cur, h1, _, h2⟩ := h
  rw [h1.cell, h2 j hj]
theorem Row.frozen {W : World} {g : Nat} {l : List Int} (h : Row W g l) (j : Nat) : W.frozen? ⟨g, j, none⟩ = false := by
  obtain ⟨_, cur, h1, _, h2⟩ := h
  exact h1.frozen j
theorem Row.later {W W' : World} {g : Nat} {l : List Int} (h : Row W g l) (k : Gr W W') : Row W' g l := by
  obtain ⟨h0, cur, h1, h2⟩ := h
  exact ⟨h0, cur, h1.later k, h2⟩
theorem Row.hasP {W : World} {g : Nat} {l : List Int} (h : Row W g l) {cap : Nat} (h1 : l.length ≤ cap) (h2 : cap ≤ 9223372036854775807) : HasP W (.slice (some ⟨g, 0, none⟩) l.length cap) l :=
  ⟨h.1, _, cap, rfl, h1, h2, fun i hi => ⟨g, 0, rfl, by rw [Nat.zero_add]; exact h.cell hi⟩⟩
def put (l : List Int) (o : Nat) (pre : List Int) : List Int := l.take o ++ pre ++ l.drop (o + pre.length)
theorem put_len {l : List Int} {o : Nat} {pre : List Int} (h : o + pre.length ≤ l.length) : (put l o pre).length = l.length := by
  simp only [put, List.length_append, List.length_take, List.length_drop]; omega
theorem cf_put {l : List Int} {o : Nat} {pre : List Int} (h : o + pre.length ≤ l.length) (j : Nat) : Op.cf (put l o pre) j = if o ≤ j ∧ j < o + pre.length then Op.cf pre (j - o) else Op.cf l j := by
  have e1 : (l.take o).length = o := by rw [List.length_take]; omega
  rw [put, Op.cf_append, Op.cf_append, List.length_append, e1, Op.cf_take, Op.cf_drop]
  by_cases h1 : j < o
  · rw [if_pos (by omega), if_pos h1, if_pos h1, if_neg (by omega)]
  · by_cases h2 : j < o + pre.length
    · rw [if_pos h2, if_neg h1, if_pos (by omega)]
    · rw [if_neg h2, if_neg (by omega)]; congr 1; omega
theorem Row.upd {W W' : World} {g o : Nat} {l pre : List Int} (h : Row W g l) (hu : Upd g o pre W W') (hp : U32 pre) (ho : o + pre.length ≤ l.length) : Row W' g (put l o pre) := by
  obtain ⟨h0, cur, h1, h2, h3⟩ := h
  obtain ⟨_, _, _, _, _, c1, c2, r1, r2, r3, r4, r5⟩ := hu
  obtain rfl : c1 = cur := by have := (show W.heap[g]? = _ from r1).symm.trans h1; cases this; rfl
  refine ⟨(h0.take o).app hp |>.app (h0.drop _), c2, r2, by rw [put_len ho]; omega, fun j hj => ?_⟩
  rw [put_len ho] at hj
  rw [r5, cf_put ho]
  by_cases e : o ≤ j ∧ j < o + pre.length
  · rw [if_pos e, if_pos e]
  · rw [if_neg e, if_neg e]; exact h3 j hj
def zrow (n : Nat) : Array Value := madeCells #[.int .u32 0] n
theorem zrow_size (n : Nat) : (zrow n).size = n := size_madeCells _ _
theorem zrow_at (n j : Nat) (h : j < n) : (zrow n)[j]? = some (.int .u32 0) := by
  unfold zrow madeCells
  rw [Array.getElem?_eq_getElem (by simpa using h)]
  simp [Nat.mod_one]
theorem infoU32 : (Try.prog.info? 22).map (fun i => (i.zero, i.size, i.bytes)) = some (some (.int .u32 0), 1, 4) := by kernel_rfl
theorem mk_row (n : Nat) (L : Int) (hL : L = n) (hn : n ≤ 1000000) (w : World) : (Instr.makeSlice 23 (.int .i64 L) (.int .i64 L)).run Try.prog w = .ok (.slice (some ⟨w.heap.size, 0, none⟩) n n) (w.alloc (.cells (zrow n) 22)) := by
  obtain ⟨i0, hi, hz0, hz1, hz2⟩ := info_parts infoU32
  subst hL
  have := run_make (P := Try.prog) w 23 22 i0 (.int .u32 0) Try.underlying23 hi hz0 .i64 .i64 (n : Int) (n : Int) (by omega) (Int.le_refl _) (by rw [hz2]; omega) (by omega)
  rw [this, hz1, Int.toNat_natCast, Nat.mul_one]
  rfl
theorem cf_rep (n i : Nat) : Op.cf (List.replicate n 0) i = 0 := by
  induction n generalizing i with
  | zero => simp
  | succ n ih => cases i with
    | zero => rfl
    | succ i => exact ih i
theorem Row.zeros (w : World) (n : Nat) : Row (w.alloc (.cells (zrow n) 22)) w.heap.size (List.replicate n 0) :=
  ⟨fun x hx => by rw [List.eq_of_mem_replicate hx]; omega, zrow n, Rw.new w _, by rw [zrow_size]; simp, fun j hj => by rw [List.length_replicate] at hj; rw [zrow_at n j hj, cf_rep]⟩
end Go.Proofs.Ytlfiakpmnkhcdaa.Mo
namespace Go.Proofs.Ytlfiakpmnkhcdaa.Mo
open Go.RowKit
set_option linter.unusedVariables false
end Go.Proofs.Ytlfiakpmnkhcdaa.Mo
namespace Op
set_option linter.unusedVariables false
end Op
namespace Go.Proofs.Ytlfiakpmnkhcdaa.Mo
open Go.RowKit
set_option linter.unusedVariables false
def NewP (l : List Int) (w : World) (e : Ending) (w' : World) : Prop :=
  ∃ a n c, e = .returned (.slice a n c) ∧ HasP w' (.slice a n c) l ∧ (∀ p, a = some p → w.heap.size ≤ p.block) ∧ Gr w w'
def pcells (l : List Int) : List Value := l.map (.int .u32 ·)
theorem pcells_at (l : List Int) (i : Nat) (hi : i < l.length) : (pcells l)[i]? = some (.int .u32 (Op.cf l i)) := by
  rw [← Op.cf_at]; simp [pcells, hi]
theorem pcells_len (l : List Int) : (pcells l).length = l.length := by simp [pcells]
theorem pcells_one (l : List Int) : ∀ v ∈ pcells l, v.oneCell' = true := by
  intro u hu; obtain ⟨x, _, rfl⟩ := List.mem_map.1 hu; rfl
theorem addr_add {a : Option Addr} {g o j : Nat} (h : a = some ⟨g, o, none⟩) : ∀ ad, a = some ad → ad.add j = ⟨g, o + j, none⟩ := by
  intro ad e; rw [h] at e; cases e; unfold Addr.add; split <;> simp_all
end Go.Proofs.Ytlfiakpmnkhcdaa.Mo
namespace Go.Proofs.Ytlfiakpmnkhcdaa.Mo
open Go.RowKit
set_option linter.unusedVariables false
set_option maxHeartbeats 400000 in
theorem times_any (a b n : Int) (B : Nat) (w : World) (ha : 0 ≤ a) (ha' : a ≤ 4294967295) (hb : 0 ≤ b) (hb' : b ≤ 4294967295) (hn : 1 ≤ n) (hn' : n ≤ 4294967295)
    (hB : w.cell? ⟨B, 0, none⟩ = some (.int .u32 n)) :
    Calls Try.prog 97 #[.int .u32 a, .int .u32 b, .pointer (some ⟨B, 0, none⟩)] w fun e w' => e = .returned (.int .u32 (a * b % n)) ∧ w = w' := by
  have h1 := mul_lo ha hb
  have h2 := mul_hi ha hb ha' hb'
  have h3 := emod_lo (a * b) n hn
  have h4 : a * b % n ≤ 4294967295 := by have := emod_hi (a * b) n hn; omega
  go_enter Try.func97, Try.ntmps97
  go_wp2
  go_ret
  exact ⟨rfl, rfl⟩
theorem modulus_ok (n : Int) (w : World) (h : 2 ≤ n) (h' : n ≤ 2147483647) :
    Calls Try.prog 72 #[.int .u32 n] w fun e w' => e = .returned (.bool true) ∧ w = w' := by
  go_enter Try.func72, Try.ntmps72
  go_wp2
  go_ret
  exact ⟨rfl, rfl⟩
theorem modulus_bad (n : Int) (w : World) (h : n < 2 ∨ 2147483647 < n) :
    Calls Try.prog 72 #[.int .u32 n] w fun e w' => e = .returned (.bool false) ∧ w = w' := by
  rcases h with h | h
  · go_enter Try.func72, Try.ntmps72
    go_wp2
    go_ret
    exact ⟨rfl, rfl⟩
  · have h2 : ¬ n < 2 := by omega
    go_enter Try.func72, Try.ntmps72
    go_wp2
    go_ret
    exact ⟨ret_bool (by simp; omega), rfl⟩
theorem residues_ok (n : Int) (zs : List Int) (B : Nat) (w : World) (h : 2 ≤ n) (h' : n ≤ 2147483647) (hz : ∀ k, k < zs.length → zs[k]?.getD 0 < n) (hl : zs.length ≤ 2)
    (hc : ∀ k, k < zs.length → w.cell? ⟨B, k, none⟩ = some (.int .u32 (zs[k]?.getD 0))) :
    Calls Try.prog 90 #[.int .u32 n, .slice (some ⟨B, 0, none⟩) zs.length zs.length] w fun e w' => e = .returned (.bool true) ∧ w = w' := by
  have HZ := Lib.hid hz
  have HC := Lib.hid hc
  clear hz hc
  obtain ⟨len, hlen⟩ : ∃ len, len = zs.length := ⟨_, rfl⟩
  rw [← hlen] at hl ⊢
  have HL := Lib.hid hlen
  clear hlen
  go_enter Try.func90, Try.ntmps90
  go_wp2
  go_loop [9] (fun i => ∃ k : Nat, k ≤ len ∧ i = .int .i64 k) (fun i => len - (intOf i).toNat)
  case atStart => exact ⟨0, by omega, rfl⟩
  case round =>
    obtain ⟨k, hk, rfl⟩ := hrel
    by_cases hlt : k < len
    · have c1 := HC.out k (by rw [← HL.out]; omega)
      have c2 := HZ.out k (by rw [← HL.out]; omega)
      go_wp2
      go_round
      case rel => exact ⟨k + 1, by omega, by go_num⟩
      case measure => simp [intOf]; omega
    · go_wp2_with (go_at_call 72; refine (modulus_ok _ _ h h').mono ?_; rintro e w' ⟨rfl, rfl⟩)
      go_ret
      exact ⟨rfl, rfl⟩
theorem reduce_any (v n : Int) (w : World) (hv : -9223372036854775808 ≤ v) (hv' : v ≤ 9223372036854775807) (hn : 1 ≤ n) (hn' : n ≤ 2147483647) :
    Calls Try.prog 73 #[.int .i64 v, .int .u32 n] w fun e w' => e = .returned (.int .u32 (v % n)) ∧ w = w' := by
  have h1 : v.tmod n < n := Int.tmod_lt_of_pos _ (by omega)
  have h2 : - n < v.tmod n := by have := Int.lt_tmod_of_pos v (b := n) (by omega); omega
  have h3 := emod_lo v n hn
  have h4 := emod_hi v n hn
  by_cases h0 : v.tmod n < 0
  · have e : v % n = v.tmod n + n := emod_neg_case v n h0 h2
    have HE := Lib.hid e
    clear e h3 h4
    go_enter Try.func73, Try.ntmps73
    go_wp2
    go_ret
    exact ⟨ret_int HE.out.symm, rfl⟩
  · have e : v % n = v.tmod n := emod_pos_case v n h0 h1
    have HE := Lib.hid e
    clear e h3 h4
    go_enter Try.func73, Try.ntmps73
    go_wp2
    go_ret
    exact ⟨ret_int HE.out.symm, rfl⟩
theorem products_any (n : Int) (w : World) :
    Calls Try.prog 88 #[.int .u32 n] w fun e w' => e = .returned (.func (.func 97) #[] #[.pointer (some ⟨w.heap.size, 0, none⟩)]) ∧ w.alloc (.cells #[.int .u32 n] 22) = w' := by
  go_enter Try.func88, Try.ntmps88
  go_wp2
  go_ret
  exact ⟨rfl, rfl⟩
def PowInv (a0 : Int) (e0 : Nat) (n r a : Int) (e : Nat) : Prop := r * a ^ e % n = a0 ^ e0 % n
theorem int_pow_emod (a n : Int) (k : Nat) : a ^ k % n = (a % n) ^ k % n := by
  induction k with
  | zero => simp
  | succ k ih => rw [Int.pow_succ, Int.pow_succ, Int.mul_emod, ih, ← Int.emod_emod a n, ← Int.mul_emod, Int.emod_emod]
theorem pow_sq (a : Int) (e : Nat) (h : e % 2 = 0) : (a * a) ^ (e / 2) = a ^ e := by
  have : e = 2 * (e / 2) := by omega
  conv => rhs; rw [this, Int.pow_mul]
  congr 1
  rw [Int.pow_succ, Int.pow_succ, Int.pow_zero, Int.one_mul]
theorem pow_sq' (a : Int) (e : Nat) (h : e % 2 = 1) : a * (a * a) ^ (e / 2) = a ^ e := by
  have h1 : e = (e / 2 * 2) + 1 := by omega
  conv => rhs; rw [h1, Int.pow_succ]
  rw [← pow_sq a (e / 2 * 2) (by omega), Int.mul_comm]
  congr 2
  omega
theorem mul_pow_emod (x a n : Int) (k : Nat) : x * (a % n) ^ k % n = x * a ^ k % n := by
  rw [Int.mul_emod, ← int_pow_emod, ← Int.mul_emod]
theorem emod_mul_emod (x y n : Int) : x % n * y % n = x * y % n := by
  rw [Int.mul_emod, Int.emod_emod, ← Int.mul_emod]
theorem pow_odd {a0 : Int} {e0 : Nat} {n r a : Int} {e : Nat} (h : PowInv a0 e0 n r a e) (ho : e % 2 = 1) : PowInv a0 e0 n (r * a % n) (a * a % n) (e / 2) := by
  unfold PowInv at h ⊢
  rw [← h, mul_pow_emod, emod_mul_emod, Int.mul_assoc, pow_sq' a e ho]
theorem pow_even {a0 : Int} {e0 : Nat} {n r a : Int} {e : Nat} (h : PowInv a0 e0 n r a e) (ho : e % 2 = 0) : PowInv a0 e0 n r (a * a % n) (e / 2) := by
  unfold PowInv at h ⊢
  rw [← h, mul_pow_emod, pow_sq a e ho]
theorem pow_end {a0 : Int} {e0 : Nat} {n r a : Int} (h : PowInv a0 e0 n r a 0) (h0 : 0 ≤ r) (h1 : r < n) : r = a0 ^ e0 % n := by
  unfold PowInv at h
  rw [← h, Int.pow_zero, Int.mul_one, Int.emod_eq_of_lt h0 h1]
set_option maxHeartbeats 400000 in
theorem power_any (a0 k0 n : Int) (B : Nat) (w : World) (ha : 0 ≤ a0) (ha' : a0 ≤ 4294967295) (hk : 0 ≤ k0) (hk' : k0 ≤ 18446744073709551615) (hn : 2 ≤ n) (hn' : n ≤ 4294967295)
    (hB : w.cell? ⟨B, 0, none⟩ = some (.int .u32 n)) :
    Calls Try.prog 89 #[.int .u32 a0, .int .u64 k0, .func (.func 97) #[] #[.pointer (some ⟨B, 0, none⟩)]] w fun e w' => e = .returned (.int .u32 (a0 ^ k0.toNat % n)) ∧ w = w' := by
  have HB := Lib.hid hB
  clear hB
  go_enter Try.func89, Try.ntmps89
  go_wp2_with fail
  go_loop [0, 1, 7] (fun x y z => ∃ a r : Int, ∃ e : Nat, x = .int .u32 a ∧ y = .int .u64 e ∧ z = .int .u32 r ∧ 0 ≤ a ∧ a ≤ 4294967295 ∧ (e : Int) ≤ 18446744073709551615 ∧ 0 ≤ r ∧ r < n ∧ PowInv a0 k0.toNat n r a e) (fun _ y _ => (intOf y).toNat)
  case atStart => exact ⟨a0, 1, k0.toNat, rfl, by rw [Int.toNat_of_nonneg hk], rfl, ha, ha', by omega, by omega, by omega, by simp [PowInv]⟩
  case round =>
    obtain ⟨a, r, e, rfl, rfl, rfl, h1, h2, h3, h4, h5, hinv⟩ := hrel
    by_cases he : 0 < e
    · by_cases ho : e % 2 = 1
      · have hand : (bits .and .u64 (e : Int) 1) = 1 := by rw [and_one_u64 _ (by omega) h3]; omega
        go_wp2_with (go_at_call 97; refine (times_any _ _ n B _ (by omega) (by omega) (by omega) (by omega) (by omega) (by omega) HB.out).mono ?_; rintro e w' ⟨rfl, rfl⟩)
        refine ⟨⟨_, _, e / 2, rfl, rfl, rfl, emod_lo _ _ (by omega), ?_, by omega, emod_lo _ _ (by omega), emod_hi _ _ (by omega), pow_odd hinv ho⟩, by simp [intOf]; omega⟩
        have := emod_hi (a * a) n (by omega); omega
      · have hand : (bits .and .u64 (e : Int) 1) = 0 := by rw [and_one_u64 _ (by omega) h3]; omega
        go_wp2_with (go_at_call 97; refine (times_any _ _ n B _ (by omega) (by omega) (by omega) (by omega) (by omega) (by omega) HB.out).mono ?_; rintro e w' ⟨rfl, rfl⟩)
        refine ⟨⟨_, _, e / 2, rfl, rfl, rfl, emod_lo _ _ (by omega), ?_, by omega, h4, h5, pow_even hinv (by omega)⟩, by simp [intOf]; omega⟩
        have := emod_hi (a * a) n (by omega); omega
    · obtain rfl : e = 0 := by omega
      have HE := Lib.hid (pow_end hinv h4 h5)
      go_wp2_with fail
      go_ret
      exact ⟨ret_int HE.out, rfl⟩
/-! ### The numbers of Euclid's algorithm -/
structure Bez (a0 n0 : Nat) (a n : Nat) (x y : Int) : Prop where
  ma : (n0 : Int) ∣ a0 * x - a
  mn : (n0 : Int) ∣ a0 * y - n
  g : Nat.gcd a n = Nat.gcd a0 n0
  x1 : -(n0 : Int) ≤ x
  x2 : x ≤ n0
  y1 : -(n0 : Int) ≤ y
  y2 : y ≤ n0
  s : (0 ≤ x ∧ y ≤ 0 ∧ x * n - y * a = n0) ∨ (x ≤ 0 ∧ 0 ≤ y ∧ y * a - x * n = n0)
theorem Bez.start (a0 n0 : Nat) (h : 1 ≤ n0) : Bez a0 n0 a0 n0 1 0 where
  ma := by simp
  mn := by simp
  g := rfl
  x1 := by omega
  x2 := by omega
  y1 := by omega
  y2 := by omega
  s := .inl ⟨by omega, by omega, by simp⟩
theorem nat_sub_div (a n : Nat) : (a : Int) - (a : Int) / (n : Int) * (n : Int) = ((a % n : Nat) : Int) := by
  rw [Int.natCast_emod, Int.emod_def, Int.mul_comm]
theorem Bez.small {n0 n : Nat} (y : Int) (hn : 1 ≤ n) (h : 0 ≤ y) (e : y * n ≤ n0) : y ≤ n0 := by
  have h1 : y * 1 ≤ y * (n : Int) := Int.mul_le_mul_of_nonneg_left (by omega) h
  omega
theorem Bez.step {a0 n0 a n : Nat} {x y : Int} (h : Bez a0 n0 a n x y) (hn : 1 ≤ n) :
    Bez a0 n0 n (a % n) y (x - (a : Int) / n * y) ∧ -(n0 : Int) ≤ (a : Int) / n * y ∧ (a : Int) / n * y ≤ n0 := by
  obtain ⟨ma, mn, g, x1, x2, y1, y2, s⟩ := h
  have hq : 0 ≤ (a : Int) / n := Int.ediv_nonneg (by omega) (by omega)
  have ha : (a : Int) = (a : Int) / n * n + ((a % n : Nat) : Int) := by have := nat_sub_div a n; omega
  generalize (a : Int) / n = q at *
  have hr0 : (0 : Int) ≤ ((a % n : Nat) : Int) := by omega
  generalize hr : ((a % n : Nat) : Int) = r at *
  have ring1 : x * (n : Int) - y * a = x * n - q * y * n - y * r := by
    rw [ha, Int.mul_add, ← Int.mul_assoc, Int.mul_comm y q]; omega
  have ring2 : (x - q * y) * (n : Int) = x * n - q * y * n := by rw [Int.sub_mul]
  have m2 : (n0 : Int) ∣ a0 * (x - q * y) - r := by
    have h1 : (a0 : Int) * (x - q * y) - r = (a0 * x - a) - q * (a0 * y - n) := by
      rw [ha, Int.mul_sub, Int.mul_sub]
      have : (a0 : Int) * (q * y) = q * (a0 * y) := by rw [← Int.mul_assoc, Int.mul_comm (a0 : Int) q, Int.mul_assoc]
      omega
    rw [h1]
    exact Int.dvd_sub ma (Int.dvd_mul_of_dvd_right mn)
  have gg : Nat.gcd n (a % n) = Nat.gcd a0 n0 := by
    rw [← g, Nat.gcd_comm n, ← Nat.gcd_rec, Nat.gcd_comm]
  rcases s with ⟨s1, s2, s3⟩ | ⟨s1, s2, s3⟩
  · have hqy : q * y ≤ 0 := Int.mul_nonpos_of_nonneg_of_nonpos hq s2
    have hyr : y * r ≤ 0 := Int.mul_nonpos_of_nonpos_of_nonneg s2 hr0
    have e1 : (x - q * y) * (n : Int) - y * r = n0 := by omega
    have b1 : x - q * y ≤ n0 := Bez.small _ hn (by omega) (by omega)
    exact ⟨⟨mn, by rw [hr]; exact m2, gg, y1, y2, by omega, b1, .inr ⟨s2, by omega, by rw [hr]; omega⟩⟩, by omega, by omega⟩
  · have hqy : 0 ≤ q * y := Int.mul_nonneg hq s2
    have hyr : 0 ≤ y * r := Int.mul_nonneg s2 hr0
    have e1 : -(x - q * y) * (n : Int) + y * r = n0 := by rw [Int.neg_mul]; omega
    have b1 : -(x - q * y) ≤ n0 := Bez.small _ hn (by omega) (by omega)
    refine ⟨⟨mn, by rw [hr]; exact m2, gg, y1, y2, by omega, by omega, .inl ⟨s2, by omega, ?_⟩⟩, by omega, by omega⟩
    rw [hr]; rw [Int.neg_mul] at e1; omega
def BezPost (a0 n0 : Nat) (w : World) (e : Ending) (w' : World) : Prop :=
  ∃ x : Int, e = .returned (.tuple #[.int .i64 (Nat.gcd a0 n0 : Nat), .int .i64 x]) ∧ (n0 : Int) ∣ a0 * x - (Nat.gcd a0 n0 : Nat) ∧ -(n0 : Int) ≤ x ∧ x ≤ n0 ∧ w = w'
set_option maxHeartbeats 400000 in
theorem bezout_any (a0 n0 : Nat) (w : World) (ha : a0 ≤ 4294967295) (hn : 1 ≤ n0) (hn' : n0 ≤ 4294967295) :
    Calls Try.prog 91 #[.int .i64 a0, .int .i64 n0] w (BezPost a0 n0 w) := by
  go_enter Try.func91, Try.ntmps91
  go_wp2
  go_loop [0, 1, 5, 6] (fun a n x y => ∃ α ν : Nat, ∃ ξ η : Int, a = .int .i64 α ∧ n = .int .i64 ν ∧ x = .int .i64 ξ ∧ y = .int .i64 η ∧ α ≤ 4294967295 ∧ ν ≤ 4294967295 ∧ Bez a0 n0 α ν ξ η) (fun _ n _ _ => (intOf n).toNat)
  case atStart => exact ⟨a0, n0, 1, 0, rfl, rfl, rfl, rfl, ha, hn', Bez.start a0 n0 hn⟩
  case round =>
    obtain ⟨a, n, x, y, rfl, rfl, rfl, rfl, h1, h2, hb⟩ := hrel
    have hx1 := hb.x1
    have hx2 := hb.x2
    have hy1 := hb.y1
    have hy2 := hb.y2
    by_cases h0 : 1 ≤ n
    · have hne : ((n : Int) != 0) = true := by simp; omega
      obtain ⟨hb2, hp1, hp2⟩ := hb.step h0
      have hz1 := hb2.y1
      have hz2 := hb2.y2
      have hq0 : 0 ≤ (a : Int) / n := Int.ediv_nonneg (by omega) (by omega)
      have hq1 : (a : Int) / n ≤ a := Int.ediv_le_self _ (by omega)
      have hr := nat_sub_div a n
      have hlt : a % n < n := Nat.mod_lt _ (by omega)
      have hm1 : 0 ≤ (a : Int) / n * n := Int.mul_nonneg hq0 (by omega)
      have hm2 : (a : Int) / n * n ≤ a := by omega
      have HR := Lib.hid hr
      clear hr
      have HB := Lib.hid hb2
      clear hb2 hb
      go_wp2
      refine ⟨⟨n, a % n, y, _, rfl, congrArg _ HR.out, rfl, rfl, h2, by omega, HB.out⟩, ?_⟩
      simp only [intOf]
      rw [HR.out]; omega
    · obtain rfl : n = 0 := by omega
      go_wp2
      go_ret2
      have hg := hb.g
      rw [Nat.gcd_zero_right] at hg
      refine ⟨x, ?_, ?_, hx1, hx2, rfl⟩
      · rw [← hg]; rfl
      · rw [← hg]; exact hb.ma
end Go.Proofs.Ytlfiakpmnkhcdaa.Mo
namespace Go.Proofs.Ytlfiakpmnkhcdaa.Mo
open Go.RowKit
set_option linter.unusedVariables false
def Two (x err : Int) (w : World) (e : Ending) (w' : World) : Prop := e = .returned (.tuple #[.int .u32 x, .int .i64 err]) ∧ Gr w w'
theorem cells_two (w : World) (a b : Value) (t : TypeId) (k : Nat) (hk : k < 2) : (w.alloc (.cells #[a, b] t)).cell? ⟨w.heap.size, k, none⟩ = some ([a, b].getD k undef) := by
  rcases k with _ | _ | k
  · simp [go_sem]
  · simp [go_sem]
  · omega
theorem residues_ok2 (a b n : Int) (w : World) (h : 2 ≤ n) (h' : n ≤ 2147483647) (ha : a < n) (hb : b < n) :
    Calls Try.prog 90 #[.int .u32 n, .slice (some ⟨w.heap.size, 0, none⟩) 2 2] (w.alloc (.cells #[.int .u32 a, .int .u32 b] 22)) fun e w' => e = .returned (.bool true) ∧ w.alloc (.cells #[.int .u32 a, .int .u32 b] 22) = w' := by
  refine residues_ok n [a, b] w.heap.size _ h h' ?_ (by simp) ?_
  · intro k hk; rcases k with _ | _ | k
    · simpa using ha
    · simpa using hb
    · simp at hk; omega
  · intro k hk
    rw [cells_two _ _ _ _ _ (by simpa using hk)]
    rcases k with _ | _ | k
    · rfl
    · rfl
    · simp at hk; omega
theorem residues_ok1 (a n : Int) (w : World) (h : 2 ≤ n) (h' : n ≤ 2147483647) (ha : a < n) :
    Calls Try.prog 90 #[.int .u32 n, .slice (some ⟨w.heap.size, 0, none⟩) 1 1] (w.alloc (.cells #[.int .u32 a] 22)) fun e w' => e = .returned (.bool true) ∧ w.alloc (.cells #[.int .u32 a] 22) = w' := by
  refine residues_ok n [a] w.heap.size _ h h' ?_ (by simp) ?_
  · intro k hk; rcases k with _ | k
    · simpa using ha
    · simp at hk
  · intro k hk
    rcases k with _ | k
    · exact cell_new _ _ _
    · simp at hk
theorem mul_ok (a b n : Int) (w : World) (h : 2 ≤ n) (h' : n ≤ 2147483647) (ha0 : 0 ≤ a) (hb0 : 0 ≤ b) (ha : a < n) (hb : b < n) :
    Calls Try.prog 78 #[.int .u32 a, .int .u32 b, .int .u32 n] w (Two (a * b % n) 0 w) := by
  go_enter Try.func78, Try.ntmps78
  go_wp2_with fail
  refine (residues_ok2 a b n _ h h' ha hb).mono ?_
  rintro e w' ⟨rfl, rfl⟩
  go_wp2_with fail
  refine (products_any n _).mono ?_
  rintro e w' ⟨rfl, rfl⟩
  go_wp2_with fail
  refine (times_any a b n (w.heap.size + 1) _ ha0 (by omega) hb0 (by omega) (by omega) (by omega) (by have := cell_new (w.alloc (.cells #[.int .u32 a, .int .u32 b] 22)) (.int .u32 n) 22; rwa [World.size_alloc] at this)).mono ?_
  rintro e w' ⟨rfl, rfl⟩
  go_wp2_with fail
  go_ret2
  exact ⟨rfl, (Gr.new _ _).alloc _⟩
end Go.Proofs.Ytlfiakpmnkhcdaa.Mo
namespace Go.Proofs.Ytlfiakpmnkhcdaa.Mo
open Go.RowKit
set_option linter.unusedVariables false
theorem of_ok (v n : Int) (w : World) (h : 2 ≤ n) (h' : n ≤ 2147483647) (hv : -9223372036854775808 ≤ v) (hv' : v ≤ 9223372036854775807) :
    Calls Try.prog 53 #[.int .i64 v, .int .u32 n] w (Two (v % n) 0 w) := by
  go_enter Try.func53, Try.ntmps53
  go_wp2_with fail
  refine (modulus_ok n _ h h').mono ?_
  rintro e w' ⟨rfl, rfl⟩
  go_wp2_with fail
  refine (reduce_any v n _ hv hv' (by omega) h').mono ?_
  rintro e w' ⟨rfl, rfl⟩
  go_wp2_with fail
  go_ret2
  exact ⟨rfl, Gr.refl _⟩
def TwoI (x err : Int) (w : World) (e : Ending) (w' : World) : Prop := e = .returned (.tuple #[.int .i64 x, .int .i64 err]) ∧ Gr w w'
def bal (a n : Int) : Int := if n < 2 * a then a - n else a
theorem bal_hi {a n : Int} (h : n < 2 * a) : bal a n = a - n := by unfold bal; rw [if_pos h]
theorem bal_lo {a n : Int} (h : ¬ n < 2 * a) : bal a n = a := by unfold bal; rw [if_neg h]
theorem balanced_ok (a n : Int) (w : World) (h : 2 ≤ n) (h' : n ≤ 2147483647) (ha0 : 0 ≤ a) (ha : a < n) :
    Calls Try.prog 76 #[.int .u32 a, .int .u32 n] w (TwoI (bal a n) 0 w) := by
  by_cases hc : n < 2 * a
  · have HB := Lib.hid (bal_hi hc)
    go_enter Try.func76, Try.ntmps76
    go_wp2_with fail
    refine (residues_ok1 a n _ h h' ha).mono ?_
    rintro e w' ⟨rfl, rfl⟩
    go_wp2_with fail
    go_ret2
    exact ⟨by rw [HB.out]; rfl, Gr.new _ _⟩
  · have HB := Lib.hid (bal_lo hc)
    go_enter Try.func76, Try.ntmps76
    go_wp2_with fail
    refine (residues_ok1 a n _ h h' ha).mono ?_
    rintro e w' ⟨rfl, rfl⟩
    go_wp2_with fail
    go_ret2
    exact ⟨by rw [HB.out]; rfl, Gr.new _ _⟩
def IsInv (a n b : Int) : Prop := 0 ≤ b ∧ b < n ∧ a * b % n = 1
theorem IsInv.of_bezout {a0 n0 : Nat} {x : Int} (hn : 2 ≤ n0) (hg : Nat.gcd a0 n0 = 1) (h : (n0 : Int) ∣ a0 * x - (Nat.gcd a0 n0 : Nat)) : IsInv a0 n0 (x % n0) := by
  refine ⟨Int.emod_nonneg _ (by omega), Int.emod_lt_of_pos _ (by omega), ?_⟩
  rw [hg] at h
  rw [Int.mul_emod, Int.emod_emod, ← Int.mul_emod]
  have h2 : ((a0 : Int) * x - 1) % n0 = 0 := Int.emod_eq_zero_of_dvd h
  have h3 : (a0 : Int) * x = (a0 * x - 1) + 1 := by omega
  rw [h3, Int.add_emod, h2, Int.zero_add, Int.emod_emod]
  exact Int.emod_eq_of_lt (by omega) (by omega)
def InvPost (a n : Int) (w : World) (e : Ending) (w' : World) : Prop := ∃ b, Two b 0 w e w' ∧ IsInv a n b
theorem inverse_ok (a n : Nat) (w : World) (h : 2 ≤ n) (h' : n ≤ 2147483647) (ha : a < n) (hg : Nat.gcd a n = 1) :
    Calls Try.prog 77 #[.int .u32 a, .int .u32 n] w (InvPost a n w) := by
  have HG := Lib.hid hg
  clear hg
  go_enter Try.func77, Try.ntmps77
  go_wp2_with fail
  refine (residues_ok1 a n _ (by omega) (by omega) (by omega)).mono ?_
  rintro e w' ⟨rfl, rfl⟩
  go_wp2_with fail
  refine (bezout_any a n _ (by omega) (by omega) (by omega)).mono ?_
  rintro e w' ⟨x, rfl, hd, hx1, hx2, rfl⟩
  have HI := Lib.hid (IsInv.of_bezout h HG.out hd)
  clear hd
  rw [HG.out]
  go_wp2_with fail
  refine (reduce_any x n _ (by omega) (by omega) (by omega) (by omega)).mono ?_
  rintro e w' ⟨rfl, rfl⟩
  go_wp2_with fail
  go_ret2
  exact ⟨_, ⟨rfl, Gr.new _ _⟩, HI.out⟩
end Go.Proofs.Ytlfiakpmnkhcdaa.Mo
namespace Op
set_option linter.unusedVariables false
theorem dvd_mod (m x : Int) : m ∣ x % m - x := ⟨-(x / m), by have := Int.emod_add_mul_ediv x m; rw [Int.mul_neg]; omega⟩
end Op
namespace Go.Proofs.Ytlfiakpmnkhcdaa.Mo
open Go.RowKit
set_option linter.unusedVariables false
end Go.Proofs.Ytlfiakpmnkhcdaa.Mo
namespace Go.Proofs.Ytlfiakpmnkhcdaa.Mo
open Go.RowKit
set_option linter.unusedVariables false
def Own1 (W : World) (base : Nat) (v : Value) (l : List Int) : Prop := U32 l ∧ W.ownsRow base 22 1 v l.length (pcells l)
theorem Own1.hasP {W : World} {base : Nat} {v : Value} {l : List Int} (h : Own1 W base v l) : HasP W v l := by
  refine ⟨h.1, ?_⟩
  rcases h.2.2 with ⟨rfl, h0⟩ | ⟨g, cap, cur, rfl, _, hg, h1, h2, h3, h4⟩
  · exact ⟨none, 0, by rw [h0], by omega, by omega, fun i hi => by omega⟩
  · refine ⟨_, cap, rfl, h1, by unfold maxLen at h2; omega, fun i hi => ⟨g, 0, rfl, ?_⟩⟩
    have hc : W.cell? ⟨g, i, none⟩ = (pcells l)[i]? := by
      rw [← h4, List.getElem?_take_of_lt (by omega)]
      simp [World.cell?, hg]
    rw [Nat.zero_add, hc, pcells_at l i hi]
theorem Own1.nil (W : World) (base : Nat) : Own1 W base (.slice none 0 0) [] := ⟨U32.nil, World.ownsRow_nil _ _ _ _⟩
theorem Own1.fresh {W : World} {base : Nat} {v : Value} {l : List Int} (h : Own1 W base v l) {a : Option Addr} {n c : Nat} (hv : v = .slice a n c) : ∀ p, a = some p → base ≤ p.block := by
  intro p hp
  subst hv hp
  rcases h.2.2 with ⟨e, _⟩ | ⟨g, cap, cur, e, hb, _⟩
  · cases e
  · cases e
    exact hb
theorem Own1.form {W : World} {base : Nat} {v : Value} {l : List Int} (h : Own1 W base v l) : ∃ a c, v = .slice a l.length c ∧ l.length ≤ c ∧ c ≤ 9223372036854775807 := by
  obtain ⟨_, a, c, e, h1, h2, _⟩ := h.hasP
  exact ⟨a, c, e, h1, h2⟩
theorem Own1.alloc {W : World} {base : Nat} {v : Value} {l : List Int} (h : Own1 W base v l) (o : Obj) : Own1 (W.alloc o) base v l := ⟨h.1, h.2.alloc o⟩
theorem run_app (w : World) (base : Nat) (v : Value) (l0 : List Int) (hown : Own1 w base v l0) (u : Value) (m : List Int) (hu : HasP w u m) (hlen : l0.length + m.length ≤ 1000000) (hbase : base ≤ w.heap.size) :
    ∃ v' w', (Builtin.append_ #[23, 23] 23 #[v, u]).run Try.prog w = .ok v' w' ∧ Own1 w' base v' (l0 ++ m) ∧ w.grownBy w' v.ownBlock := by
  obtain ⟨i0, hi, hz0, hz1, hz2⟩ := info_parts infoU32
  obtain ⟨hd0, hown⟩ := hown
  obtain ⟨hdm, a, cap, rfl, h1, h2, hc⟩ := hu
  have hdg : U32 (l0 ++ m) := hd0.app hdm
  have hcells : pcells (l0 ++ m) = pcells l0 ++ pcells m := by simp [pcells]
  rcases a with _ | ad
  · have hm : m = [] := by
      rcases m with _ | ⟨x, m⟩
      · rfl
      · obtain ⟨g, o, e, _⟩ := hc 0 (by simp)
        cases e
    subst hm
    refine ⟨v, w, ?_, by rw [List.append_nil]; exact ⟨hd0, hown⟩, World.grownBy.refl w _⟩
    rcases hown.2 with ⟨rfl, _⟩ | ⟨g, cap', cur, rfl, _, _, hnc, _⟩
    · simp [Builtin.append_, run_underlying Try.underlying23, sizeOf, typeInfo, hi, Builtin.lenOf, Builtin.firstCells]
    · simp [Builtin.append_, run_underlying Try.underlying23, sizeOf, typeInfo, hi, Builtin.lenOf, Builtin.firstCells, hnc, storeCells]
  · have hnews : ∀ j x, (pcells m)[j]? = some x → w.cell? (ad.add j) = some x := by
      intro j x hx
      have hj : j < m.length := by
        have := (List.getElem?_eq_some_iff.1 hx).1
        rwa [pcells_len] at this
      obtain ⟨g, o, e, hcell⟩ := hc j hj
      obtain rfl := Option.some.inj e
      rw [pcells_at m j hj] at hx
      have e2 : (⟨g, o, none⟩ : Addr).add j = ⟨g, o + j, none⟩ := addr_add rfl _ rfl
      rw [e2, hcell]; exact hx
    obtain ⟨v', w', hr, h5, h6, _⟩ := run_append_own (P := Try.prog) w base 23 23 22 i0 (.int .u32 0) 1 4 Try.underlying23 hi hz0 hz1 hz2 rfl (by decide) v l0.length (pcells l0) hown ad m.length cap (pcells m) (by rw [pcells_len]; omega) hnews (pcells_one m) (by unfold maxLen; omega) (by omega) hbase
    exact ⟨v', w', hr, ⟨hdg, by rw [hcells, List.length_append]; exact h5⟩, h6⟩
theorem wp_app {o : Oper} {a : Act} {w : World} {K : Act → World → Prop} {Q : Exit → Act → World → Prop} (s x : Operand)
    (ho : o.op = .call { callee := .builtin .append, args := #[s, x], argTypes := #[23, 23] }) (hty : o.type = 23)
    (base : Nat) (v : Value) (l0 : List Int) (hs : a.eval s = v) (hown : Own1 w base v l0) (u : Value) (m : List Int) (hx : a.eval x = u) (hu : HasP w u m) (hlen : l0.length + m.length ≤ 1000000) (hbase : base ≤ w.heap.size)
    (h : ∀ v' w', Own1 w' base v' (l0 ++ m) → w.grownBy w' v.ownBlock → K (a.put o.dst v') w') : Oper.wp Try.prog o a w K Q := by
  obtain ⟨v', w', hr, h2, h3⟩ := run_app w base v l0 hown u m hu hlen hbase
  unfold Oper.wp execOp
  simp only [ho, hty, resolve, invoke, builtin, Sem.run_bind, Sem.run_pure, Result.andThen_ok, List.map_toArray, List.map_cons, List.map_nil, hs, hx, hr]
  exact h v' w' h2 h3
theorem wpList_app {ops : Array Oper} {rest : List Oper} {o : Oper} {a : Act} {w : World} {Q : Exit → Act → World → Prop} (hgd : o.guard = none) (s x : Operand)
    (ho : o.op = .call { callee := .builtin .append, args := #[s, x], argTypes := #[23, 23] }) (hty : o.type = 23)
    (base : Nat) (v : Value) (l0 : List Int) (hs : a.eval s = v) (hown : Own1 w base v l0) (u : Value) (m : List Int) (hx : a.eval x = u) (hu : HasP w u m) (hlen : l0.length + m.length ≤ 1000000) (hbase : base ≤ w.heap.size)
    (h : ∀ v' w', Own1 w' base v' (l0 ++ m) → w.grownBy w' v.ownBlock → wpList Try.prog ops Q rest (a.put o.dst v') w') : wpList Try.prog ops Q (o :: rest) a w :=
  wpList_plain hgd fun _ hK => wp_app s x ho hty base v l0 hs hown u m hx hu hlen hbase fun v' w' h2 h3 => hK _ _ (h v' w' h2 h3)
theorem grown_own {w a b : World} {base : Nat} {v : Value} {l : List Int} (h : Gr w a) (ho : Own1 a base v l) (hg : a.grownBy b v.ownBlock) (hb : w.heap.size ≤ base) : Gr w b := by
  refine Below.grown h hg h.size (fun j ej => ?_)
  rcases ho.2.2 with ⟨rfl, _⟩ | ⟨g, cap, cur, rfl, h1, _, _⟩
  · simp [Value.ownBlock] at ej
  · obtain rfl : g = j := by simpa [Value.ownBlock] using ej
    omega
theorem one_hasP (W : World) (x : Int) (hx : 0 ≤ x ∧ x < 4294967296) : HasP (W.alloc (.cells #[.int .u32 x] 22)) (.slice (some ⟨W.heap.size, 0, none⟩) 1 1) [x] :=
  ⟨U32.one hx, _, 1, rfl, Nat.le_refl _, by omega, fun i hi => ⟨_, 0, rfl, by
    obtain rfl : i = 0 := by simpa using hi
    exact cell_new _ _ _⟩⟩
theorem one_hasP' (W : World) (x : Int) (g : Nat) (hg : g = W.heap.size) (hx : 0 ≤ x ∧ x < 4294967296) : HasP (W.alloc (.cells #[.int .u32 x] 22)) (.slice (some ⟨g, 0, none⟩) 1 1) [x] := by
  subst hg; exact one_hasP W x hx
end Go.Proofs.Ytlfiakpmnkhcdaa.Mo
namespace Go.Proofs.Ytlfiakpmnkhcdaa.Mo
open Go.ChangeShapes Go.WideShapes Go.ChangeAt Go.RowKit Go.Joins Go.Deep
set_option linter.unusedVariables false
set_option maxRecDepth 100000
theorem cells_hasP {H : Type} {enc : TypeId × Value → H} {w : World} {base : Nat} {spare : Nat → Bool} {held : Bool} {fuel : Nat} {v : Value} {x : DataW H × List MemPlace}
    (h : DataW.trod enc Try.prog w base spare held fuel 23 [v] = some x) : ∃ l : List Int, HasP w v l ∧ l.length ≤ 9223372036854775807 := by
  rcases open_ints Try.underlying23 Try.underlying22 (by kernel_rfl) h with ⟨hv, _⟩ | ⟨a, len, cap, zs, hv, _, hl, hm, hz, _, hc, hw⟩
  · simp at hv
    subst hv
    exact ⟨[], HasP.nil w, by simp⟩
  · simp at hv
    subst hv
    have hlz : len ≤ zs.length := by rw [hz]; split <;> omega
    have hlen : (zs.take len).length = len := by rw [List.length_take]; omega
    unfold maxLen at hm
    refine ⟨zs.take len, ⟨fun y hy => ?_, some a, cap, by rw [hlen], by rw [hlen]; exact hl, by omega, fun i hi => ?_⟩, by rw [hlen]; omega⟩
    · have := bounds_u32 (hw y (List.mem_of_mem_take hy))
      omega
    · rw [hlen] at hi
      have h0 := hc 0 (by omega)
      obtain ⟨g, o, s⟩ := a
      have hs : s = none := by
        cases s with
        | none => rfl
        | some s =>
          have e : (⟨g, o, some s⟩ : Addr).add 0 = ⟨g, o, some s⟩ := rfl
          rw [e] at h0
          simp only [World.cell?] at h0
          split at h0 <;> simp_all
      subst hs
      refine ⟨g, o, rfl, ?_⟩
      have hci := hc i (by omega)
      have e2 : (⟨g, o, none⟩ : Addr).add i = ⟨g, o + i, none⟩ := addr_add rfl _ rfl
      rw [e2] at hci
      rw [hci, Op.cf_take, if_pos hi, ← Op.cf_at]; rfl
theorem own : ownKnob Try.prog.godebug = none := by kernel_rfl
theorem laidOut : laidOutB Try.prog = true := by kernel_rfl
end Go.Proofs.Ytlfiakpmnkhcdaa.Mo
