import Derived.Test.YtfmmkdmnondomaaRows
import Derived.WalkKit
import Derived.WalkSpells
import Derived.WalkLawsBesides
import Derived.IntWalk
import Derived.Lib.Hide
import Derived.Carry
import Derived.WalkSmall
/- The ground of this seat's texts: the word for 'at most new memory', and small laws of numbers in the walk's own spelling. -/
namespace Go.Proofs.Ytfmmkdmnondomaa
open Go.RowKit
set_option linter.unusedVariables false

/-- Nothing that was there has changed. -/
def Gr (w w' : World) : Prop := Below w.heap.size w w'
theorem Gr.refl (w : World) : Gr w w := Below.refl _ _
theorem Gr.trans {a b c : World} (h : Gr a b) (k : Gr b c) : Gr a c := Below.trans h (Below.mono k (Below.size h))
theorem Gr.size {a b : World} (h : Gr a b) : a.heap.size ≤ b.heap.size := Below.size h
theorem Gr.alloc {a b : World} (h : Gr a b) (o : Obj) : Gr a (b.alloc o) := Below.alloc h h.size o
/-- The answer is true, and nothing that was there has changed. -/
def Truth (w : World) (e : Ending) (w' : World) : Prop := e = .returned (.bool true) ∧ Gr w w'
theorem Gr.new (w : World) (o : Obj) : Gr w (w.alloc o) := (Gr.refl w).alloc o
theorem Gr.setCell {a b : World} (h : Gr a b) {p : Addr} (hp : a.heap.size ≤ p.block) (u : Value) : Gr a (b.setCell p u) := Below.setCell h hp u
theorem Gr.cell {a b : World} (h : Gr a b) {p : Addr} (hp : p.block < a.heap.size) : b.cell? p = a.cell? p := Below.cell h hp
theorem Gr.keeps {a b : World} (h : Gr a b) {p : Addr} {v : Value} (hv : a.cell? p = some v) : b.cell? p = some v := by
  have hp : p.block < a.heap.size := by
    apply Classical.byContradiction; intro hn
    have : a.heap[p.block]? = none := by simp; omega
    simp [World.cell?, this] at hv
  rw [h.cell hp]; exact hv
theorem Gr.drewN {a b : World} (h : Gr a b) (n : Nat) : Gr a (b.drewN n) := below_drewN h n
theorem cell_new (w : World) (v : Value) (t : TypeId) : (w.alloc (.cells #[v] t)).cell? ⟨w.heap.size, 0, none⟩ = some v := by
  simp [go_sem]

theorem ret_int {k : IntKind} {a b : Int} (h : a = b) : Ending.returned (.int k a) = .returned (.int k b) := by rw [h]
theorem ret_bool {a b : Bool} (h : a = b) : Ending.returned (.bool a) = .returned (.bool b) := by rw [h]

theorem emod_lo (x n : Int) (h : 1 ≤ n) : 0 ≤ x % n := Int.emod_nonneg _ (by omega)
theorem emod_hi (x n : Int) (h : 1 ≤ n) : x % n < n := Int.emod_lt_of_pos _ (by omega)
theorem mul_lo {a b : Int} (ha : 0 ≤ a) (hb : 0 ≤ b) : 0 ≤ a * b := Int.mul_nonneg ha hb
theorem mul_hi {a b : Int} (ha : 0 ≤ a) (hb : 0 ≤ b) (ha' : a ≤ 4294967295) (hb' : b ≤ 4294967295) : a * b ≤ 18446744065119617025 := by
  have h1 : a * b ≤ 4294967295 * b := Int.mul_le_mul_of_nonneg_right ha' hb
  omega
theorem tmod_emod (v n : Int) : v % n = v.tmod n % n := by
  have h : v = v.tmod n + n * v.tdiv n := (Int.tmod_add_mul_tdiv v n).symm
  conv => lhs; rw [h]
  exact Int.add_mul_emod_self_left _ _ _
theorem emod_neg_case (v n : Int) (h : v.tmod n < 0) (h2 : - n < v.tmod n) : v % n = v.tmod n + n := by
  rw [tmod_emod, ← Int.add_emod_right]
  exact Int.emod_eq_of_lt (by omega) (by omega)
theorem emod_pos_case (v n : Int) (h : ¬ v.tmod n < 0) (h2 : v.tmod n < n) : v % n = v.tmod n := by
  rw [tmod_emod]
  exact Int.emod_eq_of_lt (by omega) (by omega)
end Go.Proofs.Ytfmmkdmnondomaa
/- What the functions of package modular that calculate with residues return, each as one statement. -/
namespace Go.Proofs.Ytfmmkdmnondomaa
open Go.RowKit
set_option linter.unusedVariables false

set_option maxHeartbeats 400000 in
theorem times_any (a b n : Int) (B : Nat) (w : World) (ha : 0 ≤ a) (ha' : a ≤ 4294967295) (hb : 0 ≤ b) (hb' : b ≤ 4294967295) (hn : 1 ≤ n) (hn' : n ≤ 4294967295)
    (hB : w.cell? ⟨B, 0, none⟩ = some (.int .u32 n)) :
    Calls Try.prog 92 #[.int .u32 a, .int .u32 b, .pointer (some ⟨B, 0, none⟩)] w fun e w' => e = .returned (.int .u32 (a * b % n)) ∧ w = w' := by
  have h1 := mul_lo ha hb
  have h2 := mul_hi ha hb ha' hb'
  have h3 := emod_lo (a * b) n hn
  have h4 : a * b % n ≤ 4294967295 := by have := emod_hi (a * b) n hn; omega
  go_enter Try.func92, Try.ntmps92
  go_wp2
  go_ret
  exact ⟨rfl, rfl⟩

theorem modulus_ok (n : Int) (w : World) (h : 2 ≤ n) (h' : n ≤ 2147483647) :
    Calls Try.prog 79 #[.int .u32 n] w fun e w' => e = .returned (.bool true) ∧ w = w' := by
  go_enter Try.func79, Try.ntmps79
  go_wp2
  go_ret
  exact ⟨rfl, rfl⟩

theorem modulus_bad (n : Int) (w : World) (h : n < 2 ∨ 2147483647 < n) :
    Calls Try.prog 79 #[.int .u32 n] w fun e w' => e = .returned (.bool false) ∧ w = w' := by
  rcases h with h | h
  · go_enter Try.func79, Try.ntmps79
    go_wp2
    go_ret
    exact ⟨rfl, rfl⟩
  · have h2 : ¬ n < 2 := by omega
    go_enter Try.func79, Try.ntmps79
    go_wp2
    go_ret
    exact ⟨ret_bool (by simp; omega), rfl⟩

theorem residues_ok (n : Int) (zs : List Int) (B : Nat) (w : World) (h : 2 ≤ n) (h' : n ≤ 2147483647) (hz : ∀ k, k < zs.length → zs[k]?.getD 0 < n) (hl : zs.length ≤ 2)
    (hc : ∀ k, k < zs.length → w.cell? ⟨B, k, none⟩ = some (.int .u32 (zs[k]?.getD 0))) :
    Calls Try.prog 62 #[.int .u32 n, .slice (some ⟨B, 0, none⟩) zs.length zs.length] w fun e w' => e = .returned (.bool true) ∧ w = w' := by
  have HZ := Lib.hid hz
  have HC := Lib.hid hc
  clear hz hc
  obtain ⟨len, hlen⟩ : ∃ len, len = zs.length := ⟨_, rfl⟩
  rw [← hlen] at hl ⊢
  have HL := Lib.hid hlen
  clear hlen
  go_enter Try.func62, Try.ntmps62
  go_wp2
  go_loop [9] (fun i => ∃ k : Nat, k ≤ len ∧ i = .int .i64 k) (fun i => len - (intOf i).toNat)
  case atStart => exact ⟨0, by omega, rfl⟩
  case round =>
    obtain ⟨k, hk, rfl⟩ := hrel
    by_cases hlt : k < len
    · have c1 := HC.out k (by rw [← HL.out]; omega)
      have c2 := HZ.out k (by rw [← HL.out]; omega)
      go_wp2
      go_round
      case rel => exact ⟨k + 1, by omega, by go_num⟩
      case measure => simp [intOf]; omega
    · go_wp2_with (go_at_call 79; refine (modulus_ok _ _ h h').mono ?_; rintro e w' ⟨rfl, rfl⟩)
      go_ret
      exact ⟨rfl, rfl⟩

theorem sum_any (a b n : Int) (w : World) (ha : 0 ≤ a) (hb : 0 ≤ b) (hn : 1 ≤ n) (hn' : n ≤ 2147483647) (ha' : a ≤ n) (hb' : b ≤ n) :
    Calls Try.prog 89 #[.int .u32 a, .int .u32 b, .int .u32 n] w fun e w' => e = .returned (.int .u32 ((a + b) % n)) ∧ w = w' := by
  have h3 := emod_lo (a + b) n hn
  have h4 : (a + b) % n ≤ 4294967295 := by have := emod_hi (a + b) n hn; omega
  go_enter Try.func89, Try.ntmps89
  go_wp2
  go_ret
  exact ⟨rfl, rfl⟩

theorem reduce_any (v n : Int) (w : World) (hv : -9223372036854775808 ≤ v) (hv' : v ≤ 9223372036854775807) (hn : 1 ≤ n) (hn' : n ≤ 2147483647) :
    Calls Try.prog 64 #[.int .i64 v, .int .u32 n] w fun e w' => e = .returned (.int .u32 (v % n)) ∧ w = w' := by
  have h1 : v.tmod n < n := Int.tmod_lt_of_pos _ (by omega)
  have h2 : - n < v.tmod n := by have := Int.lt_tmod_of_pos v (b := n) (by omega); omega
  have h3 := emod_lo v n hn
  have h4 := emod_hi v n hn
  by_cases h0 : v.tmod n < 0
  · have e : v % n = v.tmod n + n := emod_neg_case v n h0 h2
    have HE := Lib.hid e
    clear e h3 h4
    go_enter Try.func64, Try.ntmps64
    go_wp2
    go_ret
    exact ⟨ret_int HE.out.symm, rfl⟩
  · have e : v % n = v.tmod n := emod_pos_case v n h0 h1
    have HE := Lib.hid e
    clear e h3 h4
    go_enter Try.func64, Try.ntmps64
    go_wp2
    go_ret
    exact ⟨ret_int HE.out.symm, rfl⟩

theorem products_any (n : Int) (w : World) :
    Calls Try.prog 84 #[.int .u32 n] w fun e w' => e = .returned (.func (.func 92) #[] #[.pointer (some ⟨w.heap.size, 0, none⟩)]) ∧ w.alloc (.cells #[.int .u32 n] 22) = w' := by
  go_enter Try.func84, Try.ntmps84
  go_wp2
  go_ret
  exact ⟨rfl, rfl⟩

/-- One step of the powers: the invariant of the loop. -/
def PowInv (a0 : Int) (e0 : Nat) (n r a : Int) (e : Nat) : Prop := r * a ^ e % n = a0 ^ e0 % n

theorem int_pow_emod (a n : Int) (k : Nat) : a ^ k % n = (a % n) ^ k % n := by
  induction k with
  | zero => simp
  | succ k ih => rw [Int.pow_succ, Int.pow_succ, Int.mul_emod, ih, ← Int.emod_emod a n, ← Int.mul_emod, Int.emod_emod]

theorem pow_sq (a : Int) (e : Nat) (h : e % 2 = 0) : (a * a) ^ (e / 2) = a ^ e := by
  have : e = 2 * (e / 2) := by omega
  conv => rhs; rw [this, Int.pow_mul]
  congr 1
  rw [Int.pow_succ, Int.pow_succ, Int.pow_zero, Int.one_mul]

theorem pow_sq' (a : Int) (e : Nat) (h : e % 2 = 1) : a * (a * a) ^ (e / 2) = a ^ e := by
  have h1 : e = (e / 2 * 2) + 1 := by omega
  conv => rhs; rw [h1, Int.pow_succ]
  rw [← pow_sq a (e / 2 * 2) (by omega), Int.mul_comm]
  congr 2
  omega

theorem mul_pow_emod (x a n : Int) (k : Nat) : x * (a % n) ^ k % n = x * a ^ k % n := by
  rw [Int.mul_emod, ← int_pow_emod, ← Int.mul_emod]

theorem emod_mul_emod (x y n : Int) : x % n * y % n = x * y % n := by
  rw [Int.mul_emod, Int.emod_emod, ← Int.mul_emod]

theorem pow_odd {a0 : Int} {e0 : Nat} {n r a : Int} {e : Nat} (h : PowInv a0 e0 n r a e) (ho : e % 2 = 1) : PowInv a0 e0 n (r * a % n) (a * a % n) (e / 2) := by
  unfold PowInv at h ⊢
  rw [← h, mul_pow_emod, emod_mul_emod, Int.mul_assoc, pow_sq' a e ho]

theorem pow_even {a0 : Int} {e0 : Nat} {n r a : Int} {e : Nat} (h : PowInv a0 e0 n r a e) (ho : e % 2 = 0) : PowInv a0 e0 n r (a * a % n) (e / 2) := by
  unfold PowInv at h ⊢
  rw [← h, mul_pow_emod, pow_sq a e ho]

theorem pow_end {a0 : Int} {e0 : Nat} {n r a : Int} (h : PowInv a0 e0 n r a 0) (h0 : 0 ≤ r) (h1 : r < n) : r = a0 ^ e0 % n := by
  unfold PowInv at h
  rw [← h, Int.pow_zero, Int.mul_one, Int.emod_eq_of_lt h0 h1]

set_option maxHeartbeats 400000 in
theorem power_any (a0 k0 n : Int) (B : Nat) (w : World) (ha : 0 ≤ a0) (ha' : a0 ≤ 4294967295) (hk : 0 ≤ k0) (hk' : k0 ≤ 18446744073709551615) (hn : 2 ≤ n) (hn' : n ≤ 4294967295)
    (hB : w.cell? ⟨B, 0, none⟩ = some (.int .u32 n)) :
    Calls Try.prog 86 #[.int .u32 a0, .int .u64 k0, .func (.func 92) #[] #[.pointer (some ⟨B, 0, none⟩)]] w fun e w' => e = .returned (.int .u32 (a0 ^ k0.toNat % n)) ∧ w = w' := by
  have HB := Lib.hid hB
  clear hB
  go_enter Try.func86, Try.ntmps86
  go_wp2_with fail
  go_loop [0, 1, 7] (fun x y z => ∃ a r : Int, ∃ e : Nat, x = .int .u32 a ∧ y = .int .u64 e ∧ z = .int .u32 r ∧ 0 ≤ a ∧ a ≤ 4294967295 ∧ (e : Int) ≤ 18446744073709551615 ∧ 0 ≤ r ∧ r < n ∧ PowInv a0 k0.toNat n r a e) (fun _ y _ => (intOf y).toNat)
  case atStart => exact ⟨a0, 1, k0.toNat, rfl, by rw [Int.toNat_of_nonneg hk], rfl, ha, ha', by omega, by omega, by omega, by simp [PowInv]⟩
  case round =>
    obtain ⟨a, r, e, rfl, rfl, rfl, h1, h2, h3, h4, h5, hinv⟩ := hrel
    by_cases he : 0 < e
    · by_cases ho : e % 2 = 1
      · have hand : (bits .and .u64 (e : Int) 1) = 1 := by rw [and_one_u64 _ (by omega) h3]; omega
        go_wp2_with (go_at_call 92; refine (times_any _ _ n B _ (by omega) (by omega) (by omega) (by omega) (by omega) (by omega) HB.out).mono ?_; rintro e w' ⟨rfl, rfl⟩)
        refine ⟨⟨_, _, e / 2, rfl, rfl, rfl, emod_lo _ _ (by omega), ?_, by omega, emod_lo _ _ (by omega), emod_hi _ _ (by omega), pow_odd hinv ho⟩, by simp [intOf]; omega⟩
        have := emod_hi (a * a) n (by omega); omega
      · have hand : (bits .and .u64 (e : Int) 1) = 0 := by rw [and_one_u64 _ (by omega) h3]; omega
        go_wp2_with (go_at_call 92; refine (times_any _ _ n B _ (by omega) (by omega) (by omega) (by omega) (by omega) (by omega) HB.out).mono ?_; rintro e w' ⟨rfl, rfl⟩)
        refine ⟨⟨_, _, e / 2, rfl, rfl, rfl, emod_lo _ _ (by omega), ?_, by omega, h4, h5, pow_even hinv (by omega)⟩, by simp [intOf]; omega⟩
        have := emod_hi (a * a) n (by omega); omega
    · obtain rfl : e = 0 := by omega
      have HE := Lib.hid (pow_end hinv h4 h5)
      go_wp2_with fail
      go_ret
      exact ⟨ret_int HE.out, rfl⟩

/-! ### The numbers of Euclid's algorithm -/

/-- What bezout's variables hold: 'a' and 'n' are multiples of the first a, modulo the first n, and the factors stay small. -/
structure Bez (a0 n0 : Nat) (a n : Nat) (x y : Int) : Prop where
  ma : (n0 : Int) ∣ a0 * x - a
  mn : (n0 : Int) ∣ a0 * y - n
  g : Nat.gcd a n = Nat.gcd a0 n0
  x1 : -(n0 : Int) ≤ x
  x2 : x ≤ n0
  y1 : -(n0 : Int) ≤ y
  y2 : y ≤ n0
  s : (0 ≤ x ∧ y ≤ 0 ∧ x * n - y * a = n0) ∨ (x ≤ 0 ∧ 0 ≤ y ∧ y * a - x * n = n0)

theorem Bez.start (a0 n0 : Nat) (h : 1 ≤ n0) : Bez a0 n0 a0 n0 1 0 where
  ma := by simp
  mn := by simp
  g := rfl
  x1 := by omega
  x2 := by omega
  y1 := by omega
  y2 := by omega
  s := .inl ⟨by omega, by omega, by simp⟩

theorem nat_sub_div (a n : Nat) : (a : Int) - (a : Int) / (n : Int) * (n : Int) = ((a % n : Nat) : Int) := by
  rw [Int.natCast_emod, Int.emod_def, Int.mul_comm]

theorem Bez.small {n0 n : Nat} (y : Int) (hn : 1 ≤ n) (h : 0 ≤ y) (e : y * n ≤ n0) : y ≤ n0 := by
  have h1 : y * 1 ≤ y * (n : Int) := Int.mul_le_mul_of_nonneg_left (by omega) h
  omega

/-- The new factor, and the product that is taken away for it, stay small. -/
theorem Bez.step {a0 n0 a n : Nat} {x y : Int} (h : Bez a0 n0 a n x y) (hn : 1 ≤ n) :
    Bez a0 n0 n (a % n) y (x - (a : Int) / n * y) ∧ -(n0 : Int) ≤ (a : Int) / n * y ∧ (a : Int) / n * y ≤ n0 := by
  obtain ⟨ma, mn, g, x1, x2, y1, y2, s⟩ := h
  have hq : 0 ≤ (a : Int) / n := Int.ediv_nonneg (by omega) (by omega)
  have ha : (a : Int) = (a : Int) / n * n + ((a % n : Nat) : Int) := by have := nat_sub_div a n; omega
  generalize (a : Int) / n = q at *
  have hr0 : (0 : Int) ≤ ((a % n : Nat) : Int) := by omega
  generalize hr : ((a % n : Nat) : Int) = r at *
  have ring1 : x * (n : Int) - y * a = x * n - q * y * n - y * r := by
    rw [ha, Int.mul_add, ← Int.mul_assoc, Int.mul_comm y q]; omega
  have ring2 : (x - q * y) * (n : Int) = x * n - q * y * n := by rw [Int.sub_mul]
  have m2 : (n0 : Int) ∣ a0 * (x - q * y) - r := by
    have h1 : (a0 : Int) * (x - q * y) - r = (a0 * x - a) - q * (a0 * y - n) := by
      rw [ha, Int.mul_sub, Int.mul_sub]
      have : (a0 : Int) * (q * y) = q * (a0 * y) := by rw [← Int.mul_assoc, Int.mul_comm (a0 : Int) q, Int.mul_assoc]
      omega
    rw [h1]
    exact Int.dvd_sub ma (Int.dvd_mul_of_dvd_right mn)
  have gg : Nat.gcd n (a % n) = Nat.gcd a0 n0 := by
    rw [← g, Nat.gcd_comm n, ← Nat.gcd_rec, Nat.gcd_comm]
  rcases s with ⟨s1, s2, s3⟩ | ⟨s1, s2, s3⟩
  · have hqy : q * y ≤ 0 := Int.mul_nonpos_of_nonneg_of_nonpos hq s2
    have hyr : y * r ≤ 0 := Int.mul_nonpos_of_nonpos_of_nonneg s2 hr0
    have e1 : (x - q * y) * (n : Int) - y * r = n0 := by omega
    have b1 : x - q * y ≤ n0 := Bez.small _ hn (by omega) (by omega)
    exact ⟨⟨mn, by rw [hr]; exact m2, gg, y1, y2, by omega, b1, .inr ⟨s2, by omega, by rw [hr]; omega⟩⟩, by omega, by omega⟩
  · have hqy : 0 ≤ q * y := Int.mul_nonneg hq s2
    have hyr : 0 ≤ y * r := Int.mul_nonneg s2 hr0
    have e1 : -(x - q * y) * (n : Int) + y * r = n0 := by rw [Int.neg_mul]; omega
    have b1 : -(x - q * y) ≤ n0 := Bez.small _ hn (by omega) (by omega)
    refine ⟨⟨mn, by rw [hr]; exact m2, gg, y1, y2, by omega, by omega, .inl ⟨s2, by omega, ?_⟩⟩, by omega, by omega⟩
    rw [hr]; rw [Int.neg_mul] at e1; omega

/-- What bezout returns: the greatest common divisor, and a factor. -/
def BezPost (a0 n0 : Nat) (w : World) (e : Ending) (w' : World) : Prop :=
  ∃ x : Int, e = .returned (.tuple #[.int .i64 (Nat.gcd a0 n0 : Nat), .int .i64 x]) ∧ (n0 : Int) ∣ a0 * x - (Nat.gcd a0 n0 : Nat) ∧ -(n0 : Int) ≤ x ∧ x ≤ n0 ∧ w = w'

set_option maxHeartbeats 400000 in
theorem bezout_any (a0 n0 : Nat) (w : World) (ha : a0 ≤ 4294967295) (hn : 1 ≤ n0) (hn' : n0 ≤ 4294967295) :
    Calls Try.prog 63 #[.int .i64 a0, .int .i64 n0] w (BezPost a0 n0 w) := by
  go_enter Try.func63, Try.ntmps63
  go_wp2
  go_loop [0, 1, 5, 6] (fun a n x y => ∃ α ν : Nat, ∃ ξ η : Int, a = .int .i64 α ∧ n = .int .i64 ν ∧ x = .int .i64 ξ ∧ y = .int .i64 η ∧ α ≤ 4294967295 ∧ ν ≤ 4294967295 ∧ Bez a0 n0 α ν ξ η) (fun _ n _ _ => (intOf n).toNat)
  case atStart => exact ⟨a0, n0, 1, 0, rfl, rfl, rfl, rfl, ha, hn', Bez.start a0 n0 hn⟩
  case round =>
    obtain ⟨a, n, x, y, rfl, rfl, rfl, rfl, h1, h2, hb⟩ := hrel
    have hx1 := hb.x1
    have hx2 := hb.x2
    have hy1 := hb.y1
    have hy2 := hb.y2
    by_cases h0 : 1 ≤ n
    · have hne : ((n : Int) != 0) = true := by simp; omega
      obtain ⟨hb2, hp1, hp2⟩ := hb.step h0
      have hz1 := hb2.y1
      have hz2 := hb2.y2
      have hq0 : 0 ≤ (a : Int) / n := Int.ediv_nonneg (by omega) (by omega)
      have hq1 : (a : Int) / n ≤ a := Int.ediv_le_self _ (by omega)
      have hr := nat_sub_div a n
      have hlt : a % n < n := Nat.mod_lt _ (by omega)
      have hm1 : 0 ≤ (a : Int) / n * n := Int.mul_nonneg hq0 (by omega)
      have hm2 : (a : Int) / n * n ≤ a := by omega
      have HR := Lib.hid hr
      clear hr
      have HB := Lib.hid hb2
      clear hb2 hb
      go_wp2
      refine ⟨⟨n, a % n, y, _, rfl, congrArg _ HR.out, rfl, rfl, h2, by omega, HB.out⟩, ?_⟩
      simp only [intOf]
      rw [HR.out]; omega
    · obtain rfl : n = 0 := by omega
      go_wp2
      go_ret2
      have hg := hb.g
      rw [Nat.gcd_zero_right] at hg
      refine ⟨x, ?_, ?_, hx1, hx2, rfl⟩
      · rw [← hg]; rfl
      · rw [← hg]; exact hb.ma

end Go.Proofs.Ytfmmkdmnondomaa
/- What the exported functions of package modular for residues return: the sum, difference, product, power, inverse, residue and balanced value for valid arguments, and the error ErrArg for others. -/
namespace Go.Proofs.Ytfmmkdmnondomaa
open Go.RowKit
set_option linter.unusedVariables false

/-- Two results: a residue and an error number. -/
def Two (x err : Int) (w : World) (e : Ending) (w' : World) : Prop := e = .returned (.tuple #[.int .u32 x, .int .i64 err]) ∧ Gr w w'

theorem cells_two (w : World) (a b : Value) (t : TypeId) (k : Nat) (hk : k < 2) : (w.alloc (.cells #[a, b] t)).cell? ⟨w.heap.size, k, none⟩ = some ([a, b].getD k undef) := by
  rcases k with _ | _ | k
  · simp [go_sem]
  · simp [go_sem]
  · omega

theorem residues_ok2 (a b n : Int) (w : World) (h : 2 ≤ n) (h' : n ≤ 2147483647) (ha : a < n) (hb : b < n) :
    Calls Try.prog 62 #[.int .u32 n, .slice (some ⟨w.heap.size, 0, none⟩) 2 2] (w.alloc (.cells #[.int .u32 a, .int .u32 b] 22)) fun e w' => e = .returned (.bool true) ∧ w.alloc (.cells #[.int .u32 a, .int .u32 b] 22) = w' := by
  refine residues_ok n [a, b] w.heap.size _ h h' ?_ (by simp) ?_
  · intro k hk; rcases k with _ | _ | k
    · simpa using ha
    · simpa using hb
    · simp at hk; omega
  · intro k hk
    rw [cells_two _ _ _ _ _ (by simpa using hk)]
    rcases k with _ | _ | k
    · rfl
    · rfl
    · simp at hk; omega

theorem residues_ok1 (a n : Int) (w : World) (h : 2 ≤ n) (h' : n ≤ 2147483647) (ha : a < n) :
    Calls Try.prog 62 #[.int .u32 n, .slice (some ⟨w.heap.size, 0, none⟩) 1 1] (w.alloc (.cells #[.int .u32 a] 22)) fun e w' => e = .returned (.bool true) ∧ w.alloc (.cells #[.int .u32 a] 22) = w' := by
  refine residues_ok n [a] w.heap.size _ h h' ?_ (by simp) ?_
  · intro k hk; rcases k with _ | k
    · simpa using ha
    · simp at hk
  · intro k hk
    rcases k with _ | k
    · exact cell_new _ _ _
    · simp at hk

theorem sub_ok (a b n : Int) (w : World) (h : 2 ≤ n) (h' : n ≤ 2147483647) (ha0 : 0 ≤ a) (hb0 : 0 ≤ b) (ha : a < n) (hb : b < n) :
    Calls Try.prog 78 #[.int .u32 a, .int .u32 b, .int .u32 n] w (Two ((a + (n - b)) % n) 0 w) := by
  go_enter Try.func78, Try.ntmps78
  go_wp2_with fail
  refine (residues_ok2 a b n _ h h' ha hb).mono ?_
  rintro e w' ⟨rfl, rfl⟩
  go_wp2_with fail
  refine (sum_any a (n - b) n _ ha0 (by omega) (by omega) h' (by omega) (by omega)).mono ?_
  rintro e w' ⟨rfl, rfl⟩
  go_wp2_with fail
  go_ret2
  exact ⟨rfl, Gr.new _ _⟩

theorem mul_ok (a b n : Int) (w : World) (h : 2 ≤ n) (h' : n ≤ 2147483647) (ha0 : 0 ≤ a) (hb0 : 0 ≤ b) (ha : a < n) (hb : b < n) :
    Calls Try.prog 77 #[.int .u32 a, .int .u32 b, .int .u32 n] w (Two (a * b % n) 0 w) := by
  go_enter Try.func77, Try.ntmps77
  go_wp2_with fail
  refine (residues_ok2 a b n _ h h' ha hb).mono ?_
  rintro e w' ⟨rfl, rfl⟩
  go_wp2_with fail
  refine (products_any n _).mono ?_
  rintro e w' ⟨rfl, rfl⟩
  go_wp2_with fail
  refine (times_any a b n (w.heap.size + 1) _ ha0 (by omega) hb0 (by omega) (by omega) (by omega) (by have := cell_new (w.alloc (.cells #[.int .u32 a, .int .u32 b] 22)) (.int .u32 n) 22; rwa [World.size_alloc] at this)).mono ?_
  rintro e w' ⟨rfl, rfl⟩
  go_wp2_with fail
  go_ret2
  exact ⟨rfl, (Gr.new _ _).alloc _⟩

end Go.Proofs.Ytfmmkdmnondomaa
/- What Pow, Inverse, Of and Balanced of package modular return. -/
namespace Go.Proofs.Ytfmmkdmnondomaa
open Go.RowKit
set_option linter.unusedVariables false
theorem of_ok (v n : Int) (w : World) (h : 2 ≤ n) (h' : n ≤ 2147483647) (hv : -9223372036854775808 ≤ v) (hv' : v ≤ 9223372036854775807) :
    Calls Try.prog 70 #[.int .i64 v, .int .u32 n] w (Two (v % n) 0 w) := by
  go_enter Try.func70, Try.ntmps70
  go_wp2_with fail
  refine (modulus_ok n _ h h').mono ?_
  rintro e w' ⟨rfl, rfl⟩
  go_wp2_with fail
  refine (reduce_any v n _ hv hv' (by omega) h').mono ?_
  rintro e w' ⟨rfl, rfl⟩
  go_wp2_with fail
  go_ret2
  exact ⟨rfl, Gr.refl _⟩

/-- Two results: an integer of 64 bits and an error number. -/
def TwoI (x err : Int) (w : World) (e : Ending) (w' : World) : Prop := e = .returned (.tuple #[.int .i64 x, .int .i64 err]) ∧ Gr w w'

def bal (a n : Int) : Int := if n < 2 * a then a - n else a
theorem bal_hi {a n : Int} (h : n < 2 * a) : bal a n = a - n := by unfold bal; rw [if_pos h]
theorem bal_lo {a n : Int} (h : ¬ n < 2 * a) : bal a n = a := by unfold bal; rw [if_neg h]

theorem balanced_ok (a n : Int) (w : World) (h : 2 ≤ n) (h' : n ≤ 2147483647) (ha0 : 0 ≤ a) (ha : a < n) :
    Calls Try.prog 71 #[.int .u32 a, .int .u32 n] w (TwoI (bal a n) 0 w) := by
  by_cases hc : n < 2 * a
  · have HB := Lib.hid (bal_hi hc)
    go_enter Try.func71, Try.ntmps71
    go_wp2_with fail
    refine (residues_ok1 a n _ h h' ha).mono ?_
    rintro e w' ⟨rfl, rfl⟩
    go_wp2_with fail
    go_ret2
    exact ⟨by rw [HB.out]; rfl, Gr.new _ _⟩
  · have HB := Lib.hid (bal_lo hc)
    go_enter Try.func71, Try.ntmps71
    go_wp2_with fail
    refine (residues_ok1 a n _ h h' ha).mono ?_
    rintro e w' ⟨rfl, rfl⟩
    go_wp2_with fail
    go_ret2
    exact ⟨by rw [HB.out]; rfl, Gr.new _ _⟩

/-- A factor whose product with a is 1 modulo n. -/
def IsInv (a n b : Int) : Prop := 0 ≤ b ∧ b < n ∧ a * b % n = 1

theorem IsInv.of_bezout {a0 n0 : Nat} {x : Int} (hn : 2 ≤ n0) (hg : Nat.gcd a0 n0 = 1) (h : (n0 : Int) ∣ a0 * x - (Nat.gcd a0 n0 : Nat)) : IsInv a0 n0 (x % n0) := by
  refine ⟨Int.emod_nonneg _ (by omega), Int.emod_lt_of_pos _ (by omega), ?_⟩
  rw [hg] at h
  rw [Int.mul_emod, Int.emod_emod, ← Int.mul_emod]
  have h2 : ((a0 : Int) * x - 1) % n0 = 0 := Int.emod_eq_zero_of_dvd h
  have h3 : (a0 : Int) * x = (a0 * x - 1) + 1 := by omega
  rw [h3, Int.add_emod, h2, Int.zero_add, Int.emod_emod]
  exact Int.emod_eq_of_lt (by omega) (by omega)

theorem IsInv.unique {a n b c : Int} (hb : IsInv a n b) (hc : IsInv a n c) : b = c := by
  obtain ⟨b0, b1, b2⟩ := hb
  obtain ⟨c0, c1, c2⟩ := hc
  have e1 : b * (a * c % n) % n = b := by
    rw [c2, Int.mul_one, Int.emod_eq_of_lt b0 b1]
  have e2 : c * (a * b % n) % n = c := by
    rw [b2, Int.mul_one, Int.emod_eq_of_lt c0 c1]
  have e3 : b * (a * c % n) % n = b * (a * c) % n := by rw [Int.mul_emod, Int.emod_emod, ← Int.mul_emod]
  have e4 : c * (a * b % n) % n = c * (a * b) % n := by rw [Int.mul_emod, Int.emod_emod, ← Int.mul_emod]
  have e5 : b * (a * c) = c * (a * b) := by rw [← Int.mul_assoc, Int.mul_comm b a, Int.mul_comm (a * b) c]
  exact e1.symm.trans (e3.trans ((by rw [e5] : b * (a * c) % n = c * (a * b) % n).trans (e4.symm.trans e2)))

/-- The inverse is returned. -/
def InvPost (a n : Int) (w : World) (e : Ending) (w' : World) : Prop := ∃ b, Two b 0 w e w' ∧ IsInv a n b

theorem inverse_ok (a n : Nat) (w : World) (h : 2 ≤ n) (h' : n ≤ 2147483647) (ha : a < n) (hg : Nat.gcd a n = 1) :
    Calls Try.prog 49 #[.int .u32 a, .int .u32 n] w (InvPost a n w) := by
  have HG := Lib.hid hg
  clear hg
  go_enter Try.func49, Try.ntmps49
  go_wp2_with fail
  refine (residues_ok1 a n _ (by omega) (by omega) (by omega)).mono ?_
  rintro e w' ⟨rfl, rfl⟩
  go_wp2_with fail
  refine (bezout_any a n _ (by omega) (by omega) (by omega)).mono ?_
  rintro e w' ⟨x, rfl, hd, hx1, hx2, rfl⟩
  have HI := Lib.hid (IsInv.of_bezout h HG.out hd)
  clear hd
  rw [HG.out]
  go_wp2_with fail
  refine (reduce_any x n _ (by omega) (by omega) (by omega) (by omega)).mono ?_
  rintro e w' ⟨rfl, rfl⟩
  go_wp2_with fail
  go_ret2
  exact ⟨_, ⟨rfl, Gr.new _ _⟩, HI.out⟩

theorem inverse_none (a n : Nat) (w : World) (h : 2 ≤ n) (h' : n ≤ 2147483647) (ha : a < n) (hg : Nat.gcd a n ≠ 1) :
    Calls Try.prog 49 #[.int .u32 a, .int .u32 n] w (Two 0 4 w) := by
  have HG := Lib.hid hg
  clear hg
  go_enter Try.func49, Try.ntmps49
  go_wp2_with fail
  refine (residues_ok1 a n _ (by omega) (by omega) (by omega)).mono ?_
  rintro e w' ⟨rfl, rfl⟩
  go_wp2_with fail
  refine (bezout_any a n _ (by omega) (by omega) (by omega)).mono ?_
  rintro e w' ⟨x, rfl, hd, hx1, hx2, rfl⟩
  clear hd
  generalize hgg : Nat.gcd a n = g at *
  have HH := Lib.hid hgg
  clear hgg
  have ht : ((g : Int) != 1) = true := by have := HG.out; simp; omega
  go_wp2_with fail
  go_ret2
  exact ⟨rfl, Gr.new _ _⟩

end Go.Proofs.Ytfmmkdmnondomaa
