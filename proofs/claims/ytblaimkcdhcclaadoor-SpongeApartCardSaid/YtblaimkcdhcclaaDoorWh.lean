/- The sponge, as a function of lists of bytes. No Go. -/
import Derived.Test.YtblaimkcdhcclaaDoorWa
namespace Oz
set_option linter.unusedVariables false
def pad (l : List UInt8) : List UInt8 := l ++ 128 :: List.replicate (7 - l.length % 8) 0
theorem pad_len (l : List UInt8) : (pad l).length = 8 * (l.length / 8 + 1) := by
  simp [pad]
  omega
/-- The word of k bytes from place i on. -/
def wk (P : List UInt8) (i : Nat) : Nat → BitVec 64
  | 0 => 0
  | k + 1 => wk P i k <<< 8 ||| BitVec.ofNat 64 (P.getD (i + k) 0).toNat
/-- A word is taken in. -/
def eat (x : St) (w : BitVec 64) : St := perm ⟨x.a ^^^ w, x.b, x.c, x.d, x.e⟩ 12
/-- The state behind j words. -/
def ab (x : St) (P : List UInt8) : Nat → St
  | 0 => x
  | j + 1 => eat (ab x P j) (wk P (8 * j) 8)
def ini (k : Nat) : St := perm ⟨BitVec.ofNat 64 (8026104356937031936 + k), 0, 0, 0, 0⟩ 12
def it (x : St) : Nat → St
  | 0 => x
  | m + 1 => perm (it x m) 12
def obyte (x : BitVec 64) (k : Nat) : UInt8 := UInt8.ofNat (x >>> (8 * k)).toNat
def blk (x : BitVec 64) : List UInt8 := [obyte x 7, obyte x 6, obyte x 5, obyte x 4, obyte x 3, obyte x 2, obyte x 1, obyte x 0]
theorem blk_len (x : BitVec 64) : (blk x).length = 8 := rfl
theorem blk_at (x : BitVec 64) (t : Nat) (h : t < 8) : (blk x)[t]? = some (obyte x (7 - t)) := by
  have hc : t = 0 ∨ t = 1 ∨ t = 2 ∨ t = 3 ∨ t = 4 ∨ t = 5 ∨ t = 6 ∨ t = 7 := by omega
  rcases hc with rfl | rfl | rfl | rfl | rfl | rfl | rfl | rfl <;> rfl
theorem blk_step (x : BitVec 64) (t : Nat) (h : t < 8) : (blk x).take (t + 1) = (blk x).take t ++ [obyte x (7 - t)] := by
  rw [List.take_add_one, blk_at x t h]; rfl
/-- The bytes of m blocks. -/
def sq (x : St) : Nat → List UInt8
  | 0 => []
  | m + 1 => sq x m ++ blk (it x m).a
theorem sq_len (x : St) : ∀ m, (sq x m).length = 8 * m
  | 0 => rfl
  | m + 1 => by rw [sq, List.length_append, sq_len x m, blk_len]; omega
theorem sq_take (x : St) (m : Nat) : ∀ d, (sq x (m + d)).take (8 * m) = sq x m
  | 0 => by rw [Nat.add_zero, ← sq_len x m, List.take_length]
  | d + 1 => by
    rw [← Nat.add_assoc, sq, List.take_append_of_le_length (by rw [sq_len]; omega), sq_take x m d]
/-- The state when all is taken in. -/
def fin (l : List UInt8) (k : Nat) : St := ab (ini k) (pad l) (l.length / 8 + 1)
/-- The first n bytes of the result. -/
def spg (l : List UInt8) (k n : Nat) : List UInt8 := (sq (fin l k) ((n + 7) / 8)).take n
theorem spg_len (l : List UInt8) (k n : Nat) : (spg l k n).length = n := by
  unfold spg
  rw [List.length_take, sq_len]
  omega
theorem spg_is (l : List UInt8) (k n m : Nat) (h : n ≤ 8 * m) : (sq (fin l k) m).take n = spg l k n := by
  unfold spg
  obtain ⟨d, hd⟩ : ∃ d, m = (n + 7) / 8 + d := ⟨m - (n + 7) / 8, by omega⟩
  rw [hd, ← sq_take (fin l k) ((n + 7) / 8) d, List.take_take, Nat.min_eq_left (by omega)]
/-- A shorter result is the beginning of a longer one. -/
theorem spg_pre (l : List UInt8) (k : Nat) {n n' : Nat} (h : n' ≤ n) : (spg l k n).take n' = spg l k n' := by
  rw [← spg_is l k n ((n + 7) / 8) (by omega), List.take_take, Nat.min_eq_left h]
  exact spg_is l k n' _ (by omega)
/-- The result, as a string. -/
def spS (s : ByteArray) (k n : Nat) : ByteArray := ⟨(spg s.data.toList k n).toArray⟩
theorem spS_size (s : ByteArray) (k n : Nat) : (spS s k n).size = n := by
  show (spg s.data.toList k n).toArray.size = n
  rw [List.size_toArray, spg_len]
theorem spS_pre (s : ByteArray) (k : Nat) {n n' : Nat} (h : n' ≤ n) : (spS s k n).extract 0 n' = spS s k n' := by
  apply ByteArray.ext
  rw [ByteArray.data_extract]
  show (spg s.data.toList k n).toArray.extract 0 n' = (spg s.data.toList k n').toArray
  rw [← spg_pre s.data.toList k h]
  simp
end Oz
