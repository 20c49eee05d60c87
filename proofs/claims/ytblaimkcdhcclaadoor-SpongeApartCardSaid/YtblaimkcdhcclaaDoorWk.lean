/- Digest, Short, Stream, four of the reference; the bytes of a list of strings. -/
import Derived.Test.YtblaimkcdhcclaaDoorWi
import Derived.Test.YtblaimkcdhcclaaDoorWj
namespace Oz
set_option linter.unusedVariables false
/-- A number in four bytes. -/
def f4 (n : Nat) : List UInt8 := [UInt8.ofNat (n / 16777216), UInt8.ofNat (n / 65536), UInt8.ofNat (n / 256), UInt8.ofNat n]
/-- The string of a list: its first i strings. -/
def lpre (d : Nat) (n : Nat) (S : Nat → ByteArray) : Nat → List UInt8
  | 0 => UInt8.ofNat d :: f4 n
  | i + 1 => lpre d n S i ++ (f4 (S i).size ++ (S i).data.toList)
theorem lpre_pos (d n : Nat) (S : Nat → ByteArray) (i : Nat) : 0 < (lpre d n S i).length := by
  cases i with
  | zero => simp [lpre]
  | succ i => rw [lpre, List.length_append, List.length_append]; simp [f4]; omega
/-- What all strings weigh, 1 more for each. -/
def wsum (S : Nat → ByteArray) : Nat → Nat
  | 0 => 0
  | i + 1 => wsum S i + (S i).size + 1
theorem wsum_le (S : Nat → ByteArray) : ∀ i, i ≤ wsum S i
  | 0 => Nat.le_refl _
  | i + 1 => by have := wsum_le S i; unfold wsum; omega
theorem wsum_mono (S : Nat → ByteArray) {i j : Nat} (h : i ≤ j) : wsum S i ≤ wsum S j := by
  induction j with
  | zero => obtain rfl : i = 0 := by omega
            exact Nat.le_refl _
  | succ j ih =>
    by_cases e : i = j + 1
    · subst e; exact Nat.le_refl _
    · have := ih (by omega)
      show wsum S i ≤ wsum S j + (S j).size + 1
      omega
theorem lpre_len (d n : Nat) (S : Nat → ByteArray) : ∀ i, (lpre d n S i).length ≤ 5 + 4 * wsum S i
  | 0 => by simp [lpre, f4]
  | i + 1 => by
    have := lpre_len d n S i
    have h2 : (S i).data.toList.length = (S i).size := by rw [Array.length_toList]; rfl
    rw [lpre, List.length_append, List.length_append, h2]
    unfold wsum
    simp [f4]
    omega
def lstB (d n : Nat) (S : Nat → ByteArray) : ByteArray := ⟨(lpre d n S n).toArray⟩
end Oz
namespace Go.Proofs.YtblaimkcdhcclaaDoor
open Go.RowKit Oz
set_option linter.unusedVariables false
set_option linter.unusedSimpArgs false
theorem rDigest_any (s : ByteArray) (hs : s.size ≤ 200000) (w : World) : Calls Tryd.prog 14 #[.string s] w (fun y w' => y = .returned (.string (spS s 0 32)) ∧ Gr w w') := by
  have HC := Lib.hid (rsponge_any s 0 32 (by omega) (by omega) hs)
  go_enter Tryd.func14, Tryd.ntmps14
  go_wp2_with (go_at_call 24; refine (HC.out _).mono ?_; rintro y w1 ⟨rfl, hg1⟩)
  go_ret
  exact ⟨rfl, hg1⟩
theorem rShort_any (s : ByteArray) (hs : s.size ≤ 200000) (w : World) : Calls Tryd.prog 16 #[.string s] w (fun y w' => y = .returned (.string (spS s 0 8)) ∧ Gr w w') := by
  have HC := Lib.hid (rsponge_any s 0 8 (by omega) (by omega) hs)
  go_enter Tryd.func16, Tryd.ntmps16
  go_wp2_with (go_at_call 24; refine (HC.out _).mono ?_; rintro y w1 ⟨rfl, hg1⟩)
  go_ret
  exact ⟨rfl, hg1⟩
/-- What Stream answers. -/
def strmS (s : ByteArray) (n : Int) : ByteArray := if 0 ≤ n ∧ n ≤ 1048576 then spS s 1 n.toNat else ⟨#[]⟩
def strmE (n : Int) : Int := if 0 ≤ n ∧ n ≤ 1048576 then 0 else 2
theorem rStream_any (s : ByteArray) (n : Int) (hs : s.size ≤ 200000) (hn : ¬ (20000 < n ∧ n ≤ 1048576)) (w : World) : Calls Tryd.prog 12 #[.string s, .int .i64 n] w (fun y w' => y = .returned (.tuple #[.string (strmS s n), .int .i64 (strmE n)]) ∧ Gr w w') := by
  unfold strmS strmE
  have hcs : (n < 0 ∨ (¬ n < 0 ∧ 1048576 < n)) ∨ (0 ≤ n ∧ n ≤ 20000) := by omega
  rcases hcs with hb | hb
  · rw [if_neg (by omega), if_neg (by omega)]
    rcases hb with h1 | ⟨h1, h2⟩
    all_goals
      go_enter Tryd.func12, Tryd.ntmps12
      go_wp2_with fail
      exact bodyPost_ret (v := .tuple #[.string ⟨#[]⟩, .int .i64 2]) (by simp [results, Tryd.results12, go_sem]) rfl ⟨rfl, Gr.refl _⟩
  · rw [if_pos (by omega), if_pos (by omega)]
    obtain ⟨m, rfl⟩ := Int.eq_ofNat_of_zero_le hb.1
    have h1 : ¬ (m : Int) < 0 := by omega
    have h2 : ¬ 1048576 < (m : Int) := by omega
    have HC := Lib.hid (rsponge_any s 1 m (by omega) (by omega) hs)
    rw [Int.toNat_natCast]
    clear hb hn hs
    go_enter Tryd.func12, Tryd.ntmps12
    go_wp2_with (go_at_call 24; refine (HC.out _).mono ?_; rintro y w1 ⟨rfl, hg1⟩)
    exact bodyPost_ret (v := .tuple #[.string (spS s 1 m), .int .i64 0]) (by simp [results, Tryd.results12, go_sem]) rfl ⟨rfl, hg1⟩
theorem u8_of (n : Nat) : IntKind.u8.wrap (n : Int) = ((UInt8.ofNat n).toNat : Int) := by
  rw [IntKind.wrap_u8, UInt8.toNat_ofNat']
  omega
theorem At.new4 (W : World) (g : Nat) (hg : g = W.heap.size) (n : Nat) (T : TypeId) : At (W.alloc (.cells #[.int .u8 ((UInt8.ofNat (n / 16777216)).toNat : Int), .int .u8 ((UInt8.ofNat (n / 65536)).toNat : Int), .int .u8 ((UInt8.ofNat (n / 256)).toNat : Int), .int .u8 ((UInt8.ofNat n).toNat : Int)] T)) ⟨g, 0, none⟩ (f4 n) := fun j y hj => by
  subst hg
  have hc : j = 0 ∨ j = 1 ∨ j = 2 ∨ j = 3 := by
    have := (List.getElem?_eq_some_iff.1 hj).1
    simp [f4] at this
    omega
  rw [add0]
  have k := World.cell?_alloc_mark W #[.int .u8 ((UInt8.ofNat (n / 16777216)).toNat : Int), .int .u8 ((UInt8.ofNat (n / 65536)).toNat : Int), .int .u8 ((UInt8.ofNat (n / 256)).toNat : Int), .int .u8 ((UInt8.ofNat n).toNat : Int)] T (0, 0) j
  refine k.trans ?_
  rcases hc with rfl | rfl | rfl | rfl <;> (obtain rfl := Option.some.inj hj; rfl)
/-- Four bytes, in a new block. -/
def FourP (n : Nat) (w : World) (y : Ending) (w' : World) : Prop := ∃ c, y = .returned (.slice (some ⟨w.heap.size, 0, none⟩) 4 c) ∧ At w' ⟨w.heap.size, 0, none⟩ (f4 n) ∧ w.heap.size < w'.heap.size ∧ Gr w w'
theorem rfour_any (n : Nat) (hn : n ≤ 1000000) (w : World) : Calls Tryd.prog 29 #[.int .i64 (n : Nat)] w (FourP n w) := by
  have e1 : IntKind.u8.wrap ((n : Int) / 16777216) = ((UInt8.ofNat (n / 16777216)).toNat : Int) := by rw [← u8_of]; congr 1
  have e2 : IntKind.u8.wrap ((n : Int) / 65536) = ((UInt8.ofNat (n / 65536)).toNat : Int) := by rw [← u8_of]; congr 1
  have e3 : IntKind.u8.wrap ((n : Int) / 256) = ((UInt8.ofNat (n / 256)).toNat : Int) := by rw [← u8_of]; congr 1
  have e4 : IntKind.u8.wrap (n : Int) = ((UInt8.ofNat n).toNat : Int) := u8_of n
  go_enter Tryd.func29, Tryd.ntmps29
  go_wp2_with fail
  go_ret
  exact ⟨4, rfl, At.new4 _ _ rfl _ _, by simp, Gr.new _ _⟩
end Go.Proofs.YtblaimkcdhcclaaDoor
