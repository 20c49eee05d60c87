/- writeNumber, List, Stream, of the program. -/
import Derived.Test.YtblaimkcdhcclaaDoorVa
namespace Oz
theorem f4_step (n t sh : Nat) (ht : t < 4) (hs : sh = 24 - 8 * t) : (f4 n).take (t + 1) = (f4 n).take t ++ [UInt8.ofNat (n / 2 ^ sh)] := by
  have hc : t = 0 ∨ t = 1 ∨ t = 2 ∨ t = 3 := by omega
  subst hs
  rcases hc with rfl | rfl | rfl | rfl
  · rfl
  · rfl
  · rfl
  · show (f4 n).take 4 = (f4 n).take 3 ++ [UInt8.ofNat (n / 1)]
    rw [Nat.div_one]
    rfl
end Oz
namespace Go.Proofs.YtblaimkcdhcclaaDoor
open Go.RowKit Oz
set_option linter.unusedVariables false
set_option linter.unusedSimpArgs false
theorem u8_shr (n sh : Nat) : IntKind.u8.wrap ((n : Int) / 2 ^ sh) = ((UInt8.ofNat (n / 2 ^ sh)).toNat : Int) := by
  rw [← u8_of]
  congr 1
set_option maxRecDepth 100000 in
set_option maxHeartbeats 4000000 in
theorem wnum_any (B b : Nat) (l : List UInt8) (n : Nat) (hn : n ≤ 1000000) (w : World) (h : IsBl B b (bcells l) w) (hl : l.length ≤ 800000) (hBw : B ≤ w.heap.size) : Calls Tryd.prog 26 #[.pointer (some ⟨b, 0, none⟩), .int .i64 (n : Nat)] w (fun e w' => e = .returned (.tuple #[]) ∧ IsBl B b (bcells (l ++ f4 n)) w' ∧ Below B w w') := by
  have HI := Lib.hid (show IsBl B b (bcells (l ++ (f4 n).take 0)) w from by rw [List.take_zero, List.append_nil]; exact h)
  have HL := Lib.hid (And.intro hl hBw)
  clear h hl hBw
  go_enter Tryd.func26, Tryd.ntmps26
  go_wp2_with fail
  go_loopw [4] (fun x wr => ∃ t : Nat, x = .int .i64 (24 - 8 * (t : Int)) ∧ t ≤ 4 ∧ IsBl B b (bcells (l ++ (f4 n).take t)) wr ∧ Below B w wr) (fun x _ => (100 + intOf x).toNat)
  case atStart => exact ⟨0, rfl, by omega, HI.out, Below.refl _ _⟩
  case round =>
    obtain ⟨t, rfl, ht, hb, hg⟩ := hrel
    have HB := Lib.hid hb
    have HG := Lib.hid hg
    clear hb hg
    have hcase : t < 4 ∨ ¬ t < 4 := Classical.em _
    rcases hcase with hc | hc
    · obtain ⟨sh, hsh⟩ : ∃ sh, sh = 24 - 8 * t := ⟨_, rfl⟩
      have hshi : (24 : Int) - 8 * (t : Int) = (sh : Int) := by omega
      have HSH := Lib.hid hshi
      have hsh0 : (0 : Int) ≤ (sh : Int) := by omega
      have hsh64 : (sh : Int) ≤ 24 := by omega
      have e1 := u8_shr n sh
      have HST := Lib.hid (f4_step n t sh hc hsh)
      obtain ⟨c, hcc⟩ : ∃ c, c = UInt8.ofNat (n / 2 ^ sh) := ⟨_, rfl⟩
      rw [← hcc] at e1 HST
      have HLN := Lib.hid (show (l ++ (f4 n).take t).length ≤ 900000 ∧ B ≤ wr.heap.size from ⟨by rw [List.length_append, List.length_take]; have := HL.out.1; omega, by have := HL.out.2; have := HG.out.size; omega⟩)
      rw [hshi]
      clear hsh hcc hshi
      go_wp2_with (go_at_call 25; refine (wbyte_any B b (l ++ (f4 n).take t) c _ HB.out HLN.out.1 HLN.out.2).mono ?_; rintro e w1 ⟨rfl, hb1, hg1⟩; (have HB1 := Lib.hid hb1); (have HG1 := Lib.hid hg1); clear hb1 hg1)
      go_roundw
      case rel => exact ⟨t + 1, by have := HSH.out; congr 1; simp; omega, by omega, by rw [HST.out, ← List.append_assoc]; exact .inr HB1.out, HG.out.trans HG1.out⟩
      case measure => simp [intOf]; omega
    · obtain rfl : t = 4 := by omega
      have hneg : ¬ (0 : Int) ≤ 24 - 8 * ((4 : Nat) : Int) := by omega
      obtain ⟨k7, hk7⟩ : ∃ k7 : Int, k7 = 24 - 8 * ((4 : Nat) : Int) := ⟨_, rfl⟩
      rw [← hk7] at hneg ⊢
      clear hk7
      go_wp2_with fail
      go_end0
      exact ⟨rfl, HB.out, HG.out⟩
theorem pStream_any (s : ByteArray) (n : Int) (hs : s.size ≤ 200000) (hn : ¬ (20000 < n ∧ n ≤ 1048576)) (w : World) (htab : Tab w) : Calls Tryd.prog 11 #[.string s, .int .i64 n] w (fun y w' => y = .returned (.tuple #[.string (strmS s n), .int .i64 (strmE n)]) ∧ Gr w w') := by
  unfold strmS strmE
  have hcs : (n < 0 ∨ (¬ n < 0 ∧ 1048576 < n)) ∨ (0 ≤ n ∧ n ≤ 20000) := by omega
  rcases hcs with hb | hb
  · rw [if_neg (by omega), if_neg (by omega)]
    rcases hb with h1 | ⟨h1, h2⟩
    all_goals
      go_enter Tryd.func11, Tryd.ntmps11
      go_wp2_with fail
      exact bodyPost_ret (v := .tuple #[.string ⟨#[]⟩, .int .i64 2]) (by simp [results, Tryd.results11, go_sem]) rfl ⟨rfl, Gr.refl _⟩
  · rw [if_pos (by omega), if_pos (by omega)]
    obtain ⟨m, rfl⟩ := Int.eq_ofNat_of_zero_le hb.1
    have h1 : ¬ (m : Int) < 0 := by omega
    have h2 : ¬ 1048576 < (m : Int) := by omega
    have HC := Lib.hid (result_any s 1 m (by omega) (by omega) hs w htab)
    rw [Int.toNat_natCast]
    clear hb hn hs htab
    go_enter Tryd.func11, Tryd.ntmps11
    go_wp2_with (go_at_call 23; refine HC.out.mono ?_; rintro y w1 ⟨rfl, hg1⟩)
    exact bodyPost_ret (v := .tuple #[.string (spS s 1 m), .int .i64 0]) (by simp [results, Tryd.results11, go_sem]) rfl ⟨rfl, hg1⟩
set_option maxRecDepth 100000 in
set_option maxHeartbeats 4000000 in
theorem pList_any (d n : Nat) (v : Value) (S : Nat → ByteArray) (w : World) (hd : d < 256) (hS : HasStr w v n S) (hsz : wsum S n ≤ 40000) (htab : Tab w) : Calls Tryd.prog 17 #[.int .u8 (d : Nat), v] w (fun y w' => y = .returned (.string (spS (lstB d n S) 0 32)) ∧ Gr w w') := by
  obtain ⟨a, cap, rfl, hn, hcap, hcells⟩ := hS
  have hnb := wsum_le S n
  have HT := Lib.hid htab
  have HSZ := Lib.hid (And.intro hsz hnb)
  have HC := Lib.hid hcells
  have hdc : (d : Int) = ((UInt8.ofNat d).toNat : Int) := by rw [UInt8.toNat_ofNat']; omega
  obtain ⟨dc, hdc2⟩ : ∃ dc, dc = UInt8.ofNat d := ⟨_, rfl⟩
  rw [← hdc2] at hdc
  rw [hdc]
  have HD := Lib.hid (And.intro hdc hdc2)
  obtain ⟨b, hb⟩ : ∃ b, b = w.heap.size := ⟨_, rfl⟩
  have HF := Lib.hid (show IsBl b b (bcells []) (w.alloc (.cells #[.pointer none, .slice none 0 0] 48)) from by rw [hb]; exact Lib.fresh_isBuilder _ _ w)
  have HG := Lib.hid (show Gr w (w.alloc (.cells #[.pointer none, .slice none 0 0] 48)) from Gr.new _ _)
  have HZ := Lib.hid (show w.heap.size = b ∧ b ≤ (w.alloc (.cells #[.pointer none, .slice none 0 0] 48)).heap.size from ⟨hb.symm, by simp; omega⟩)
  have HN := Lib.hid (And.intro hn hcap)
  clear hsz hnb hcells hd hdc hdc2 htab hcap hn
  go_enter Tryd.func17, Tryd.ntmps17
  go_wp2_with fail
  rw [← hb]
  clear hb
  refine (wbyte_any b b [] dc _ HF.out (by simp) HZ.out.2).mono ?_
  rintro e w1 ⟨rfl, hb1, hg1⟩
  have HB1 := Lib.hid (show IsBl b b (bcells [dc]) w1 from .inr hb1)
  have HG1 := Lib.hid (show Gr w w1 from Below.trans HG.out (by rw [HZ.out.1]; exact hg1))
  have HZ1 := Lib.hid (show b ≤ w1.heap.size from by have := HG1.out.size; have := HZ.out.1; omega)
  clear hb1 hg1
  go_wp2_with (go_at_call 26; refine (wnum_any b b [dc] n (by have := HSZ.out; omega) _ HB1.out (by simp) HZ1.out).mono ?_; rintro e w2 ⟨rfl, hb2, hg2⟩; (have HB2 := Lib.hid (show IsBl b b (bcells (lpre d n S 0)) w2 from by have := hb2; rw [HD.out.2] at this; exact this)); (have HG2 := Lib.hid (show Gr w w2 from Below.trans HG1.out (by rw [HZ.out.1]; exact hg2))); clear hb2 hg2)
  clear HB1 HG1 HZ1 HF HG
  have hn1 := HN.out.1
  have hn4 : (n : Int) ≤ 40000 := by have := HSZ.out; omega
  go_loopw [15] (fun x wr => ∃ i : Nat, x = .int .i64 (i : Nat) ∧ i ≤ n ∧ IsBl b b (bcells (lpre d n S i)) wr ∧ Gr w wr) (fun x _ => n - (intOf x).toNat)
  case atStart => exact ⟨0, rfl, by omega, HB2.out, HG2.out⟩
  case round =>
    obtain ⟨i, rfl, hi, hb, hg⟩ := hrel
    have HB := Lib.hid hb
    have HG := Lib.hid hg
    have HZR := Lib.hid (show b ≤ wr.heap.size from by have := hg.size; have := HZ.out.1; omega)
    clear hb hg
    have hcase : i < n ∨ ¬ i < n := Classical.em _
    rcases hcase with hc | hc
    · have hci : (i : Int) < (n : Int) := by omega
      obtain ⟨gl, ol, rfl, hcell⟩ := HC.out i hc
      have hcl : wr.cell? ⟨gl, ol + i, none⟩ = some (.string (S i)) := HG.out.keeps hcell
      have h1 := wsum_mono S (show i + 1 ≤ n by omega)
      have h2 := lpre_len d n S i
      have h3 : wsum S (i + 1) = wsum S i + (S i).size + 1 := rfl
      have HLE := Lib.hid (show (lpre d n S i).length + 4 ≤ 700000 ∧ (S i).size ≤ 40000 from by have := HSZ.out; omega)
      obtain ⟨L, hL⟩ : ∃ L, L = (S i).size := ⟨_, rfl⟩
      have HL := Lib.hid hL
      have hLi : ((S i).size : Int) = (L : Int) := by omega
      have HPN := Lib.hid (show lpre d n S (i + 1) = (lpre d n S i ++ f4 L) ++ (S i).data.toList from by rw [hL, List.append_assoc]; rfl)
      clear hcell h1 h2 h3 hL
      go_wp2_with (first
        | (go_at_call 26; refine (wnum_any b b (lpre d n S i) L (by have := HLE.out; have := HL.out; omega) _ HB.out (by have := HLE.out; omega) HZR.out).mono ?_; rintro e w3 ⟨rfl, hb3, hg3⟩; (have HB3 := Lib.hid hb3); (have HG3 := Lib.hid (show Gr w w3 from Below.trans HG.out (by rw [HZ.out.1]; exact hg3))); (have HZ3 := Lib.hid (show b ≤ w3.heap.size from by have := hg3.size; have := HZR.out; omega)); clear hb3 hg3)
        | (go_at_call 27; refine (wstr_any b b (lpre d n S i ++ f4 L) (S i) _ HB3.out (by rw [List.length_append]; have := HLE.out; simp [f4]; omega) HZ3.out).mono ?_; rintro e w4 ⟨rfl, hb4, hg4⟩; (have HB4 := Lib.hid hb4); (have HG4 := Lib.hid (show Gr w w4 from Below.trans HG3.out (by rw [HZ.out.1]; exact hg4))); clear hb4 hg4))
      go_roundw
      case rel => exact ⟨i + 1, by simp, by omega, by rw [HPN.out]; exact .inr HB4.out, HG4.out⟩
      case measure => simp [intOf]; omega
    · obtain rfl : i = n := by omega
      have hci : ¬ (i : Int) < (i : Int) := by omega
      have HLE := Lib.hid (show (lstB d i S).size ≤ 200000 from by have h1 := lpre_len d i S i; have := HSZ.out; show (lpre d i S i).toArray.size ≤ 200000; rw [List.size_toArray]; omega)
      go_wp2_with (first
        | (go_at_call 28; refine (Tryd.Builder_String_any b b (lpre d i S i) _ HB.out HZR.out).mono ?_; rintro e w5 ⟨rfl, hg5⟩; (have HG5 := Lib.hid (show Gr w w5 from Below.trans HG.out (by rw [HZ.out.1]; exact hg5))); clear hg5)
        | (go_at_call 13; refine (pDigest_any (lstB d i S) HLE.out _ (HT.out.later HG5.out)).mono ?_; rintro e w6 ⟨rfl, hg6⟩))
      go_ret
      exact ⟨rfl, Gr.trans HG5.out hg6⟩
end Go.Proofs.YtblaimkcdhcclaaDoor
