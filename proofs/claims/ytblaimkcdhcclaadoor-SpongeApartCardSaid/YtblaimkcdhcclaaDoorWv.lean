/- Words of strings, of the program: word, appendWord. -/
import Derived.Test.YtblaimkcdhcclaaDoorWu
import Derived.Test.YtblaimkcdhcclaaDoorWi
import Derived.Test.YtblaimkcdhcclaaDoorWj
namespace Oz
set_option linter.unusedVariables false
theorem wk_congr (P Q : List UInt8) (i j : Nat) : ∀ k, (∀ t, t < k → P.getD (i + t) 0 = Q.getD (j + t) 0) → wk P i k = wk Q j k
  | 0, _ => rfl
  | k + 1, h => by
    rw [wk, wk, wk_congr P Q i j k (fun t ht => h t (by omega)), h k (by omega)]
/-- The words of a string with its padding. -/
def wds (l : List UInt8) : Nat → List (BitVec 64)
  | 0 => []
  | J + 1 => wds l J ++ [wk (pad l) (8 * J) 8]
theorem wds_len (l : List UInt8) : ∀ J, (wds l J).length = J
  | 0 => rfl
  | J + 1 => by rw [wds, List.length_append, wds_len l J]; rfl
theorem wds_fold (l : List UInt8) (x : St) : ∀ J, (wds l J).foldl eat x = ab x (pad l) J
  | 0 => rfl
  | J + 1 => by rw [wds, List.foldl_append, wds_fold l x J]; rfl
theorem pad_at (l : List UInt8) (i : Nat) (h : i < l.length) : (pad l).getD i 0 = l.getD i 0 := by
  unfold pad
  rw [List.getD_eq_getElem?_getD, List.getD_eq_getElem?_getD, List.getElem?_append_left h]
theorem str_len (s : ByteArray) : s.data.toList.length = s.size := by rw [Array.length_toList]; rfl
/-- Eight bytes of the string. -/
theorem wk_mid (s : ByteArray) (i : Nat) (h : i + 8 ≤ s.size) : wk (s.extract i (i + 8)).data.toList 0 8 = wk (pad s.data.toList) i 8 := by
  apply wk_congr
  intro t ht
  rw [pad_at _ _ (by rw [str_len]; omega), ByteArray.data_extract, Array.toList_extract, List.getD_eq_getElem?_getD, List.getD_eq_getElem?_getD]
  simp
  rw [List.getElem?_take_of_lt (by omega), List.getElem?_drop, Array.getElem?_toList]
def padS : ByteArray := ⟨#[128, 0, 0, 0, 0, 0, 0, 0]⟩
theorem padS_take : ∀ r, r < 8 → (padS.extract 0 (8 - r)).data.toList = 128 :: List.replicate (7 - r) 0 := by decide
theorem drop_pad (l : List UInt8) (f : Nat) (hf : f = l.length / 8 * 8) : (pad l).drop f = l.drop f ++ 128 :: List.replicate (7 - (l.length - f)) 0 := by
  unfold pad
  rw [List.drop_append_of_le_length (by omega), show 7 - l.length % 8 = 7 - (l.length - f) from by omega]
/-- The last eight bytes. -/
theorem wk_end (s : ByteArray) (f : Nat) (hf : f = s.size / 8 * 8) : wk (s.extract f s.size ++ padS.extract 0 (8 - (s.size - f))).data.toList 0 8 = wk (pad s.data.toList) f 8 := by
  apply wk_congr
  intro t ht
  have e : (s.extract f s.size ++ padS.extract 0 (8 - (s.size - f))).data.toList = (pad s.data.toList).drop f := by
    rw [ByteArray.data_append, Array.toList_append, padS_take _ (by omega), drop_pad _ f (by rw [str_len]; exact hf), str_len, ByteArray.data_extract, Array.toList_extract]
    simp
    rw [List.take_of_length_le (by simp)]
  rw [e, List.getD_eq_getElem?_getD, List.getD_eq_getElem?_getD, List.getElem?_drop, Nat.zero_add]
end Oz
namespace Go.Proofs.YtblaimkcdhcclaaDoor
open Go.RowKit Oz
set_option linter.unusedVariables false
set_option linter.unusedSimpArgs false
theorem index_at (s : ByteArray) (j : Nat) (hj : j < s.size) (b : UInt8) (hb : s.data.toList[j]? = some b) (w : World) : (Instr.index 9 (.string s) (.int .i64 (j : Nat))).run Tryd.prog w = .ok (.int .u8 (b.toNat : Int)) w := by
  rw [run_index_string (P := Tryd.prog) w 9 s .i64 (j : Int) Tryd.underlying9]
  have : s[j] = b := by
    rw [Array.getElem?_toList, Array.getElem?_eq_getElem hj] at hb
    exact Option.some.inj hb
  simp [hj, this]
set_option maxRecDepth 100000 in
set_option maxHeartbeats 4000000 in
theorem word_any (s : ByteArray) (hs : s.size = 8) (w : World) : Calls Tryd.prog 38 #[.string s] w (fun y w' => y = .returned (.int .u64 (nv (wk s.data.toList 0 8))) ∧ w' = w) := by
  obtain ⟨P, hP⟩ : ∃ P, P = s.data.toList := ⟨_, rfl⟩
  have HP := Lib.hid hP
  have HN := Lib.hid hs
  rw [← hP]
  clear hs hP
  go_enter Tryd.func38, Tryd.ntmps38
  go_wp2_with fail
  go_loopw [3, 5] (fun v3 v5 wz => ∃ k : Nat, v3 = .int .u64 (nv (wk P 0 k)) ∧ v5 = .int .i64 (k : Nat) ∧ k ≤ 8 ∧ wz = w) (fun _ v5 _ => 8 - (intOf v5).toNat)
  case atStart => exact ⟨0, by show _ = Value.int .u64 (nv 0); rw [← zero_nv], rfl, by omega, rfl⟩
  case round =>
    obtain ⟨k, rfl, rfl, hk, hw⟩ := hrel
    subst hw
    have hcase2 : k < 8 ∨ ¬ k < 8 := Classical.em _
    rcases hcase2 with hc2 | hc2
    · have hki : (k : Int) < 8 := by omega
      have htl : k < P.length := by have := HN.out; rw [HP.out, str_len]; omega
      obtain ⟨b, hb⟩ : ∃ b, P[k]? = some b := ⟨P[k], List.getElem?_eq_getElem htl⟩
      have hix := index_at s k (by have := HN.out; omega) b (by rw [← HP.out]; exact hb)
      obtain ⟨q, hq⟩ : ∃ q, q = wk P 0 k := ⟨_, rfl⟩
      rw [← hq]
      obtain ⟨bb, hbb⟩ : ∃ bb, bb = BitVec.ofNat 64 b.toNat := ⟨_, rfl⟩
      have hbn : (b.toNat : Int) = nv bb := by rw [hbb, byte_nv]
      rw [hbn] at hix
      have HW := Lib.hid (show wk P 0 (k + 1) = q <<< 8 ||| bb from by rw [hq, hbb, wk]; simp [List.getD, hb])
      have e1 : IntKind.u64.wrap (nv q * 256) = nv (q <<< 8) := nv_shl q 8
      have e2 : ∀ x y, bits .or .u64 (nv x) (nv y) = nv (x ||| y) := nv_or
      have e3 : IntKind.u64.wrap (nv bb) = nv bb := nv_wrap bb
      clear hb htl hq hbb hbn
      go_wp2_with fail
      go_roundw
      case rel => exact ⟨k + 1, by rw [HW.out], by simp, by omega, by first | rfl | trivial⟩
      case measure => simp [intOf]; omega
    · obtain rfl : k = 8 := by omega
      have hki : ¬ ((8 : Nat) : Int) < 8 := by omega
      go_wp2_with fail
      go_ret
      exact ⟨rfl, rfl⟩
set_option maxRecDepth 100000 in
set_option maxHeartbeats 4000000 in
theorem appendWord_any (x : BitVec 64) (l : List UInt8) (hl : l.length ≤ 900000) (v : Value) (base : Nat) (w : World) (hown : OwnB w base v l) (hb : base ≤ w.heap.size) : Calls Tryd.prog 33 #[v, .int .u64 (nv x)] w (fun y w' => ∃ v', y = .returned v' ∧ OwnB w' base v' (l ++ blk x) ∧ Below base w w') := by
  have HLE := Lib.hid hl
  have HO := Lib.hid (show OwnB w base v (l ++ (blk x).take 0) from by rw [List.take_zero, List.append_nil]; exact hown)
  have HB := Lib.hid hb
  clear hl hown hb
  go_enter Tryd.func33, Tryd.ntmps33
  go_wp2_with fail
  go_loopw [0, 6] (fun v0 v6 wz => ∃ t : Nat, v6 = .int .i64 (t : Nat) ∧ t ≤ 8 ∧ OwnB wz base v0 (l ++ (blk x).take t) ∧ Below base w wz) (fun _ v6 _ => 8 - (intOf v6).toNat)
  case atStart => exact ⟨0, rfl, by omega, HO.out, Below.refl _ _⟩
  case round =>
    obtain ⟨t, rfl, ht, hown, hgr⟩ := hrel
    obtain ⟨a2, c2', rfl, hc1, hc2⟩ := hown.form
    have hlen : (l ++ (blk x).take t).length = l.length + t := by rw [List.length_append, List.length_take, blk_len]; omega
    rw [hlen] at hown hc1 ⊢
    obtain ⟨Q, hQ⟩ : ∃ Q, Q = l.length + t := ⟨_, rfl⟩
    rw [← hQ] at hown hc1 ⊢
    have HO8 := Lib.hid hown
    have HG8 := Lib.hid hgr
    have HQ := Lib.hid (And.intro hQ hlen)
    have hcase2 : t < 8 ∨ ¬ t < 8 := Classical.em _
    rcases hcase2 with hc3 | hc3
    · have hti : (t : Int) < 8 := by omega
      obtain ⟨kk, hkk⟩ : ∃ kk, kk = 7 - t := ⟨_, rfl⟩
      obtain ⟨sh, hsh⟩ : ∃ sh, sh = 8 * kk := ⟨_, rfl⟩
      have hshi : (56 : Int) - 8 * (t : Int) = (sh : Int) := by omega
      have hsh64 : (sh : Int) ≤ 64 := by omega
      have e1 : nv x / 2 ^ sh = nv (x >>> sh) := nv_shr _ _
      obtain ⟨ob, hob⟩ : ∃ ob, ob = obyte x kk := ⟨_, rfl⟩
      have e2 : IntKind.u8.wrap (nv (x >>> sh)) = (ob.toNat : Int) := by rw [hob, hsh]; exact obyte_nv _ _
      have HBK := Lib.hid (show (blk x).take (t + 1) = (blk x).take t ++ [ob] from by rw [hob, hkk]; exact blk_step _ _ hc3)
      have HO3 := Lib.hid (show OwnB (wr.alloc (.cells #[.int .u8 (ob.toNat : Int)] 5)) base (.slice a2 Q c2') (l ++ (blk x).take t) from HO8.out.later (Gr.new _ _))
      have HA3 := Lib.hid (show At (wr.alloc (.cells #[.int .u8 (ob.toNat : Int)] 5)) ⟨wr.heap.size, 0, none⟩ [ob] from At.new1 _ _ rfl ob _ rfl _)
      have HBW := Lib.hid (show base ≤ wr.heap.size from by have := HB.out; have := HG8.out.size; omega)
      have HGA := Lib.hid (show Below base w (wr.alloc (.cells #[.int .u8 (ob.toNat : Int)] 5)) from HG8.out.alloc HBW.out _)
      have HLE1 := Lib.hid (show (l ++ (blk x).take t).length + [ob].length ≤ 1000000 from by rw [hlen]; have := HLE.out; simp; omega)
      have HLE2 := Lib.hid (show base ≤ (wr.alloc (.cells #[.int .u8 (ob.toNat : Int)] 5)).heap.size from by have := HBW.out; simp; omega)
      clear hown hgr hQ hlen hc1 hc2 ht hkk hsh hob
      go_wp2_with (at_builtin; refine wpList_appB rfl (.tmp 9) (.tmp 16) rfl rfl base (.slice a2 Q c2') (l ++ (blk x).take t) rfl HO3.out ⟨wr.heap.size, 0, none⟩ 1 1 [ob] rfl rfl HA3.out (by simp) HLE1.out HLE2.out ?_; intro v5 w5 hown hgrow; (have HO5 := Lib.hid hown); (have HG5 := Lib.hid (show Below base w w5 from Below.grown HGA.out hgrow HLE2.out fun j ej => (HO3.out.lt j ej).1)); clear hown hgrow)
      go_roundw
      case rel => exact ⟨t + 1, by simp, by omega, by rw [HBK.out, ← List.append_assoc]; exact HO5.out, HG5.out⟩
      case measure => simp [intOf]; omega
    · obtain rfl : t = 8 := by omega
      have hki : ¬ ((8 : Nat) : Int) < 8 := by omega
      clear hc1 hc2 hgr hQ hlen hown
      go_wp2_with fail
      go_ret
      exact ⟨_, rfl, HO8.out, HG8.out⟩
end Go.Proofs.YtblaimkcdhcclaaDoor
