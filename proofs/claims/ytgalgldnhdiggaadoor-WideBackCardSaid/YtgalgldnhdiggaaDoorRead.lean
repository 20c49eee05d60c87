/- readDigits, Read. -/
import Derived.Test.YtgalgldnhdiggaaDoorText
import Derived.WalkMore
import Derived.Deep.LoopGhost
namespace Ow
set_option linter.unusedVariables false
/-- Digits that were read, or too many of them. -/
def ReadOk (n : Nat) (D : List Nat) : Prop := (D.length ≤ 64 → val D = n) ∧ (64 < D.length → 4294967296 ^ 64 ≤ n)
theorem ReadOk.skip {p q : List UInt8} {D : List Nat} (h : ReadOk (dval p) D) (hD : 64 < D.length) : ReadOk (dval (p ++ q)) D := by
  refine ⟨fun h1 => by omega, fun _ => ?_⟩
  rw [dval_append q.length p q rfl]
  have h1 := h.2 hD
  have h2 : dval p * 1 ≤ dval p * 10 ^ q.length := Nat.mul_le_mul_left _ (Nat.pow_pos (by omega))
  omega
theorem ReadOk.next {p q : List UInt8} {D E : List Nat} (h : ReadOk (dval p) D) (hD : D.length ≤ 64) (hp : p = [] ∨ q.length = 9) (hE : Nm E) (hv : val E = val D * 1000000000 + dval q) : ReadOk (dval (p ++ q)) E := by
  have e : val E = dval (p ++ q) := by
    rw [dval_append q.length p q rfl, hv, h.1 hD]
    rcases hp with rfl | hp
    · simp [dval]
    · rw [hp]
  refine ⟨fun _ => e, fun h1 => ?_⟩
  rw [← e]
  exact Nat.le_trans (Nat.pow_le_pow_right (by omega) (by omega)) (val_ge E hE.2 (by intro e0; rw [e0] at h1; simp at h1))
theorem scaled_len {D E : List Nat} {x : Nat} (hD : Nm D) (hl : D.length ≤ 64) (hx : x < 1000000000) (hE : Nm E) (hv : val E = val D * 1000000000 + x) : E.length ≤ 66 := by
  apply nm_len hE
  have h1 := val_lt D hD.1
  have h2 : 4294967296 ^ D.length ≤ 4294967296 ^ 64 := Nat.pow_le_pow_right (by omega) hl
  rw [hv, show (66 : Nat) = 64 + 1 + 1 from rfl, Nat.pow_succ, Nat.pow_succ]
  generalize 4294967296 ^ 64 = P at *
  omega
end Ow
namespace Go.Proofs.YtgalgldnhdiggaaDoor
open Go.RowKit
set_option linter.unusedVariables false

theorem list_empty (l : List UInt8) : (⟨l.toArray⟩ : ByteArray).toList.isEmpty = l.isEmpty := by
  rw [empty_iff]
  cases l
  · rfl
  · rfl
theorem index_list (q : List UInt8) (k : Nat) (hk : k < q.length) (W : World) : (Instr.index 9 (.string ⟨q.toArray⟩) (.int .i64 k)).run Tryd.prog W = .ok (.int .u8 (q[k].toNat : Int)) W := by
  have := str_at ⟨q.toArray⟩ (k : Int) k rfl (by show k < q.toArray.size; simpa using hk) W
  rw [this]
  rfl
theorem slice_list (q : List UInt8) (k : Nat) (hk : k ≤ q.length) (W : World) : (Instr.slice 9 (.string ⟨q.toArray⟩) (some (.int .i64 k)) none none).run Tryd.prog W = .ok (.string ⟨(q.drop k).toArray⟩) W := by
  have hs : (⟨q.toArray⟩ : ByteArray).size = q.length := by show q.toArray.size = _; simp
  rw [run_slice_string_from_if W 9 ⟨q.toArray⟩ .i64 (k : Int) Tryd.underlying9, if_pos ⟨by omega, by rw [hs]; omega⟩, hs, Int.toNat_natCast]
  have e : (⟨q.toArray⟩ : ByteArray).extract k q.length = ⟨(q.drop k).toArray⟩ := by
    apply ByteArray.ext
    rw [ByteArray.data_extract]
    simp
    rw [List.take_of_length_le (by simp)]
  rw [e]
theorem dec_nil : Ow.Dec [] := fun _ h => by cases h
def ReadPost (l : List UInt8) (w : World) (e : Ending) (w' : World) : Prop := ∃ v D ok, e = .returned (.tuple #[v, .bool ok]) ∧ Gr w w' ∧ HasD w' v D ∧ Ow.Nm D ∧ D.length ≤ 66 ∧ (ok = true ↔ l ≠ [] ∧ Ow.Dec l) ∧ (ok = true → Ow.ReadOk (Ow.dval l) D)

set_option maxRecDepth 100000 in
set_option maxHeartbeats 4000000 in
theorem readDigits_any (l : List UInt8) (w : World) (hl : l.length ≤ 100000) :
    Calls Tryd.prog 37 #[.string ⟨l.toArray⟩] w (ReadPost l w) := by
  go_enter Tryd.func37, Tryd.ntmps37
  go_wp2_with fail
  go_step3
  go_wp2_with fail
  go_step3
  go_wp2_with fail
  go_loopg [0, 2, 3] l.length (fun g s0 s2 s3 wx => ∃ p q v D, l = p ++ q ∧ q.length = g ∧ Ow.Dec p ∧ s0 = .string ⟨List.toArray q⟩ ∧ s2 = v ∧ s3 = .bool (!l.isEmpty) ∧ HasD wx v D ∧ Ow.Nm D ∧ D.length ≤ 66 ∧ Ow.ReadOk (Ow.dval p) D ∧ (p = [] ∨ g % 9 = 0) ∧ Gr w wx)
  case atStart => exact ⟨[], l, _, [], rfl, rfl, dec_nil, rfl, rfl, rfl, HasD.nil w, ⟨Ow.dg_nil, rfl⟩, Nat.zero_le _, ⟨fun _ => rfl, fun h => by simp at h⟩, .inl rfl, Gr.refl _⟩
  case round =>
    obtain ⟨p, q, v, D, hpq, hqg, hdec, rfl, rfl, rfl, hd, hnm, hD66, hok, hp9, hg⟩ := hrel
    have HPQ := Lib.hid hpq
    have HDEC := Lib.hid hdec
    have HD := Lib.hid hd
    have HNM := Lib.hid hnm
    have HOK := Lib.hid hok
    have HP9 := Lib.hid hp9
    have HG := Lib.hid hg
    have hql : q.length ≤ l.length := by rw [hpq]; simp
    obtain ⟨-, a, cap, rfl, -, -, -⟩ := hd
    clear hpq hdec hnm hok hp9 hg
    cases gk with
    | zero =>
      obtain rfl := List.length_eq_zero_iff.1 hqg
      have HOKK := Lib.hid (show ((!l.isEmpty) = true ↔ l ≠ [] ∧ Ow.Dec l) ∧ ((!l.isEmpty) = true → Ow.ReadOk (Ow.dval l) D) by
        have e : l = p := by rw [HPQ.out]; simp
        have hd := HDEC.out
        have ho := HOK.out
        rw [← e] at hd ho
        refine ⟨?_, fun _ => ho⟩
        cases l <;> simp [hd])
      go_wp2_with fail
      try rw [Exit.noGoto_ret]
      go_ret2
      exact ⟨_, D, _, rfl, HG.out, HD.out, HNM.out, hD66, HOKK.out.1, HOKK.out.2⟩
    | succ g =>
      have i1 : (0 : Int) < (q.length : Int) := by omega
      have i2 : 0 < q.length := by omega
      obtain ⟨z, hz⟩ : ∃ z, z = g % 9 + 1 := ⟨_, rfl⟩
      have hz1 : ((q.length : Int) - 1) % 9 + 1 = (z : Int) := by omega
      have hz2 : ((q.length : Int) - 1) % 9 = (z : Int) - 1 := by omega
      have hzq : z ≤ q.length := by omega
      have hz9 : z ≤ 9 := by omega
      have HZ := Lib.hid hz
      have HQG := Lib.hid hqg
      clear hz hqg
      go_wp2_with fail
      go_loopg [2, 3, 5, 18] z (fun g2 s2 s3 s5 s18 wy => ∃ k : Nat, k + g2 = z ∧ s18 = .int .i64 k ∧ s5 = .int .u32 (Ow.dval (q.take k) : Nat) ∧ Ow.Dec (q.take k) ∧ s2 = .slice a D.length cap ∧ s3 = .bool (!l.isEmpty) ∧ wr = wy)
      case atStart => exact ⟨0, by omega, rfl, rfl, dec_nil, rfl, rfl, rfl⟩
      case round =>
        obtain ⟨k, hkg, rfl, rfl, hdk, rfl, rfl, rfl⟩ := hrel
        have HDK := Lib.hid hdk
        have hdl := Ow.dval_lt k (q.take k) (by rw [List.length_take]; omega) hdk
        clear hdk
        cases gk with
        | zero =>
          obtain rfl : k = z := by omega
          have hk8 : (10 : Nat) ^ k ≤ 10 ^ 9 := Nat.pow_le_pow_right (by omega) (by omega)
          have hdl9 : Ow.dval (q.take k) < 1000000000 := Nat.lt_of_lt_of_le hdl (by simpa using hk8)
          clear hdl hk8
          have i3 : ¬ (k : Int) < (k : Int) := by omega
          obtain ⟨G, hG⟩ : ∃ G, G = Ow.dval (q.take k) := ⟨_, rfl⟩
          rw [← hG] at hdl9 ⊢
          have HGG := Lib.hid hG
          have hspl : q = q.take k ++ q.drop k := (List.take_append_drop k q).symm
          have HL2 := Lib.hid (show l = (p ++ q.take k) ++ q.drop k by rw [List.append_assoc, ← hspl]; exact HPQ.out)
          have HDD := Lib.hid (show Ow.Dec (p ++ q.take k) from fun x hx => by
            rcases List.mem_append.1 hx with hx | hx
            · exact HDEC.out x hx
            · exact HDK.out x hx)
          have hlt : (q.take k).length = k := by rw [List.length_take]; omega
          have hdp : (q.drop k).length = q.length - k := List.length_drop
          have HDP := Lib.hid hdp
          have H9 := Lib.hid (show p = [] ∨ (q.take k).length = 9 by
            rcases HP9.out with h | h
            · exact .inl h
            · right; rw [hlt]; have := HZ.out; omega)
          have HM9 := Lib.hid (show (q.length - k) % 9 = 0 by have := HZ.out; have := HQG.out; omega)
          have hsl := slice_list q k (by omega)
          have hG9 : G < 1000000000 := hdl9
          clear hG hkg hspl hlt hdp hdl9
          by_cases h64 : D.length ≤ 64
          · have i5 : decide ((D.length : Int) ≤ 64) = true := decide_eq_true (by omega)
            have i6 : decide (D.length ≤ 64) = true := decide_eq_true h64
            have hD5 : D.length ≤ 100000 := by omega
            go_wp2_with fail
            refine (scaled_any D _ 1000000000 G _ HD.out hD5 (by omega) (by omega)).mono ?_
            rintro e w2 ⟨v2, E, rfl, hE, hnE, hvE, g2⟩
            have HE := Lib.hid hE
            have HNE := Lib.hid hnE
            have HOE := Lib.hid (HOK.out.next h64 H9.out hnE (by rw [hvE, ← HGG.out]))
            have hE66 := Ow.scaled_len HNM.out h64 hG9 hnE hvE
            have HG2 := Lib.hid (HG.out.trans g2)
            clear hnE hvE g2
            obtain ⟨-, a2, cap2, rfl, -, -, -⟩ := id hE
            clear hE
            go_wp2_with fail
            go_roundg (q.length - k)
            case measure => have := HQG.out; omega
            case rel => exact ⟨p ++ q.take k, q.drop k, _, E, HL2.out, HDP.out, HDD.out, rfl, rfl, rfl, HE.out, HNE.out, hE66, HOE.out, .inr HM9.out, HG2.out⟩
          · have i5 : decide ((D.length : Int) ≤ 64) = false := decide_eq_false (by omega)
            have i6 : decide (D.length ≤ 64) = false := decide_eq_false h64
            have HOE := Lib.hid (HOK.out.skip (q := q.take k) (by omega))
            go_wp2_with fail
            go_roundg (q.length - k)
            case measure => have := HQG.out; omega
            case rel => exact ⟨p ++ q.take k, q.drop k, _, D, HL2.out, HDP.out, HDD.out, rfl, rfl, rfl, HD.out, HNM.out, hD66, HOE.out, .inr HM9.out, HG.out⟩
        | succ g2 =>
          have hkq : k < q.length := by omega
          have hk8 : (10 : Nat) ^ k ≤ 10 ^ 8 := Nat.pow_le_pow_right (by omega) (by omega)
          have hdl9 : Ow.dval (q.take k) < 100000000 := Nat.lt_of_lt_of_le hdl (by simpa using hk8)
          clear hdl hk8
          have hts : Ow.dval (q.take (k + 1)) = 10 * Ow.dval (q.take k) + (q[k].toNat - 48) := by
            rw [List.take_succ_eq_append_getElem hkq, Ow.dval_snoc]
          have hdn : (48 ≤ q[k].toNat ∧ q[k].toNat ≤ 57) → Ow.Dec (q.take (k + 1)) := fun h x hx => by
            rw [List.take_succ_eq_append_getElem hkq] at hx
            rcases List.mem_append.1 hx with hx | hx
            · exact HDK.out x hx
            · rw [List.mem_singleton.1 hx]; exact h
          have hbad : ¬ (48 ≤ q[k].toNat ∧ q[k].toNat ≤ 57) → ¬ Ow.Dec l := fun h hd => h (hd _ (by rw [HPQ.out]; exact List.mem_append_right _ (List.getElem_mem hkq)))
          have hb := q[k].toNat_lt
          obtain ⟨b, hbe⟩ : ∃ b, b = q[k].toNat := ⟨_, rfl⟩
          rw [← hbe] at hts hdn hbad hb
          have hix : ∀ W, (Instr.index 9 (.string ⟨q.toArray⟩) (.int .i64 k)).run Tryd.prog W = .ok (.int .u8 (b : Int)) W := fun W => by rw [hbe]; exact index_list q k hkq W
          have HTS := Lib.hid hts
          have HDN := Lib.hid hdn
          have HBAD := Lib.hid hbad
          obtain ⟨G, hG⟩ : ∃ G, G = Ow.dval (q.take k) := ⟨_, rfl⟩
          rw [← hG] at hdl9 HTS ⊢
          have HGG := Lib.hid hG
          have i3 : (k : Int) < (z : Int) := by omega
          have i4 : k < z := by omega
          clear hts hdn hbad hG hbe
          by_cases h48 : 48 ≤ b
          · by_cases h57 : b ≤ 57
            · have i5 : decide ((b : Int) < 48) = false := decide_eq_false (by omega)
              have i6 : decide ((57 : Int) < (b : Int)) = false := decide_eq_false (by omega)
              have e1 : (10 : Int) * (G : Int) + ((b : Int) - 48) = ((10 * G + (b - 48) : Nat) : Int) := by omega
              have e2 : 10 * G + (b - 48) < 4294967296 := by omega
              go_wp2_with fail
              go_roundg g2
              case measure => omega
              case rel => exact ⟨k + 1, by omega, by go_num, by rw [HTS.out]; exact congrArg (Value.int .u32) (by omega), HDN.out ⟨h48, h57⟩, rfl, rfl, rfl⟩
            · have i5 : decide ((b : Int) < 48) = false := decide_eq_false (by omega)
              have i6 : decide ((57 : Int) < (b : Int)) = true := decide_eq_true (by omega)
              have HB := Lib.hid (HBAD.out (by omega))
              go_wp2_with fail
              try rw [Exit.noGoto_ret]
              go_ret2
              exact ⟨_, [], false, rfl, HG.out, HasD.nil _, ⟨Ow.dg_nil, rfl⟩, Nat.zero_le _, by simp [HB.out], by simp⟩
          · have i5 : decide ((b : Int) < 48) = true := decide_eq_true (by omega)
            have HB := Lib.hid (HBAD.out (by omega))
            go_wp2_with fail
            try rw [Exit.noGoto_ret]
            go_ret2
            exact ⟨_, [], false, rfl, HG.out, HasD.nil _, ⟨Ow.dg_nil, rfl⟩, Nat.zero_le _, by simp [HB.out], by simp⟩

/-- A decimal text behind its sign. -/
def Good (neg : Bool) (t : List UInt8) : Prop := t ≠ [] ∧ Ow.Dec t ∧ ¬ (Lib.hasPrefix t [48] = true ∧ (neg = true ∨ 1 < t.length))
/-- What is read of digits, as an integer. -/
theorem read_form {D : List Nat} {n : Nat} (neg : Bool) (hD : Ow.Nm D) (h : Ow.ReadOk n D) : fNeg (sg neg (Ow.val D)) = fNeg (sg neg n) ∧ fStr (sg neg (Ow.val D)) = fStr (sg neg n) ∧ fErr (sg neg (Ow.val D)) = fErr (sg neg n) := by
  by_cases hl : D.length ≤ 64
  · rw [h.1 hl]; exact ⟨rfl, rfl, rfl⟩
  · have h1 := h.2 (by omega)
    have h2 : 4294967296 ^ 64 ≤ Ow.val D := Nat.le_trans (Nat.pow_le_pow_right (by omega) (by omega)) (Ow.val_ge D hD.2 (by intro e0; rw [e0] at hl; simp at hl))
    have a : ¬ (sg neg (Ow.val D)).natAbs < Ow.R := by rw [sg_abs, Ow.R_digits]; omega
    have b : ¬ (sg neg n).natAbs < Ow.R := by rw [sg_abs, Ow.R_digits]; omega
    rw [fNeg_out a, fNeg_out b, fStr_out a, fStr_out b, fErr_out a, fErr_out b]
    exact ⟨rfl, rfl, rfl⟩
def ReadRes (neg : Bool) (t : List UInt8) (w : World) (e : Ending) (w' : World) : Prop := (Good neg t ∧ Res (fNeg (sg neg (Ow.dval t))) (fStr (sg neg (Ow.dval t))) (fErr (sg neg (Ow.dval t))) w e w') ∨ (¬ Good neg t ∧ Res false ⟨#[]⟩ 6 w e w')

set_option maxRecDepth 100000 in
set_option maxHeartbeats 4000000 in
theorem read_any (l : List UInt8) (w : World) (hl : l.length ≤ 100000) :
    Calls Tryd.prog 16 #[.string ⟨l.toArray⟩] w (ReadRes (Lib.hasPrefix l [45]) (Lib.trimPrefix l [45]) w) := by
  obtain ⟨neg, hneg⟩ : ∃ neg, neg = Lib.hasPrefix l [45] := ⟨_, rfl⟩
  obtain ⟨t, ht⟩ : ∃ t, t = Lib.trimPrefix l [45] := ⟨_, rfl⟩
  have htl : t.length ≤ 100000 := by
    rw [ht]
    have : (Lib.trimPrefix l [45]).length ≤ l.length := by unfold Lib.trimPrefix; split <;> simp
    omega
  rw [← hneg, ← ht]
  have HN := Lib.hid hneg
  have HT := Lib.hid ht
  clear hneg ht
  go_enter Tryd.func16, Tryd.ntmps16
  go_wp2_with fail
  refine (Tryd.strings_CutPrefix ⟨l.toArray⟩ ⟨[45].toArray⟩ _).mono ?_
  rintro e w1 ⟨rfl, rfl⟩
  rw [show (⟨l.toArray⟩ : ByteArray).data.toList = l by simp, show (⟨[45].toArray⟩ : ByteArray).data.toList = [45] by simp, ← HN.out, ← HT.out]
  have g0 := Gr.new w (.cells #[.bool false, .string ⟨#[]⟩] 23)
  have HG := Lib.hid g0
  clear g0
  go_wp2_with fail
  refine (readDigits_any t _ htl).mono ?_
  rintro e w2 ⟨v, D, ok, rfl, g1, hD, hnD, hD66, hok, hrd⟩
  have r0 := g1.keeps (p := ⟨w.heap.size, 0, none⟩) (v := .bool false) (by simp [go_sem])
  have r1 := g1.keeps (p := ⟨w.heap.size, 1, none⟩) (v := .string ⟨#[]⟩) (by simp [go_sem])
  have f0 := g1.frozen (p := ⟨w.heap.size, 0, none⟩) (v := .bool false) (by simp [go_sem]) (by simp [go_sem])
  have f1 := g1.frozen (p := ⟨w.heap.size, 1, none⟩) (v := .string ⟨#[]⟩) (by simp [go_sem]) (by simp [go_sem])
  have HG := Lib.hid (HG.out.trans g1)
  have HD := Lib.hid hD
  have HND := Lib.hid hnD
  have HOK := Lib.hid hok
  have HRD := Lib.hid hrd
  clear g1 hD hnD hok hrd
  go_wp2_with fail
  refine (Tryd.strings_HasPrefix ⟨t.toArray⟩ ⟨[48].toArray⟩ _).mono ?_
  rintro e w3 ⟨rfl, rfl⟩
  rw [show (⟨t.toArray⟩ : ByteArray).data.toList = t by simp, show (⟨[48].toArray⟩ : ByteArray).data.toList = [48] by simp]
  obtain ⟨hz, hhz⟩ : ∃ hz, hz = Lib.hasPrefix t [48] := ⟨_, rfl⟩
  rw [← hhz]
  have HHZ := Lib.hid hhz
  clear hhz
  have key : (hz = false) ∨ (hz = true ∧ neg = true) ∨ (hz = true ∧ neg = false ∧ 1 < t.length) ∨ (hz = true ∧ neg = false ∧ ¬ 1 < t.length) := by
    cases hz <;> cases neg <;> simp
    omega
  clear HN
  rcases key with rfl | ⟨rfl, rfl⟩ | ⟨rfl, rfl, hlen⟩ | ⟨rfl, rfl, hlen⟩
  · cases ok
    · have BAD := Lib.hid (show ¬ Good neg t from fun h => by have := HOK.out.2 ⟨h.1, h.2.1⟩; simp at this)
      go_wp2_with fail
      refine bodyPost_ret (v := .tuple #[.agg #[.bool false, .string ⟨#[]⟩], .int .i64 6]) (by simp [results, Tryd.results16, go_sem, r0, r1]) rfl ?_
      exact .inr ⟨BAD.out, rfl, (HG.out.setCell (p := ⟨w.heap.size, 0, none⟩) (by simp) _).setCell (p := ⟨w.heap.size, 1, none⟩) (by simp) _⟩
    · have GOOD := Lib.hid (show Good neg t from ⟨(HOK.out.1 rfl).1, (HOK.out.1 rfl).2, by rw [← HHZ.out]; simp⟩)
      have R0 := Lib.hid r0
      have R1 := Lib.hid r1
      have F0 := Lib.hid f0
      have F1 := Lib.hid f1
      clear r0 r1 f0 f1
      go_wp2_with fail
      refine (signs_box _ _).mono ?_
      rintro e w4 ⟨p, rfl, hb, g⟩
      have F0 := Lib.hid (g.frozen R0.out F0.out)
      have F1 := Lib.hid (g.frozen R1.out F1.out)
      have R0 := Lib.hid (g.keeps R0.out)
      have R1 := Lib.hid (g.keeps R1.out)
      have HD := Lib.hid (HD.out.later g)
      have HG := Lib.hid (HG.out.trans g)
      have HB := Lib.hid hb
      clear hb g
      go_wp2_with fail
      refine (signs1_int _ D _ p 66 _ HD.out HB.out (by rw [HND.out.2]; exact hD66)).mono ?_
      rintro e w5 ⟨q, rfl, hI, g⟩
      have F0 := Lib.hid (g.frozen R0.out F0.out)
      have F1 := Lib.hid (g.frozen R1.out F1.out)
      have R0 := Lib.hid (g.keeps R0.out)
      have R1 := Lib.hid (g.keeps R1.out)
      have HI := Lib.hid hI
      have HG := Lib.hid (HG.out.trans g)
      clear hI g
      go_wp2_with fail
      refine (form_any 66 _ q _ HI.out (by omega)).mono ?_
      rintro e w6 ⟨rfl, g⟩
      obtain ⟨z1, z2, z3⟩ := read_form _ HND.out (HRD.out (by simp))
      rw [z1, z2, z3]
      have f0 := g.frozen R0.out F0.out
      have f1 := g.frozen R1.out F1.out
      have r0 := g.keeps R0.out
      have r1 := g.keeps R1.out
      have HG := Lib.hid (HG.out.trans g)
      clear g z1 z2 z3
      generalize hZ : sg _ (Ow.dval t) = Z
      go_wp2_with fail
      refine bodyPost_ret (v := .tuple #[.agg #[.bool (fNeg Z), .string (fStr Z)], .int .i64 (fErr Z)]) (by simp [results, Tryd.results16, go_sem, r0, r1]) rfl ?_
      refine .inl ⟨GOOD.out, ?_⟩
      rw [hZ]
      exact ⟨rfl, (HG.out.setCell (p := ⟨w.heap.size, 0, none⟩) (by simp) _).setCell (p := ⟨w.heap.size, 1, none⟩) (by simp) _⟩
  · cases ok
    · have BAD := Lib.hid (show ¬ Good true t from fun h => by have := HOK.out.2 ⟨h.1, h.2.1⟩; simp at this)
      go_wp2_with fail
      refine bodyPost_ret (v := .tuple #[.agg #[.bool false, .string ⟨#[]⟩], .int .i64 6]) (by simp [results, Tryd.results16, go_sem, r0, r1]) rfl ?_
      exact .inr ⟨BAD.out, rfl, (HG.out.setCell (p := ⟨w.heap.size, 0, none⟩) (by simp) _).setCell (p := ⟨w.heap.size, 1, none⟩) (by simp) _⟩
    · have BAD := Lib.hid (show ¬ Good true t from fun h => h.2.2 ⟨by rw [← HHZ.out], .inl rfl⟩)
      go_wp2_with fail
      refine bodyPost_ret (v := .tuple #[.agg #[.bool false, .string ⟨#[]⟩], .int .i64 6]) (by simp [results, Tryd.results16, go_sem, r0, r1]) rfl ?_
      exact .inr ⟨BAD.out, rfl, (HG.out.setCell (p := ⟨w.heap.size, 0, none⟩) (by simp) _).setCell (p := ⟨w.heap.size, 1, none⟩) (by simp) _⟩
  · have t1 : decide ((1 : Int) < (t.length : Int)) = true := decide_eq_true (by omega)
    have t2 : decide (1 < t.length) = true := decide_eq_true hlen
    cases ok
    · have BAD := Lib.hid (show ¬ Good false t from fun h => by have := HOK.out.2 ⟨h.1, h.2.1⟩; simp at this)
      go_wp2_with fail
      refine bodyPost_ret (v := .tuple #[.agg #[.bool false, .string ⟨#[]⟩], .int .i64 6]) (by simp [results, Tryd.results16, go_sem, r0, r1]) rfl ?_
      exact .inr ⟨BAD.out, rfl, (HG.out.setCell (p := ⟨w.heap.size, 0, none⟩) (by simp) _).setCell (p := ⟨w.heap.size, 1, none⟩) (by simp) _⟩
    · have BAD := Lib.hid (show ¬ Good false t from fun h => h.2.2 ⟨by rw [← HHZ.out], .inr hlen⟩)
      go_wp2_with fail
      refine bodyPost_ret (v := .tuple #[.agg #[.bool false, .string ⟨#[]⟩], .int .i64 6]) (by simp [results, Tryd.results16, go_sem, r0, r1]) rfl ?_
      exact .inr ⟨BAD.out, rfl, (HG.out.setCell (p := ⟨w.heap.size, 0, none⟩) (by simp) _).setCell (p := ⟨w.heap.size, 1, none⟩) (by simp) _⟩
  · have t1 : decide ((1 : Int) < (t.length : Int)) = false := decide_eq_false (by omega)
    have t2 : decide (1 < t.length) = false := decide_eq_false hlen
    cases ok
    · have BAD := Lib.hid (show ¬ Good false t from fun h => by have := HOK.out.2 ⟨h.1, h.2.1⟩; simp at this)
      go_wp2_with fail
      refine bodyPost_ret (v := .tuple #[.agg #[.bool false, .string ⟨#[]⟩], .int .i64 6]) (by simp [results, Tryd.results16, go_sem, r0, r1]) rfl ?_
      exact .inr ⟨BAD.out, rfl, (HG.out.setCell (p := ⟨w.heap.size, 0, none⟩) (by simp) _).setCell (p := ⟨w.heap.size, 1, none⟩) (by simp) _⟩
    · have GOOD := Lib.hid (show Good false t from ⟨(HOK.out.1 rfl).1, (HOK.out.1 rfl).2, by rw [← HHZ.out]; simp [hlen]⟩)
      have R0 := Lib.hid r0
      have R1 := Lib.hid r1
      have F0 := Lib.hid f0
      have F1 := Lib.hid f1
      clear r0 r1 f0 f1
      go_wp2_with fail
      refine (signs_box _ _).mono ?_
      rintro e w4 ⟨p, rfl, hb, g⟩
      have F0 := Lib.hid (g.frozen R0.out F0.out)
      have F1 := Lib.hid (g.frozen R1.out F1.out)
      have R0 := Lib.hid (g.keeps R0.out)
      have R1 := Lib.hid (g.keeps R1.out)
      have HD := Lib.hid (HD.out.later g)
      have HG := Lib.hid (HG.out.trans g)
      have HB := Lib.hid hb
      clear hb g
      go_wp2_with fail
      refine (signs1_int _ D _ p 66 _ HD.out HB.out (by rw [HND.out.2]; exact hD66)).mono ?_
      rintro e w5 ⟨q, rfl, hI, g⟩
      have F0 := Lib.hid (g.frozen R0.out F0.out)
      have F1 := Lib.hid (g.frozen R1.out F1.out)
      have R0 := Lib.hid (g.keeps R0.out)
      have R1 := Lib.hid (g.keeps R1.out)
      have HI := Lib.hid hI
      have HG := Lib.hid (HG.out.trans g)
      clear hI g
      go_wp2_with fail
      refine (form_any 66 _ q _ HI.out (by omega)).mono ?_
      rintro e w6 ⟨rfl, g⟩
      obtain ⟨z1, z2, z3⟩ := read_form _ HND.out (HRD.out (by simp))
      rw [z1, z2, z3]
      have f0 := g.frozen R0.out F0.out
      have f1 := g.frozen R1.out F1.out
      have r0 := g.keeps R0.out
      have r1 := g.keeps R1.out
      have HG := Lib.hid (HG.out.trans g)
      clear g z1 z2 z3
      generalize hZ : sg _ (Ow.dval t) = Z
      go_wp2_with fail
      refine bodyPost_ret (v := .tuple #[.agg #[.bool (fNeg Z), .string (fStr Z)], .int .i64 (fErr Z)]) (by simp [results, Tryd.results16, go_sem, r0, r1]) rfl ?_
      refine .inl ⟨GOOD.out, ?_⟩
      rw [hZ]
      exact ⟨rfl, (HG.out.setCell (p := ⟨w.heap.size, 0, none⟩) (by simp) _).setCell (p := ⟨w.heap.size, 1, none⟩) (by simp) _⟩
end Go.Proofs.YtgalgldnhdiggaaDoor
