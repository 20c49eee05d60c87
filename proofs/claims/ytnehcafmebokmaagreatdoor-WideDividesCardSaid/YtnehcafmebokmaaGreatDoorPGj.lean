/- readDigits, Read. -/
import Derived.Test.YtnehcafmebokmaaGreatDoorPGi
import Derived.WalkMore
import Derived.Deep.LoopGhost
import Derived.Test.YtnehcafmebokmaaGreatDoorPGg
import Derived.Deep.RegionHeld3
namespace Ow
set_option linter.unusedVariables false
/-- Digits that were read, or too many of them. -/
def ReadOk (n : Nat) (D : List Nat) : Prop := (D.length ≤ 64 → val D = n) ∧ (64 < D.length → 4294967296 ^ 64 ≤ n)
theorem ReadOk.skip {p q : List UInt8} {D : List Nat} (h : ReadOk (dval p) D) (hD : 64 < D.length) : ReadOk (dval (p ++ q)) D := by
  refine ⟨fun h1 => by omega, fun _ => ?_⟩
  rw [dval_append q.length p q rfl]
  have h1 := h.2 hD
  have h2 : dval p * 1 ≤ dval p * 10 ^ q.length := Nat.mul_le_mul_left _ (Nat.pow_pos (by omega))
  omega
theorem ReadOk.next {p q : List UInt8} {D E : List Nat} (h : ReadOk (dval p) D) (hD : D.length ≤ 64) (hp : p = [] ∨ q.length = 9) (hE : Nm E) (hv : val E = val D * 1000000000 + dval q) : ReadOk (dval (p ++ q)) E := by
  have e : val E = dval (p ++ q) := by
    rw [dval_append q.length p q rfl, hv, h.1 hD]
    rcases hp with rfl | hp
    · simp [dval]
    · rw [hp]
  refine ⟨fun _ => e, fun h1 => ?_⟩
  rw [← e]
  exact Nat.le_trans (Nat.pow_le_pow_right (by omega) (by omega)) (val_ge E hE.2 (by intro e0; rw [e0] at h1; simp at h1))
theorem scaled_len {D E : List Nat} {x : Nat} (hD : Nm D) (hl : D.length ≤ 64) (hx : x < 1000000000) (hE : Nm E) (hv : val E = val D * 1000000000 + x) : E.length ≤ 66 := by
  apply nm_len hE
  have h1 := val_lt D hD.1
  have h2 : 4294967296 ^ D.length ≤ 4294967296 ^ 64 := Nat.pow_le_pow_right (by omega) hl
  rw [hv, show (66 : Nat) = 64 + 1 + 1 from rfl, Nat.pow_succ, Nat.pow_succ]
  generalize 4294967296 ^ 64 = P at *
  omega
end Ow
namespace Go.Proofs.YtnehcafmebokmaaGreatDoor
open Go.RowKit
set_option linter.unusedVariables false

theorem list_empty (l : List UInt8) : (⟨l.toArray⟩ : ByteArray).toList.isEmpty = l.isEmpty := by
  rw [empty_iff]
  cases l
  · rfl
  · rfl
theorem index_list (q : List UInt8) (k : Nat) (hk : k < q.length) (W : World) : (Instr.index 9 (.string ⟨q.toArray⟩) (.int .i64 k)).run Tryz.prog W = .ok (.int .u8 (q[k].toNat : Int)) W := by
  have := str_at ⟨q.toArray⟩ (k : Int) k rfl (by show k < q.toArray.size; simpa using hk) W
  rw [this]
  rfl
theorem slice_list (q : List UInt8) (k : Nat) (hk : k ≤ q.length) (W : World) : (Instr.slice 9 (.string ⟨q.toArray⟩) (some (.int .i64 k)) none none).run Tryz.prog W = .ok (.string ⟨(q.drop k).toArray⟩) W := by
  have hs : (⟨q.toArray⟩ : ByteArray).size = q.length := by show q.toArray.size = _; simp
  rw [run_slice_string_from_if W 9 ⟨q.toArray⟩ .i64 (k : Int) Tryz.underlying9, if_pos ⟨by omega, by rw [hs]; omega⟩, hs, Int.toNat_natCast]
  have e : (⟨q.toArray⟩ : ByteArray).extract k q.length = ⟨(q.drop k).toArray⟩ := by
    apply ByteArray.ext
    rw [ByteArray.data_extract]
    simp
    rw [List.take_of_length_le (by simp)]
  rw [e]
theorem dec_nil : Ow.Dec [] := fun _ h => by cases h
def ReadPost (l : List UInt8) (w : World) (e : Ending) (w' : World) : Prop := ∃ v D ok, e = .returned (.tuple #[v, .bool ok]) ∧ Gr w w' ∧ HasD w' v D ∧ Ow.Nm D ∧ D.length ≤ 66 ∧ (ok = true ↔ l ≠ [] ∧ Ow.Dec l) ∧ (ok = true → Ow.ReadOk (Ow.dval l) D)

set_option maxRecDepth 100000 in
set_option maxHeartbeats 4000000 in
theorem readDigits_any (l : List UInt8) (w : World) (hl : l.length ≤ 100000) :
    Calls Tryz.prog 37 #[.string ⟨l.toArray⟩] w (ReadPost l w) := by
  go_enter Tryz.func37, Tryz.ntmps37
  go_wp2_with fail
  go_step3
  go_wp2_with fail
  go_step3
  go_wp2_with fail
  go_loopg [0, 2, 3] l.length (fun g s0 s2 s3 wx => ∃ p q v D, l = p ++ q ∧ q.length = g ∧ Ow.Dec p ∧ s0 = .string ⟨List.toArray q⟩ ∧ s2 = v ∧ s3 = .bool (!l.isEmpty) ∧ HasD wx v D ∧ Ow.Nm D ∧ D.length ≤ 66 ∧ Ow.ReadOk (Ow.dval p) D ∧ (p = [] ∨ g % 9 = 0) ∧ Gr w wx)
  case atStart => exact ⟨[], l, _, [], rfl, rfl, dec_nil, rfl, rfl, rfl, HasD.nil w, ⟨Ow.dg_nil, rfl⟩, Nat.zero_le _, ⟨fun _ => rfl, fun h => by simp at h⟩, .inl rfl, Gr.refl _⟩
  case round =>
    obtain ⟨p, q, v, D, hpq, hqg, hdec, rfl, rfl, rfl, hd, hnm, hD66, hok, hp9, hg⟩ := hrel
    have HPQ := Lib.hid hpq
    have HDEC := Lib.hid hdec
    have HD := Lib.hid hd
    have HNM := Lib.hid hnm
    have HOK := Lib.hid hok
    have HP9 := Lib.hid hp9
    have HG := Lib.hid hg
    have hql : q.length ≤ l.length := by rw [hpq]; simp
    obtain ⟨-, a, cap, rfl, -, -, -⟩ := hd
    clear hpq hdec hnm hok hp9 hg
    cases gk with
    | zero =>
      obtain rfl := List.length_eq_zero_iff.1 hqg
      have HOKK := Lib.hid (show ((!l.isEmpty) = true ↔ l ≠ [] ∧ Ow.Dec l) ∧ ((!l.isEmpty) = true → Ow.ReadOk (Ow.dval l) D) by
        have e : l = p := by rw [HPQ.out]; simp
        have hd := HDEC.out
        have ho := HOK.out
        rw [← e] at hd ho
        refine ⟨?_, fun _ => ho⟩
        cases l <;> simp [hd])
      go_wp2_with fail
      try rw [Exit.noGoto_ret]
      go_ret2
      exact ⟨_, D, _, rfl, HG.out, HD.out, HNM.out, hD66, HOKK.out.1, HOKK.out.2⟩
    | succ g =>
      have i1 : (0 : Int) < (q.length : Int) := by omega
      have i2 : 0 < q.length := by omega
      obtain ⟨z, hz⟩ : ∃ z, z = g % 9 + 1 := ⟨_, rfl⟩
      have hz1 : ((q.length : Int) - 1) % 9 + 1 = (z : Int) := by omega
      have hz2 : ((q.length : Int) - 1) % 9 = (z : Int) - 1 := by omega
      have hzq : z ≤ q.length := by omega
      have hz9 : z ≤ 9 := by omega
      have HZ := Lib.hid hz
      have HQG := Lib.hid hqg
      clear hz hqg
      go_wp2_with fail
      go_loopg [2, 3, 5, 18] z (fun g2 s2 s3 s5 s18 wy => ∃ k : Nat, k + g2 = z ∧ s18 = .int .i64 k ∧ s5 = .int .u32 (Ow.dval (q.take k) : Nat) ∧ Ow.Dec (q.take k) ∧ s2 = .slice a D.length cap ∧ s3 = .bool (!l.isEmpty) ∧ wr = wy)
      case atStart => exact ⟨0, by omega, rfl, rfl, dec_nil, rfl, rfl, rfl⟩
      case round =>
        obtain ⟨k, hkg, rfl, rfl, hdk, rfl, rfl, rfl⟩ := hrel
        have HDK := Lib.hid hdk
        have hdl := Ow.dval_lt k (q.take k) (by rw [List.length_take]; omega) hdk
        clear hdk
        cases gk with
        | zero =>
          obtain rfl : k = z := by omega
          have hk8 : (10 : Nat) ^ k ≤ 10 ^ 9 := Nat.pow_le_pow_right (by omega) (by omega)
          have hdl9 : Ow.dval (q.take k) < 1000000000 := Nat.lt_of_lt_of_le hdl (by simpa using hk8)
          clear hdl hk8
          have i3 : ¬ (k : Int) < (k : Int) := by omega
          obtain ⟨G, hG⟩ : ∃ G, G = Ow.dval (q.take k) := ⟨_, rfl⟩
          rw [← hG] at hdl9 ⊢
          have HGG := Lib.hid hG
          have hspl : q = q.take k ++ q.drop k := (List.take_append_drop k q).symm
          have HL2 := Lib.hid (show l = (p ++ q.take k) ++ q.drop k by rw [List.append_assoc, ← hspl]; exact HPQ.out)
          have HDD := Lib.hid (show Ow.Dec (p ++ q.take k) from fun x hx => by
            rcases List.mem_append.1 hx with hx | hx
            · exact HDEC.out x hx
            · exact HDK.out x hx)
          have hlt : (q.take k).length = k := by rw [List.length_take]; omega
          have hdp : (q.drop k).length = q.length - k := List.length_drop
          have HDP := Lib.hid hdp
          have H9 := Lib.hid (show p = [] ∨ (q.take k).length = 9 by
            rcases HP9.out with h | h
            · exact .inl h
            · right; rw [hlt]; have := HZ.out; omega)
          have HM9 := Lib.hid (show (q.length - k) % 9 = 0 by have := HZ.out; have := HQG.out; omega)
          have hsl := slice_list q k (by omega)
          have hG9 : G < 1000000000 := hdl9
          clear hG hkg hspl hlt hdp hdl9
          by_cases h64 : D.length ≤ 64
          · have i5 : decide ((D.length : Int) ≤ 64) = true := decide_eq_true (by omega)
            have i6 : decide (D.length ≤ 64) = true := decide_eq_true h64
            have hD5 : D.length ≤ 100000 := by omega
            go_wp2_with fail
            refine (scaled_any D _ 1000000000 G _ HD.out hD5 (by omega) (by omega)).mono ?_
            rintro e w2 ⟨v2, E, rfl, hE, hnE, hvE, g2⟩
            have HE := Lib.hid hE
            have HNE := Lib.hid hnE
            have HOE := Lib.hid (HOK.out.next h64 H9.out hnE (by rw [hvE, ← HGG.out]))
            have hE66 := Ow.scaled_len HNM.out h64 hG9 hnE hvE
            have HG2 := Lib.hid (HG.out.trans g2)
            clear hnE hvE g2
            obtain ⟨-, a2, cap2, rfl, -, -, -⟩ := id hE
            clear hE
            go_wp2_with fail
            go_roundg (q.length - k)
            case measure => have := HQG.out; omega
            case rel => exact ⟨p ++ q.take k, q.drop k, _, E, HL2.out, HDP.out, HDD.out, rfl, rfl, rfl, HE.out, HNE.out, hE66, HOE.out, .inr HM9.out, HG2.out⟩
          · have i5 : decide ((D.length : Int) ≤ 64) = false := decide_eq_false (by omega)
            have i6 : decide (D.length ≤ 64) = false := decide_eq_false h64
            have HOE := Lib.hid (HOK.out.skip (q := q.take k) (by omega))
            go_wp2_with fail
            go_roundg (q.length - k)
            case measure => have := HQG.out; omega
            case rel => exact ⟨p ++ q.take k, q.drop k, _, D, HL2.out, HDP.out, HDD.out, rfl, rfl, rfl, HD.out, HNM.out, hD66, HOE.out, .inr HM9.out, HG.out⟩
        | succ g2 =>
          have hkq : k < q.length := by omega
          have hk8 : (10 : Nat) ^ k ≤ 10 ^ 8 := Nat.pow_le_pow_right (by omega) (by omega)
          have hdl9 : Ow.dval (q.take k) < 100000000 := Nat.lt_of_lt_of_le hdl (by simpa using hk8)
          clear hdl hk8
          have hts : Ow.dval (q.take (k + 1)) = 10 * Ow.dval (q.take k) + (q[k].toNat - 48) := by
            rw [List.take_succ_eq_append_getElem hkq, Ow.dval_snoc]
          have hdn : (48 ≤ q[k].toNat ∧ q[k].toNat ≤ 57) → Ow.Dec (q.take (k + 1)) := fun h x hx => by
            rw [List.take_succ_eq_append_getElem hkq] at hx
            rcases List.mem_append.1 hx with hx | hx
            · exact HDK.out x hx
            · rw [List.mem_singleton.1 hx]; exact h
          have hbad : ¬ (48 ≤ q[k].toNat ∧ q[k].toNat ≤ 57) → ¬ Ow.Dec l := fun h hd => h (hd _ (by rw [HPQ.out]; exact List.mem_append_right _ (List.getElem_mem hkq)))
          have hb := q[k].toNat_lt
          obtain ⟨b, hbe⟩ : ∃ b, b = q[k].toNat := ⟨_, rfl⟩
          rw [← hbe] at hts hdn hbad hb
          have hix : ∀ W, (Instr.index 9 (.string ⟨q.toArray⟩) (.int .i64 k)).run Tryz.prog W = .ok (.int .u8 (b : Int)) W := fun W => by rw [hbe]; exact index_list q k hkq W
          have HTS := Lib.hid hts
          have HDN := Lib.hid hdn
          have HBAD := Lib.hid hbad
          obtain ⟨G, hG⟩ : ∃ G, G = Ow.dval (q.take k) := ⟨_, rfl⟩
          rw [← hG] at hdl9 HTS ⊢
          have HGG := Lib.hid hG
          have i3 : (k : Int) < (z : Int) := by omega
          have i4 : k < z := by omega
          clear hts hdn hbad hG hbe
          by_cases h48 : 48 ≤ b
          · by_cases h57 : b ≤ 57
            · have i5 : decide ((b : Int) < 48) = false := decide_eq_false (by omega)
              have i6 : decide ((57 : Int) < (b : Int)) = false := decide_eq_false (by omega)
              have e1 : (10 : Int) * (G : Int) + ((b : Int) - 48) = ((10 * G + (b - 48) : Nat) : Int) := by omega
              have e2 : 10 * G + (b - 48) < 4294967296 := by omega
              go_wp2_with fail
              go_roundg g2
              case measure => omega
              case rel => exact ⟨k + 1, by omega, by go_num, by rw [HTS.out]; exact congrArg (Value.int .u32) (by omega), HDN.out ⟨h48, h57⟩, rfl, rfl, rfl⟩
            · have i5 : decide ((b : Int) < 48) = false := decide_eq_false (by omega)
              have i6 : decide ((57 : Int) < (b : Int)) = true := decide_eq_true (by omega)
              have HB := Lib.hid (HBAD.out (by omega))
              go_wp2_with fail
              try rw [Exit.noGoto_ret]
              go_ret2
              exact ⟨_, [], false, rfl, HG.out, HasD.nil _, ⟨Ow.dg_nil, rfl⟩, Nat.zero_le _, by simp [HB.out], by simp⟩
          · have i5 : decide ((b : Int) < 48) = true := decide_eq_true (by omega)
            have HB := Lib.hid (HBAD.out (by omega))
            go_wp2_with fail
            try rw [Exit.noGoto_ret]
            go_ret2
            exact ⟨_, [], false, rfl, HG.out, HasD.nil _, ⟨Ow.dg_nil, rfl⟩, Nat.zero_le _, by simp [HB.out], by simp⟩

/-- A decimal text behind its sign. -/
def Good (neg : Bool) (t : List UInt8) : Prop := t ≠ [] ∧ Ow.Dec t ∧ ¬ (Lib.hasPrefix t [48] = true ∧ (neg = true ∨ 1 < t.length))
/-- What is read of digits, as an integer. -/
theorem read_form {D : List Nat} {n : Nat} (neg : Bool) (hD : Ow.Nm D) (h : Ow.ReadOk n D) : fNeg (sg neg (Ow.val D)) = fNeg (sg neg n) ∧ fStr (sg neg (Ow.val D)) = fStr (sg neg n) ∧ fErr (sg neg (Ow.val D)) = fErr (sg neg n) := by
  by_cases hl : D.length ≤ 64
  · rw [h.1 hl]; exact ⟨rfl, rfl, rfl⟩
  · have h1 := h.2 (by omega)
    have h2 : 4294967296 ^ 64 ≤ Ow.val D := Nat.le_trans (Nat.pow_le_pow_right (by omega) (by omega)) (Ow.val_ge D hD.2 (by intro e0; rw [e0] at hl; simp at hl))
    have a : ¬ (sg neg (Ow.val D)).natAbs < Ow.R := by rw [sg_abs, Ow.R_digits]; omega
    have b : ¬ (sg neg n).natAbs < Ow.R := by rw [sg_abs, Ow.R_digits]; omega
    rw [fNeg_out a, fNeg_out b, fStr_out a, fStr_out b, fErr_out a, fErr_out b]
    exact ⟨rfl, rfl, rfl⟩
def ReadRes (neg : Bool) (t : List UInt8) (w : World) (e : Ending) (w' : World) : Prop := (Good neg t ∧ Res (fNeg (sg neg (Ow.dval t))) (fStr (sg neg (Ow.dval t))) (fErr (sg neg (Ow.dval t))) w e w') ∨ (¬ Good neg t ∧ Res false ⟨#[]⟩ 6 w e w')

set_option maxRecDepth 100000 in
set_option maxHeartbeats 4000000 in
theorem read_any (l : List UInt8) (w : World) (hl : l.length ≤ 100000) :
    Calls Tryz.prog 14 #[.string ⟨l.toArray⟩] w (ReadRes (Lib.hasPrefix l [45]) (Lib.trimPrefix l [45]) w) := by
  obtain ⟨neg, hneg⟩ : ∃ neg, neg = Lib.hasPrefix l [45] := ⟨_, rfl⟩
  obtain ⟨t, ht⟩ : ∃ t, t = Lib.trimPrefix l [45] := ⟨_, rfl⟩
  have htl : t.length ≤ 100000 := by
    rw [ht]
    have : (Lib.trimPrefix l [45]).length ≤ l.length := by unfold Lib.trimPrefix; split <;> simp
    omega
  rw [← hneg, ← ht]
  have HN := Lib.hid hneg
  have HT := Lib.hid ht
  clear hneg ht
  go_enter Tryz.func14, Tryz.ntmps14
  go_wp2_with fail
  refine (Tryz.strings_CutPrefix ⟨l.toArray⟩ ⟨[45].toArray⟩ _).mono ?_
  rintro e w1 ⟨rfl, rfl⟩
  rw [show (⟨l.toArray⟩ : ByteArray).data.toList = l by simp, show (⟨[45].toArray⟩ : ByteArray).data.toList = [45] by simp, ← HN.out, ← HT.out]
  have g0 := Gr.new w (.cells #[.bool false, .string ⟨#[]⟩] 23)
  have HG := Lib.hid g0
  clear g0
  go_wp2_with fail
  refine (readDigits_any t _ htl).mono ?_
  rintro e w2 ⟨v, D, ok, rfl, g1, hD, hnD, hD66, hok, hrd⟩
  have r0 := g1.keeps (p := ⟨w.heap.size, 0, none⟩) (v := .bool false) (by simp [go_sem])
  have r1 := g1.keeps (p := ⟨w.heap.size, 1, none⟩) (v := .string ⟨#[]⟩) (by simp [go_sem])
  have f0 := g1.frozen (p := ⟨w.heap.size, 0, none⟩) (v := .bool false) (by simp [go_sem]) (by simp [go_sem])
  have f1 := g1.frozen (p := ⟨w.heap.size, 1, none⟩) (v := .string ⟨#[]⟩) (by simp [go_sem]) (by simp [go_sem])
  have HG := Lib.hid (HG.out.trans g1)
  have HD := Lib.hid hD
  have HND := Lib.hid hnD
  have HOK := Lib.hid hok
  have HRD := Lib.hid hrd
  clear g1 hD hnD hok hrd
  go_wp2_with fail
  refine (Tryz.strings_HasPrefix ⟨t.toArray⟩ ⟨[48].toArray⟩ _).mono ?_
  rintro e w3 ⟨rfl, rfl⟩
  rw [show (⟨t.toArray⟩ : ByteArray).data.toList = t by simp, show (⟨[48].toArray⟩ : ByteArray).data.toList = [48] by simp]
  obtain ⟨hz, hhz⟩ : ∃ hz, hz = Lib.hasPrefix t [48] := ⟨_, rfl⟩
  rw [← hhz]
  have HHZ := Lib.hid hhz
  clear hhz
  have key : (hz = false) ∨ (hz = true ∧ neg = true) ∨ (hz = true ∧ neg = false ∧ 1 < t.length) ∨ (hz = true ∧ neg = false ∧ ¬ 1 < t.length) := by
    cases hz <;> cases neg <;> simp
    omega
  clear HN
  rcases key with rfl | ⟨rfl, rfl⟩ | ⟨rfl, rfl, hlen⟩ | ⟨rfl, rfl, hlen⟩
  · cases ok
    · have BAD := Lib.hid (show ¬ Good neg t from fun h => by have := HOK.out.2 ⟨h.1, h.2.1⟩; simp at this)
      go_wp2_with fail
      refine bodyPost_ret (v := .tuple #[.agg #[.bool false, .string ⟨#[]⟩], .int .i64 6]) (by simp [results, Tryz.results14, go_sem, r0, r1]) rfl ?_
      exact .inr ⟨BAD.out, rfl, (HG.out.setCell (p := ⟨w.heap.size, 0, none⟩) (by simp) _).setCell (p := ⟨w.heap.size, 1, none⟩) (by simp) _⟩
    · have GOOD := Lib.hid (show Good neg t from ⟨(HOK.out.1 rfl).1, (HOK.out.1 rfl).2, by rw [← HHZ.out]; simp⟩)
      have R0 := Lib.hid r0
      have R1 := Lib.hid r1
      have F0 := Lib.hid f0
      have F1 := Lib.hid f1
      clear r0 r1 f0 f1
      go_wp2_with fail
      refine (signs_box _ _).mono ?_
      rintro e w4 ⟨p, rfl, hb, g⟩
      have F0 := Lib.hid (g.frozen R0.out F0.out)
      have F1 := Lib.hid (g.frozen R1.out F1.out)
      have R0 := Lib.hid (g.keeps R0.out)
      have R1 := Lib.hid (g.keeps R1.out)
      have HD := Lib.hid (HD.out.later g)
      have HG := Lib.hid (HG.out.trans g)
      have HB := Lib.hid hb
      clear hb g
      go_wp2_with fail
      refine (signs1_int _ D _ p 66 _ HD.out HB.out (by rw [HND.out.2]; exact hD66)).mono ?_
      rintro e w5 ⟨q, rfl, hI, g⟩
      have F0 := Lib.hid (g.frozen R0.out F0.out)
      have F1 := Lib.hid (g.frozen R1.out F1.out)
      have R0 := Lib.hid (g.keeps R0.out)
      have R1 := Lib.hid (g.keeps R1.out)
      have HI := Lib.hid hI
      have HG := Lib.hid (HG.out.trans g)
      clear hI g
      go_wp2_with fail
      refine (form_any 66 _ q _ HI.out (by omega)).mono ?_
      rintro e w6 ⟨rfl, g⟩
      obtain ⟨z1, z2, z3⟩ := read_form _ HND.out (HRD.out (by simp))
      rw [z1, z2, z3]
      have f0 := g.frozen R0.out F0.out
      have f1 := g.frozen R1.out F1.out
      have r0 := g.keeps R0.out
      have r1 := g.keeps R1.out
      have HG := Lib.hid (HG.out.trans g)
      clear g z1 z2 z3
      generalize hZ : sg _ (Ow.dval t) = Z
      go_wp2_with fail
      refine bodyPost_ret (v := .tuple #[.agg #[.bool (fNeg Z), .string (fStr Z)], .int .i64 (fErr Z)]) (by simp [results, Tryz.results14, go_sem, r0, r1]) rfl ?_
      refine .inl ⟨GOOD.out, ?_⟩
      rw [hZ]
      exact ⟨rfl, (HG.out.setCell (p := ⟨w.heap.size, 0, none⟩) (by simp) _).setCell (p := ⟨w.heap.size, 1, none⟩) (by simp) _⟩
  · cases ok
    · have BAD := Lib.hid (show ¬ Good true t from fun h => by have := HOK.out.2 ⟨h.1, h.2.1⟩; simp at this)
      go_wp2_with fail
      refine bodyPost_ret (v := .tuple #[.agg #[.bool false, .string ⟨#[]⟩], .int .i64 6]) (by simp [results, Tryz.results14, go_sem, r0, r1]) rfl ?_
      exact .inr ⟨BAD.out, rfl, (HG.out.setCell (p := ⟨w.heap.size, 0, none⟩) (by simp) _).setCell (p := ⟨w.heap.size, 1, none⟩) (by simp) _⟩
    · have BAD := Lib.hid (show ¬ Good true t from fun h => h.2.2 ⟨by rw [← HHZ.out], .inl rfl⟩)
      go_wp2_with fail
      refine bodyPost_ret (v := .tuple #[.agg #[.bool false, .string ⟨#[]⟩], .int .i64 6]) (by simp [results, Tryz.results14, go_sem, r0, r1]) rfl ?_
      exact .inr ⟨BAD.out, rfl, (HG.out.setCell (p := ⟨w.heap.size, 0, none⟩) (by simp) _).setCell (p := ⟨w.heap.size, 1, none⟩) (by simp) _⟩
  · have t1 : decide ((1 : Int) < (t.length : Int)) = true := decide_eq_true (by omega)
    have t2 : decide (1 < t.length) = true := decide_eq_true hlen
    cases ok
    · have BAD := Lib.hid (show ¬ Good false t from fun h => by have := HOK.out.2 ⟨h.1, h.2.1⟩; simp at this)
      go_wp2_with fail
      refine bodyPost_ret (v := .tuple #[.agg #[.bool false, .string ⟨#[]⟩], .int .i64 6]) (by simp [results, Tryz.results14, go_sem, r0, r1]) rfl ?_
      exact .inr ⟨BAD.out, rfl, (HG.out.setCell (p := ⟨w.heap.size, 0, none⟩) (by simp) _).setCell (p := ⟨w.heap.size, 1, none⟩) (by simp) _⟩
    · have BAD := Lib.hid (show ¬ Good false t from fun h => h.2.2 ⟨by rw [← HHZ.out], .inr hlen⟩)
      go_wp2_with fail
      refine bodyPost_ret (v := .tuple #[.agg #[.bool false, .string ⟨#[]⟩], .int .i64 6]) (by simp [results, Tryz.results14, go_sem, r0, r1]) rfl ?_
      exact .inr ⟨BAD.out, rfl, (HG.out.setCell (p := ⟨w.heap.size, 0, none⟩) (by simp) _).setCell (p := ⟨w.heap.size, 1, none⟩) (by simp) _⟩
  · have t1 : decide ((1 : Int) < (t.length : Int)) = false := decide_eq_false (by omega)
    have t2 : decide (1 < t.length) = false := decide_eq_false hlen
    cases ok
    · have BAD := Lib.hid (show ¬ Good false t from fun h => by have := HOK.out.2 ⟨h.1, h.2.1⟩; simp at this)
      go_wp2_with fail
      refine bodyPost_ret (v := .tuple #[.agg #[.bool false, .string ⟨#[]⟩], .int .i64 6]) (by simp [results, Tryz.results14, go_sem, r0, r1]) rfl ?_
      exact .inr ⟨BAD.out, rfl, (HG.out.setCell (p := ⟨w.heap.size, 0, none⟩) (by simp) _).setCell (p := ⟨w.heap.size, 1, none⟩) (by simp) _⟩
    · have GOOD := Lib.hid (show Good false t from ⟨(HOK.out.1 rfl).1, (HOK.out.1 rfl).2, by rw [← HHZ.out]; simp [hlen]⟩)
      have R0 := Lib.hid r0
      have R1 := Lib.hid r1
      have F0 := Lib.hid f0
      have F1 := Lib.hid f1
      clear r0 r1 f0 f1
      go_wp2_with fail
      refine (signs_box _ _).mono ?_
      rintro e w4 ⟨p, rfl, hb, g⟩
      have F0 := Lib.hid (g.frozen R0.out F0.out)
      have F1 := Lib.hid (g.frozen R1.out F1.out)
      have R0 := Lib.hid (g.keeps R0.out)
      have R1 := Lib.hid (g.keeps R1.out)
      have HD := Lib.hid (HD.out.later g)
      have HG := Lib.hid (HG.out.trans g)
      have HB := Lib.hid hb
      clear hb g
      go_wp2_with fail
      refine (signs1_int _ D _ p 66 _ HD.out HB.out (by rw [HND.out.2]; exact hD66)).mono ?_
      rintro e w5 ⟨q, rfl, hI, g⟩
      have F0 := Lib.hid (g.frozen R0.out F0.out)
      have F1 := Lib.hid (g.frozen R1.out F1.out)
      have R0 := Lib.hid (g.keeps R0.out)
      have R1 := Lib.hid (g.keeps R1.out)
      have HI := Lib.hid hI
      have HG := Lib.hid (HG.out.trans g)
      clear hI g
      go_wp2_with fail
      refine (form_any 66 _ q _ HI.out (by omega)).mono ?_
      rintro e w6 ⟨rfl, g⟩
      obtain ⟨z1, z2, z3⟩ := read_form _ HND.out (HRD.out (by simp))
      rw [z1, z2, z3]
      have f0 := g.frozen R0.out F0.out
      have f1 := g.frozen R1.out F1.out
      have r0 := g.keeps R0.out
      have r1 := g.keeps R1.out
      have HG := Lib.hid (HG.out.trans g)
      clear g z1 z2 z3
      generalize hZ : sg _ (Ow.dval t) = Z
      go_wp2_with fail
      refine bodyPost_ret (v := .tuple #[.agg #[.bool (fNeg Z), .string (fStr Z)], .int .i64 (fErr Z)]) (by simp [results, Tryz.results14, go_sem, r0, r1]) rfl ?_
      refine .inl ⟨GOOD.out, ?_⟩
      rw [hZ]
      exact ⟨rfl, (HG.out.setCell (p := ⟨w.heap.size, 0, none⟩) (by simp) _).setCell (p := ⟨w.heap.size, 1, none⟩) (by simp) _⟩
end Go.Proofs.YtnehcafmebokmaaGreatDoor

/- great: are forms too long to be tried? -/
namespace Go.Proofs.YtnehcafmebokmaaGreatDoor
open Go.RowKit
set_option linter.unusedVariables false

/-- The strings of forms in a row. -/
def Sizes (W : World) (g : Nat) (l : List ByteArray) : Prop := ∀ i, i < l.length → W.cell? ⟨g, i * 2 + 1, none⟩ = some (.string (l[i]?.getD ⟨#[]⟩))
def isGreat (l : List ByteArray) : Bool := l.any (fun s => decide (300 < s.size))
theorem great_not {l : List ByteArray} (h : isGreat l = false) (i : Nat) (hi : i < l.length) : (l[i]?.getD ⟨#[]⟩).size ≤ 300 := by
  rw [List.getElem?_eq_getElem hi]
  unfold isGreat at h
  rw [List.any_eq_false] at h
  have := h l[i] (List.getElem_mem hi)
  simp only [decide_eq_true_eq] at this
  simp only [Option.getD_some]
  omega

set_option maxRecDepth 100000 in
set_option maxHeartbeats 1000000 in
theorem great_any (g n cap : Nat) (l : List ByteArray) (w : World) (hn : n = l.length) (hl : l.length ≤ 10) (hs : ∀ s ∈ l, s.size ≤ 9223372036854775807) (h : Sizes w g l) :
    Calls Tryz.prog 4 #[.slice (some ⟨g, 0, none⟩) n cap] w fun e w' => e = .returned (.bool (isGreat l)) ∧ w = w' := by
  have HN := Lib.hid hn
  have HS := Lib.hid hs
  have H := Lib.hid h
  have hn10 : n ≤ 10 := by omega
  obtain ⟨r, hr⟩ : ∃ r, r = isGreat l := ⟨_, rfl⟩
  rw [← hr]
  have HR := Lib.hid hr
  clear hn hs h hr hl
  go_enter Tryz.func4, Tryz.ntmps4
  go_wp2_with fail
  go_loop [3] (fun i => ∃ k : Nat, i = .int .i64 k ∧ k ≤ n ∧ ∀ j, j < k → (l[j]?.getD ⟨#[]⟩).size ≤ 300) (fun i => n - (intOf i).toNat)
  case atStart => exact ⟨0, rfl, by omega, fun j hj => absurd hj (Nat.not_lt_zero _)⟩
  case round =>
    obtain ⟨k, rfl, hk, hle⟩ := hrel
    have HLE := Lib.hid hle
    clear hle
    by_cases hlt : k < n
    · have c := H.out k (by rw [← HN.out]; exact hlt)
      obtain ⟨s, hse⟩ : ∃ s, s = l[k]?.getD ⟨#[]⟩ := ⟨_, rfl⟩
      have hsb : s.size ≤ 9223372036854775807 := by
        rw [hse, List.getElem?_eq_getElem (by rw [← HN.out]; exact hlt)]
        exact HS.out _ (List.getElem_mem _)
      rw [← hse] at c
      have HSE := Lib.hid hse
      have i5 : (k : Int) < (n : Int) := by omega
      have i6 : (0 : Int) ≤ (k : Int) := by omega
      clear hse
      by_cases hg : 300 < s.size
      · have t1 : decide ((300 : Int) < (s.size : Int)) = true := decide_eq_true (by omega)
        have t2 : decide (300 < s.size) = true := decide_eq_true hg
        have HRT := Lib.hid (show r = true by
          rw [HR.out]
          unfold isGreat
          rw [List.any_eq_true]
          refine ⟨l[k]'(by rw [← HN.out]; exact hlt), List.getElem_mem _, ?_⟩
          have e := HSE.out
          rw [List.getElem?_eq_getElem (by rw [← HN.out]; exact hlt)] at e
          rw [show l[k] = s from e.symm]
          exact decide_eq_true hg)
        go_wp2_with fail
        go_ret
        exact ⟨by rw [HRT.out]; rfl, rfl⟩
      · have t1 : decide ((300 : Int) < (s.size : Int)) = false := decide_eq_false (by omega)
        have t2 : decide (300 < s.size) = false := decide_eq_false hg
        go_wp2_with fail
        go_round
        case rel => exact ⟨k + 1, by go_num, by omega, fun j hj => by
          rcases Nat.lt_or_ge j k with h | h
          · exact HLE.out j h
          · obtain rfl : j = k := by omega
            rw [← HSE.out]; omega⟩
        case measure => simp [intOf]; omega
    · have i5 : ¬ (k : Int) < (n : Int) := by omega
      have HRF := Lib.hid (show r = false by
        rw [HR.out]
        unfold isGreat
        rw [List.any_eq_false]
        intro s hs
        obtain ⟨j, hj, e⟩ := List.getElem_of_mem hs
        have := HLE.out j (by rw [← HN.out] at hj; omega)
        rw [List.getElem?_eq_getElem hj] at this
        simp only [Option.getD_some, e] at this
        simp only [decide_eq_true_eq]; omega)
      go_wp2_with fail
      go_ret
      exact ⟨by rw [HRF.out]; rfl, rfl⟩
end Go.Proofs.YtnehcafmebokmaaGreatDoor

/- shown: the calls at fixed arguments. -/
namespace Go.Proofs.YtnehcafmebokmaaGreatDoor
open Go.RowKit
set_option linter.unusedVariables false

def Div3 (a : Bool) (s : ByteArray) (b : Bool) (t : ByteArray) (c : Int) (w : World) (e : Ending) (w' : World) : Prop := e = .returned (.tuple #[.agg #[.bool a, .string s], .agg #[.bool b, .string t], .int .i64 c]) ∧ Gr w w'
/-- What is to be shown of Div. -/
def DivOK : Prop := ∀ (neg : Bool) (s : ByteArray) (neg' : Bool) (s' : ByteArray) (w : World), Form neg s → Form neg' s' → zOf neg' s' ≠ 0 →
  Calls Tryz.prog 6 #[.agg #[.bool neg, .string s], .agg #[.bool neg', .string s']] w (Div3 (fNeg (zOf neg s / zOf neg' s')) (fStr (zOf neg s / zOf neg' s')) (fNeg (zOf neg s % zOf neg' s')) (fStr (zOf neg s % zOf neg' s')) 0 w)

theorem lit_R (z : Int) (h : z.natAbs < 4294967296) : z.natAbs < Ow.R := by
  rw [Ow.R_digits]
  exact Nat.lt_of_lt_of_le (show z.natAbs < 4294967296 ^ 1 by simpa using h) (Nat.pow_le_pow_right (by omega) (by omega))
theorem lit_form (z : Int) (n : Bool) (m : Nat) (h : m < 4294967296) (hn : n = decide (z < 0)) (hm : m = z.natAbs) : Form n (bstr m) := by
  subst hn hm; exact form_bstr z (lit_R z h)
theorem lit_z (z : Int) (n : Bool) (m : Nat) (hn : n = decide (z < 0)) (hm : m = z.natAbs) : zOf n (bstr m) = z := by
  subst hn hm; exact zOf_bstr z
theorem res_lit (z : Int) (n : Bool) (m : Nat) (h : m < 4294967296) (hn : n = decide (z < 0)) (hm : m = z.natAbs) : fNeg z = n ∧ fStr z = bstr m ∧ fErr z = 0 := by
  subst hn hm; exact ⟨fNeg_in (lit_R z h), fStr_in (lit_R z h), fErr_in (lit_R z h)⟩
theorem of_lit (z : Int) (n : Bool) (m : Nat) (h : m < 4294967296) (hn : n = decide (z < 0)) (hm : m = z.natAbs) (w : World) : Calls Tryz.prog 16 #[.int .i64 z] w (One n (bstr m) w) := by
  subst hn hm; exact of_any z w (by omega) (by omega)
theorem read_12 (w : World) : Calls Tryz.prog 14 #[.string ⟨#[45, 49, 50]⟩] w (Res true (bstr 12) 0 w) := by
  refine (read_any [45, 49, 50] w (by simp)).mono ?_
  have hg : Good (Lib.hasPrefix [45, 49, 50] [45]) (Lib.trimPrefix [45, 49, 50] [45]) := by
    refine ⟨by decide, ?_, by decide⟩
    intro b hb
    have hb : b ∈ [(49 : UInt8), 50] := hb
    simp only [List.mem_cons, List.not_mem_nil, or_false] at hb
    rcases hb with rfl | rfl <;> decide
  have hz : sg (Lib.hasPrefix [45, 49, 50] [45]) (Ow.dval (Lib.trimPrefix [45, 49, 50] [45])) = -12 := by decide
  rintro e w' (⟨_, h⟩ | ⟨h, _⟩)
  · obtain ⟨a, b, c⟩ := res_lit (-12) true 12 (by omega) rfl rfl
    rw [hz, a, b, c] at h
    exact h
  · exact absurd hg h
theorem text_12 (w : World) (htab : Tab w) : Calls Tryz.prog 15 #[.agg #[.bool true, .string (bstr 12)]] w fun e w' => e = .returned (.tuple #[.string ⟨#[45, 49, 50]⟩, .int .i64 0]) ∧ Gr w w' := by
  refine (text_ok true (bstr 12) w (lit_form (-12) true 12 (by omega) rfl rfl) htab).mono ?_
  rintro e w' ⟨rfl, g⟩
  rw [lit_z (-12) true 12 rfl rfl]
  refine ⟨?_, g⟩
  have e : textOf (-12) = [45, 49, 50] := by
    unfold textOf
    rw [if_pos (by omega), show (-12 : Int).natAbs = 12 from rfl, Lib.decDigits_two (by omega) (by omega)]
    rfl
  rw [e]
theorem div_lit (hdiv : DivOK) (w : World) : Calls Tryz.prog 6 #[.agg #[.bool true, .string (bstr 7)], .agg #[.bool true, .string (bstr 2)]] w (Div3 false (bstr 4) false (bstr 1) 0 w) := by
  have h := hdiv true (bstr 7) true (bstr 2) w (lit_form (-7) true 7 (by omega) rfl rfl) (lit_form (-2) true 2 (by omega) rfl rfl) (by rw [lit_z (-2) true 2 rfl rfl]; omega)
  rw [lit_z (-7) true 7 rfl rfl, lit_z (-2) true 2 rfl rfl, show (-7 : Int) / -2 = 4 from rfl, show (-7 : Int) % -2 = 1 from rfl] at h
  obtain ⟨a, b, _⟩ := res_lit 4 false 4 (by omega) rfl rfl
  obtain ⟨c, d, _⟩ := res_lit 1 false 1 (by omega) rfl rfl
  rw [a, b, c, d] at h
  exact h
theorem le_two_pow {k n : Nat} (h : 32 * n ≤ k) : 4294967296 ^ n ≤ 2 ^ k := by
  rw [show (4294967296 : Nat) = 2 ^ 32 from rfl, ← Nat.pow_mul]
  exact Nat.pow_le_pow_right (by omega) h
theorem shl_out (k : Nat) (hk : 2048 ≤ k) : ¬ ((1 : Int) * ((2 ^ k : Nat) : Int)).natAbs < Ow.R := by
  have h : Ow.R ≤ 2 ^ k := by
    rw [Ow.R_digits]
    exact le_two_pow (by omega)
  rw [Int.one_mul, Int.natAbs_natCast]
  exact Nat.not_lt.2 h
theorem shl_lit (w : World) : Calls Tryz.prog 17 #[.agg #[.bool false, .string (bstr 1)], .int .i64 2048] w (Res false ⟨#[]⟩ 7 w) := by
  have h := shl_ok false (bstr 1) 2048 w (lit_form 1 false 1 (by omega) rfl rfl) (by omega)
  rw [lit_z 1 false 1 rfl rfl] at h
  have hz := shl_out 2048 (by omega)
  rw [fNeg_out hz, fStr_out hz, fErr_out hz] at h
  exact h
theorem bal_lit (w : World) : Calls Tryz.prog 10 #[.agg #[.bool false, .string (bstr 7)], .agg #[.bool false, .string (bstr 4)]] w (Res true (bstr 1) 0 w) := by
  have h := balX_ok false (bstr 7) false (bstr 4) w (lit_form 7 false 7 (by omega) rfl rfl) ⟨lit_form 4 false 4 (by omega) rfl rfl, by rw [lit_z 4 false 4 rfl rfl]; omega⟩ (by rw [bstr_size]; have := (Ow.byt_len (n := 4) (k := 1)).1 (by omega); omega)
  rw [lit_z 7 false 7 rfl rfl, lit_z 4 false 4 rfl rfl, show bal 7 4 = -1 from rfl] at h
  obtain ⟨a, b, c⟩ := res_lit (-1) true 1 (by omega) rfl rfl
  rw [a, b, c] at h
  exact h
theorem bstr_256 : bstr 256 = ⟨#[1, 0]⟩ := by
  have h1 : Ow.byt 1 = [1] := by
    have := Ow.byt_step (M := 0) (b := 1) (by omega) (by omega)
    simpa [Ow.byt_zero] using this
  have h2 : Ow.byt 256 = [1, 0] := by
    have := Ow.byt_step (M := 1) (b := 0) (by omega) (by omega)
    rw [h1] at this
    exact this
  unfold bstr
  rw [h2]
theorem of_256 (w : World) : Calls Tryz.prog 16 #[.int .i64 (-256)] w (One true ⟨#[1, 0]⟩ w) := by
  rw [← bstr_256]; exact of_lit (-256) true 256 (by omega) rfl rfl w

set_option maxRecDepth 100000 in
set_option maxHeartbeats 4000000 in
theorem shown_of (hdiv : DivOK) (w : World) (htab : Tab w) : Calls Tryz.prog 5 #[] w (Truth w) := by
  have HT := Lib.hid htab
  have HDIV := Lib.hid hdiv
  clear htab hdiv
  go_enter Tryz.func5, Tryz.ntmps5
  go_wp2_with fail
  refine (read_12 _).mono ?_
  rintro e w1 ⟨rfl, g⟩
  have HG := Lib.hid g
  clear g
  go_wp2_with fail
  have g : Gr w1 (w1.alloc (.cells #[.bool true, .string (bstr 12)] 23)) := Gr.new _ _
  refine (text_12 _ (HT.out.later (HG.out.trans g))).mono ?_
  rintro e w2 ⟨rfl, g2⟩
  have HG := Lib.hid ((HG.out.trans g).trans g2)
  clear g g2
  go_wp2_with fail
  refine (of_lit (-7) true 7 (by omega) rfl rfl _).mono ?_
  rintro e w3 ⟨rfl, g⟩
  have HG := Lib.hid (HG.out.trans g)
  clear g
  go_wp2_with fail
  refine (of_lit (-2) true 2 (by omega) rfl rfl _).mono ?_
  rintro e w4 ⟨rfl, g⟩
  have HG := Lib.hid (HG.out.trans g)
  clear g
  go_wp2_with fail
  refine (div_lit HDIV.out _).mono ?_
  rintro e w5 ⟨rfl, g⟩
  have HG := Lib.hid (HG.out.trans g)
  clear g
  go_wp2_with fail
  have g0 : Gr w5 ((w5.alloc (.cells #[.bool false, .string (bstr 4)] 23)).alloc (.cells #[.bool false, .string (bstr 1)] 23)) := (Gr.new _ _).alloc _
  refine (of_lit (1) false 1 (by omega) rfl rfl _).mono ?_
  rintro e w6 ⟨rfl, g⟩
  have GG := g
  have g := g0.trans g
  have q0 : w6.cell? ⟨w5.heap.size, 0, none⟩ = some (.bool false) := GG.keeps (by simp [go_sem])
  have q1 : w6.cell? ⟨w5.heap.size, 1, none⟩ = some (.string (bstr 4)) := GG.keeps (by simp [go_sem])
  have r0 : w6.cell? ⟨w5.heap.size + 1, 0, none⟩ = some (.bool false) := GG.keeps (by simp [go_sem])
  have r1 : w6.cell? ⟨w5.heap.size + 1, 1, none⟩ = some (.string (bstr 1)) := GG.keeps (by simp [go_sem])
  have HG := Lib.hid (HG.out.trans g)
  clear g g0 GG
  go_wp2_with fail
  refine (shl_lit _).mono ?_
  rintro e w7 ⟨rfl, g⟩
  have q0 := g.keeps q0
  have q1 := g.keeps q1
  have r0 := g.keeps r0
  have r1 := g.keeps r1
  have HG := Lib.hid (HG.out.trans g)
  clear g
  go_wp2_with fail
  refine (of_lit (7) false 7 (by omega) rfl rfl _).mono ?_
  rintro e w8 ⟨rfl, g⟩
  have g := (Gr.new w7 (.cells #[.bool false, .string ⟨#[]⟩] 23)).trans g
  have q0 := g.keeps q0
  have q1 := g.keeps q1
  have r0 := g.keeps r0
  have r1 := g.keeps r1
  have HG := Lib.hid (HG.out.trans g)
  clear g
  go_wp2_with fail
  refine (of_lit (4) false 4 (by omega) rfl rfl _).mono ?_
  rintro e w9 ⟨rfl, g⟩
  have q0 := g.keeps q0
  have q1 := g.keeps q1
  have r0 := g.keeps r0
  have r1 := g.keeps r1
  have HG := Lib.hid (HG.out.trans g)
  clear g
  go_wp2_with fail
  refine (bal_lit _).mono ?_
  rintro e w10 ⟨rfl, g⟩
  have q0 := g.keeps q0
  have q1 := g.keeps q1
  have r0 := g.keeps r0
  have r1 := g.keeps r1
  have HG := Lib.hid (HG.out.trans g)
  clear g
  go_wp2_with fail
  have gX := Gr.new w10 (.cells #[.bool true, .string (bstr 1)] 23)
  obtain ⟨X, hX⟩ : ∃ X, X = w10.alloc (.cells #[.bool true, .string (bstr 1)] 23) := ⟨_, rfl⟩
  have p0 : X.drew.cell? ⟨w10.heap.size, 0, none⟩ = some (.bool true) := by rw [hX]; simp [go_sem]
  have p1 : X.drew.cell? ⟨w10.heap.size, 1, none⟩ = some (.string (bstr 1)) := by rw [hX]; simp [go_sem]
  rw [← hX] at gX ⊢
  have g : Gr w10 X.drew := Below.drew gX
  have q0 := g.keeps q0
  have q1 := g.keeps q1
  have r0 := g.keeps r0
  have r1 := g.keeps r1
  have HG := Lib.hid (HG.out.trans g)
  clear g gX hX
  have h4 : 4 < 4294967296 := by omega
  have h1 : 1 < 4294967296 := by omega
  go_region_held3 (fun w' => w'.cell? ⟨w5.heap.size, 0, none⟩ = some (.bool false) ∧ w'.cell? ⟨w5.heap.size, 1, none⟩ = some (.string (bstr 4)) ∧ w'.cell? ⟨w5.heap.size + 1, 0, none⟩ = some (.bool false) ∧ w'.cell? ⟨w5.heap.size + 1, 1, none⟩ = some (.string (bstr 1)) ∧ w'.cell? ⟨w10.heap.size, 0, none⟩ = some (.bool true) ∧ w'.cell? ⟨w10.heap.size, 1, none⟩ = some (.string (bstr 1))) (first | exact ⟨q0, q1, r0, r1, p0, p1⟩ | go_keep)
    (first
      | (go_at_call 16; (with_reducible refine (of_lit (4) false 4 h4 rfl rfl _).mono ?_); rintro e w' ⟨rfl, g⟩; have q0 := g.keeps q0; have q1 := g.keeps q1; have r0 := g.keeps r0; have r1 := g.keeps r1; have p0 := g.keeps p0; have p1 := g.keeps p1; have HG := Lib.hid (HG.out.trans g); clear g)
      | (go_at_call 16; (with_reducible refine (of_lit (1) false 1 h1 rfl rfl _).mono ?_); rintro e w' ⟨rfl, g⟩; have q0 := g.keeps q0; have q1 := g.keeps q1; have r0 := g.keeps r0; have r1 := g.keeps r1; have p0 := g.keeps p0; have p1 := g.keeps p1; have HG := Lib.hid (HG.out.trans g); clear g)
      | (go_at_call 16; (with_reducible refine (of_lit (-1) true 1 h1 rfl rfl _).mono ?_); rintro e w' ⟨rfl, g⟩; have q0 := g.keeps q0; have q1 := g.keeps q1; have r0 := g.keeps r0; have r1 := g.keeps r1; have p0 := g.keeps p0; have p1 := g.keeps p1; have HG := Lib.hid (HG.out.trans g); clear g)
      | (go_at_call 16; (with_reducible refine (of_256 _).mono ?_); rintro e w' ⟨rfl, g⟩; have q0 := g.keeps q0; have q1 := g.keeps q1; have r0 := g.keeps r0; have r1 := g.keeps r1; have p0 := g.keeps p0; have p1 := g.keeps p1; have HG := Lib.hid (HG.out.trans g); clear g))
  all_goals
    go_wp2_with fail
    go_ret
    exact ⟨rfl, HG.out⟩
end Go.Proofs.YtnehcafmebokmaaGreatDoor

