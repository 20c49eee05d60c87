import Derived.Test.YtlfiakpmnkhcdaaGreatLQk
import Derived.Test.YtlfiakpmnkhcdaaGreatLModua
namespace Go.Proofs.YtlfiakpmnkhcdaaGreat
open Go.RowKit
set_option linter.unusedVariables false
set_option maxRecDepth 100000 in
set_option maxHeartbeats 2000000 in
theorem rmod_ok (neg : Bool) (s : ByteArray) (n : Nat) (w : World) (h : Form neg s) (hn : n < 4294967296) (h0 : n ≠ 0) :
  Calls Tryz.prog 117 #[.agg #[.bool neg, .string s], .int .u32 n] w (PairU ((resU neg (zOf neg s).natAbs n : Nat) : Int) 0 w) := by
 have HF := Lib.hid h
 have hs : s.size ≤ 256 := by rcases h with ⟨h0, _⟩ | ⟨_, h2, _⟩ <;> omega
 have d0 : ((n : Int) == 0) = false := by simp; omega
 have hn1 : 1 ≤ n := by omega
 obtain ⟨V, hV⟩ : ∃ V, V = (zOf neg s).natAbs := ⟨_, rfl⟩
 rw [← hV]
 obtain ⟨m, hm⟩ : ∃ m, m = resU neg V n := ⟨_, rfl⟩
 rw [← hm]
 have HM := Lib.hid hm
 rw [zOf_abs] at hV
 have HV := Lib.hid hV
 clear h h0 hV hm
 go_enter Tryz.func117, Tryz.ntmps117
 go_wp2_with fail
 refine (rvalid_any neg s _ (by omega)).mono ?_
 rintro e w1 ⟨r, rfl, hr, g⟩
 obtain rfl : r = true := hr.2 HF.out
 have x0 := g.keeps (p := ⟨w.heap.size, 0, none⟩) (v := .bool neg) (by simp [go_sem])
 have x1 := g.keeps (p := ⟨w.heap.size, 1, none⟩) (v := .string s) (by simp [go_sem])
 have HG := Lib.hid ((Gr.new w (.cells #[.bool neg, .string s] 50)).trans g)
 clear hr g
 go_wp2_with fail
 go_loop [6, 7] (fun t i => ∃ k : Nat, k ≤ s.size ∧ i = .int .i64 k ∧ t = .int .u64 ((Ow.mg (s.data.toList.take k) % n : Nat) : Int)) (fun _ i => s.size - (intOf i).toNat)
 case atStart => exact ⟨0, by omega, rfl, by simp [Ow.mg]⟩
 case round =>
  obtain ⟨k, hk, rfl, rfl⟩ := hrel
  by_cases hlt : k < s.size
  ·have HS := Lib.hid (show Ow.mg (s.data.toList.take (k + 1)) = Ow.mg (s.data.toList.take k) * 256 + s[k].toNat by
    rw [List.take_succ_eq_append_getElem (by simpa using hlt), Ow.mg_snoc]; rfl)
   obtain ⟨y, hy⟩ : ∃ y, y = Ow.mg (s.data.toList.take k) := ⟨_, rfl⟩
   rw [← hy] at HS ⊢
   clear hy
   obtain ⟨x, hx⟩ : ∃ x, x = y % n := ⟨_, rfl⟩
   have hxb : x < n := by rw [hx]; exact Nat.mod_lt _ (by omega)
   rw [← hx]
   have HX := Lib.hid hx
   clear hx
   have hb := s[k].toNat_lt
   have u1 : (0 : Int) ≤ ((x : Int) * 256 + (s[k].toNat : Int)) % (n : Int) := Int.emod_nonneg _ (by omega)
   have u2 : ((x : Int) * 256 + (s[k].toNat : Int)) % (n : Int) < (n : Int) := Int.emod_lt_of_pos _ (by omega)
   have HE := Lib.hid (show ((Ow.mg (s.data.toList.take (k + 1)) % n : Nat) : Int) = ((x : Int) * 256 + (s[k].toNat : Int)) % (n : Int) by
    rw [HS.out, HX.out, Int.natCast_emod, Int.natCast_add, Int.natCast_mul, Int.natCast_emod]
    rw [Int.add_emod, Int.mul_emod]
    conv => rhs; rw [Int.add_emod, Int.mul_emod, Int.emod_emod_of_dvd _ (Int.dvd_refl _)]
    rfl)
   go_wp2_with fail
   go_round
   case rel => exact ⟨k + 1, by omega, by go_num, by rw [HE.out]⟩
   case measure => simp [intOf]; omega
  ·obtain rfl : k = s.size := by omega
   rw [show s.data.toList.take s.size = s.data.toList from List.take_of_length_le (by simp), ← HV.out]
   obtain ⟨x, hx⟩ : ∃ x, x = V % n := ⟨_, rfl⟩
   have hxb : x < n := by rw [hx]; exact Nat.mod_lt _ (by omega)
   rw [← hx]
   have HRES := Lib.hid (show m = (if neg = true ∧ 0 < x then n - x else x) by rw [HM.out]; unfold resU; rw [← hx])
   clear hx
   cases neg with
   | false =>
    have HRES := Lib.hid (show m = x by rw [HRES.out, if_neg (by simp)])
    go_wp2_with fail
    go_ret2
    exact ⟨by rw [HRES.out]; rfl, HG.out⟩
   | true =>
    by_cases hp : 0 < x
    ·have HRES2 := Lib.hid (show (m : Int) = (n : Int) - (x : Int) by rw [HRES.out, if_pos ⟨rfl, hp⟩]; omega)
     have d1 : decide ((x : Int) > 0) = true := decide_eq_true (by omega)
     have d2 : decide ((0 : Int) < (x : Int)) = true := decide_eq_true (by omega)
     go_wp2_with fail
     go_ret2
     exact ⟨by rw [HRES2.out]; rfl, HG.out⟩
    ·obtain rfl : x = 0 := by omega
     have HRES := Lib.hid (show m = 0 by rw [HRES.out, if_neg (by simp)])
     go_wp2_with fail
     go_ret2
     exact ⟨by rw [HRES.out]; rfl, HG.out⟩
end Go.Proofs.YtlfiakpmnkhcdaaGreat
