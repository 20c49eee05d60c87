import Derived.Test.YtfpdemmdkiohhaaGreatLWI
import Derived.Test.YtfpdemmdkiohhaaGreatLWQ
import Derived.Test.YtfpdemmdkiohhaaGreatLModua
import Derived.Test.YtfpdemmdkiohhaaGreatLWG
/- The region of Div that draws its order. -/
namespace Go.Proofs.YtfpdemmdkiohhaaGreat
open Go.RowKit
set_option linter.unusedVariables false
set_option linter.unusedSimpArgs false

theorem chain_any {P : Program} {md : Region.Mode} {ops : Array Oper} {Q : Exit → Act → World → Prop} {S : World → Prop} {f0 : Nat} {l0 : Array Bool} {a0 : Act} {w0 : World}
    (h : ∀ G : Nat → Array Bool → Act → World → Prop, (∀ f l a w, G f l a w → wpAnyH P md ops Q S f l a w) → (∀ f l a w, wpAnyH P md ops Q S f l a w → G f l a w) → wpAnyH P md ops Q S f0 l0 a0 w0) :
    wpAnyH P md ops Q S f0 l0 a0 w0 := h _ (fun _ _ _ _ h => h) (fun _ _ _ _ h => h)
/-- A place that was made after W, still empty. -/
def Fresh (W w : World) (B : Nat) : Prop := W.heap.size ≤ B ∧ w.cell? ⟨B, 0, none⟩ = some (.bool false) ∧ w.cell? ⟨B, 1, none⟩ = some (.slice none 0 0) ∧ w.frozen? ⟨B, 0, none⟩ = false ∧ w.frozen? ⟨B, 1, none⟩ = false
theorem Fresh.later {W w w' : World} {B : Nat} (h : Fresh W w B) (g : Gr w w') : Fresh W w' B :=
  ⟨h.1, g.keeps h.2.1, g.keeps h.2.2.1, g.frozen h.2.1 h.2.2.2.1, g.frozen h.2.2.1 h.2.2.2.2⟩
theorem Fresh.new {W w : World} (h : Gr W w) (t : TypeId) : Fresh W (w.alloc (.cells #[.bool false, .slice none 0 0] t)) w.heap.size :=
  ⟨h.size, (two_cells _ _ _ _).1, (two_cells _ _ _ _).2, froz0 _ _ _ _, froz1 _ _ _ _⟩
theorem Fresh.ne {W w : World} {B : Nat} (h : Fresh W w B) : ¬ (w.heap.size = B) := fun e => ne_of_cell h.2.1 e.symm
theorem HasI.set2 {N : Nat} {W : World} {v : Value} {z : Int} {B : Nat} {b : Bool} {u w : Value} (h : HasI N W v z) (h0 : W.cell? ⟨B, 0, none⟩ = some (.bool b)) (h1 : W.cell? ⟨B, 1, none⟩ = some (.slice none 0 0)) :
    HasI N ((W.setCell ⟨B, 0, none⟩ u).setCell ⟨B, 1, none⟩ w) v z := (h.set h0 (by simp) u).set ((cell_other (by simp) u).trans h1) (by simp) w
theorem Gr.drewOne {a b : World} (h : Gr a b) : Gr a b.drew := Below.drew h
end Go.Proofs.YtfpdemmdkiohhaaGreat
/- Mod, both sides. -/
namespace Go.Proofs.YtfpdemmdkiohhaaGreat
open Go.RowKit
set_option linter.unusedVariables false

set_option maxRecDepth 100000 in
set_option maxHeartbeats 2000000 in
theorem rmod_ok (neg : Bool) (s : ByteArray) (n : Nat) (w : World) (h : Form neg s) (hn : n < 4294967296) (h0 : n ≠ 0) :
    Calls Tryz.prog 30 #[.agg #[.bool neg, .string s], .int .u32 n] w (PairU ((resU neg (zOf neg s).natAbs n : Nat) : Int) 0 w) := by
  have HF := Lib.hid h
  have hs : s.size ≤ 256 := by rcases h with ⟨h0, _⟩ | ⟨_, h2, _⟩ <;> omega
  have d0 : ((n : Int) == 0) = false := by simp; omega
  have hn1 : 1 ≤ n := by omega
  obtain ⟨V, hV⟩ : ∃ V, V = (zOf neg s).natAbs := ⟨_, rfl⟩
  rw [← hV]
  obtain ⟨m, hm⟩ : ∃ m, m = resU neg V n := ⟨_, rfl⟩
  rw [← hm]
  have HM := Lib.hid hm
  rw [zOf_abs] at hV
  have HV := Lib.hid hV
  clear h h0 hV hm
  go_enter Tryz.func30, Tryz.ntmps30
  go_wp2_with fail
  refine (rvalid_any neg s _ (by omega)).mono ?_
  rintro e w1 ⟨r, rfl, hr, g⟩
  obtain rfl : r = true := hr.2 HF.out
  have x0 := g.keeps (p := ⟨w.heap.size, 0, none⟩) (v := .bool neg) (by simp [go_sem])
  have x1 := g.keeps (p := ⟨w.heap.size, 1, none⟩) (v := .string s) (by simp [go_sem])
  have HG := Lib.hid ((Gr.new w (.cells #[.bool neg, .string s] 24)).trans g)
  clear hr g
  go_wp2_with fail
  go_loop [6, 7] (fun t i => ∃ k : Nat, k ≤ s.size ∧ i = .int .i64 k ∧ t = .int .u64 ((Ow.mg (s.data.toList.take k) % n : Nat) : Int)) (fun _ i => s.size - (intOf i).toNat)
  case atStart => exact ⟨0, by omega, rfl, by simp [Ow.mg]⟩
  case round =>
    obtain ⟨k, hk, rfl, rfl⟩ := hrel
    by_cases hlt : k < s.size
    · have HS := Lib.hid (show Ow.mg (s.data.toList.take (k + 1)) = Ow.mg (s.data.toList.take k) * 256 + s[k].toNat by
        rw [List.take_succ_eq_append_getElem (by simpa using hlt), Ow.mg_snoc]; rfl)
      obtain ⟨y, hy⟩ : ∃ y, y = Ow.mg (s.data.toList.take k) := ⟨_, rfl⟩
      rw [← hy] at HS ⊢
      clear hy
      obtain ⟨x, hx⟩ : ∃ x, x = y % n := ⟨_, rfl⟩
      have hxb : x < n := by rw [hx]; exact Nat.mod_lt _ (by omega)
      rw [← hx]
      have HX := Lib.hid hx
      clear hx
      have hb := s[k].toNat_lt
      have u1 : (0 : Int) ≤ ((x : Int) * 256 + (s[k].toNat : Int)) % (n : Int) := Int.emod_nonneg _ (by omega)
      have u2 : ((x : Int) * 256 + (s[k].toNat : Int)) % (n : Int) < (n : Int) := Int.emod_lt_of_pos _ (by omega)
      have HE := Lib.hid (show ((Ow.mg (s.data.toList.take (k + 1)) % n : Nat) : Int) = ((x : Int) * 256 + (s[k].toNat : Int)) % (n : Int) by
        rw [HS.out, HX.out, Int.natCast_emod, Int.natCast_add, Int.natCast_mul, Int.natCast_emod]
        rw [Int.add_emod, Int.mul_emod]
        conv => rhs; rw [Int.add_emod, Int.mul_emod, Int.emod_emod_of_dvd _ (Int.dvd_refl _)]
        rfl)
      go_wp2_with fail
      go_round
      case rel => exact ⟨k + 1, by omega, by go_num, by rw [HE.out]⟩
      case measure => simp [intOf]; omega
    · obtain rfl : k = s.size := by omega
      rw [show s.data.toList.take s.size = s.data.toList from List.take_of_length_le (by simp), ← HV.out]
      obtain ⟨x, hx⟩ : ∃ x, x = V % n := ⟨_, rfl⟩
      have hxb : x < n := by rw [hx]; exact Nat.mod_lt _ (by omega)
      rw [← hx]
      have HRES := Lib.hid (show m = (if neg = true ∧ 0 < x then n - x else x) by rw [HM.out]; unfold resU; rw [← hx])
      clear hx
      cases neg with
      | false =>
        have HRES := Lib.hid (show m = x by rw [HRES.out, if_neg (by simp)])
        go_wp2_with fail
        go_ret2
        exact ⟨by rw [HRES.out]; rfl, HG.out⟩
      | true =>
        by_cases hp : 0 < x
        · have HRES2 := Lib.hid (show (m : Int) = (n : Int) - (x : Int) by rw [HRES.out, if_pos ⟨rfl, hp⟩]; omega)
          have d1 : decide ((x : Int) > 0) = true := decide_eq_true (by omega)
          have d2 : decide ((0 : Int) < (x : Int)) = true := decide_eq_true (by omega)
          go_wp2_with fail
          go_ret2
          exact ⟨by rw [HRES2.out]; rfl, HG.out⟩
        · obtain rfl : x = 0 := by omega
          have HRES := Lib.hid (show m = 0 by rw [HRES.out, if_neg (by simp)])
          go_wp2_with fail
          go_ret2
          exact ⟨by rw [HRES.out]; rfl, HG.out⟩
end Go.Proofs.YtfpdemmdkiohhaaGreat
namespace Go.Proofs.YtfpdemmdkiohhaaGreat
def Div3 (a : Bool) (s : ByteArray) (b : Bool) (t : ByteArray) (c : Int) (w : World) (e : Ending) (w' : World) : Prop := e = .returned (.tuple #[.agg #[.bool a, .string s], .agg #[.bool b, .string t], .int .i64 c]) ∧ Gr w w'
end Go.Proofs.YtfpdemmdkiohhaaGreat
/- The program: Round's exported part, Div's invalid case. -/
namespace Go.Proofs.YtfpdemmdkiohhaaGreat
open Go.RowKit
set_option linter.unusedVariables false

end Go.Proofs.YtfpdemmdkiohhaaGreat
/- The program: nearest, Round. -/
namespace Go.Proofs.YtfpdemmdkiohhaaGreat
open Go.RowKit
set_option linter.unusedVariables false

theorem HasI.fields {N : Nat} {W : World} {b : Bool} {s : Value} {z : Int} (h : HasI N W (.agg #[.bool b, s]) z) : b = decide (z < 0) ∧ ∃ l, HasD W s l ∧ Ow.Nm l ∧ Ow.val l = z.natAbs ∧ l.length ≤ N := by
  obtain ⟨s', l, e, h⟩ := h
  simp only [Value.agg.injEq, Array.mk.injEq, List.cons.injEq, Value.bool.injEq, and_true] at e
  obtain ⟨rfl, rfl⟩ := e
  exact ⟨rfl, l, h⟩
end Go.Proofs.YtfpdemmdkiohhaaGreat
