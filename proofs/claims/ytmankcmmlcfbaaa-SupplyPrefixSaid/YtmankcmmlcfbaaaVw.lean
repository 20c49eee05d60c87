/- Arguments: strings, slices of acts. -/
import Derived.Test.YtmankcmmlcfbaaaVv
import Derived.ProofKit
import Derived.OpenShut
import Derived.Lib.SmallJoins
import Derived.Deep.SlicePairs
import Derived.ChangeMaps5
namespace Go.Proofs.Ytmankcmmlcfbaaa
open Go.ChangeShapes Go.WideShapes Go.ChangeAt Go.RowKit Go.Joins Go.Deep
set_option linter.unusedVariables false
set_option maxRecDepth 100000
theorem addr_flat {w : World} {a : Addr} {v : Value} (h : w.cell? (a.add 0) = some v) : ∃ g o, a = ⟨g, o, none⟩ := by
  obtain ⟨g, o, s⟩ := a
  cases s with
  | none => exact ⟨g, o, rfl⟩
  | some s =>
    have e : (⟨g, o, some s⟩ : Addr).add 0 = ⟨g, o, some s⟩ := rfl
    rw [e] at h
    simp only [World.cell?] at h
    split at h <;> simp_all
theorem open_acts {H : Type} {enc : TypeId × Value → H} {w : World} {base : Nat} {held : Bool} {r : Reach} {b0 : Nat} {v : Value} {d : DataW H} {p : List MemPlace}
    (hv : Value.okWide Try.prog w r b0 22 v) (h : DataW.Trod enc Try.prog w base (fun _ => true) held 22 v d p) : ∃ n A, HasActs w v n A := by
  obtain ⟨a, len, cap, rfl⟩ := okWide_slice Try.underlying22 hv
  obtain ⟨fuel, hf⟩ := h
  rcases open_slice Try.underlying22 hf with ⟨e, _⟩ | ⟨a', len', cap', m, n, D, Pl, e, hb, hl, hm, hmm, hx, he⟩
  · simp [Value.cells] at e
    obtain ⟨rfl, rfl, rfl⟩ := e
    exact ⟨0, fun _ => (0, 0, 0, 0), none, 0, rfl, Nat.le_refl _, by omega, fun i hi => absurd hi (by omega)⟩
  · simp [Value.cells] at e
    obtain ⟨rfl, rfl, rfl⟩ := e
    have hlm : len ≤ m := by rw [hmm]; simp; omega
    have each : ∀ i, i < len → ∃ q : Nat × Int × Int × Nat, ∃ g o, a' = ⟨g, o, none⟩ ∧ q.1 < 256 ∧ q.2.2.2 < 18446744073709551616 ∧
        w.cell? ⟨g, o + i * 4, none⟩ = some (.int .u8 (q.1 : Nat)) ∧ w.cell? ⟨g, o + i * 4 + 1, none⟩ = some (.int .i64 q.2.1) ∧ w.cell? ⟨g, o + i * 4 + 2, none⟩ = some (.int .i64 q.2.2.1) ∧ w.cell? ⟨g, o + i * 4 + 3, none⟩ = some (.int .u64 (q.2.2.2 : Nat)) := by
      intro i hi
      have h0 := he 0 (by omega)
      have hi' := he i (by omega)
      rw [show Try.prog.cellsOf 31 = 4 from by kernel_rfl] at h0 hi'
      obtain ⟨c0, z1, _⟩ := h0
      obtain ⟨_, zl, zc⟩ := World.cells?_some z1
      have q0 := zc 0 (by omega)
      rw [add_add] at q0
      have q1 : w.cell? (a'.add 0) = some (c0[0]'(by omega)) := by
        rw [List.getElem?_eq_getElem (show 0 < c0.length by omega)] at q0
        simpa using q0
      obtain ⟨g, o, rfl⟩ := addr_flat q1
      obtain ⟨cs, h1, h2⟩ := hi'
      obtain ⟨_, hlen, hcell⟩ := World.cells?_some h1
      obtain ⟨y0, y1, y2, y3, k, _, _, g0, g1, g2, g3⟩ := trod_struct4 Try.underlying31 h2
      match cs, hlen with
      | [v0, v1, v2, v3], _ =>
        have e0 := hcell 0 (by omega)
        have e1 := hcell 1 (by omega)
        have e2 := hcell 2 (by omega)
        have e3 := hcell 3 (by omega)
        rw [add_add] at e0 e1 e2 e3
        rw [addr_add rfl ⟨g, o, none⟩ rfl] at e0 e1 e2 e3
        have g0' : DataW.trod enc Try.prog w base (fun _ => true) held k 5 [v0] = some y0 := g0
        have g1' : DataW.trod enc Try.prog w base (fun _ => true) held k 3 [v1] = some y1 := g1
        have g2' : DataW.trod enc Try.prog w base (fun _ => true) held k 3 [v2] = some y2 := g2
        have g3' : DataW.trod enc Try.prog w base (fun _ => true) held k 29 [v3] = some y3 := g3
        obtain ⟨z0, k0, _, w0⟩ := DataW.trod_int Try.underlying5 g0'
        obtain ⟨z1', k1, _, w1⟩ := DataW.trod_int Try.underlying3 g1'
        obtain ⟨z2, k2, _, w2⟩ := DataW.trod_int Try.underlying3 g2'
        obtain ⟨z3, k3, _, w3⟩ := DataW.trod_int Try.underlying29 g3'
        simp only [List.cons.injEq, and_true] at k0 k1 k2 k3
        subst k0 k1 k2 k3
        have b0 := bounds_u8 w0
        have b3 := bounds_u64 w3
        obtain ⟨m0, rfl⟩ := Int.eq_ofNat_of_zero_le b0.1
        obtain ⟨m3, rfl⟩ := Int.eq_ofNat_of_zero_le b3.1
        exact ⟨(m0, z1', z2, m3), g, o, rfl, by show m0 < 256; omega, by show m3 < 18446744073709551616; omega, by simpa using e0, by simpa [Nat.add_assoc] using e1, by simpa [Nat.add_assoc] using e2, by simpa [Nat.add_assoc] using e3⟩
    obtain ⟨A, hA⟩ := choose_lt each
    unfold maxLen at hm
    refine ⟨len, A, some a', cap, rfl, hl, by omega, fun i hi => ?_⟩
    obtain ⟨g, o, e1, e2⟩ := hA i hi
    exact ⟨g, o, by rw [e1], e2⟩
theorem own : ownKnob Try.prog.godebug = none := by kernel_rfl
theorem laidOut : laidOutB Try.prog = true := by kernel_rfl
end Go.Proofs.Ytmankcmmlcfbaaa
