import Derived.Test.YtfpdemmdkiohhaaLDrg
/- The region of the reference's Balanced that changes the rest. -/
namespace Go.Proofs.Ytfpdemmdkiohhaa
open Go.RowKit
set_option linter.unusedVariables false
set_option linter.unusedSimpArgs false

/-- A place with a number of its own. -/
def TC (W0 : World) (T : Nat) (nr : Bool) (ar : Option Addr) (kr cr : Nat) (w : World) : Prop := W0.heap.size ≤ T ∧ w.cell? ⟨T, 0, none⟩ = some (.bool nr) ∧ w.cell? ⟨T, 1, none⟩ = some (.slice ar kr cr) ∧ w.frozen? ⟨T, 0, none⟩ = false ∧ w.frozen? ⟨T, 1, none⟩ = false
theorem TC.later {W0 : World} {T : Nat} {nr : Bool} {ar : Option Addr} {kr cr : Nat} {w w' : World} (h : TC W0 T nr ar kr cr w) (g : Gr w w') : TC W0 T nr ar kr cr w' :=
  ⟨h.1, g.keeps h.2.1, g.keeps h.2.2.1, g.frozen h.2.1 h.2.2.2.1, g.frozen h.2.2.1 h.2.2.2.2⟩
def KeepC (W : World) (T : Nat) (w' : World) : Prop := ∀ p : Addr, p.block ≠ T → ∀ v, W.cell? p = some v → W.frozen? p = false → w'.cell? p = some v ∧ w'.frozen? p = false
theorem KeepC.later {W : World} {T : Nat} {w w' : World} (h : KeepC W T w) (g : Gr w w') : KeepC W T w' := fun p hp v h1 h2 => ⟨g.keeps (h p hp v h1 h2).1, g.frozen (h p hp v h1 h2).1 (h p hp v h1 h2).2⟩
theorem KeepC.set {W : World} {T : Nat} {w : World} (h : KeepC W T w) (o : Nat) (u : Value) : KeepC W T (w.setCell ⟨T, o, none⟩ u) := fun p hp v h1 h2 =>
  ⟨(cell_other (fun e => hp (congrArg Addr.block e).symm) u).trans (h p hp v h1 h2).1, (frozen_set _ _ _ _).trans (h p hp v h1 h2).2⟩
end Go.Proofs.Ytfpdemmdkiohhaa
