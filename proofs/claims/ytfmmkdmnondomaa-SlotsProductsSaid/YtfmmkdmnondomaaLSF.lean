import Derived.Test.YtfmmkdmnondomaaLSE
/- The reference: New, turned, Exponent, Power; the law's made. -/
namespace Os
end Os
namespace Go.Proofs.Ytfmmkdmnondomaa
open Go.RowKit
set_option linter.unusedVariables false

/-- A place that holds the reference's slots. -/
structure RSl (W : World) (U n p r x : Nat) : Prop where
  n0 : W.cell? ⟨U, 0, none⟩ = some (.int .i64 n)
  p1 : W.cell? ⟨U, 1, none⟩ = some (.int .u32 p)
  r2 : W.cell? ⟨U, 2, none⟩ = some (.int .i64 r)
  z3 : W.cell? ⟨U, 3, none⟩ = some (.int .u32 x)
theorem RSl.later {W W' : World} {U n p r x : Nat} (h : RSl W U n p r x) (g : Gr W W') : RSl W' U n p r x :=
  ⟨g.keeps h.n0, g.keeps h.p1, g.keeps h.r2, g.keeps h.z3⟩
end Go.Proofs.Ytfmmkdmnondomaa
