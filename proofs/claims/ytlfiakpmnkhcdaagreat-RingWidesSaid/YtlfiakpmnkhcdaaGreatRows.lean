/-
  No cell of these rows narrows 'for every input' (looked for: loops, veiled, ifaces, maps, wideKeys, modest, calm, conditions, laid).
  DERIVED. THE GIVEN ROWS OF THIS SEAT. 8 by the template 'for every input the law returns true; each argument reads behind the call as it read before'; 0 by the template 'total and deterministic' (their statements: YtlfiakpmnkhcdaaGreatTotals.lean).
  GIVEN WITH THE SEED: the statements are not yours to turn. If you find one false, say at which input.
  Laid BY PROGRAM, IN A SANDBOX (cutbox-rows.mjs): the forced cells as the released guide's own fill.sh prints them over the translation 7cae334939ced341… (all of the seat's roots in one cut). By AI agents, Wed Nov 11 2026. No macro, syntax, notation, axiom, sorry.
-/
import Derived.Test.YtlfiakpmnkhcdaaGreatChecked
import GoSem.Claim
import GoSem.ClaimJoined
import GoSem.ClaimMapViews
import Derived.JoinedTies
import Derived.KernelRfl
namespace Go.Proofs.YtlfiakpmnkhcdaaGreat
/- THE CELL 'sum', in the pinned program and in every row, IS THE sha256 OF THE DUMP (.gsa) THAT YtlfiakpmnkhcdaaGreatProg.lean LOADS. Nothing in Lean hashes anything: it is a label: what it is worth is what the hold of that sum in a sandbox is worth. -/
noncomputable def Tryz.pinned : Pinned := { name := "ytlfiakpmnkhcdaagreat", sum := "7cae334939ced3416403721964ae5d9a8157991ddf6a4920a7e54a39f3c6690d", checked := Tryz.checked }
namespace Rows
def none {H : Type} : Left H := { results := [], args := [] }

/-- 'obscuralaw09.RingMaps': WHATEVER THE INPUT: true; the input reads as it did. -/
def ringMapsSpec : ChangeSpec := { name := "ringMaps", fn := fun _ => fun
  | [d] => { results := [.lit (.bool true)], args := [d] }
  | _ => none }
def ringMapsRow : OpenClaim := { program := "ytlfiakpmnkhcdaagreat", sum := "7cae334939ced3416403721964ae5d9a8157991ddf6a4920a7e54a39f3c6690d", func := "obscura/obscuralaw09.RingMaps", spec := "ringMaps", unfollowed := true, recurses := true, apart := false }
def RingMapsSaid : Prop := ringMapsRow.holds Tryz.pinned (OpenSpec.ofChange ringMapsSpec)

/-- ITS FALSE NEIGHBOUR: 'it returns false'. Refute it at one input. -/
def ringMapsWrong : ChangeSpec := { name := "ringMaps", fn := fun _ => fun
  | [d] => { results := [.lit (.bool false)], args := [d] }
  | _ => none }
def RingMapsWrongFalsely : Prop := ringMapsRow.holds Tryz.pinned (OpenSpec.ofChange ringMapsWrong)

/-- 'obscuralaw09.RingSums': WHATEVER THE INPUT: true; the input reads as it did. -/
def ringSumsSpec : ChangeSpec := { name := "ringSums", fn := fun _ => fun
  | [d] => { results := [.lit (.bool true)], args := [d] }
  | _ => none }
def ringSumsRow : OpenClaim := { program := "ytlfiakpmnkhcdaagreat", sum := "7cae334939ced3416403721964ae5d9a8157991ddf6a4920a7e54a39f3c6690d", func := "obscura/obscuralaw09.RingSums", spec := "ringSums", inPlace := ["math/bits.Add64"], unfollowed := true, recurses := true, named := ["math/bits.divideError", "math/bits.overflowError"], apart := false }
def RingSumsSaid : Prop := ringSumsRow.holds Tryz.pinned (OpenSpec.ofChange ringSumsSpec)

/-- ITS FALSE NEIGHBOUR: 'it returns false'. Refute it at one input. -/
def ringSumsWrong : ChangeSpec := { name := "ringSums", fn := fun _ => fun
  | [d] => { results := [.lit (.bool false)], args := [d] }
  | _ => none }
def RingSumsWrongFalsely : Prop := ringSumsRow.holds Tryz.pinned (OpenSpec.ofChange ringSumsWrong)

/-- 'obscuralaw09.RingWides': WHATEVER THE INPUT: true; the input reads as it did. -/
def ringWidesSpec : ChangeSpec := { name := "ringWides", fn := fun _ => fun
  | [d] => { results := [.lit (.bool true)], args := [d] }
  | _ => none }
def ringWidesRow : OpenClaim := { program := "ytlfiakpmnkhcdaagreat", sum := "7cae334939ced3416403721964ae5d9a8157991ddf6a4920a7e54a39f3c6690d", func := "obscura/obscuralaw09.RingWides", spec := "ringWides", unfollowed := true, recurses := true, apart := false }
def RingWidesSaid : Prop := ringWidesRow.holds Tryz.pinned (OpenSpec.ofChange ringWidesSpec)

/-- ITS FALSE NEIGHBOUR: 'it returns false'. Refute it at one input. -/
def ringWidesWrong : ChangeSpec := { name := "ringWides", fn := fun _ => fun
  | [d] => { results := [.lit (.bool false)], args := [d] }
  | _ => none }
def RingWidesWrongFalsely : Prop := ringWidesRow.holds Tryz.pinned (OpenSpec.ofChange ringWidesWrong)

/-- 'obscuralaw09.RingLaws': WHATEVER THE INPUT: true; the input reads as it did. -/
def ringLawsSpec : ChangeSpec := { name := "ringLaws", fn := fun _ => fun
  | [d1, d2] => { results := [.lit (.bool true)], args := [d1, d2] }
  | _ => none }
def ringLawsRow : OpenClaim := { program := "ytlfiakpmnkhcdaagreat", sum := "7cae334939ced3416403721964ae5d9a8157991ddf6a4920a7e54a39f3c6690d", func := "obscura/obscuralaw09.RingLaws", spec := "ringLaws", inPlace := ["math/bits.Add64"], unfollowed := true, recurses := true, named := ["math/bits.divideError", "math/bits.overflowError"], apart := false }
def RingLawsSaid : Prop := ringLawsRow.holds Tryz.pinned (OpenSpec.ofChange ringLawsSpec)

/-- ITS FALSE NEIGHBOUR: 'it returns false'. Refute it at one input. -/
def ringLawsWrong : ChangeSpec := { name := "ringLaws", fn := fun _ => fun
  | [d1, d2] => { results := [.lit (.bool false)], args := [d1, d2] }
  | _ => none }
def RingLawsWrongFalsely : Prop := ringLawsRow.holds Tryz.pinned (OpenSpec.ofChange ringLawsWrong)

/-- 'obscuralaw09.RingAutos': WHATEVER THE INPUT: true; the input reads as it did. -/
def ringAutosSpec : ChangeSpec := { name := "ringAutos", fn := fun _ => fun
  | [d1, d2] => { results := [.lit (.bool true)], args := [d1, d2] }
  | _ => none }
def ringAutosRow : OpenClaim := { program := "ytlfiakpmnkhcdaagreat", sum := "7cae334939ced3416403721964ae5d9a8157991ddf6a4920a7e54a39f3c6690d", func := "obscura/obscuralaw09.RingAutos", spec := "ringAutos", inPlace := ["math/bits.Add64"], unfollowed := true, recurses := true, named := ["math/bits.divideError", "math/bits.overflowError"], apart := false }
def RingAutosSaid : Prop := ringAutosRow.holds Tryz.pinned (OpenSpec.ofChange ringAutosSpec)

/-- ITS FALSE NEIGHBOUR: 'it returns false'. Refute it at one input. -/
def ringAutosWrong : ChangeSpec := { name := "ringAutos", fn := fun _ => fun
  | [d1, d2] => { results := [.lit (.bool false)], args := [d1, d2] }
  | _ => none }
def RingAutosWrongFalsely : Prop := ringAutosRow.holds Tryz.pinned (OpenSpec.ofChange ringAutosWrong)

/-- 'obscuralaw09.RingRestricts': WHATEVER THE INPUT: true; the input reads as it did. -/
def ringRestrictsSpec : ChangeSpec := { name := "ringRestricts", fn := fun _ => fun
  | [d] => { results := [.lit (.bool true)], args := [d] }
  | _ => none }
def ringRestrictsRow : OpenClaim := { program := "ytlfiakpmnkhcdaagreat", sum := "7cae334939ced3416403721964ae5d9a8157991ddf6a4920a7e54a39f3c6690d", func := "obscura/obscuralaw09.RingRestricts", spec := "ringRestricts", inPlace := ["math/bits.Add64"], unfollowed := true, recurses := true, named := ["math/bits.divideError", "math/bits.overflowError"], apart := false }
def RingRestrictsSaid : Prop := ringRestrictsRow.holds Tryz.pinned (OpenSpec.ofChange ringRestrictsSpec)

/-- ITS FALSE NEIGHBOUR: 'it returns false'. Refute it at one input. -/
def ringRestrictsWrong : ChangeSpec := { name := "ringRestricts", fn := fun _ => fun
  | [d] => { results := [.lit (.bool false)], args := [d] }
  | _ => none }
def RingRestrictsWrongFalsely : Prop := ringRestrictsRow.holds Tryz.pinned (OpenSpec.ofChange ringRestrictsWrong)

/-- 'obscuralaw09.RingNorms': WHATEVER THE INPUT: true; the input reads as it did. -/
def ringNormsSpec : ChangeSpec := { name := "ringNorms", fn := fun _ => fun
  | [d] => { results := [.lit (.bool true)], args := [d] }
  | _ => none }
def ringNormsRow : OpenClaim := { program := "ytlfiakpmnkhcdaagreat", sum := "7cae334939ced3416403721964ae5d9a8157991ddf6a4920a7e54a39f3c6690d", func := "obscura/obscuralaw09.RingNorms", spec := "ringNorms", inPlace := ["math/bits.Add64"], unfollowed := true, recurses := true, named := ["math/bits.divideError", "math/bits.overflowError"], apart := false }
def RingNormsSaid : Prop := ringNormsRow.holds Tryz.pinned (OpenSpec.ofChange ringNormsSpec)

/-- ITS FALSE NEIGHBOUR: 'it returns false'. Refute it at one input. -/
def ringNormsWrong : ChangeSpec := { name := "ringNorms", fn := fun _ => fun
  | [d] => { results := [.lit (.bool false)], args := [d] }
  | _ => none }
def RingNormsWrongFalsely : Prop := ringNormsRow.holds Tryz.pinned (OpenSpec.ofChange ringNormsWrong)

/-- 'obscuralaw09.RingKnown': WHATEVER THE INPUT: true; the input reads as it did. -/
def ringKnownSpec : ChangeSpec := { name := "ringKnown", fn := fun _ => fun
  | [] => { results := [.lit (.bool true)], args := [] }
  | _ => none }
def ringKnownRow : OpenClaim := { program := "ytlfiakpmnkhcdaagreat", sum := "7cae334939ced3416403721964ae5d9a8157991ddf6a4920a7e54a39f3c6690d", func := "obscura/obscuralaw09.RingKnown", spec := "ringKnown", inPlace := ["math/bits.Add64"], unfollowed := true, recurses := true, named := ["math/bits.divideError", "math/bits.overflowError"], apart := false }
def RingKnownSaid : Prop := ringKnownRow.holds Tryz.pinned (OpenSpec.ofChange ringKnownSpec)

/-- ITS FALSE NEIGHBOUR: 'it returns false'. Refute it at one input. -/
def ringKnownWrong : ChangeSpec := { name := "ringKnown", fn := fun _ => fun
  | [] => { results := [.lit (.bool false)], args := [] }
  | _ => none }
def RingKnownWrongFalsely : Prop := ringKnownRow.holds Tryz.pinned (OpenSpec.ofChange ringKnownWrong)

/- THE SECOND FORM. 'bulk': how many values and letters a reading holds, each counted each time it is reached (what is shared counts as often as it is met; a slice's spare places count too). A statement '..UptoSaid' is the law's where the arguments, and the package variables that the reading takes, are together of bulk at most 1048576: NARROWER than '..Said'. Prove '..Said' where nothing that the law and all that it calls make is longer than what came in: it says more and counts as full. Else prove '..UptoSaid'. A law counts once. -/
mutual
def uptoBulk {H : Type} : DataW H → Nat
  | .lit (.string bytes) => bytes.length + 1
  | .lit _ => 1
  | .nil => 1
  | .ptr d => uptoBulk d + 1
  | .slice elems spare => uptoBulkAll elems + uptoBulkAll spare + 1
  | .agg parts => uptoBulkAll parts + 1
  | .iface _ d => uptoBulk d + 1
  | .map entries => uptoBulkEntries entries + 1
  | .held _ => 1
def uptoBulkAll {H : Type} : List (DataW H) → Nat
  | [] => 0
  | d :: r => uptoBulk d + uptoBulkAll r
def uptoBulkEntries {H : Type} : List (Lit × DataW H) → Nat
  | [] => 0
  | x :: r => uptoBulkEntry x + uptoBulkEntries r
def uptoBulkEntry {H : Type} : Lit × DataW H → Nat
  | (.string bytes, d) => bytes.length + uptoBulk d + 1
  | (_, d) => uptoBulk d + 1
 end
def uptoSmall : (H : Type) → List (DataW H) → Bool := fun _ ds => decide (uptoBulkAll ds ≤ 1048576)
def OpenSpec.upto (s : _root_.Go.ChangeSpec) : _root_.Go.OpenSpec := { _root_.Go.OpenSpec.ofChange s with cond := some uptoSmall }

/-- 'obscuralaw09.RingMaps', WHERE WHAT IT READS IS OF BULK AT MOST 1048576: true; the input reads as it did. -/
def ringMapsUptoRow : OpenClaim := { program := "ytlfiakpmnkhcdaagreat", sum := "7cae334939ced3416403721964ae5d9a8157991ddf6a4920a7e54a39f3c6690d", func := "obscura/obscuralaw09.RingMaps", spec := "ringMaps", unfollowed := true, recurses := true, apart := false, narrowed := true }
def RingMapsUptoSaid : Prop := ringMapsUptoRow.holds Tryz.pinned (OpenSpec.upto ringMapsSpec)

/-- 'obscuralaw09.RingSums', WHERE WHAT IT READS IS OF BULK AT MOST 1048576: true; the input reads as it did. -/
def ringSumsUptoRow : OpenClaim := { program := "ytlfiakpmnkhcdaagreat", sum := "7cae334939ced3416403721964ae5d9a8157991ddf6a4920a7e54a39f3c6690d", func := "obscura/obscuralaw09.RingSums", spec := "ringSums", inPlace := ["math/bits.Add64"], unfollowed := true, recurses := true, named := ["math/bits.divideError", "math/bits.overflowError"], apart := false, narrowed := true }
def RingSumsUptoSaid : Prop := ringSumsUptoRow.holds Tryz.pinned (OpenSpec.upto ringSumsSpec)

/-- 'obscuralaw09.RingWides', WHERE WHAT IT READS IS OF BULK AT MOST 1048576: true; the input reads as it did. -/
def ringWidesUptoRow : OpenClaim := { program := "ytlfiakpmnkhcdaagreat", sum := "7cae334939ced3416403721964ae5d9a8157991ddf6a4920a7e54a39f3c6690d", func := "obscura/obscuralaw09.RingWides", spec := "ringWides", unfollowed := true, recurses := true, apart := false, narrowed := true }
def RingWidesUptoSaid : Prop := ringWidesUptoRow.holds Tryz.pinned (OpenSpec.upto ringWidesSpec)

/-- 'obscuralaw09.RingLaws', WHERE WHAT IT READS IS OF BULK AT MOST 1048576: true; the input reads as it did. -/
def ringLawsUptoRow : OpenClaim := { program := "ytlfiakpmnkhcdaagreat", sum := "7cae334939ced3416403721964ae5d9a8157991ddf6a4920a7e54a39f3c6690d", func := "obscura/obscuralaw09.RingLaws", spec := "ringLaws", inPlace := ["math/bits.Add64"], unfollowed := true, recurses := true, named := ["math/bits.divideError", "math/bits.overflowError"], apart := false, narrowed := true }
def RingLawsUptoSaid : Prop := ringLawsUptoRow.holds Tryz.pinned (OpenSpec.upto ringLawsSpec)

/-- 'obscuralaw09.RingAutos', WHERE WHAT IT READS IS OF BULK AT MOST 1048576: true; the input reads as it did. -/
def ringAutosUptoRow : OpenClaim := { program := "ytlfiakpmnkhcdaagreat", sum := "7cae334939ced3416403721964ae5d9a8157991ddf6a4920a7e54a39f3c6690d", func := "obscura/obscuralaw09.RingAutos", spec := "ringAutos", inPlace := ["math/bits.Add64"], unfollowed := true, recurses := true, named := ["math/bits.divideError", "math/bits.overflowError"], apart := false, narrowed := true }
def RingAutosUptoSaid : Prop := ringAutosUptoRow.holds Tryz.pinned (OpenSpec.upto ringAutosSpec)

/-- 'obscuralaw09.RingRestricts', WHERE WHAT IT READS IS OF BULK AT MOST 1048576: true; the input reads as it did. -/
def ringRestrictsUptoRow : OpenClaim := { program := "ytlfiakpmnkhcdaagreat", sum := "7cae334939ced3416403721964ae5d9a8157991ddf6a4920a7e54a39f3c6690d", func := "obscura/obscuralaw09.RingRestricts", spec := "ringRestricts", inPlace := ["math/bits.Add64"], unfollowed := true, recurses := true, named := ["math/bits.divideError", "math/bits.overflowError"], apart := false, narrowed := true }
def RingRestrictsUptoSaid : Prop := ringRestrictsUptoRow.holds Tryz.pinned (OpenSpec.upto ringRestrictsSpec)

/-- 'obscuralaw09.RingNorms', WHERE WHAT IT READS IS OF BULK AT MOST 1048576: true; the input reads as it did. -/
def ringNormsUptoRow : OpenClaim := { program := "ytlfiakpmnkhcdaagreat", sum := "7cae334939ced3416403721964ae5d9a8157991ddf6a4920a7e54a39f3c6690d", func := "obscura/obscuralaw09.RingNorms", spec := "ringNorms", inPlace := ["math/bits.Add64"], unfollowed := true, recurses := true, named := ["math/bits.divideError", "math/bits.overflowError"], apart := false, narrowed := true }
def RingNormsUptoSaid : Prop := ringNormsUptoRow.holds Tryz.pinned (OpenSpec.upto ringNormsSpec)

/-- 'obscuralaw09.RingKnown', WHERE WHAT IT READS IS OF BULK AT MOST 1048576: true; the input reads as it did. -/
def ringKnownUptoRow : OpenClaim := { program := "ytlfiakpmnkhcdaagreat", sum := "7cae334939ced3416403721964ae5d9a8157991ddf6a4920a7e54a39f3c6690d", func := "obscura/obscuralaw09.RingKnown", spec := "ringKnown", inPlace := ["math/bits.Add64"], unfollowed := true, recurses := true, named := ["math/bits.divideError", "math/bits.overflowError"], apart := false, narrowed := true }
def RingKnownUptoSaid : Prop := ringKnownUptoRow.holds Tryz.pinned (OpenSpec.upto ringKnownSpec)

end Rows
end Go.Proofs.YtlfiakpmnkhcdaaGreat
