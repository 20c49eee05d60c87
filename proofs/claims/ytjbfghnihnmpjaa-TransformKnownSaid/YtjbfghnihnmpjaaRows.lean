/-
  No cell of these rows narrows 'for every input' (looked for: loops, veiled, ifaces, maps, wideKeys, modest, calm, conditions, laid).
  DERIVED. THE GIVEN ROWS OF THIS SEAT. 8 by the template 'for every input the law returns true; each argument reads behind the call as it read before'; 0 by the template 'total and deterministic' (their statements: YtjbfghnihnmpjaaTotals.lean).
  GIVEN WITH THE SEED: the statements are not yours to turn. If you find one false, say at which input.
  Laid BY PROGRAM, IN A SANDBOX (cutbox-rows.mjs): the forced cells as the released guide's own fill.sh prints them over the translation 845f73b59b5f7d98… (all of the seat's roots in one cut). By AI agents, Wed Nov 11 2026. No macro, syntax, notation, axiom, sorry.
-/
import Derived.Test.YtjbfghnihnmpjaaChecked
import GoSem.Claim
import GoSem.ClaimJoined
import GoSem.ClaimMapViews
import Derived.JoinedTies
import Derived.KernelRfl
namespace Go.Proofs.Ytjbfghnihnmpjaa
/- THE CELL 'sum', in the pinned program and in every row, IS THE sha256 OF THE DUMP (.gsa) THAT YtjbfghnihnmpjaaProg.lean LOADS. Nothing in Lean hashes anything: it is a label: what it is worth is what the hold of that sum in a sandbox is worth. -/
noncomputable def Try.pinned : Pinned := { name := "ytjbfghnihnmpjaa", sum := "845f73b59b5f7d98ea1b3bd04cc338f0f4401e7b2f10e29bde8823bf27c06346", checked := Try.checked }
namespace Rows
def none {H : Type} : Left H := { results := [], args := [] }

/-- 'obscuralaw06.TransformTables': WHATEVER THE INPUT: true; the input reads as it did. -/
def transformTablesSpec : ChangeSpec := { name := "transformTables", fn := fun _ => fun
  | [d1, d2] => { results := [.lit (.bool true)], args := [d1, d2] }
  | _ => none }
def transformTablesRow : OpenClaim := { program := "ytjbfghnihnmpjaa", sum := "845f73b59b5f7d98ea1b3bd04cc338f0f4401e7b2f10e29bde8823bf27c06346", func := "obscura/obscuralaw06.TransformTables", spec := "transformTables", unfollowed := true, recurses := true, apart := false }
def TransformTablesSaid : Prop := transformTablesRow.holds Try.pinned (OpenSpec.ofChange transformTablesSpec)

/-- ITS FALSE NEIGHBOUR: 'it returns false'. Refute it at one input. -/
def transformTablesWrong : ChangeSpec := { name := "transformTables", fn := fun _ => fun
  | [d1, d2] => { results := [.lit (.bool false)], args := [d1, d2] }
  | _ => none }
def TransformTablesWrongFalsely : Prop := transformTablesRow.holds Try.pinned (OpenSpec.ofChange transformTablesWrong)

/-- 'obscuralaw06.TransformMaps': WHATEVER THE INPUT: true; the input reads as it did. -/
def transformMapsSpec : ChangeSpec := { name := "transformMaps", fn := fun _ => fun
  | [d] => { results := [.lit (.bool true)], args := [d] }
  | _ => none }
def transformMapsRow : OpenClaim := { program := "ytjbfghnihnmpjaa", sum := "845f73b59b5f7d98ea1b3bd04cc338f0f4401e7b2f10e29bde8823bf27c06346", func := "obscura/obscuralaw06.TransformMaps", spec := "transformMaps", unfollowed := true, recurses := true, apart := false }
def TransformMapsSaid : Prop := transformMapsRow.holds Try.pinned (OpenSpec.ofChange transformMapsSpec)

/-- ITS FALSE NEIGHBOUR: 'it returns false'. Refute it at one input. -/
def transformMapsWrong : ChangeSpec := { name := "transformMaps", fn := fun _ => fun
  | [d] => { results := [.lit (.bool false)], args := [d] }
  | _ => none }
def TransformMapsWrongFalsely : Prop := transformMapsRow.holds Try.pinned (OpenSpec.ofChange transformMapsWrong)

/-- 'obscuralaw06.TransformMuls': WHATEVER THE INPUT: true; the input reads as it did. -/
def transformMulsSpec : ChangeSpec := { name := "transformMuls", fn := fun _ => fun
  | [d] => { results := [.lit (.bool true)], args := [d] }
  | _ => none }
def transformMulsRow : OpenClaim := { program := "ytjbfghnihnmpjaa", sum := "845f73b59b5f7d98ea1b3bd04cc338f0f4401e7b2f10e29bde8823bf27c06346", func := "obscura/obscuralaw06.TransformMuls", spec := "transformMuls", unfollowed := true, recurses := true, apart := false }
def TransformMulsSaid : Prop := transformMulsRow.holds Try.pinned (OpenSpec.ofChange transformMulsSpec)

/-- ITS FALSE NEIGHBOUR: 'it returns false'. Refute it at one input. -/
def transformMulsWrong : ChangeSpec := { name := "transformMuls", fn := fun _ => fun
  | [d] => { results := [.lit (.bool false)], args := [d] }
  | _ => none }
def TransformMulsWrongFalsely : Prop := transformMulsRow.holds Try.pinned (OpenSpec.ofChange transformMulsWrong)

/-- 'obscuralaw06.TransformNone': WHATEVER THE INPUT: true; the input reads as it did. -/
def transformNoneSpec : ChangeSpec := { name := "transformNone", fn := fun _ => fun
  | [d1, d2] => { results := [.lit (.bool true)], args := [d1, d2] }
  | _ => none }
def transformNoneRow : OpenClaim := { program := "ytjbfghnihnmpjaa", sum := "845f73b59b5f7d98ea1b3bd04cc338f0f4401e7b2f10e29bde8823bf27c06346", func := "obscura/obscuralaw06.TransformNone", spec := "transformNone", unfollowed := true, recurses := true, apart := false }
def TransformNoneSaid : Prop := transformNoneRow.holds Try.pinned (OpenSpec.ofChange transformNoneSpec)

/-- ITS FALSE NEIGHBOUR: 'it returns false'. Refute it at one input. -/
def transformNoneWrong : ChangeSpec := { name := "transformNone", fn := fun _ => fun
  | [d1, d2] => { results := [.lit (.bool false)], args := [d1, d2] }
  | _ => none }
def TransformNoneWrongFalsely : Prop := transformNoneRow.holds Try.pinned (OpenSpec.ofChange transformNoneWrong)

/-- 'obscuralaw06.TransformRound': WHATEVER THE INPUT: true; the input reads as it did. -/
def transformRoundSpec : ChangeSpec := { name := "transformRound", fn := fun _ => fun
  | [d] => { results := [.lit (.bool true)], args := [d] }
  | _ => none }
def transformRoundRow : OpenClaim := { program := "ytjbfghnihnmpjaa", sum := "845f73b59b5f7d98ea1b3bd04cc338f0f4401e7b2f10e29bde8823bf27c06346", func := "obscura/obscuralaw06.TransformRound", spec := "transformRound", unfollowed := true, recurses := true, apart := false }
def TransformRoundSaid : Prop := transformRoundRow.holds Try.pinned (OpenSpec.ofChange transformRoundSpec)

/-- ITS FALSE NEIGHBOUR: 'it returns false'. Refute it at one input. -/
def transformRoundWrong : ChangeSpec := { name := "transformRound", fn := fun _ => fun
  | [d] => { results := [.lit (.bool false)], args := [d] }
  | _ => none }
def TransformRoundWrongFalsely : Prop := transformRoundRow.holds Try.pinned (OpenSpec.ofChange transformRoundWrong)

/-- 'obscuralaw06.TransformProducts': WHATEVER THE INPUT: true; the input reads as it did. -/
def transformProductsSpec : ChangeSpec := { name := "transformProducts", fn := fun _ => fun
  | [d] => { results := [.lit (.bool true)], args := [d] }
  | _ => none }
def transformProductsRow : OpenClaim := { program := "ytjbfghnihnmpjaa", sum := "845f73b59b5f7d98ea1b3bd04cc338f0f4401e7b2f10e29bde8823bf27c06346", func := "obscura/obscuralaw06.TransformProducts", spec := "transformProducts", unfollowed := true, recurses := true, apart := false }
def TransformProductsSaid : Prop := transformProductsRow.holds Try.pinned (OpenSpec.ofChange transformProductsSpec)

/-- ITS FALSE NEIGHBOUR: 'it returns false'. Refute it at one input. -/
def transformProductsWrong : ChangeSpec := { name := "transformProducts", fn := fun _ => fun
  | [d] => { results := [.lit (.bool false)], args := [d] }
  | _ => none }
def TransformProductsWrongFalsely : Prop := transformProductsRow.holds Try.pinned (OpenSpec.ofChange transformProductsWrong)

/-- 'obscuralaw06.TransformValues': WHATEVER THE INPUT: true; the input reads as it did. -/
def transformValuesSpec : ChangeSpec := { name := "transformValues", fn := fun _ => fun
  | [d] => { results := [.lit (.bool true)], args := [d] }
  | _ => none }
def transformValuesRow : OpenClaim := { program := "ytjbfghnihnmpjaa", sum := "845f73b59b5f7d98ea1b3bd04cc338f0f4401e7b2f10e29bde8823bf27c06346", func := "obscura/obscuralaw06.TransformValues", spec := "transformValues", unfollowed := true, recurses := true, apart := false }
def TransformValuesSaid : Prop := transformValuesRow.holds Try.pinned (OpenSpec.ofChange transformValuesSpec)

/-- ITS FALSE NEIGHBOUR: 'it returns false'. Refute it at one input. -/
def transformValuesWrong : ChangeSpec := { name := "transformValues", fn := fun _ => fun
  | [d] => { results := [.lit (.bool false)], args := [d] }
  | _ => none }
def TransformValuesWrongFalsely : Prop := transformValuesRow.holds Try.pinned (OpenSpec.ofChange transformValuesWrong)

/-- 'obscuralaw06.TransformKnown': WHATEVER THE INPUT: true; the input reads as it did. -/
def transformKnownSpec : ChangeSpec := { name := "transformKnown", fn := fun _ => fun
  | [] => { results := [.lit (.bool true)], args := [] }
  | _ => none }
def transformKnownRow : OpenClaim := { program := "ytjbfghnihnmpjaa", sum := "845f73b59b5f7d98ea1b3bd04cc338f0f4401e7b2f10e29bde8823bf27c06346", func := "obscura/obscuralaw06.TransformKnown", spec := "transformKnown", unfollowed := true, recurses := true, apart := false }
def TransformKnownSaid : Prop := transformKnownRow.holds Try.pinned (OpenSpec.ofChange transformKnownSpec)

/-- ITS FALSE NEIGHBOUR: 'it returns false'. Refute it at one input. -/
def transformKnownWrong : ChangeSpec := { name := "transformKnown", fn := fun _ => fun
  | [] => { results := [.lit (.bool false)], args := [] }
  | _ => none }
def TransformKnownWrongFalsely : Prop := transformKnownRow.holds Try.pinned (OpenSpec.ofChange transformKnownWrong)

/- THE SECOND FORM. 'bulk': how many values and letters a reading holds, each counted each time it is reached (what is shared counts as often as it is met; a slice's spare places count too). A statement '..UptoSaid' is the law's where the arguments, and the package variables that the reading takes, are together of bulk at most 1048576: NARROWER than '..Said'. Prove '..Said' where nothing that the law and all that it calls make is longer than what came in: it says more and counts as full. Else prove '..UptoSaid'. A law counts once. -/
mutual
def uptoBulk {H : Type} : DataW H → Nat
  | .lit (.string bytes) => bytes.length + 1
  | .lit _ => 1
  | .nil => 1
  | .ptr d => uptoBulk d + 1
  | .slice elems spare => uptoBulkAll elems + uptoBulkAll spare + 1
  | .agg parts => uptoBulkAll parts + 1
  | .iface _ d => uptoBulk d + 1
  | .map entries => uptoBulkEntries entries + 1
  | .held _ => 1
def uptoBulkAll {H : Type} : List (DataW H) → Nat
  | [] => 0
  | d :: r => uptoBulk d + uptoBulkAll r
def uptoBulkEntries {H : Type} : List (Lit × DataW H) → Nat
  | [] => 0
  | x :: r => uptoBulkEntry x + uptoBulkEntries r
def uptoBulkEntry {H : Type} : Lit × DataW H → Nat
  | (.string bytes, d) => bytes.length + uptoBulk d + 1
  | (_, d) => uptoBulk d + 1
 end
def uptoSmall : (H : Type) → List (DataW H) → Bool := fun _ ds => decide (uptoBulkAll ds ≤ 1048576)
def OpenSpec.upto (s : _root_.Go.ChangeSpec) : _root_.Go.OpenSpec := { _root_.Go.OpenSpec.ofChange s with cond := some uptoSmall }

/-- 'obscuralaw06.TransformTables', WHERE WHAT IT READS IS OF BULK AT MOST 1048576: true; the input reads as it did. -/
def transformTablesUptoRow : OpenClaim := { program := "ytjbfghnihnmpjaa", sum := "845f73b59b5f7d98ea1b3bd04cc338f0f4401e7b2f10e29bde8823bf27c06346", func := "obscura/obscuralaw06.TransformTables", spec := "transformTables", unfollowed := true, recurses := true, apart := false, narrowed := true }
def TransformTablesUptoSaid : Prop := transformTablesUptoRow.holds Try.pinned (OpenSpec.upto transformTablesSpec)

/-- 'obscuralaw06.TransformMaps', WHERE WHAT IT READS IS OF BULK AT MOST 1048576: true; the input reads as it did. -/
def transformMapsUptoRow : OpenClaim := { program := "ytjbfghnihnmpjaa", sum := "845f73b59b5f7d98ea1b3bd04cc338f0f4401e7b2f10e29bde8823bf27c06346", func := "obscura/obscuralaw06.TransformMaps", spec := "transformMaps", unfollowed := true, recurses := true, apart := false, narrowed := true }
def TransformMapsUptoSaid : Prop := transformMapsUptoRow.holds Try.pinned (OpenSpec.upto transformMapsSpec)

/-- 'obscuralaw06.TransformMuls', WHERE WHAT IT READS IS OF BULK AT MOST 1048576: true; the input reads as it did. -/
def transformMulsUptoRow : OpenClaim := { program := "ytjbfghnihnmpjaa", sum := "845f73b59b5f7d98ea1b3bd04cc338f0f4401e7b2f10e29bde8823bf27c06346", func := "obscura/obscuralaw06.TransformMuls", spec := "transformMuls", unfollowed := true, recurses := true, apart := false, narrowed := true }
def TransformMulsUptoSaid : Prop := transformMulsUptoRow.holds Try.pinned (OpenSpec.upto transformMulsSpec)

/-- 'obscuralaw06.TransformNone', WHERE WHAT IT READS IS OF BULK AT MOST 1048576: true; the input reads as it did. -/
def transformNoneUptoRow : OpenClaim := { program := "ytjbfghnihnmpjaa", sum := "845f73b59b5f7d98ea1b3bd04cc338f0f4401e7b2f10e29bde8823bf27c06346", func := "obscura/obscuralaw06.TransformNone", spec := "transformNone", unfollowed := true, recurses := true, apart := false, narrowed := true }
def TransformNoneUptoSaid : Prop := transformNoneUptoRow.holds Try.pinned (OpenSpec.upto transformNoneSpec)

/-- 'obscuralaw06.TransformRound', WHERE WHAT IT READS IS OF BULK AT MOST 1048576: true; the input reads as it did. -/
def transformRoundUptoRow : OpenClaim := { program := "ytjbfghnihnmpjaa", sum := "845f73b59b5f7d98ea1b3bd04cc338f0f4401e7b2f10e29bde8823bf27c06346", func := "obscura/obscuralaw06.TransformRound", spec := "transformRound", unfollowed := true, recurses := true, apart := false, narrowed := true }
def TransformRoundUptoSaid : Prop := transformRoundUptoRow.holds Try.pinned (OpenSpec.upto transformRoundSpec)

/-- 'obscuralaw06.TransformProducts', WHERE WHAT IT READS IS OF BULK AT MOST 1048576: true; the input reads as it did. -/
def transformProductsUptoRow : OpenClaim := { program := "ytjbfghnihnmpjaa", sum := "845f73b59b5f7d98ea1b3bd04cc338f0f4401e7b2f10e29bde8823bf27c06346", func := "obscura/obscuralaw06.TransformProducts", spec := "transformProducts", unfollowed := true, recurses := true, apart := false, narrowed := true }
def TransformProductsUptoSaid : Prop := transformProductsUptoRow.holds Try.pinned (OpenSpec.upto transformProductsSpec)

/-- 'obscuralaw06.TransformValues', WHERE WHAT IT READS IS OF BULK AT MOST 1048576: true; the input reads as it did. -/
def transformValuesUptoRow : OpenClaim := { program := "ytjbfghnihnmpjaa", sum := "845f73b59b5f7d98ea1b3bd04cc338f0f4401e7b2f10e29bde8823bf27c06346", func := "obscura/obscuralaw06.TransformValues", spec := "transformValues", unfollowed := true, recurses := true, apart := false, narrowed := true }
def TransformValuesUptoSaid : Prop := transformValuesUptoRow.holds Try.pinned (OpenSpec.upto transformValuesSpec)

/-- 'obscuralaw06.TransformKnown', WHERE WHAT IT READS IS OF BULK AT MOST 1048576: true; the input reads as it did. -/
def transformKnownUptoRow : OpenClaim := { program := "ytjbfghnihnmpjaa", sum := "845f73b59b5f7d98ea1b3bd04cc338f0f4401e7b2f10e29bde8823bf27c06346", func := "obscura/obscuralaw06.TransformKnown", spec := "transformKnown", unfollowed := true, recurses := true, apart := false, narrowed := true }
def TransformKnownUptoSaid : Prop := transformKnownUptoRow.holds Try.pinned (OpenSpec.upto transformKnownSpec)

end Rows
end Go.Proofs.Ytjbfghnihnmpjaa
