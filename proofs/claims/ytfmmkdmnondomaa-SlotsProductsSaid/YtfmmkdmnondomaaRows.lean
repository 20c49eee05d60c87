/-
  No cell of these rows narrows 'for every input' (looked for: loops, veiled, ifaces, maps, wideKeys, modest, calm, conditions, laid).
  DERIVED. THE GIVEN ROWS OF THIS SEAT. 9 by the template 'for every input the law returns true; each argument reads behind the call as it read before'; 0 by the template 'total and deterministic' (their statements: YtfmmkdmnondomaaTotals.lean).
  GIVEN WITH THE SEED: the statements are not yours to turn. If you find one false, say at which input.
  Laid BY PROGRAM, IN A SANDBOX (cutbox-rows.mjs): the forced cells as the released guide's own fill.sh prints them over the translation 181e07f20e02c24f… (all of the seat's roots in one cut). By AI agents, Wed Nov 11 2026. No macro, syntax, notation, axiom, sorry.
-/
import Derived.Test.YtfmmkdmnondomaaChecked
import GoSem.Claim
import GoSem.ClaimJoined
import GoSem.ClaimMapViews
import Derived.JoinedTies
import Derived.KernelRfl
namespace Go.Proofs.Ytfmmkdmnondomaa
/- THE CELL 'sum', in the pinned program and in every row, IS THE sha256 OF THE DUMP (.gsa) THAT YtfmmkdmnondomaaProg.lean LOADS. Nothing in Lean hashes anything: it is a label: what it is worth is what the hold of that sum in a sandbox is worth. -/
noncomputable def Try.pinned : Pinned := { name := "ytfmmkdmnondomaa", sum := "181e07f20e02c24f03af00d17cd1dd02c315f05bcabc469587bd1bc853d7ad94", checked := Try.checked }
namespace Rows
def none {H : Type} : Left H := { results := [], args := [] }

/-- 'obscuralaw08.SlotsCodes': WHATEVER THE INPUT: true; the input reads as it did. -/
def slotsCodesSpec : ChangeSpec := { name := "slotsCodes", fn := fun _ => fun
  | [d] => { results := [.lit (.bool true)], args := [d] }
  | _ => none }
def slotsCodesRow : OpenClaim := { program := "ytfmmkdmnondomaa", sum := "181e07f20e02c24f03af00d17cd1dd02c315f05bcabc469587bd1bc853d7ad94", func := "obscura/obscuralaw08.SlotsCodes", spec := "slotsCodes", unfollowed := true, recurses := true, apart := false }
def SlotsCodesSaid : Prop := slotsCodesRow.holds Try.pinned (OpenSpec.ofChange slotsCodesSpec)

/-- ITS FALSE NEIGHBOUR: 'it returns false'. Refute it at one input. -/
def slotsCodesWrong : ChangeSpec := { name := "slotsCodes", fn := fun _ => fun
  | [d] => { results := [.lit (.bool false)], args := [d] }
  | _ => none }
def SlotsCodesWrongFalsely : Prop := slotsCodesRow.holds Try.pinned (OpenSpec.ofChange slotsCodesWrong)

/-- 'obscuralaw08.SlotsMoves': WHATEVER THE INPUT: true; the input reads as it did. -/
def slotsMovesSpec : ChangeSpec := { name := "slotsMoves", fn := fun _ => fun
  | [d1, d2, d3] => { results := [.lit (.bool true)], args := [d1, d2, d3] }
  | _ => none }
def slotsMovesRow : OpenClaim := { program := "ytfmmkdmnondomaa", sum := "181e07f20e02c24f03af00d17cd1dd02c315f05bcabc469587bd1bc853d7ad94", func := "obscura/obscuralaw08.SlotsMoves", spec := "slotsMoves", unfollowed := true, recurses := true, apart := false }
def SlotsMovesSaid : Prop := slotsMovesRow.holds Try.pinned (OpenSpec.ofChange slotsMovesSpec)

/-- ITS FALSE NEIGHBOUR: 'it returns false'. Refute it at one input. -/
def slotsMovesWrong : ChangeSpec := { name := "slotsMoves", fn := fun _ => fun
  | [d1, d2, d3] => { results := [.lit (.bool false)], args := [d1, d2, d3] }
  | _ => none }
def SlotsMovesWrongFalsely : Prop := slotsMovesRow.holds Try.pinned (OpenSpec.ofChange slotsMovesWrong)

/-- 'obscuralaw08.SlotsNone': WHATEVER THE INPUT: true; the input reads as it did. -/
def slotsNoneSpec : ChangeSpec := { name := "slotsNone", fn := fun _ => fun
  | [d1, d2] => { results := [.lit (.bool true)], args := [d1, d2] }
  | _ => none }
def slotsNoneRow : OpenClaim := { program := "ytfmmkdmnondomaa", sum := "181e07f20e02c24f03af00d17cd1dd02c315f05bcabc469587bd1bc853d7ad94", func := "obscura/obscuralaw08.SlotsNone", spec := "slotsNone", unfollowed := true, recurses := true, apart := false }
def SlotsNoneSaid : Prop := slotsNoneRow.holds Try.pinned (OpenSpec.ofChange slotsNoneSpec)

/-- ITS FALSE NEIGHBOUR: 'it returns false'. Refute it at one input. -/
def slotsNoneWrong : ChangeSpec := { name := "slotsNone", fn := fun _ => fun
  | [d1, d2] => { results := [.lit (.bool false)], args := [d1, d2] }
  | _ => none }
def SlotsNoneWrongFalsely : Prop := slotsNoneRow.holds Try.pinned (OpenSpec.ofChange slotsNoneWrong)

/-- 'obscuralaw08.SlotsRound': WHATEVER THE INPUT: true; the input reads as it did. -/
def slotsRoundSpec : ChangeSpec := { name := "slotsRound", fn := fun _ => fun
  | [d] => { results := [.lit (.bool true)], args := [d] }
  | _ => none }
def slotsRoundRow : OpenClaim := { program := "ytfmmkdmnondomaa", sum := "181e07f20e02c24f03af00d17cd1dd02c315f05bcabc469587bd1bc853d7ad94", func := "obscura/obscuralaw08.SlotsRound", spec := "slotsRound", unfollowed := true, recurses := true, apart := false }
def SlotsRoundSaid : Prop := slotsRoundRow.holds Try.pinned (OpenSpec.ofChange slotsRoundSpec)

/-- ITS FALSE NEIGHBOUR: 'it returns false'. Refute it at one input. -/
def slotsRoundWrong : ChangeSpec := { name := "slotsRound", fn := fun _ => fun
  | [d] => { results := [.lit (.bool false)], args := [d] }
  | _ => none }
def SlotsRoundWrongFalsely : Prop := slotsRoundRow.holds Try.pinned (OpenSpec.ofChange slotsRoundWrong)

/-- 'obscuralaw08.SlotsProducts': WHATEVER THE INPUT: true; the input reads as it did. -/
def slotsProductsSpec : ChangeSpec := { name := "slotsProducts", fn := fun _ => fun
  | [d] => { results := [.lit (.bool true)], args := [d] }
  | _ => none }
def slotsProductsRow : OpenClaim := { program := "ytfmmkdmnondomaa", sum := "181e07f20e02c24f03af00d17cd1dd02c315f05bcabc469587bd1bc853d7ad94", func := "obscura/obscuralaw08.SlotsProducts", spec := "slotsProducts", unfollowed := true, recurses := true, apart := false }
def SlotsProductsSaid : Prop := slotsProductsRow.holds Try.pinned (OpenSpec.ofChange slotsProductsSpec)

/-- ITS FALSE NEIGHBOUR: 'it returns false'. Refute it at one input. -/
def slotsProductsWrong : ChangeSpec := { name := "slotsProducts", fn := fun _ => fun
  | [d] => { results := [.lit (.bool false)], args := [d] }
  | _ => none }
def SlotsProductsWrongFalsely : Prop := slotsProductsRow.holds Try.pinned (OpenSpec.ofChange slotsProductsWrong)

/-- 'obscuralaw08.SlotsTurns': WHATEVER THE INPUT: true; the input reads as it did. -/
def slotsTurnsSpec : ChangeSpec := { name := "slotsTurns", fn := fun _ => fun
  | [d1, d2, d3] => { results := [.lit (.bool true)], args := [d1, d2, d3] }
  | _ => none }
def slotsTurnsRow : OpenClaim := { program := "ytfmmkdmnondomaa", sum := "181e07f20e02c24f03af00d17cd1dd02c315f05bcabc469587bd1bc853d7ad94", func := "obscura/obscuralaw08.SlotsTurns", spec := "slotsTurns", unfollowed := true, recurses := true, apart := false }
def SlotsTurnsSaid : Prop := slotsTurnsRow.holds Try.pinned (OpenSpec.ofChange slotsTurnsSpec)

/-- ITS FALSE NEIGHBOUR: 'it returns false'. Refute it at one input. -/
def slotsTurnsWrong : ChangeSpec := { name := "slotsTurns", fn := fun _ => fun
  | [d1, d2, d3] => { results := [.lit (.bool false)], args := [d1, d2, d3] }
  | _ => none }
def SlotsTurnsWrongFalsely : Prop := slotsTurnsRow.holds Try.pinned (OpenSpec.ofChange slotsTurnsWrong)

/-- 'obscuralaw08.SlotsTwice': WHATEVER THE INPUT: true; the input reads as it did. -/
def slotsTwiceSpec : ChangeSpec := { name := "slotsTwice", fn := fun _ => fun
  | [d1, d2, d3] => { results := [.lit (.bool true)], args := [d1, d2, d3] }
  | _ => none }
def slotsTwiceRow : OpenClaim := { program := "ytfmmkdmnondomaa", sum := "181e07f20e02c24f03af00d17cd1dd02c315f05bcabc469587bd1bc853d7ad94", func := "obscura/obscuralaw08.SlotsTwice", spec := "slotsTwice", unfollowed := true, recurses := true, apart := false }
def SlotsTwiceSaid : Prop := slotsTwiceRow.holds Try.pinned (OpenSpec.ofChange slotsTwiceSpec)

/-- ITS FALSE NEIGHBOUR: 'it returns false'. Refute it at one input. -/
def slotsTwiceWrong : ChangeSpec := { name := "slotsTwice", fn := fun _ => fun
  | [d1, d2, d3] => { results := [.lit (.bool false)], args := [d1, d2, d3] }
  | _ => none }
def SlotsTwiceWrongFalsely : Prop := slotsTwiceRow.holds Try.pinned (OpenSpec.ofChange slotsTwiceWrong)

/-- 'obscuralaw08.SlotsLower': WHATEVER THE INPUT: true; the input reads as it did. -/
def slotsLowerSpec : ChangeSpec := { name := "slotsLower", fn := fun _ => fun
  | [d1, d2] => { results := [.lit (.bool true)], args := [d1, d2] }
  | _ => none }
def slotsLowerRow : OpenClaim := { program := "ytfmmkdmnondomaa", sum := "181e07f20e02c24f03af00d17cd1dd02c315f05bcabc469587bd1bc853d7ad94", func := "obscura/obscuralaw08.SlotsLower", spec := "slotsLower", unfollowed := true, recurses := true, apart := false }
def SlotsLowerSaid : Prop := slotsLowerRow.holds Try.pinned (OpenSpec.ofChange slotsLowerSpec)

/-- ITS FALSE NEIGHBOUR: 'it returns false'. Refute it at one input. -/
def slotsLowerWrong : ChangeSpec := { name := "slotsLower", fn := fun _ => fun
  | [d1, d2] => { results := [.lit (.bool false)], args := [d1, d2] }
  | _ => none }
def SlotsLowerWrongFalsely : Prop := slotsLowerRow.holds Try.pinned (OpenSpec.ofChange slotsLowerWrong)

/-- 'obscuralaw08.SlotsKnown': WHATEVER THE INPUT: true; the input reads as it did. -/
def slotsKnownSpec : ChangeSpec := { name := "slotsKnown", fn := fun _ => fun
  | [] => { results := [.lit (.bool true)], args := [] }
  | _ => none }
def slotsKnownRow : OpenClaim := { program := "ytfmmkdmnondomaa", sum := "181e07f20e02c24f03af00d17cd1dd02c315f05bcabc469587bd1bc853d7ad94", func := "obscura/obscuralaw08.SlotsKnown", spec := "slotsKnown", unfollowed := true, recurses := true, apart := false }
def SlotsKnownSaid : Prop := slotsKnownRow.holds Try.pinned (OpenSpec.ofChange slotsKnownSpec)

/-- ITS FALSE NEIGHBOUR: 'it returns false'. Refute it at one input. -/
def slotsKnownWrong : ChangeSpec := { name := "slotsKnown", fn := fun _ => fun
  | [] => { results := [.lit (.bool false)], args := [] }
  | _ => none }
def SlotsKnownWrongFalsely : Prop := slotsKnownRow.holds Try.pinned (OpenSpec.ofChange slotsKnownWrong)

/- THE SECOND FORM. 'bulk': how many values and letters a reading holds, each counted each time it is reached (what is shared counts as often as it is met; a slice's spare places count too). A statement '..UptoSaid' is the law's where the arguments, and the package variables that the reading takes, are together of bulk at most 1048576: NARROWER than '..Said'. Prove '..Said' where nothing that the law and all that it calls make is longer than what came in: it says more and counts as full. Else prove '..UptoSaid'. A law counts once. -/
mutual
def uptoBulk {H : Type} : DataW H → Nat
  | .lit (.string bytes) => bytes.length + 1
  | .lit _ => 1
  | .nil => 1
  | .ptr d => uptoBulk d + 1
  | .slice elems spare => uptoBulkAll elems + uptoBulkAll spare + 1
  | .agg parts => uptoBulkAll parts + 1
  | .iface _ d => uptoBulk d + 1
  | .map entries => uptoBulkEntries entries + 1
  | .held _ => 1
def uptoBulkAll {H : Type} : List (DataW H) → Nat
  | [] => 0
  | d :: r => uptoBulk d + uptoBulkAll r
def uptoBulkEntries {H : Type} : List (Lit × DataW H) → Nat
  | [] => 0
  | x :: r => uptoBulkEntry x + uptoBulkEntries r
def uptoBulkEntry {H : Type} : Lit × DataW H → Nat
  | (.string bytes, d) => bytes.length + uptoBulk d + 1
  | (_, d) => uptoBulk d + 1
 end
def uptoSmall : (H : Type) → List (DataW H) → Bool := fun _ ds => decide (uptoBulkAll ds ≤ 1048576)
def OpenSpec.upto (s : _root_.Go.ChangeSpec) : _root_.Go.OpenSpec := { _root_.Go.OpenSpec.ofChange s with cond := some uptoSmall }

/-- 'obscuralaw08.SlotsCodes', WHERE WHAT IT READS IS OF BULK AT MOST 1048576: true; the input reads as it did. -/
def slotsCodesUptoRow : OpenClaim := { program := "ytfmmkdmnondomaa", sum := "181e07f20e02c24f03af00d17cd1dd02c315f05bcabc469587bd1bc853d7ad94", func := "obscura/obscuralaw08.SlotsCodes", spec := "slotsCodes", unfollowed := true, recurses := true, apart := false, narrowed := true }
def SlotsCodesUptoSaid : Prop := slotsCodesUptoRow.holds Try.pinned (OpenSpec.upto slotsCodesSpec)

/-- 'obscuralaw08.SlotsMoves', WHERE WHAT IT READS IS OF BULK AT MOST 1048576: true; the input reads as it did. -/
def slotsMovesUptoRow : OpenClaim := { program := "ytfmmkdmnondomaa", sum := "181e07f20e02c24f03af00d17cd1dd02c315f05bcabc469587bd1bc853d7ad94", func := "obscura/obscuralaw08.SlotsMoves", spec := "slotsMoves", unfollowed := true, recurses := true, apart := false, narrowed := true }
def SlotsMovesUptoSaid : Prop := slotsMovesUptoRow.holds Try.pinned (OpenSpec.upto slotsMovesSpec)

/-- 'obscuralaw08.SlotsNone', WHERE WHAT IT READS IS OF BULK AT MOST 1048576: true; the input reads as it did. -/
def slotsNoneUptoRow : OpenClaim := { program := "ytfmmkdmnondomaa", sum := "181e07f20e02c24f03af00d17cd1dd02c315f05bcabc469587bd1bc853d7ad94", func := "obscura/obscuralaw08.SlotsNone", spec := "slotsNone", unfollowed := true, recurses := true, apart := false, narrowed := true }
def SlotsNoneUptoSaid : Prop := slotsNoneUptoRow.holds Try.pinned (OpenSpec.upto slotsNoneSpec)

/-- 'obscuralaw08.SlotsRound', WHERE WHAT IT READS IS OF BULK AT MOST 1048576: true; the input reads as it did. -/
def slotsRoundUptoRow : OpenClaim := { program := "ytfmmkdmnondomaa", sum := "181e07f20e02c24f03af00d17cd1dd02c315f05bcabc469587bd1bc853d7ad94", func := "obscura/obscuralaw08.SlotsRound", spec := "slotsRound", unfollowed := true, recurses := true, apart := false, narrowed := true }
def SlotsRoundUptoSaid : Prop := slotsRoundUptoRow.holds Try.pinned (OpenSpec.upto slotsRoundSpec)

/-- 'obscuralaw08.SlotsProducts', WHERE WHAT IT READS IS OF BULK AT MOST 1048576: true; the input reads as it did. -/
def slotsProductsUptoRow : OpenClaim := { program := "ytfmmkdmnondomaa", sum := "181e07f20e02c24f03af00d17cd1dd02c315f05bcabc469587bd1bc853d7ad94", func := "obscura/obscuralaw08.SlotsProducts", spec := "slotsProducts", unfollowed := true, recurses := true, apart := false, narrowed := true }
def SlotsProductsUptoSaid : Prop := slotsProductsUptoRow.holds Try.pinned (OpenSpec.upto slotsProductsSpec)

/-- 'obscuralaw08.SlotsTurns', WHERE WHAT IT READS IS OF BULK AT MOST 1048576: true; the input reads as it did. -/
def slotsTurnsUptoRow : OpenClaim := { program := "ytfmmkdmnondomaa", sum := "181e07f20e02c24f03af00d17cd1dd02c315f05bcabc469587bd1bc853d7ad94", func := "obscura/obscuralaw08.SlotsTurns", spec := "slotsTurns", unfollowed := true, recurses := true, apart := false, narrowed := true }
def SlotsTurnsUptoSaid : Prop := slotsTurnsUptoRow.holds Try.pinned (OpenSpec.upto slotsTurnsSpec)

/-- 'obscuralaw08.SlotsTwice', WHERE WHAT IT READS IS OF BULK AT MOST 1048576: true; the input reads as it did. -/
def slotsTwiceUptoRow : OpenClaim := { program := "ytfmmkdmnondomaa", sum := "181e07f20e02c24f03af00d17cd1dd02c315f05bcabc469587bd1bc853d7ad94", func := "obscura/obscuralaw08.SlotsTwice", spec := "slotsTwice", unfollowed := true, recurses := true, apart := false, narrowed := true }
def SlotsTwiceUptoSaid : Prop := slotsTwiceUptoRow.holds Try.pinned (OpenSpec.upto slotsTwiceSpec)

/-- 'obscuralaw08.SlotsLower', WHERE WHAT IT READS IS OF BULK AT MOST 1048576: true; the input reads as it did. -/
def slotsLowerUptoRow : OpenClaim := { program := "ytfmmkdmnondomaa", sum := "181e07f20e02c24f03af00d17cd1dd02c315f05bcabc469587bd1bc853d7ad94", func := "obscura/obscuralaw08.SlotsLower", spec := "slotsLower", unfollowed := true, recurses := true, apart := false, narrowed := true }
def SlotsLowerUptoSaid : Prop := slotsLowerUptoRow.holds Try.pinned (OpenSpec.upto slotsLowerSpec)

/-- 'obscuralaw08.SlotsKnown', WHERE WHAT IT READS IS OF BULK AT MOST 1048576: true; the input reads as it did. -/
def slotsKnownUptoRow : OpenClaim := { program := "ytfmmkdmnondomaa", sum := "181e07f20e02c24f03af00d17cd1dd02c315f05bcabc469587bd1bc853d7ad94", func := "obscura/obscuralaw08.SlotsKnown", spec := "slotsKnown", unfollowed := true, recurses := true, apart := false, narrowed := true }
def SlotsKnownUptoSaid : Prop := slotsKnownUptoRow.holds Try.pinned (OpenSpec.upto slotsKnownSpec)

end Rows
end Go.Proofs.Ytfmmkdmnondomaa
