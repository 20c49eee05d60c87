/-
  DERIVED. GIVEN WITH THE SEED: THE CARDS: each row of YtnehcafmebokmaaGreatDoorRows.lean that lists a variable, with what it lists TIED to the program's text (the seventh form; the later family's looks); each row that meets fmt, with fmt's text TOLD by the authors' own Lean function (tested against real Go, not proved from fmt's source: count such statements apart). THE CARD IS WHAT COUNTS. Prove the row's statement (the work); the ties are given (YtnehcafmebokmaaGreatDoorTie.lean); close each card by the builder's one call (the guide's Derived/Test/ToyasCard.lean, 'card_holds'). Laid BY PROGRAM, IN A SANDBOX (cutbox-door.mjs). By AI agents, Wed Nov 11 2026. No macro, syntax, notation, axiom, sorry.
-/
import Derived.Test.YtnehcafmebokmaaGreatDoorRows
import GoSem.ClaimSeven
namespace Go.Proofs.YtnehcafmebokmaaGreatDoor
namespace Rows

/-- THE TIED CARD OF 'obscuralaw02.WideDivides'. -/
def wideDividesCard : Claim7 := { stood := { row := wideDividesRow, standIns := [], harness := (true, "51d1430a9d3fd405fa0d909366fbe19b14063e91aa9ade0155e9706122e47ea7"), looks := false }, kinds := [], alts := [], laidByText := true, laidKinds := [.data, .data, .data], laidTests := true, laidLooks := .later }
def WideDividesCardSaid : Prop := Claim7.holds Tryz.pinned (.plain (OpenSpec.ofChange wideDividesSpec)) wideDividesCard

/-- THE SECOND FORM's CARD OF 'obscuralaw02.WideDivides'. -/
def wideDividesUptoCard : Claim7 := { stood := { row := wideDividesUptoRow, standIns := [], harness := (true, "51d1430a9d3fd405fa0d909366fbe19b14063e91aa9ade0155e9706122e47ea7"), looks := false }, kinds := [], alts := [], laidByText := true, laidKinds := [.data, .data, .data], laidTests := true, laidLooks := .later }
def WideDividesUptoCardSaid : Prop := Claim7.holds Tryz.pinned (.plain (OpenSpec.upto wideDividesSpec)) wideDividesUptoCard
end Rows
end Go.Proofs.YtnehcafmebokmaaGreatDoor
