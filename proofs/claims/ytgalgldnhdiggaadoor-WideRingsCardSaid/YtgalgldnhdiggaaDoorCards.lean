/-
  DERIVED. GIVEN WITH THE SEED: THE CARDS: each row of YtgalgldnhdiggaaDoorRows.lean that lists a variable, with what it lists TIED to the program's text (the seventh form; the later family's looks); each row that meets fmt, with fmt's text TOLD by the authors' own Lean function (tested against real Go, not proved from fmt's source: count such statements apart). THE CARD IS WHAT COUNTS. Prove the row's statement (the work); the ties are given (YtgalgldnhdiggaaDoorTie.lean); close each card by the builder's one call (the guide's Derived/Test/ToyasCard.lean, 'card_holds'). Laid BY PROGRAM, IN A SANDBOX (cutbox-door.mjs). By AI agents, Wed Nov 11 2026. No macro, syntax, notation, axiom, sorry.
-/
import Derived.Test.YtgalgldnhdiggaaDoorRows
import GoSem.ClaimSeven
namespace Go.Proofs.YtgalgldnhdiggaaDoor
namespace Rows

/-- THE TIED CARD OF 'obscuralaw02.WideForms'. -/
def wideFormsCard : Claim7 := { stood := { row := wideFormsRow, standIns := [], harness := (true, "90e4715b7d95d49c4e1302cd8b0609c54fb870e2a0317bfb63d0c9f6d2841730"), looks := false }, kinds := [], alts := [], laidByText := true, laidKinds := [.data, .data, .data], laidTests := true, laidLooks := .later }
def WideFormsCardSaid : Prop := Claim7.holds Tryd.pinned (.plain (OpenSpec.ofChange wideFormsSpec)) wideFormsCard

/-- THE TIED CARD OF 'obscuralaw02.WideTexts'. -/
def wideTextsCard : Claim7 := { stood := { row := wideTextsRow, standIns := [], harness := (true, "90e4715b7d95d49c4e1302cd8b0609c54fb870e2a0317bfb63d0c9f6d2841730"), looks := false }, kinds := [], alts := [], laidByText := true, laidKinds := [.data, .data, .data], laidTests := true, laidLooks := .later }
def WideTextsCardSaid : Prop := Claim7.holds Tryd.pinned (.plain (OpenSpec.ofChange wideTextsSpec)) wideTextsCard

/-- THE TIED CARD OF 'obscuralaw02.WideSums'. -/
def wideSumsCard : Claim7 := { stood := { row := wideSumsRow, standIns := [], harness := (true, "90e4715b7d95d49c4e1302cd8b0609c54fb870e2a0317bfb63d0c9f6d2841730"), looks := false }, kinds := [], alts := [], laidByText := true, laidKinds := [.data, .data, .data], laidTests := true, laidLooks := .later }
def WideSumsCardSaid : Prop := Claim7.holds Tryd.pinned (.plain (OpenSpec.ofChange wideSumsSpec)) wideSumsCard

/-- THE TIED CARD OF 'obscuralaw02.WideBack'. -/
def wideBackCard : Claim7 := { stood := { row := wideBackRow, standIns := [], harness := (true, "90e4715b7d95d49c4e1302cd8b0609c54fb870e2a0317bfb63d0c9f6d2841730"), looks := false }, kinds := [], alts := [], laidByText := true, laidKinds := [.data, .data, .data], laidTests := true, laidLooks := .later }
def WideBackCardSaid : Prop := Claim7.holds Tryd.pinned (.plain (OpenSpec.ofChange wideBackSpec)) wideBackCard

/-- THE TIED CARD OF 'obscuralaw02.WideRings'. -/
def wideRingsCard : Claim7 := { stood := { row := wideRingsRow, standIns := [], harness := (true, "90e4715b7d95d49c4e1302cd8b0609c54fb870e2a0317bfb63d0c9f6d2841730"), looks := false }, kinds := [], alts := [], laidByText := true, laidKinds := [.data, .data, .data], laidTests := true, laidLooks := .later }
def WideRingsCardSaid : Prop := Claim7.holds Tryd.pinned (.plain (OpenSpec.ofChange wideRingsSpec)) wideRingsCard

/-- THE SECOND FORM's CARD OF 'obscuralaw02.WideForms'. -/
def wideFormsUptoCard : Claim7 := { stood := { row := wideFormsUptoRow, standIns := [], harness := (true, "90e4715b7d95d49c4e1302cd8b0609c54fb870e2a0317bfb63d0c9f6d2841730"), looks := false }, kinds := [], alts := [], laidByText := true, laidKinds := [.data, .data, .data], laidTests := true, laidLooks := .later }
def WideFormsUptoCardSaid : Prop := Claim7.holds Tryd.pinned (.plain (OpenSpec.upto wideFormsSpec)) wideFormsUptoCard

/-- THE SECOND FORM's CARD OF 'obscuralaw02.WideTexts'. -/
def wideTextsUptoCard : Claim7 := { stood := { row := wideTextsUptoRow, standIns := [], harness := (true, "90e4715b7d95d49c4e1302cd8b0609c54fb870e2a0317bfb63d0c9f6d2841730"), looks := false }, kinds := [], alts := [], laidByText := true, laidKinds := [.data, .data, .data], laidTests := true, laidLooks := .later }
def WideTextsUptoCardSaid : Prop := Claim7.holds Tryd.pinned (.plain (OpenSpec.upto wideTextsSpec)) wideTextsUptoCard

/-- THE SECOND FORM's CARD OF 'obscuralaw02.WideSums'. -/
def wideSumsUptoCard : Claim7 := { stood := { row := wideSumsUptoRow, standIns := [], harness := (true, "90e4715b7d95d49c4e1302cd8b0609c54fb870e2a0317bfb63d0c9f6d2841730"), looks := false }, kinds := [], alts := [], laidByText := true, laidKinds := [.data, .data, .data], laidTests := true, laidLooks := .later }
def WideSumsUptoCardSaid : Prop := Claim7.holds Tryd.pinned (.plain (OpenSpec.upto wideSumsSpec)) wideSumsUptoCard

/-- THE SECOND FORM's CARD OF 'obscuralaw02.WideBack'. -/
def wideBackUptoCard : Claim7 := { stood := { row := wideBackUptoRow, standIns := [], harness := (true, "90e4715b7d95d49c4e1302cd8b0609c54fb870e2a0317bfb63d0c9f6d2841730"), looks := false }, kinds := [], alts := [], laidByText := true, laidKinds := [.data, .data, .data], laidTests := true, laidLooks := .later }
def WideBackUptoCardSaid : Prop := Claim7.holds Tryd.pinned (.plain (OpenSpec.upto wideBackSpec)) wideBackUptoCard

/-- THE SECOND FORM's CARD OF 'obscuralaw02.WideRings'. -/
def wideRingsUptoCard : Claim7 := { stood := { row := wideRingsUptoRow, standIns := [], harness := (true, "90e4715b7d95d49c4e1302cd8b0609c54fb870e2a0317bfb63d0c9f6d2841730"), looks := false }, kinds := [], alts := [], laidByText := true, laidKinds := [.data, .data, .data], laidTests := true, laidLooks := .later }
def WideRingsUptoCardSaid : Prop := Claim7.holds Tryd.pinned (.plain (OpenSpec.upto wideRingsSpec)) wideRingsUptoCard
end Rows
end Go.Proofs.YtgalgldnhdiggaaDoor
