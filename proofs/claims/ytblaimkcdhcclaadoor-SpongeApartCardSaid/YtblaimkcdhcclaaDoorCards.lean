/-
  DERIVED. GIVEN WITH THE SEED: THE CARDS: each row of YtblaimkcdhcclaaDoorRows.lean that lists a variable, with what it lists TIED to the program's text (the seventh form; the later family's looks); each row that meets fmt, with fmt's text TOLD by the authors' own Lean function (tested against real Go, not proved from fmt's source: count such statements apart). THE CARD IS WHAT COUNTS. Prove the row's statement (the work); the ties are given (YtblaimkcdhcclaaDoorTie.lean); close each card by the builder's one call (the guide's Derived/Test/ToyasCard.lean, 'card_holds'). Laid BY PROGRAM, IN A SANDBOX (cutbox-door.mjs). By AI agents, Wed Nov 11 2026. No macro, syntax, notation, axiom, sorry.
-/
import Derived.Test.YtblaimkcdhcclaaDoorRows
import GoSem.ClaimSeven
namespace Go.Proofs.YtblaimkcdhcclaaDoor
namespace Rows

/-- THE TIED CARD OF 'obscuralaw11.SpongePermutes'. -/
def spongePermutesCard : Claim7 := { stood := { row := spongePermutesRow, standIns := [], harness := (true, "8377c4ca70744a1b7cb97c6468357c516635b55c59c5d9a3d200f2b5a9872dd7"), looks := false }, kinds := [], alts := [], laidByText := true, laidKinds := [.data], laidTests := true, laidLooks := .later }
def SpongePermutesCardSaid : Prop := Claim7.holds Tryd.pinned (.plain (OpenSpec.ofChange spongePermutesSpec)) spongePermutesCard

/-- THE TIED CARD OF 'obscuralaw11.SpongeDigests'. -/
def spongeDigestsCard : Claim7 := { stood := { row := spongeDigestsRow, standIns := [], harness := (true, "8377c4ca70744a1b7cb97c6468357c516635b55c59c5d9a3d200f2b5a9872dd7"), looks := false }, kinds := [], alts := [], laidByText := true, laidKinds := [.data], laidTests := true, laidLooks := .later }
def SpongeDigestsCardSaid : Prop := Claim7.holds Tryd.pinned (.plain (OpenSpec.ofChange spongeDigestsSpec)) spongeDigestsCard

/-- THE TIED CARD OF 'obscuralaw11.SpongeApart'. -/
def spongeApartCard : Claim7 := { stood := { row := spongeApartRow, standIns := [], harness := (true, "8377c4ca70744a1b7cb97c6468357c516635b55c59c5d9a3d200f2b5a9872dd7"), looks := false }, kinds := [], alts := [], laidByText := true, laidKinds := [.data], laidTests := true, laidLooks := .later }
def SpongeApartCardSaid : Prop := Claim7.holds Tryd.pinned (.plain (OpenSpec.ofChange spongeApartSpec)) spongeApartCard

/-- THE TIED CARD OF 'obscuralaw11.SpongeLists'. -/
def spongeListsCard : Claim7 := { stood := { row := spongeListsRow, standIns := [], harness := (true, "8377c4ca70744a1b7cb97c6468357c516635b55c59c5d9a3d200f2b5a9872dd7"), looks := false }, kinds := [], alts := [], laidByText := true, laidKinds := [.data], laidTests := true, laidLooks := .later }
def SpongeListsCardSaid : Prop := Claim7.holds Tryd.pinned (.plain (OpenSpec.ofChange spongeListsSpec)) spongeListsCard

/-- THE SECOND FORM's CARD OF 'obscuralaw11.SpongePermutes'. -/
def spongePermutesUptoCard : Claim7 := { stood := { row := spongePermutesUptoRow, standIns := [], harness := (true, "8377c4ca70744a1b7cb97c6468357c516635b55c59c5d9a3d200f2b5a9872dd7"), looks := false }, kinds := [], alts := [], laidByText := true, laidKinds := [.data], laidTests := true, laidLooks := .later }
def SpongePermutesUptoCardSaid : Prop := Claim7.holds Tryd.pinned (.plain (OpenSpec.upto spongePermutesSpec)) spongePermutesUptoCard

/-- THE SECOND FORM's CARD OF 'obscuralaw11.SpongeDigests'. -/
def spongeDigestsUptoCard : Claim7 := { stood := { row := spongeDigestsUptoRow, standIns := [], harness := (true, "8377c4ca70744a1b7cb97c6468357c516635b55c59c5d9a3d200f2b5a9872dd7"), looks := false }, kinds := [], alts := [], laidByText := true, laidKinds := [.data], laidTests := true, laidLooks := .later }
def SpongeDigestsUptoCardSaid : Prop := Claim7.holds Tryd.pinned (.plain (OpenSpec.upto spongeDigestsSpec)) spongeDigestsUptoCard

/-- THE SECOND FORM's CARD OF 'obscuralaw11.SpongeApart'. -/
def spongeApartUptoCard : Claim7 := { stood := { row := spongeApartUptoRow, standIns := [], harness := (true, "8377c4ca70744a1b7cb97c6468357c516635b55c59c5d9a3d200f2b5a9872dd7"), looks := false }, kinds := [], alts := [], laidByText := true, laidKinds := [.data], laidTests := true, laidLooks := .later }
def SpongeApartUptoCardSaid : Prop := Claim7.holds Tryd.pinned (.plain (OpenSpec.upto spongeApartSpec)) spongeApartUptoCard

/-- THE SECOND FORM's CARD OF 'obscuralaw11.SpongeLists'. -/
def spongeListsUptoCard : Claim7 := { stood := { row := spongeListsUptoRow, standIns := [], harness := (true, "8377c4ca70744a1b7cb97c6468357c516635b55c59c5d9a3d200f2b5a9872dd7"), looks := false }, kinds := [], alts := [], laidByText := true, laidKinds := [.data], laidTests := true, laidLooks := .later }
def SpongeListsUptoCardSaid : Prop := Claim7.holds Tryd.pinned (.plain (OpenSpec.upto spongeListsSpec)) spongeListsUptoCard
end Rows
end Go.Proofs.YtblaimkcdhcclaaDoor
