/-
  NARROWER THAN 'FOR EVERY INPUT', by the rows' own cells (each row's printed sentence says how): SpongePermutes: laid · SpongeDigests: laid · SpongeApart: laid · SpongeLists: laid.
  DERIVED. THE GIVEN ROWS OF THIS SEAT. 4 by the template 'for every input the law returns true; each argument reads behind the call as it read before'; 0 by the template 'total and deterministic' (their statements: YtblaimkcdhcclaaDoorTotals.lean).
  GIVEN WITH THE SEED: the statements are not yours to turn. If you find one false, say at which input.
  Laid BY PROGRAM, IN A SANDBOX (cutbox-rows.mjs): the forced cells as the released guide's own fill.sh prints them over the translation 2904f63f56e7d73c… (all of the seat's roots in one cut). By AI agents, Wed Nov 11 2026. No macro, syntax, notation, axiom, sorry.
-/
import Derived.Test.YtblaimkcdhcclaaDoorChecked
import GoSem.Claim
import GoSem.ClaimJoined
import GoSem.ClaimMapViews
import Derived.JoinedTies
import Derived.KernelRfl
namespace Go.Proofs.YtblaimkcdhcclaaDoor
/- THE CELL 'sum', in the pinned program and in every row, IS THE sha256 OF THE DUMP (.gsa) THAT YtblaimkcdhcclaaDoorProg.lean LOADS. Nothing in Lean hashes anything: it is a label: what it is worth is what the hold of that sum in a sandbox is worth. -/
noncomputable def Tryd.pinned : Pinned := { name := "ytblaimkcdhcclaadoor", sum := "2904f63f56e7d73c8388b4671a64c6d38a4ee767def4fa5e560749351c5044ac", checked := Tryd.checked }
namespace Rows
def none {H : Type} : Left H := { results := [], args := [] }

/- WHAT THE LISTED PACKAGE-LEVEL VARIABLES READ AS WHEN THE CALL BEGINS. Each datum BY PROGRAM (the guide's laid-datum.mjs) off the statement by which the dump's own 'gosem.cut.vars' lays the variable. In a bare row this is a premise. The card (YtblaimkcdhcclaaDoorCards.lean) ties it to the program's text. -/
def laid_obscura_sponge_constants {H : Type} : DataW H := .agg [.lit (.int .u64 240), .lit (.int .u64 225), .lit (.int .u64 210), .lit (.int .u64 195), .lit (.int .u64 180), .lit (.int .u64 165), .lit (.int .u64 150), .lit (.int .u64 135), .lit (.int .u64 120), .lit (.int .u64 105), .lit (.int .u64 90), .lit (.int .u64 75)]

/-- 'obscuralaw11.SpongePermutes': WHATEVER THE INPUT: true; the input reads as it did. -/
def spongePermutesSpec : ChangeSpec := { name := "spongePermutes", fn := fun _ => fun
  | [d1, d2] => { results := [.lit (.bool true)], args := [d1, d2] }
  | _ => none }
def spongePermutesRow : OpenClaim := { program := "ytblaimkcdhcclaadoor", sum := "2904f63f56e7d73c8388b4671a64c6d38a4ee767def4fa5e560749351c5044ac", func := "obscura/obscuralaw11.SpongePermutes", spec := "spongePermutes", unfollowed := true, recurses := true, named := ["obscura/sponge.constants"], apart := false, laid := [("obscura/sponge.constants", laid_obscura_sponge_constants)] }
def SpongePermutesSaid : Prop := spongePermutesRow.holds Tryd.pinned (OpenSpec.ofChange spongePermutesSpec)

/-- ITS FALSE NEIGHBOUR: 'it returns false'. Refute it at one input. -/
def spongePermutesWrong : ChangeSpec := { name := "spongePermutes", fn := fun _ => fun
  | [d1, d2] => { results := [.lit (.bool false)], args := [d1, d2] }
  | _ => none }
def SpongePermutesWrongFalsely : Prop := spongePermutesRow.holds Tryd.pinned (OpenSpec.ofChange spongePermutesWrong)

/-- 'obscuralaw11.SpongeDigests': WHATEVER THE INPUT: true; the input reads as it did. -/
def spongeDigestsSpec : ChangeSpec := { name := "spongeDigests", fn := fun _ => fun
  | [d1, d2, d3] => { results := [.lit (.bool true)], args := [d1, d2, d3] }
  | _ => none }
def spongeDigestsRow : OpenClaim := { program := "ytblaimkcdhcclaadoor", sum := "2904f63f56e7d73c8388b4671a64c6d38a4ee767def4fa5e560749351c5044ac", func := "obscura/obscuralaw11.SpongeDigests", spec := "spongeDigests", inPlace := ["internal/abi.NoEscape"], unfollowed := true, recurses := true, named := ["obscura/sponge.constants"], apart := false, laid := [("obscura/sponge.constants", laid_obscura_sponge_constants)] }
def SpongeDigestsSaid : Prop := spongeDigestsRow.holds Tryd.pinned (OpenSpec.ofChange spongeDigestsSpec)

/-- ITS FALSE NEIGHBOUR: 'it returns false'. Refute it at one input. -/
def spongeDigestsWrong : ChangeSpec := { name := "spongeDigests", fn := fun _ => fun
  | [d1, d2, d3] => { results := [.lit (.bool false)], args := [d1, d2, d3] }
  | _ => none }
def SpongeDigestsWrongFalsely : Prop := spongeDigestsRow.holds Tryd.pinned (OpenSpec.ofChange spongeDigestsWrong)

/-- 'obscuralaw11.SpongeApart': WHATEVER THE INPUT: true; the input reads as it did. -/
def spongeApartSpec : ChangeSpec := { name := "spongeApart", fn := fun _ => fun
  | [d] => { results := [.lit (.bool true)], args := [d] }
  | _ => none }
def spongeApartRow : OpenClaim := { program := "ytblaimkcdhcclaadoor", sum := "2904f63f56e7d73c8388b4671a64c6d38a4ee767def4fa5e560749351c5044ac", func := "obscura/obscuralaw11.SpongeApart", spec := "spongeApart", unfollowed := true, recurses := true, named := ["obscura/sponge.constants"], apart := false, laid := [("obscura/sponge.constants", laid_obscura_sponge_constants)] }
def SpongeApartSaid : Prop := spongeApartRow.holds Tryd.pinned (OpenSpec.ofChange spongeApartSpec)

/-- ITS FALSE NEIGHBOUR: 'it returns false'. Refute it at one input. -/
def spongeApartWrong : ChangeSpec := { name := "spongeApart", fn := fun _ => fun
  | [d] => { results := [.lit (.bool false)], args := [d] }
  | _ => none }
def SpongeApartWrongFalsely : Prop := spongeApartRow.holds Tryd.pinned (OpenSpec.ofChange spongeApartWrong)

/-- 'obscuralaw11.SpongeLists': WHATEVER THE INPUT: true; the input reads as it did. -/
def spongeListsSpec : ChangeSpec := { name := "spongeLists", fn := fun _ => fun
  | [d1, d2] => { results := [.lit (.bool true)], args := [d1, d2] }
  | _ => none }
def spongeListsRow : OpenClaim := { program := "ytblaimkcdhcclaadoor", sum := "2904f63f56e7d73c8388b4671a64c6d38a4ee767def4fa5e560749351c5044ac", func := "obscura/obscuralaw11.SpongeLists", spec := "spongeLists", inPlace := ["internal/abi.NoEscape"], unfollowed := true, recurses := true, named := ["obscura/sponge.constants"], apart := false, laid := [("obscura/sponge.constants", laid_obscura_sponge_constants)] }
def SpongeListsSaid : Prop := spongeListsRow.holds Tryd.pinned (OpenSpec.ofChange spongeListsSpec)

/-- ITS FALSE NEIGHBOUR: 'it returns false'. Refute it at one input. -/
def spongeListsWrong : ChangeSpec := { name := "spongeLists", fn := fun _ => fun
  | [d1, d2] => { results := [.lit (.bool false)], args := [d1, d2] }
  | _ => none }
def SpongeListsWrongFalsely : Prop := spongeListsRow.holds Tryd.pinned (OpenSpec.ofChange spongeListsWrong)

/- THE SECOND FORM. 'bulk': how many values and letters a reading holds, each counted each time it is reached (what is shared counts as often as it is met; a slice's spare places count too). A statement '..UptoSaid' is the law's where the arguments, and the package variables that the reading takes, are together of bulk at most 1048576: NARROWER than '..Said'. Prove '..Said' where nothing that the law and all that it calls make is longer than what came in: it says more and counts as full. Else prove '..UptoSaid'. A law counts once. -/
mutual
def uptoBulk {H : Type} : DataW H → Nat
  | .lit (.string bytes) => bytes.length + 1
  | .lit _ => 1
  | .nil => 1
  | .ptr d => uptoBulk d + 1
  | .slice elems spare => uptoBulkAll elems + uptoBulkAll spare + 1
  | .agg parts => uptoBulkAll parts + 1
  | .iface _ d => uptoBulk d + 1
  | .map entries => uptoBulkEntries entries + 1
  | .held _ => 1
def uptoBulkAll {H : Type} : List (DataW H) → Nat
  | [] => 0
  | d :: r => uptoBulk d + uptoBulkAll r
def uptoBulkEntries {H : Type} : List (Lit × DataW H) → Nat
  | [] => 0
  | x :: r => uptoBulkEntry x + uptoBulkEntries r
def uptoBulkEntry {H : Type} : Lit × DataW H → Nat
  | (.string bytes, d) => bytes.length + uptoBulk d + 1
  | (_, d) => uptoBulk d + 1
 end
def uptoSmall : (H : Type) → List (DataW H) → Bool := fun _ ds => decide (uptoBulkAll ds ≤ 1048576)
def OpenSpec.upto (s : _root_.Go.ChangeSpec) : _root_.Go.OpenSpec := { _root_.Go.OpenSpec.ofChange s with cond := some uptoSmall }

/-- 'obscuralaw11.SpongePermutes', WHERE WHAT IT READS IS OF BULK AT MOST 1048576: true; the input reads as it did. -/
def spongePermutesUptoRow : OpenClaim := { program := "ytblaimkcdhcclaadoor", sum := "2904f63f56e7d73c8388b4671a64c6d38a4ee767def4fa5e560749351c5044ac", func := "obscura/obscuralaw11.SpongePermutes", spec := "spongePermutes", unfollowed := true, recurses := true, named := ["obscura/sponge.constants"], apart := false, laid := [("obscura/sponge.constants", laid_obscura_sponge_constants)], narrowed := true }
def SpongePermutesUptoSaid : Prop := spongePermutesUptoRow.holds Tryd.pinned (OpenSpec.upto spongePermutesSpec)

/-- 'obscuralaw11.SpongeDigests', WHERE WHAT IT READS IS OF BULK AT MOST 1048576: true; the input reads as it did. -/
def spongeDigestsUptoRow : OpenClaim := { program := "ytblaimkcdhcclaadoor", sum := "2904f63f56e7d73c8388b4671a64c6d38a4ee767def4fa5e560749351c5044ac", func := "obscura/obscuralaw11.SpongeDigests", spec := "spongeDigests", inPlace := ["internal/abi.NoEscape"], unfollowed := true, recurses := true, named := ["obscura/sponge.constants"], apart := false, laid := [("obscura/sponge.constants", laid_obscura_sponge_constants)], narrowed := true }
def SpongeDigestsUptoSaid : Prop := spongeDigestsUptoRow.holds Tryd.pinned (OpenSpec.upto spongeDigestsSpec)

/-- 'obscuralaw11.SpongeApart', WHERE WHAT IT READS IS OF BULK AT MOST 1048576: true; the input reads as it did. -/
def spongeApartUptoRow : OpenClaim := { program := "ytblaimkcdhcclaadoor", sum := "2904f63f56e7d73c8388b4671a64c6d38a4ee767def4fa5e560749351c5044ac", func := "obscura/obscuralaw11.SpongeApart", spec := "spongeApart", unfollowed := true, recurses := true, named := ["obscura/sponge.constants"], apart := false, laid := [("obscura/sponge.constants", laid_obscura_sponge_constants)], narrowed := true }
def SpongeApartUptoSaid : Prop := spongeApartUptoRow.holds Tryd.pinned (OpenSpec.upto spongeApartSpec)

/-- 'obscuralaw11.SpongeLists', WHERE WHAT IT READS IS OF BULK AT MOST 1048576: true; the input reads as it did. -/
def spongeListsUptoRow : OpenClaim := { program := "ytblaimkcdhcclaadoor", sum := "2904f63f56e7d73c8388b4671a64c6d38a4ee767def4fa5e560749351c5044ac", func := "obscura/obscuralaw11.SpongeLists", spec := "spongeLists", inPlace := ["internal/abi.NoEscape"], unfollowed := true, recurses := true, named := ["obscura/sponge.constants"], apart := false, laid := [("obscura/sponge.constants", laid_obscura_sponge_constants)], narrowed := true }
def SpongeListsUptoSaid : Prop := spongeListsUptoRow.holds Tryd.pinned (OpenSpec.upto spongeListsSpec)

end Rows
end Go.Proofs.YtblaimkcdhcclaaDoor
