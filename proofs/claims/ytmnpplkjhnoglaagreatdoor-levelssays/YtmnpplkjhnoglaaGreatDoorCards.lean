/-
  DERIVED. GIVEN WITH THE SEED: THE CARDS: each row of YtmnpplkjhnoglaaGreatDoorRows.lean that lists a variable, with what it lists TIED to the program's text (the seventh form; the later family's looks); each row that meets fmt, with fmt's text TOLD by the authors' own Lean function (tested against real Go, not proved from fmt's source: count such statements apart). THE CARD IS WHAT COUNTS. Prove the row's statement (the work); the ties are given (YtmnpplkjhnoglaaGreatDoorTie.lean); close each card by the builder's one call (the guide's Derived/Test/ToyasCard.lean, 'card_holds'). Laid BY PROGRAM, IN A SANDBOX (cutbox-door.mjs). By AI agents, Wed Nov 11 2026. No macro, syntax, notation, axiom, sorry.
-/
import Derived.Test.YtmnpplkjhnoglaaGreatDoorRows
import GoSem.ClaimSeven
namespace Go.Proofs.YtmnpplkjhnoglaaGreatDoor
namespace Rows

/-- THE TIED CARD OF 'fellrunnerlaw.LevelsSays'. -/
def levelsSaysCard : Claim7 := { stood := { row := levelsSaysRow, standIns := [], harness := (true, "3cb839ac702da0602b3f2874b3c7cf5bc3121d7a779ca019284999a571a379d8"), looks := true }, kinds := [], alts := [], laidByText := true, laidKinds := [.data], laidTests := true, laidLooks := .later }
def LevelsSaysCardSaid : Prop := Claim7.holds Tryz.pinned (.plain (OpenSpec.ofChange levelsSaysSpec)) levelsSaysCard

/-- THE TIED CARD OF 'fellrunnertop.TopLevels'. -/
def topLevelsCard : Claim7 := { stood := { row := topLevelsRow, standIns := [], harness := (true, "3cb839ac702da0602b3f2874b3c7cf5bc3121d7a779ca019284999a571a379d8"), looks := true }, kinds := [], alts := [], laidByText := true, laidKinds := [.data], laidTests := true, laidLooks := .later }
def TopLevelsCardSaid : Prop := Claim7.holds Tryz.pinned (.plain (OpenSpec.ofChange topLevelsSpec)) topLevelsCard

/-- THE TIED CARD OF 'fellrunnerlaw.SearchSays'. -/
def searchSaysCard : Claim7 := { stood := { row := searchSaysRow, standIns := [], harness := (true, "3cb839ac702da0602b3f2874b3c7cf5bc3121d7a779ca019284999a571a379d8"), looks := true }, kinds := [], alts := [], laidByText := true, laidKinds := [.data], laidTests := true, laidLooks := .later }
def SearchSaysCardSaid : Prop := Claim7.holds Tryz.pinned (.plain (OpenSpec.ofChange searchSaysSpec)) searchSaysCard

/-- THE TIED CARD OF 'fellrunnertop.TopSearch'. -/
def topSearchCard : Claim7 := { stood := { row := topSearchRow, standIns := [], harness := (true, "3cb839ac702da0602b3f2874b3c7cf5bc3121d7a779ca019284999a571a379d8"), looks := true }, kinds := [], alts := [], laidByText := true, laidKinds := [.data, .data], laidTests := true, laidLooks := .later }
def TopSearchCardSaid : Prop := Claim7.holds Tryz.pinned (.plain (OpenSpec.ofChange topSearchSpec)) topSearchCard

/-- THE SECOND FORM's CARD OF 'fellrunnerlaw.LevelsSays'. -/
def levelsSaysUptoCard : Claim7 := { stood := { row := levelsSaysUptoRow, standIns := [], harness := (true, "3cb839ac702da0602b3f2874b3c7cf5bc3121d7a779ca019284999a571a379d8"), looks := true }, kinds := [], alts := [], laidByText := true, laidKinds := [.data], laidTests := true, laidLooks := .later }
def LevelsSaysUptoCardSaid : Prop := Claim7.holds Tryz.pinned (.plain (OpenSpec.upto levelsSaysSpec)) levelsSaysUptoCard

/-- THE SECOND FORM's CARD OF 'fellrunnertop.TopLevels'. -/
def topLevelsUptoCard : Claim7 := { stood := { row := topLevelsUptoRow, standIns := [], harness := (true, "3cb839ac702da0602b3f2874b3c7cf5bc3121d7a779ca019284999a571a379d8"), looks := true }, kinds := [], alts := [], laidByText := true, laidKinds := [.data], laidTests := true, laidLooks := .later }
def TopLevelsUptoCardSaid : Prop := Claim7.holds Tryz.pinned (.plain (OpenSpec.upto topLevelsSpec)) topLevelsUptoCard

/-- THE SECOND FORM's CARD OF 'fellrunnerlaw.SearchSays'. -/
def searchSaysUptoCard : Claim7 := { stood := { row := searchSaysUptoRow, standIns := [], harness := (true, "3cb839ac702da0602b3f2874b3c7cf5bc3121d7a779ca019284999a571a379d8"), looks := true }, kinds := [], alts := [], laidByText := true, laidKinds := [.data], laidTests := true, laidLooks := .later }
def SearchSaysUptoCardSaid : Prop := Claim7.holds Tryz.pinned (.plain (OpenSpec.upto searchSaysSpec)) searchSaysUptoCard

/-- THE SECOND FORM's CARD OF 'fellrunnertop.TopSearch'. -/
def topSearchUptoCard : Claim7 := { stood := { row := topSearchUptoRow, standIns := [], harness := (true, "3cb839ac702da0602b3f2874b3c7cf5bc3121d7a779ca019284999a571a379d8"), looks := true }, kinds := [], alts := [], laidByText := true, laidKinds := [.data, .data], laidTests := true, laidLooks := .later }
def TopSearchUptoCardSaid : Prop := Claim7.holds Tryz.pinned (.plain (OpenSpec.upto topSearchSpec)) topSearchUptoCard
end Rows
end Go.Proofs.YtmnpplkjhnoglaaGreatDoor
