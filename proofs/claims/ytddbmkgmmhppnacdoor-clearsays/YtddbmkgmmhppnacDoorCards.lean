/-
  DERIVED. GIVEN WITH THE SEED: THE CARDS: each row of YtddbmkgmmhppnacDoorRows.lean that lists a variable, with what it lists TIED to the program's text (the seventh form; the later family's looks); each row that meets fmt, with fmt's text TOLD by the authors' own Lean function (tested against real Go, not proved from fmt's source: count such statements apart). THE CARD IS WHAT COUNTS. Prove the row's statement (the work); the ties are given (YtddbmkgmmhppnacDoorTie.lean); close each card by the builder's one call (the guide's Derived/Test/ToyasCard.lean, 'card_holds'). Laid BY PROGRAM, IN A SANDBOX (cutbox-door.mjs). By AI agents, Wed Nov 11 2026. No macro, syntax, notation, axiom, sorry.
-/
import Derived.Test.YtddbmkgmmhppnacDoorRows
import GoSem.ClaimSeven
namespace Go.Proofs.YtddbmkgmmhppnacDoor
namespace Rows

/-- THE TIED CARD OF 'fellrunnerlaw.ClearSays'. -/
def clearSaysCard : Claim7 := { stood := { row := clearSaysRow, standIns := [], harness := (true, "147821e9894b63d1cfdd4c77e8a5e6c78aabef1c517da13095eed26cacf9d38d"), looks := true }, kinds := [], alts := [], laidByText := true, laidKinds := [.data], laidTests := true, laidLooks := .later }
def ClearSaysCardSaid : Prop := Claim7.holds Tryd.pinned (.plain (OpenSpec.ofChange clearSaysSpec)) clearSaysCard

/-- THE TIED CARD OF 'fellrunnertop.TopClear'. -/
def topClearCard : Claim7 := { stood := { row := topClearRow, standIns := [], harness := (true, "147821e9894b63d1cfdd4c77e8a5e6c78aabef1c517da13095eed26cacf9d38d"), looks := true }, kinds := [], alts := [], laidByText := true, laidKinds := [.data], laidTests := true, laidLooks := .later }
def TopClearCardSaid : Prop := Claim7.holds Tryd.pinned (.plain (OpenSpec.ofChange topClearSpec)) topClearCard

/-- THE SECOND FORM's CARD OF 'fellrunnerlaw.ClearSays'. -/
def clearSaysUptoCard : Claim7 := { stood := { row := clearSaysUptoRow, standIns := [], harness := (true, "147821e9894b63d1cfdd4c77e8a5e6c78aabef1c517da13095eed26cacf9d38d"), looks := true }, kinds := [], alts := [], laidByText := true, laidKinds := [.data], laidTests := true, laidLooks := .later }
def ClearSaysUptoCardSaid : Prop := Claim7.holds Tryd.pinned (.plain (OpenSpec.upto clearSaysSpec)) clearSaysUptoCard

/-- THE SECOND FORM's CARD OF 'fellrunnertop.TopClear'. -/
def topClearUptoCard : Claim7 := { stood := { row := topClearUptoRow, standIns := [], harness := (true, "147821e9894b63d1cfdd4c77e8a5e6c78aabef1c517da13095eed26cacf9d38d"), looks := true }, kinds := [], alts := [], laidByText := true, laidKinds := [.data], laidTests := true, laidLooks := .later }
def TopClearUptoCardSaid : Prop := Claim7.holds Tryd.pinned (.plain (OpenSpec.upto topClearSpec)) topClearUptoCard
end Rows
end Go.Proofs.YtddbmkgmmhppnacDoor
