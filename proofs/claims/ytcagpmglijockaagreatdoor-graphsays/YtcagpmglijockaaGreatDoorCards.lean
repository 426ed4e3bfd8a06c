/-
  DERIVED. GIVEN WITH THE SEED: THE CARDS: each row of YtcagpmglijockaaGreatDoorRows.lean that lists a variable, with what it lists TIED to the program's text (the seventh form; the later family's looks); each row that meets fmt, with fmt's text TOLD by the authors' own Lean function (tested against real Go, not proved from fmt's source: count such statements apart). THE CARD IS WHAT COUNTS. Prove the row's statement (the work); the ties are given (YtcagpmglijockaaGreatDoorTie.lean); close each card by the builder's one call (the guide's Derived/Test/ToyasCard.lean, 'card_holds'). Laid BY PROGRAM, IN A SANDBOX (cutbox-door.mjs). By AI agents, Wed Nov 11 2026. No macro, syntax, notation, axiom, sorry.
-/
import Derived.Test.YtcagpmglijockaaGreatDoorRows
import GoSem.ClaimSeven
namespace Go.Proofs.YtcagpmglijockaaGreatDoor
namespace Rows

/-- THE TIED CARD OF 'fellrunnerlaw.GraphSays'. -/
def graphSaysCard : Claim7 := { stood := { row := graphSaysRow, standIns := [], harness := (true, "fc7c4ba89687c5e5c93b3e0a5c18f40b56b13148886991e881b7800c00669657"), looks := true }, kinds := [], alts := [], laidByText := true, laidKinds := [.data], laidTests := true, laidLooks := .later }
def GraphSaysCardSaid : Prop := Claim7.holds Tryz.pinned (.plain (OpenSpec.ofChange graphSaysSpec)) graphSaysCard

/-- THE SECOND FORM's CARD OF 'fellrunnerlaw.GraphSays'. -/
def graphSaysUptoCard : Claim7 := { stood := { row := graphSaysUptoRow, standIns := [], harness := (true, "fc7c4ba89687c5e5c93b3e0a5c18f40b56b13148886991e881b7800c00669657"), looks := true }, kinds := [], alts := [], laidByText := true, laidKinds := [.data], laidTests := true, laidLooks := .later }
def GraphSaysUptoCardSaid : Prop := Claim7.holds Tryz.pinned (.plain (OpenSpec.upto graphSaysSpec)) graphSaysUptoCard
end Rows
end Go.Proofs.YtcagpmglijockaaGreatDoor
