/-
  DERIVED. GIVEN WITH THE SEED: THE CARDS: each row of YtddbmkgmmhppnabDoorRows.lean that lists a variable, with what it lists TIED to the program's text (the seventh form; the later family's looks); each row that meets fmt, with fmt's text TOLD by the authors' own Lean function (tested against real Go, not proved from fmt's source: count such statements apart). THE CARD IS WHAT COUNTS. Prove the row's statement (the work); the ties are given (YtddbmkgmmhppnabDoorTie.lean); close each card by the builder's one call (the guide's Derived/Test/ToyasCard.lean, 'card_holds'). Laid BY PROGRAM, IN A SANDBOX (cutbox-door.mjs). By AI agents, Wed Nov 11 2026. No macro, syntax, notation, axiom, sorry.
-/
import Derived.Test.YtddbmkgmmhppnabDoorRows
import GoSem.ClaimSeven
namespace Go.Proofs.YtddbmkgmmhppnabDoor
namespace Rows

/-- THE TIED CARD OF 'fellrunnerlaw.TextSays'. -/
def textSaysCard : Claim7 := { stood := { row := textSaysRow, standIns := [], harness := (true, "66a1968429c2b8a98b1c77db3fffd5592801d2a6b7209fcf38103b8750e9a66e"), looks := true }, kinds := [], alts := [], laidByText := true, laidKinds := [.data, .data, .data, .sentinel, .sentinel, .data], laidTests := true, laidLooks := .later }
def TextSaysCardSaid : Prop := Claim7.holds Tryd.pinned (.plain (OpenSpec.ofChange textSaysSpec)) textSaysCard

/-- THE TIED CARD OF 'fellrunnertop.TopText'. -/
def topTextCard : Claim7 := { stood := { row := topTextRow, standIns := [], harness := (true, "66a1968429c2b8a98b1c77db3fffd5592801d2a6b7209fcf38103b8750e9a66e"), looks := true }, kinds := [], alts := [], laidByText := true, laidKinds := [.data, .data, .data, .sentinel, .sentinel], laidTests := true, laidLooks := .later }
def TopTextCardSaid : Prop := Claim7.holds Tryd.pinned (.plain (OpenSpec.ofChange topTextSpec)) topTextCard

/-- THE TIED CARD OF 'fellrunnerlaw.FloodSays'. -/
def floodSaysCard : Claim7 := { stood := { row := floodSaysRow, standIns := [], harness := (true, "66a1968429c2b8a98b1c77db3fffd5592801d2a6b7209fcf38103b8750e9a66e"), looks := true }, kinds := [], alts := [], laidByText := true, laidKinds := [.data], laidTests := true, laidLooks := .later }
def FloodSaysCardSaid : Prop := Claim7.holds Tryd.pinned (.plain (OpenSpec.ofChange floodSaysSpec)) floodSaysCard

/-- THE TIED CARD OF 'fellrunnertop.TopFlood'. -/
def topFloodCard : Claim7 := { stood := { row := topFloodRow, standIns := [], harness := (true, "66a1968429c2b8a98b1c77db3fffd5592801d2a6b7209fcf38103b8750e9a66e"), looks := true }, kinds := [], alts := [], laidByText := true, laidKinds := [.data], laidTests := true, laidLooks := .later }
def TopFloodCardSaid : Prop := Claim7.holds Tryd.pinned (.plain (OpenSpec.ofChange topFloodSpec)) topFloodCard

/-- THE SECOND FORM's CARD OF 'fellrunnerlaw.TextSays'. -/
def textSaysUptoCard : Claim7 := { stood := { row := textSaysUptoRow, standIns := [], harness := (true, "66a1968429c2b8a98b1c77db3fffd5592801d2a6b7209fcf38103b8750e9a66e"), looks := true }, kinds := [], alts := [], laidByText := true, laidKinds := [.data, .data, .data, .sentinel, .sentinel, .data], laidTests := true, laidLooks := .later }
def TextSaysUptoCardSaid : Prop := Claim7.holds Tryd.pinned (.plain (OpenSpec.upto textSaysSpec)) textSaysUptoCard

/-- THE SECOND FORM's CARD OF 'fellrunnertop.TopText'. -/
def topTextUptoCard : Claim7 := { stood := { row := topTextUptoRow, standIns := [], harness := (true, "66a1968429c2b8a98b1c77db3fffd5592801d2a6b7209fcf38103b8750e9a66e"), looks := true }, kinds := [], alts := [], laidByText := true, laidKinds := [.data, .data, .data, .sentinel, .sentinel], laidTests := true, laidLooks := .later }
def TopTextUptoCardSaid : Prop := Claim7.holds Tryd.pinned (.plain (OpenSpec.upto topTextSpec)) topTextUptoCard

/-- THE SECOND FORM's CARD OF 'fellrunnerlaw.FloodSays'. -/
def floodSaysUptoCard : Claim7 := { stood := { row := floodSaysUptoRow, standIns := [], harness := (true, "66a1968429c2b8a98b1c77db3fffd5592801d2a6b7209fcf38103b8750e9a66e"), looks := true }, kinds := [], alts := [], laidByText := true, laidKinds := [.data], laidTests := true, laidLooks := .later }
def FloodSaysUptoCardSaid : Prop := Claim7.holds Tryd.pinned (.plain (OpenSpec.upto floodSaysSpec)) floodSaysUptoCard

/-- THE SECOND FORM's CARD OF 'fellrunnertop.TopFlood'. -/
def topFloodUptoCard : Claim7 := { stood := { row := topFloodUptoRow, standIns := [], harness := (true, "66a1968429c2b8a98b1c77db3fffd5592801d2a6b7209fcf38103b8750e9a66e"), looks := true }, kinds := [], alts := [], laidByText := true, laidKinds := [.data], laidTests := true, laidLooks := .later }
def TopFloodUptoCardSaid : Prop := Claim7.holds Tryd.pinned (.plain (OpenSpec.upto topFloodSpec)) topFloodUptoCard
end Rows
end Go.Proofs.YtddbmkgmmhppnabDoor
