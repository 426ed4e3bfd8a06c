/-
  DERIVED. GIVEN WITH THE SEED: THE CARDS: each row of YtmaefimaeelkbaaGreatDoorRows.lean that lists a variable, with what it lists TIED to the program's text (the seventh form; the later family's looks); each row that meets fmt, with fmt's text TOLD by the authors' own Lean function (tested against real Go, not proved from fmt's source: count such statements apart). THE CARD IS WHAT COUNTS. Prove the row's statement (the work); the ties are given (YtmaefimaeelkbaaGreatDoorTie.lean); close each card by the builder's one call (the guide's Derived/Test/ToyasCard.lean, 'card_holds'). Laid BY PROGRAM, IN A SANDBOX (cutbox-door.mjs). By AI agents, Wed Nov 11 2026. No macro, syntax, notation, axiom, sorry.
-/
import Derived.Test.YtmaefimaeelkbaaGreatDoorRows
import GoSem.ClaimSeven
namespace Go.Proofs.YtmaefimaeelkbaaGreatDoor
namespace Rows

/-- THE TIED CARD OF 'fellrunnerlaw.NavSays'. -/
def navSaysCard : Claim7 := { stood := { row := navSaysRow, standIns := [], harness := (true, "a6fd424e03b6d0e42dec879d51b105d8025d93243f43c9e584aa2ffb1c8cb7e7"), looks := true }, kinds := [], alts := [], laidByText := true, laidKinds := [.data, .data, .data, .sentinel, .sentinel, .data, .data], laidTests := true, laidLooks := .later }
def NavSaysCardSaid : Prop := Claim7.holds Tryz.pinned (.plain (OpenSpec.ofChange navSaysSpec)) navSaysCard

/-- THE TIED CARD OF 'fellrunnertop.TopTurn'. -/
def topTurnCard : Claim7 := { stood := { row := topTurnRow, standIns := [], harness := (true, "a6fd424e03b6d0e42dec879d51b105d8025d93243f43c9e584aa2ffb1c8cb7e7"), looks := true }, kinds := [], alts := [], laidByText := true, laidKinds := [.data, .data, .data, .sentinel, .sentinel, .data, .data], laidTests := true, laidLooks := .later }
def TopTurnCardSaid : Prop := Claim7.holds Tryz.pinned (.plain (OpenSpec.ofChange topTurnSpec)) topTurnCard

/-- THE TIED CARD OF 'fellrunnertop.TopFrame'. -/
def topFrameCard : Claim7 := { stood := { row := topFrameRow, standIns := [], harness := (true, "a6fd424e03b6d0e42dec879d51b105d8025d93243f43c9e584aa2ffb1c8cb7e7"), looks := true }, kinds := [], alts := [], laidByText := true, laidKinds := [.data, .data, .data, .sentinel, .sentinel, .data, .data], laidTests := true, laidLooks := .later }
def TopFrameCardSaid : Prop := Claim7.holds Tryz.pinned (.plain (OpenSpec.ofChange topFrameSpec)) topFrameCard

/-- THE SECOND FORM's CARD OF 'fellrunnerlaw.NavSays'. -/
def navSaysUptoCard : Claim7 := { stood := { row := navSaysUptoRow, standIns := [], harness := (true, "a6fd424e03b6d0e42dec879d51b105d8025d93243f43c9e584aa2ffb1c8cb7e7"), looks := true }, kinds := [], alts := [], laidByText := true, laidKinds := [.data, .data, .data, .sentinel, .sentinel, .data, .data], laidTests := true, laidLooks := .later }
def NavSaysUptoCardSaid : Prop := Claim7.holds Tryz.pinned (.plain (OpenSpec.upto navSaysSpec)) navSaysUptoCard

/-- THE SECOND FORM's CARD OF 'fellrunnertop.TopTurn'. -/
def topTurnUptoCard : Claim7 := { stood := { row := topTurnUptoRow, standIns := [], harness := (true, "a6fd424e03b6d0e42dec879d51b105d8025d93243f43c9e584aa2ffb1c8cb7e7"), looks := true }, kinds := [], alts := [], laidByText := true, laidKinds := [.data, .data, .data, .sentinel, .sentinel, .data, .data], laidTests := true, laidLooks := .later }
def TopTurnUptoCardSaid : Prop := Claim7.holds Tryz.pinned (.plain (OpenSpec.upto topTurnSpec)) topTurnUptoCard

/-- THE SECOND FORM's CARD OF 'fellrunnertop.TopFrame'. -/
def topFrameUptoCard : Claim7 := { stood := { row := topFrameUptoRow, standIns := [], harness := (true, "a6fd424e03b6d0e42dec879d51b105d8025d93243f43c9e584aa2ffb1c8cb7e7"), looks := true }, kinds := [], alts := [], laidByText := true, laidKinds := [.data, .data, .data, .sentinel, .sentinel, .data, .data], laidTests := true, laidLooks := .later }
def TopFrameUptoCardSaid : Prop := Claim7.holds Tryz.pinned (.plain (OpenSpec.upto topFrameSpec)) topFrameUptoCard
end Rows
end Go.Proofs.YtmaefimaeelkbaaGreatDoor
