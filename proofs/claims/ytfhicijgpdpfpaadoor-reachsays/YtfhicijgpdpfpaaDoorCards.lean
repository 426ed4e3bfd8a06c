/-
  DERIVED. GIVEN WITH THE SEED: THE CARDS: each row of YtfhicijgpdpfpaaDoorRows.lean that lists a variable, with what it lists TIED to the program's text (the seventh form; the later family's looks); each row that meets fmt, with fmt's text TOLD by the authors' own Lean function (tested against real Go, not proved from fmt's source: count such statements apart). THE CARD IS WHAT COUNTS. Prove the row's statement (the work); the ties are given (YtfhicijgpdpfpaaDoorTie.lean); close each card by the builder's one call (the guide's Derived/Test/ToyasCard.lean, 'card_holds'). Laid BY PROGRAM, IN A SANDBOX (cutbox-door.mjs). By AI agents, Wed Nov 11 2026. No macro, syntax, notation, axiom, sorry.
-/
import Derived.Test.YtfhicijgpdpfpaaDoorRows
import GoSem.ClaimSeven
namespace Go.Proofs.YtfhicijgpdpfpaaDoor
namespace Rows

/-- THE TIED CARD OF 'fellrunnerlaw.FloodSays'. -/
def floodSaysCard : Claim7 := { stood := { row := floodSaysRow, standIns := [], harness := (true, "b166bb114a21f2d2d6e765b5cc6bab8879b7c91b4404e1b3b9aa7da79841eb9a"), looks := true }, kinds := [], alts := [], laidByText := true, laidKinds := [.data], laidTests := true, laidLooks := .later }
def FloodSaysCardSaid : Prop := Claim7.holds Tryd.pinned (.plain (OpenSpec.ofChange floodSaysSpec)) floodSaysCard

/-- THE TIED CARD OF 'fellrunnertop.TopFlood'. -/
def topFloodCard : Claim7 := { stood := { row := topFloodRow, standIns := [], harness := (true, "b166bb114a21f2d2d6e765b5cc6bab8879b7c91b4404e1b3b9aa7da79841eb9a"), looks := true }, kinds := [], alts := [], laidByText := true, laidKinds := [.data], laidTests := true, laidLooks := .later }
def TopFloodCardSaid : Prop := Claim7.holds Tryd.pinned (.plain (OpenSpec.ofChange topFloodSpec)) topFloodCard

/-- THE TIED CARD OF 'fellrunnerlaw.CornerSays'. -/
def cornerSaysCard : Claim7 := { stood := { row := cornerSaysRow, standIns := [], harness := (true, "b166bb114a21f2d2d6e765b5cc6bab8879b7c91b4404e1b3b9aa7da79841eb9a"), looks := true }, kinds := [], alts := [], laidByText := true, laidKinds := [.data], laidTests := true, laidLooks := .later }
def CornerSaysCardSaid : Prop := Claim7.holds Tryd.pinned (.plain (OpenSpec.ofChange cornerSaysSpec)) cornerSaysCard

/-- THE TIED CARD OF 'fellrunnerlaw.ReachSays'. -/
def reachSaysCard : Claim7 := { stood := { row := reachSaysRow, standIns := [], harness := (true, "b166bb114a21f2d2d6e765b5cc6bab8879b7c91b4404e1b3b9aa7da79841eb9a"), looks := true }, kinds := [], alts := [], laidByText := true, laidKinds := [.data, .data], laidTests := true, laidLooks := .later }
def ReachSaysCardSaid : Prop := Claim7.holds Tryd.pinned (.plain (OpenSpec.ofChange reachSaysSpec)) reachSaysCard

/-- THE TIED CARD OF 'fellrunnertop.TopCorner'. -/
def topCornerCard : Claim7 := { stood := { row := topCornerRow, standIns := [], harness := (true, "b166bb114a21f2d2d6e765b5cc6bab8879b7c91b4404e1b3b9aa7da79841eb9a"), looks := true }, kinds := [], alts := [], laidByText := true, laidKinds := [.data, .data], laidTests := true, laidLooks := .later }
def TopCornerCardSaid : Prop := Claim7.holds Tryd.pinned (.plain (OpenSpec.ofChange topCornerSpec)) topCornerCard

/-- THE TIED CARD OF 'fellrunnertop.TopNear'. -/
def topNearCard : Claim7 := { stood := { row := topNearRow, standIns := [], harness := (true, "b166bb114a21f2d2d6e765b5cc6bab8879b7c91b4404e1b3b9aa7da79841eb9a"), looks := true }, kinds := [], alts := [], laidByText := true, laidKinds := [.data, .data], laidTests := true, laidLooks := .later }
def TopNearCardSaid : Prop := Claim7.holds Tryd.pinned (.plain (OpenSpec.ofChange topNearSpec)) topNearCard

/-- THE SECOND FORM's CARD OF 'fellrunnerlaw.FloodSays'. -/
def floodSaysUptoCard : Claim7 := { stood := { row := floodSaysUptoRow, standIns := [], harness := (true, "b166bb114a21f2d2d6e765b5cc6bab8879b7c91b4404e1b3b9aa7da79841eb9a"), looks := true }, kinds := [], alts := [], laidByText := true, laidKinds := [.data], laidTests := true, laidLooks := .later }
def FloodSaysUptoCardSaid : Prop := Claim7.holds Tryd.pinned (.plain (OpenSpec.upto floodSaysSpec)) floodSaysUptoCard

/-- THE SECOND FORM's CARD OF 'fellrunnertop.TopFlood'. -/
def topFloodUptoCard : Claim7 := { stood := { row := topFloodUptoRow, standIns := [], harness := (true, "b166bb114a21f2d2d6e765b5cc6bab8879b7c91b4404e1b3b9aa7da79841eb9a"), looks := true }, kinds := [], alts := [], laidByText := true, laidKinds := [.data], laidTests := true, laidLooks := .later }
def TopFloodUptoCardSaid : Prop := Claim7.holds Tryd.pinned (.plain (OpenSpec.upto topFloodSpec)) topFloodUptoCard

/-- THE SECOND FORM's CARD OF 'fellrunnerlaw.CornerSays'. -/
def cornerSaysUptoCard : Claim7 := { stood := { row := cornerSaysUptoRow, standIns := [], harness := (true, "b166bb114a21f2d2d6e765b5cc6bab8879b7c91b4404e1b3b9aa7da79841eb9a"), looks := true }, kinds := [], alts := [], laidByText := true, laidKinds := [.data], laidTests := true, laidLooks := .later }
def CornerSaysUptoCardSaid : Prop := Claim7.holds Tryd.pinned (.plain (OpenSpec.upto cornerSaysSpec)) cornerSaysUptoCard

/-- THE SECOND FORM's CARD OF 'fellrunnerlaw.ReachSays'. -/
def reachSaysUptoCard : Claim7 := { stood := { row := reachSaysUptoRow, standIns := [], harness := (true, "b166bb114a21f2d2d6e765b5cc6bab8879b7c91b4404e1b3b9aa7da79841eb9a"), looks := true }, kinds := [], alts := [], laidByText := true, laidKinds := [.data, .data], laidTests := true, laidLooks := .later }
def ReachSaysUptoCardSaid : Prop := Claim7.holds Tryd.pinned (.plain (OpenSpec.upto reachSaysSpec)) reachSaysUptoCard

/-- THE SECOND FORM's CARD OF 'fellrunnertop.TopCorner'. -/
def topCornerUptoCard : Claim7 := { stood := { row := topCornerUptoRow, standIns := [], harness := (true, "b166bb114a21f2d2d6e765b5cc6bab8879b7c91b4404e1b3b9aa7da79841eb9a"), looks := true }, kinds := [], alts := [], laidByText := true, laidKinds := [.data, .data], laidTests := true, laidLooks := .later }
def TopCornerUptoCardSaid : Prop := Claim7.holds Tryd.pinned (.plain (OpenSpec.upto topCornerSpec)) topCornerUptoCard

/-- THE SECOND FORM's CARD OF 'fellrunnertop.TopNear'. -/
def topNearUptoCard : Claim7 := { stood := { row := topNearUptoRow, standIns := [], harness := (true, "b166bb114a21f2d2d6e765b5cc6bab8879b7c91b4404e1b3b9aa7da79841eb9a"), looks := true }, kinds := [], alts := [], laidByText := true, laidKinds := [.data, .data], laidTests := true, laidLooks := .later }
def TopNearUptoCardSaid : Prop := Claim7.holds Tryd.pinned (.plain (OpenSpec.upto topNearSpec)) topNearUptoCard
end Rows
end Go.Proofs.YtfhicijgpdpfpaaDoor
