/-
  DERIVED. GIVEN WITH THE SEED: THE CARDS: each row of YtmlcollooomioaaDoorRows.lean that lists a variable, with what it lists TIED to the program's text (the seventh form; the later family's looks); each row that meets fmt, with fmt's text TOLD by the authors' own Lean function (tested against real Go, not proved from fmt's source: count such statements apart). THE CARD IS WHAT COUNTS. Prove the row's statement (the work); the ties are given (YtmlcollooomioaaDoorTie.lean); close each card by the builder's one call (the guide's Derived/Test/ToyasCard.lean, 'card_holds'). Laid BY PROGRAM, IN A SANDBOX (cutbox-door.mjs). By AI agents, Wed Nov 11 2026. No macro, syntax, notation, axiom, sorry.
-/
import Derived.Test.YtmlcollooomioaaDoorRows
import GoSem.ClaimSeven
namespace Go.Proofs.YtmlcollooomioaaDoor
namespace Rows

/-- THE TIED CARD OF 'fellrunnerlaw.Names'. -/
def namesCard : Claim7 := { stood := { row := namesRow, standIns := [], harness := (true, "8b5abbc6dba656bd375eb239c172760dba5c93135eab9e3713e230b590aef8b8"), looks := true }, kinds := [], alts := [], laidByText := true, laidKinds := [.data, .data, .data], laidTests := true, laidLooks := .later }
def NamesCardSaid : Prop := Claim7.holds Tryd.pinned (.plain (OpenSpec.ofChange namesSpec)) namesCard

/-- THE TIED CARD OF 'fellrunnerlaw.GridSays'. -/
def gridSaysCard : Claim7 := { stood := { row := gridSaysRow, standIns := [], harness := (true, "8b5abbc6dba656bd375eb239c172760dba5c93135eab9e3713e230b590aef8b8"), looks := true }, kinds := [], alts := [], laidByText := true, laidKinds := [.data], laidTests := true, laidLooks := .later }
def GridSaysCardSaid : Prop := Claim7.holds Tryd.pinned (.plain (OpenSpec.ofChange gridSaysSpec)) gridSaysCard

/-- THE TIED CARD OF 'fellrunnertop.TopMoves'. -/
def topMovesCard : Claim7 := { stood := { row := topMovesRow, standIns := [], harness := (true, "8b5abbc6dba656bd375eb239c172760dba5c93135eab9e3713e230b590aef8b8"), looks := true }, kinds := [], alts := [], laidByText := true, laidKinds := [.data], laidTests := true, laidLooks := .later }
def TopMovesCardSaid : Prop := Claim7.holds Tryd.pinned (.plain (OpenSpec.ofChange topMovesSpec)) topMovesCard

/-- THE SECOND FORM's CARD OF 'fellrunnerlaw.Names'. -/
def namesUptoCard : Claim7 := { stood := { row := namesUptoRow, standIns := [], harness := (true, "8b5abbc6dba656bd375eb239c172760dba5c93135eab9e3713e230b590aef8b8"), looks := true }, kinds := [], alts := [], laidByText := true, laidKinds := [.data, .data, .data], laidTests := true, laidLooks := .later }
def NamesUptoCardSaid : Prop := Claim7.holds Tryd.pinned (.plain (OpenSpec.upto namesSpec)) namesUptoCard

/-- THE SECOND FORM's CARD OF 'fellrunnerlaw.GridSays'. -/
def gridSaysUptoCard : Claim7 := { stood := { row := gridSaysUptoRow, standIns := [], harness := (true, "8b5abbc6dba656bd375eb239c172760dba5c93135eab9e3713e230b590aef8b8"), looks := true }, kinds := [], alts := [], laidByText := true, laidKinds := [.data], laidTests := true, laidLooks := .later }
def GridSaysUptoCardSaid : Prop := Claim7.holds Tryd.pinned (.plain (OpenSpec.upto gridSaysSpec)) gridSaysUptoCard

/-- THE SECOND FORM's CARD OF 'fellrunnertop.TopMoves'. -/
def topMovesUptoCard : Claim7 := { stood := { row := topMovesUptoRow, standIns := [], harness := (true, "8b5abbc6dba656bd375eb239c172760dba5c93135eab9e3713e230b590aef8b8"), looks := true }, kinds := [], alts := [], laidByText := true, laidKinds := [.data], laidTests := true, laidLooks := .later }
def TopMovesUptoCardSaid : Prop := Claim7.holds Tryd.pinned (.plain (OpenSpec.upto topMovesSpec)) topMovesUptoCard
end Rows
end Go.Proofs.YtmlcollooomioaaDoor
