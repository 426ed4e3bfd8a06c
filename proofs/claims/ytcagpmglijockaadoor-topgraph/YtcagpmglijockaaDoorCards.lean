/-
  DERIVED. GIVEN WITH THE SEED: THE CARDS: each row of YtcagpmglijockaaDoorRows.lean that lists a variable, with what it lists TIED to the program's text (the seventh form; the later family's looks); each row that meets fmt, with fmt's text TOLD by the authors' own Lean function (tested against real Go, not proved from fmt's source: count such statements apart). THE CARD IS WHAT COUNTS. Prove the row's statement (the work); the ties are given (YtcagpmglijockaaDoorTie.lean); close each card by the builder's one call (the guide's Derived/Test/ToyasCard.lean, 'card_holds'). Laid BY PROGRAM, IN A SANDBOX (cutbox-door.mjs). By AI agents, Wed Nov 11 2026. No macro, syntax, notation, axiom, sorry.
-/
import Derived.Test.YtcagpmglijockaaDoorRows
import GoSem.ClaimSeven
namespace Go.Proofs.YtcagpmglijockaaDoor
namespace Rows

/-- THE TIED CARD OF 'fellrunnertop.TopGraph'. -/
def topGraphCard : Claim7 := { stood := { row := topGraphRow, standIns := [], harness := (true, "e86d89edb90fe774638a92c7fe7f52235dae67c71e2a6599245dffe698560cd1"), looks := false }, kinds := [], alts := [], laidByText := true, laidKinds := [.data], laidTests := true, laidLooks := .later }
def TopGraphCardSaid : Prop := Claim7.holds Tryd.pinned (.plain (OpenSpec.ofChange topGraphSpec)) topGraphCard

/-- THE TIED CARD OF 'fellrunnertop.TopRepair'. -/
def topRepairCard : Claim7 := { stood := { row := topRepairRow, standIns := [], harness := (true, "e86d89edb90fe774638a92c7fe7f52235dae67c71e2a6599245dffe698560cd1"), looks := false }, kinds := [], alts := [], laidByText := true, laidKinds := [.data], laidTests := true, laidLooks := .later }
def TopRepairCardSaid : Prop := Claim7.holds Tryd.pinned (.plain (OpenSpec.ofChange topRepairSpec)) topRepairCard

/-- THE SECOND FORM's CARD OF 'fellrunnertop.TopGraph'. -/
def topGraphUptoCard : Claim7 := { stood := { row := topGraphUptoRow, standIns := [], harness := (true, "e86d89edb90fe774638a92c7fe7f52235dae67c71e2a6599245dffe698560cd1"), looks := false }, kinds := [], alts := [], laidByText := true, laidKinds := [.data], laidTests := true, laidLooks := .later }
def TopGraphUptoCardSaid : Prop := Claim7.holds Tryd.pinned (.plain (OpenSpec.upto topGraphSpec)) topGraphUptoCard

/-- THE SECOND FORM's CARD OF 'fellrunnertop.TopRepair'. -/
def topRepairUptoCard : Claim7 := { stood := { row := topRepairUptoRow, standIns := [], harness := (true, "e86d89edb90fe774638a92c7fe7f52235dae67c71e2a6599245dffe698560cd1"), looks := false }, kinds := [], alts := [], laidByText := true, laidKinds := [.data], laidTests := true, laidLooks := .later }
def TopRepairUptoCardSaid : Prop := Claim7.holds Tryd.pinned (.plain (OpenSpec.upto topRepairSpec)) topRepairUptoCard
end Rows
end Go.Proofs.YtcagpmglijockaaDoor
