/-
  NARROWER THAN 'FOR EVERY INPUT', by the rows' own cells (each row's printed sentence says how): LevelsSays: laid · TopLevels: laid · SearchSays: laid · TopSearch: laid.
  DERIVED. THE GIVEN ROWS OF THIS SEAT. 4 by the template 'for every input the law returns true; each argument reads behind the call as it read before'; 0 by the template 'total and deterministic' (their statements: YtmnpplkjhnoglaaGreatDoorTotals.lean).
  GIVEN WITH THE SEED: the statements are not yours to turn. If you find one false, say at which input.
  Laid BY PROGRAM, IN A SANDBOX (cutbox-rows.mjs): the forced cells as the released guide's own fill.sh prints them over the translation b39321518ed794b0… (all of the seat's roots in one cut). By AI agents, Wed Nov 11 2026. No macro, syntax, notation, axiom, sorry.
-/
import Derived.Test.YtmnpplkjhnoglaaGreatDoorChecked
import GoSem.Claim
import GoSem.ClaimJoined
import GoSem.ClaimMapViews
import Derived.JoinedTies
import Derived.KernelRfl
namespace Go.Proofs.YtmnpplkjhnoglaaGreatDoor
/- THE CELL 'sum', in the pinned program and in every row, IS THE sha256 OF THE DUMP (.gsa) THAT YtmnpplkjhnoglaaGreatDoorProg.lean LOADS. Nothing in Lean hashes anything: it is a label: what it is worth is what the hold of that sum in a sandbox is worth. -/
noncomputable def Tryz.pinned : Pinned := { name := "ytmnpplkjhnoglaagreatdoor", sum := "b39321518ed794b0b97995ef4ac1d1db78ec5bb5a9ac8ba1e36e14aeaf6b1452", checked := Tryz.checked }
namespace Rows
def none {H : Type} : Left H := { results := [], args := [] }

/- WHAT THE LISTED PACKAGE-LEVEL VARIABLES READ AS WHEN THE CALL BEGINS. Each datum BY PROGRAM (the guide's laid-datum.mjs) off the statement by which the dump's own 'gosem.cut.vars' lays the variable. In a bare row this is a premise. The card (YtmnpplkjhnoglaaGreatDoorCards.lean) ties it to the program's text. -/
def laid_fellrunner_grid_steps {H : Type} : DataW H := .agg [.agg [.lit (.int .i64 0), .lit (.int .i64 (-1))], .agg [.lit (.int .i64 1), .lit (.int .i64 (-1))], .agg [.lit (.int .i64 1), .lit (.int .i64 0)], .agg [.lit (.int .i64 1), .lit (.int .i64 1)], .agg [.lit (.int .i64 0), .lit (.int .i64 1)], .agg [.lit (.int .i64 (-1)), .lit (.int .i64 1)], .agg [.lit (.int .i64 (-1)), .lit (.int .i64 0)], .agg [.lit (.int .i64 (-1)), .lit (.int .i64 (-1))]]
def laid_fellrunner_reach_diagonalFirst {H : Type} : DataW H := .agg [.lit (.int .i64 1), .lit (.int .i64 3), .lit (.int .i64 5), .lit (.int .i64 7), .lit (.int .i64 0), .lit (.int .i64 2), .lit (.int .i64 4), .lit (.int .i64 6)]

/-- 'fellrunnerlaw.LevelsSays': WHATEVER THE INPUT: true; the input reads as it did. -/
def levelsSaysSpec : ChangeSpec := { name := "levelsSays", fn := fun _ => fun
  | [d1, d2] => { results := [.lit (.bool true)], args := [d1, d2] }
  | _ => none }
def levelsSaysRow : OpenClaim := { program := "ytmnpplkjhnoglaagreatdoor", sum := "b39321518ed794b0b97995ef4ac1d1db78ec5bb5a9ac8ba1e36e14aeaf6b1452", func := "fellrunner/fellrunnerlaw.LevelsSays", spec := "levelsSays", inPlace := ["slices.overlaps[fellrunner/api.Edge]"], unfollowed := true, recurses := true, named := ["fellrunner/grid.steps"], apart := false, laid := [("fellrunner/grid.steps", laid_fellrunner_grid_steps)] }
def LevelsSaysSaid : Prop := levelsSaysRow.holds Tryz.pinned (OpenSpec.ofChange levelsSaysSpec)

/-- ITS FALSE NEIGHBOUR: 'it returns false'. Refute it at one input. -/
def levelsSaysWrong : ChangeSpec := { name := "levelsSays", fn := fun _ => fun
  | [d1, d2] => { results := [.lit (.bool false)], args := [d1, d2] }
  | _ => none }
def LevelsSaysWrongFalsely : Prop := levelsSaysRow.holds Tryz.pinned (OpenSpec.ofChange levelsSaysWrong)

/-- 'fellrunnertop.TopLevels': WHATEVER THE INPUT: true; the input reads as it did. -/
def topLevelsSpec : ChangeSpec := { name := "topLevels", fn := fun _ => fun
  | [d1, d2] => { results := [.lit (.bool true)], args := [d1, d2] }
  | _ => none }
def topLevelsRow : OpenClaim := { program := "ytmnpplkjhnoglaagreatdoor", sum := "b39321518ed794b0b97995ef4ac1d1db78ec5bb5a9ac8ba1e36e14aeaf6b1452", func := "fellrunner/fellrunnertop.TopLevels", spec := "topLevels", inPlace := ["slices.overlaps[fellrunner/api.Edge]"], unfollowed := true, recurses := true, named := ["fellrunner/grid.steps"], apart := false, laid := [("fellrunner/grid.steps", laid_fellrunner_grid_steps)] }
def TopLevelsSaid : Prop := topLevelsRow.holds Tryz.pinned (OpenSpec.ofChange topLevelsSpec)

/-- ITS FALSE NEIGHBOUR: 'it returns false'. Refute it at one input. -/
def topLevelsWrong : ChangeSpec := { name := "topLevels", fn := fun _ => fun
  | [d1, d2] => { results := [.lit (.bool false)], args := [d1, d2] }
  | _ => none }
def TopLevelsWrongFalsely : Prop := topLevelsRow.holds Tryz.pinned (OpenSpec.ofChange topLevelsWrong)

/-- 'fellrunnerlaw.SearchSays': WHATEVER THE INPUT: true; the input reads as it did. -/
def searchSaysSpec : ChangeSpec := { name := "searchSays", fn := fun _ => fun
  | [d1, d2, d3, d4, d5] => { results := [.lit (.bool true)], args := [d1, d2, d3, d4, d5] }
  | _ => none }
def searchSaysRow : OpenClaim := { program := "ytmnpplkjhnoglaagreatdoor", sum := "b39321518ed794b0b97995ef4ac1d1db78ec5bb5a9ac8ba1e36e14aeaf6b1452", func := "fellrunner/fellrunnerlaw.SearchSays", spec := "searchSays", inPlace := ["slices.overlaps[fellrunner/api.Edge]"], unfollowed := true, recurses := true, named := ["fellrunner/grid.steps"], apart := false, laid := [("fellrunner/grid.steps", laid_fellrunner_grid_steps)] }
def SearchSaysSaid : Prop := searchSaysRow.holds Tryz.pinned (OpenSpec.ofChange searchSaysSpec)

/-- ITS FALSE NEIGHBOUR: 'it returns false'. Refute it at one input. -/
def searchSaysWrong : ChangeSpec := { name := "searchSays", fn := fun _ => fun
  | [d1, d2, d3, d4, d5] => { results := [.lit (.bool false)], args := [d1, d2, d3, d4, d5] }
  | _ => none }
def SearchSaysWrongFalsely : Prop := searchSaysRow.holds Tryz.pinned (OpenSpec.ofChange searchSaysWrong)

/-- 'fellrunnertop.TopSearch': WHATEVER THE INPUT: true; the input reads as it did. -/
def topSearchSpec : ChangeSpec := { name := "topSearch", fn := fun _ => fun
  | [d1, d2, d3, d4] => { results := [.lit (.bool true)], args := [d1, d2, d3, d4] }
  | _ => none }
def topSearchRow : OpenClaim := { program := "ytmnpplkjhnoglaagreatdoor", sum := "b39321518ed794b0b97995ef4ac1d1db78ec5bb5a9ac8ba1e36e14aeaf6b1452", func := "fellrunner/fellrunnertop.TopSearch", spec := "topSearch", inPlace := ["slices.overlaps[fellrunner/api.Edge]"], unfollowed := true, recurses := true, named := ["fellrunner/grid.steps", "fellrunner/reach.diagonalFirst"], apart := false, laid := [("fellrunner/grid.steps", laid_fellrunner_grid_steps), ("fellrunner/reach.diagonalFirst", laid_fellrunner_reach_diagonalFirst)] }
def TopSearchSaid : Prop := topSearchRow.holds Tryz.pinned (OpenSpec.ofChange topSearchSpec)

/-- ITS FALSE NEIGHBOUR: 'it returns false'. Refute it at one input. -/
def topSearchWrong : ChangeSpec := { name := "topSearch", fn := fun _ => fun
  | [d1, d2, d3, d4] => { results := [.lit (.bool false)], args := [d1, d2, d3, d4] }
  | _ => none }
def TopSearchWrongFalsely : Prop := topSearchRow.holds Tryz.pinned (OpenSpec.ofChange topSearchWrong)

/- THE SECOND FORM. 'bulk': how many values and letters a reading holds, each counted each time it is reached (what is shared counts as often as it is met; a slice's spare places count too). A statement '..UptoSaid' is the law's where the arguments, and the package variables that the reading takes, are together of bulk at most 1048576: NARROWER than '..Said'. Prove '..Said' where nothing that the law and all that it calls make is longer than what came in: it says more and counts as full. Else prove '..UptoSaid'. A law counts once. -/
mutual
def uptoBulk {H : Type} : DataW H → Nat
  | .lit (.string bytes) => bytes.length + 1
  | .lit _ => 1
  | .nil => 1
  | .ptr d => uptoBulk d + 1
  | .slice elems spare => uptoBulkAll elems + uptoBulkAll spare + 1
  | .agg parts => uptoBulkAll parts + 1
  | .iface _ d => uptoBulk d + 1
  | .map entries => uptoBulkEntries entries + 1
  | .held _ => 1
def uptoBulkAll {H : Type} : List (DataW H) → Nat
  | [] => 0
  | d :: r => uptoBulk d + uptoBulkAll r
def uptoBulkEntries {H : Type} : List (Lit × DataW H) → Nat
  | [] => 0
  | x :: r => uptoBulkEntry x + uptoBulkEntries r
def uptoBulkEntry {H : Type} : Lit × DataW H → Nat
  | (.string bytes, d) => bytes.length + uptoBulk d + 1
  | (_, d) => uptoBulk d + 1
 end
def uptoSmall : (H : Type) → List (DataW H) → Bool := fun _ ds => decide (uptoBulkAll ds ≤ 1048576)
def OpenSpec.upto (s : _root_.Go.ChangeSpec) : _root_.Go.OpenSpec := { _root_.Go.OpenSpec.ofChange s with cond := some uptoSmall }

/-- 'fellrunnerlaw.LevelsSays', WHERE WHAT IT READS IS OF BULK AT MOST 1048576: true; the input reads as it did. -/
def levelsSaysUptoRow : OpenClaim := { program := "ytmnpplkjhnoglaagreatdoor", sum := "b39321518ed794b0b97995ef4ac1d1db78ec5bb5a9ac8ba1e36e14aeaf6b1452", func := "fellrunner/fellrunnerlaw.LevelsSays", spec := "levelsSays", inPlace := ["slices.overlaps[fellrunner/api.Edge]"], unfollowed := true, recurses := true, named := ["fellrunner/grid.steps"], apart := false, laid := [("fellrunner/grid.steps", laid_fellrunner_grid_steps)], narrowed := true }
def LevelsSaysUptoSaid : Prop := levelsSaysUptoRow.holds Tryz.pinned (OpenSpec.upto levelsSaysSpec)

/-- 'fellrunnertop.TopLevels', WHERE WHAT IT READS IS OF BULK AT MOST 1048576: true; the input reads as it did. -/
def topLevelsUptoRow : OpenClaim := { program := "ytmnpplkjhnoglaagreatdoor", sum := "b39321518ed794b0b97995ef4ac1d1db78ec5bb5a9ac8ba1e36e14aeaf6b1452", func := "fellrunner/fellrunnertop.TopLevels", spec := "topLevels", inPlace := ["slices.overlaps[fellrunner/api.Edge]"], unfollowed := true, recurses := true, named := ["fellrunner/grid.steps"], apart := false, laid := [("fellrunner/grid.steps", laid_fellrunner_grid_steps)], narrowed := true }
def TopLevelsUptoSaid : Prop := topLevelsUptoRow.holds Tryz.pinned (OpenSpec.upto topLevelsSpec)

/-- 'fellrunnerlaw.SearchSays', WHERE WHAT IT READS IS OF BULK AT MOST 1048576: true; the input reads as it did. -/
def searchSaysUptoRow : OpenClaim := { program := "ytmnpplkjhnoglaagreatdoor", sum := "b39321518ed794b0b97995ef4ac1d1db78ec5bb5a9ac8ba1e36e14aeaf6b1452", func := "fellrunner/fellrunnerlaw.SearchSays", spec := "searchSays", inPlace := ["slices.overlaps[fellrunner/api.Edge]"], unfollowed := true, recurses := true, named := ["fellrunner/grid.steps"], apart := false, laid := [("fellrunner/grid.steps", laid_fellrunner_grid_steps)], narrowed := true }
def SearchSaysUptoSaid : Prop := searchSaysUptoRow.holds Tryz.pinned (OpenSpec.upto searchSaysSpec)

/-- 'fellrunnertop.TopSearch', WHERE WHAT IT READS IS OF BULK AT MOST 1048576: true; the input reads as it did. -/
def topSearchUptoRow : OpenClaim := { program := "ytmnpplkjhnoglaagreatdoor", sum := "b39321518ed794b0b97995ef4ac1d1db78ec5bb5a9ac8ba1e36e14aeaf6b1452", func := "fellrunner/fellrunnertop.TopSearch", spec := "topSearch", inPlace := ["slices.overlaps[fellrunner/api.Edge]"], unfollowed := true, recurses := true, named := ["fellrunner/grid.steps", "fellrunner/reach.diagonalFirst"], apart := false, laid := [("fellrunner/grid.steps", laid_fellrunner_grid_steps), ("fellrunner/reach.diagonalFirst", laid_fellrunner_reach_diagonalFirst)], narrowed := true }
def TopSearchUptoSaid : Prop := topSearchUptoRow.holds Tryz.pinned (OpenSpec.upto topSearchSpec)

end Rows
end Go.Proofs.YtmnpplkjhnoglaaGreatDoor
