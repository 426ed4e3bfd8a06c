/-
  NARROWER THAN 'FOR EVERY INPUT', by the rows' own cells (each row's printed sentence says how): FloodSays: laid · TopFlood: laid · CornerSays: laid · ReachSays: laid · TopCorner: laid · TopNear: laid.
  DERIVED. THE GIVEN ROWS OF THIS SEAT. 6 by the template 'for every input the law returns true; each argument reads behind the call as it read before'; 0 by the template 'total and deterministic' (their statements: YtfhicijgpdpfpaaDoorTotals.lean).
  GIVEN WITH THE SEED: the statements are not yours to turn. If you find one false, say at which input.
  Laid BY PROGRAM, IN A SANDBOX (cutbox-rows.mjs): the forced cells as the released guide's own fill.sh prints them over the translation 3997810900f8bd4c… (all of the seat's roots in one cut). By AI agents, Wed Nov 11 2026. No macro, syntax, notation, axiom, sorry.
-/
import Derived.Test.YtfhicijgpdpfpaaDoorChecked
import GoSem.Claim
import GoSem.ClaimJoined
import GoSem.ClaimMapViews
import Derived.JoinedTies
import Derived.KernelRfl
namespace Go.Proofs.YtfhicijgpdpfpaaDoor
/- THE CELL 'sum', in the pinned program and in every row, IS THE sha256 OF THE DUMP (.gsa) THAT YtfhicijgpdpfpaaDoorProg.lean LOADS. Nothing in Lean hashes anything: it is a label: what it is worth is what the hold of that sum in a sandbox is worth. -/
noncomputable def Tryd.pinned : Pinned := { name := "ytfhicijgpdpfpaadoor", sum := "3997810900f8bd4c7cb102d062e6c9b72accb696dfeaea4cb6ddced231cd4bc3", checked := Tryd.checked }
namespace Rows
def none {H : Type} : Left H := { results := [], args := [] }

/- WHAT THE LISTED PACKAGE-LEVEL VARIABLES READ AS WHEN THE CALL BEGINS. Each datum BY PROGRAM (the guide's laid-datum.mjs) off the statement by which the dump's own 'gosem.cut.vars' lays the variable. In a bare row this is a premise. The card (YtfhicijgpdpfpaaDoorCards.lean) ties it to the program's text. -/
def laid_fellrunner_grid_steps {H : Type} : DataW H := .agg [.agg [.lit (.int .i64 0), .lit (.int .i64 (-1))], .agg [.lit (.int .i64 1), .lit (.int .i64 (-1))], .agg [.lit (.int .i64 1), .lit (.int .i64 0)], .agg [.lit (.int .i64 1), .lit (.int .i64 1)], .agg [.lit (.int .i64 0), .lit (.int .i64 1)], .agg [.lit (.int .i64 (-1)), .lit (.int .i64 1)], .agg [.lit (.int .i64 (-1)), .lit (.int .i64 0)], .agg [.lit (.int .i64 (-1)), .lit (.int .i64 (-1))]]
def laid_fellrunner_reach_diagonalFirst {H : Type} : DataW H := .agg [.lit (.int .i64 1), .lit (.int .i64 3), .lit (.int .i64 5), .lit (.int .i64 7), .lit (.int .i64 0), .lit (.int .i64 2), .lit (.int .i64 4), .lit (.int .i64 6)]

/-- 'fellrunnerlaw.FloodSays': WHATEVER THE INPUT: true; the input reads as it did. -/
def floodSaysSpec : ChangeSpec := { name := "floodSays", fn := fun _ => fun
  | [d1, d2, d3] => { results := [.lit (.bool true)], args := [d1, d2, d3] }
  | _ => none }
def floodSaysRow : OpenClaim := { program := "ytfhicijgpdpfpaadoor", sum := "3997810900f8bd4c7cb102d062e6c9b72accb696dfeaea4cb6ddced231cd4bc3", func := "fellrunner/fellrunnerlaw.FloodSays", spec := "floodSays", unfollowed := true, recurses := true, named := ["fellrunner/grid.steps"], apart := false, laid := [("fellrunner/grid.steps", laid_fellrunner_grid_steps)] }
def FloodSaysSaid : Prop := floodSaysRow.holds Tryd.pinned (OpenSpec.ofChange floodSaysSpec)

/-- ITS FALSE NEIGHBOUR: 'it returns false'. Refute it at one input. -/
def floodSaysWrong : ChangeSpec := { name := "floodSays", fn := fun _ => fun
  | [d1, d2, d3] => { results := [.lit (.bool false)], args := [d1, d2, d3] }
  | _ => none }
def FloodSaysWrongFalsely : Prop := floodSaysRow.holds Tryd.pinned (OpenSpec.ofChange floodSaysWrong)

/-- 'fellrunnertop.TopFlood': WHATEVER THE INPUT: true; the input reads as it did. -/
def topFloodSpec : ChangeSpec := { name := "topFlood", fn := fun _ => fun
  | [d1, d2] => { results := [.lit (.bool true)], args := [d1, d2] }
  | _ => none }
def topFloodRow : OpenClaim := { program := "ytfhicijgpdpfpaadoor", sum := "3997810900f8bd4c7cb102d062e6c9b72accb696dfeaea4cb6ddced231cd4bc3", func := "fellrunner/fellrunnertop.TopFlood", spec := "topFlood", named := ["fellrunner/grid.steps"], apart := false, laid := [("fellrunner/grid.steps", laid_fellrunner_grid_steps)] }
def TopFloodSaid : Prop := topFloodRow.holds Tryd.pinned (OpenSpec.ofChange topFloodSpec)

/-- ITS FALSE NEIGHBOUR: 'it returns false'. Refute it at one input. -/
def topFloodWrong : ChangeSpec := { name := "topFlood", fn := fun _ => fun
  | [d1, d2] => { results := [.lit (.bool false)], args := [d1, d2] }
  | _ => none }
def TopFloodWrongFalsely : Prop := topFloodRow.holds Tryd.pinned (OpenSpec.ofChange topFloodWrong)

/-- 'fellrunnerlaw.CornerSays': WHATEVER THE INPUT: true; the input reads as it did. -/
def cornerSaysSpec : ChangeSpec := { name := "cornerSays", fn := fun _ => fun
  | [d1, d2] => { results := [.lit (.bool true)], args := [d1, d2] }
  | _ => none }
def cornerSaysRow : OpenClaim := { program := "ytfhicijgpdpfpaadoor", sum := "3997810900f8bd4c7cb102d062e6c9b72accb696dfeaea4cb6ddced231cd4bc3", func := "fellrunner/fellrunnerlaw.CornerSays", spec := "cornerSays", named := ["fellrunner/grid.steps"], apart := false, laid := [("fellrunner/grid.steps", laid_fellrunner_grid_steps)] }
def CornerSaysSaid : Prop := cornerSaysRow.holds Tryd.pinned (OpenSpec.ofChange cornerSaysSpec)

/-- ITS FALSE NEIGHBOUR: 'it returns false'. Refute it at one input. -/
def cornerSaysWrong : ChangeSpec := { name := "cornerSays", fn := fun _ => fun
  | [d1, d2] => { results := [.lit (.bool false)], args := [d1, d2] }
  | _ => none }
def CornerSaysWrongFalsely : Prop := cornerSaysRow.holds Tryd.pinned (OpenSpec.ofChange cornerSaysWrong)

/-- 'fellrunnerlaw.ReachSays': WHATEVER THE INPUT: true; the input reads as it did. -/
def reachSaysSpec : ChangeSpec := { name := "reachSays", fn := fun _ => fun
  | [d1, d2, d3] => { results := [.lit (.bool true)], args := [d1, d2, d3] }
  | _ => none }
def reachSaysRow : OpenClaim := { program := "ytfhicijgpdpfpaadoor", sum := "3997810900f8bd4c7cb102d062e6c9b72accb696dfeaea4cb6ddced231cd4bc3", func := "fellrunner/fellrunnerlaw.ReachSays", spec := "reachSays", named := ["fellrunner/reach.diagonalFirst", "fellrunner/grid.steps"], apart := false, laid := [("fellrunner/grid.steps", laid_fellrunner_grid_steps), ("fellrunner/reach.diagonalFirst", laid_fellrunner_reach_diagonalFirst)] }
def ReachSaysSaid : Prop := reachSaysRow.holds Tryd.pinned (OpenSpec.ofChange reachSaysSpec)

/-- ITS FALSE NEIGHBOUR: 'it returns false'. Refute it at one input. -/
def reachSaysWrong : ChangeSpec := { name := "reachSays", fn := fun _ => fun
  | [d1, d2, d3] => { results := [.lit (.bool false)], args := [d1, d2, d3] }
  | _ => none }
def ReachSaysWrongFalsely : Prop := reachSaysRow.holds Tryd.pinned (OpenSpec.ofChange reachSaysWrong)

/-- 'fellrunnertop.TopCorner': WHATEVER THE INPUT: true; the input reads as it did. -/
def topCornerSpec : ChangeSpec := { name := "topCorner", fn := fun _ => fun
  | [d1, d2, d3] => { results := [.lit (.bool true)], args := [d1, d2, d3] }
  | _ => none }
def topCornerRow : OpenClaim := { program := "ytfhicijgpdpfpaadoor", sum := "3997810900f8bd4c7cb102d062e6c9b72accb696dfeaea4cb6ddced231cd4bc3", func := "fellrunner/fellrunnertop.TopCorner", spec := "topCorner", named := ["fellrunner/grid.steps", "fellrunner/reach.diagonalFirst"], apart := false, laid := [("fellrunner/grid.steps", laid_fellrunner_grid_steps), ("fellrunner/reach.diagonalFirst", laid_fellrunner_reach_diagonalFirst)] }
def TopCornerSaid : Prop := topCornerRow.holds Tryd.pinned (OpenSpec.ofChange topCornerSpec)

/-- ITS FALSE NEIGHBOUR: 'it returns false'. Refute it at one input. -/
def topCornerWrong : ChangeSpec := { name := "topCorner", fn := fun _ => fun
  | [d1, d2, d3] => { results := [.lit (.bool false)], args := [d1, d2, d3] }
  | _ => none }
def TopCornerWrongFalsely : Prop := topCornerRow.holds Tryd.pinned (OpenSpec.ofChange topCornerWrong)

/-- 'fellrunnertop.TopNear': WHATEVER THE INPUT: true; the input reads as it did. -/
def topNearSpec : ChangeSpec := { name := "topNear", fn := fun _ => fun
  | [d1, d2, d3] => { results := [.lit (.bool true)], args := [d1, d2, d3] }
  | _ => none }
def topNearRow : OpenClaim := { program := "ytfhicijgpdpfpaadoor", sum := "3997810900f8bd4c7cb102d062e6c9b72accb696dfeaea4cb6ddced231cd4bc3", func := "fellrunner/fellrunnertop.TopNear", spec := "topNear", named := ["fellrunner/reach.diagonalFirst", "fellrunner/grid.steps"], apart := false, laid := [("fellrunner/grid.steps", laid_fellrunner_grid_steps), ("fellrunner/reach.diagonalFirst", laid_fellrunner_reach_diagonalFirst)] }
def TopNearSaid : Prop := topNearRow.holds Tryd.pinned (OpenSpec.ofChange topNearSpec)

/-- ITS FALSE NEIGHBOUR: 'it returns false'. Refute it at one input. -/
def topNearWrong : ChangeSpec := { name := "topNear", fn := fun _ => fun
  | [d1, d2, d3] => { results := [.lit (.bool false)], args := [d1, d2, d3] }
  | _ => none }
def TopNearWrongFalsely : Prop := topNearRow.holds Tryd.pinned (OpenSpec.ofChange topNearWrong)

/- THE SECOND FORM. 'bulk': how many values and letters a reading holds, each counted each time it is reached (what is shared counts as often as it is met; a slice's spare places count too). A statement '..UptoSaid' is the law's where the arguments, and the package variables that the reading takes, are together of bulk at most 1048576: NARROWER than '..Said'. Prove '..Said' where nothing that the law and all that it calls make is longer than what came in: it says more and counts as full. Else prove '..UptoSaid'. A law counts once. -/
mutual
def uptoBulk {H : Type} : DataW H → Nat
  | .lit (.string bytes) => bytes.length + 1
  | .lit _ => 1
  | .nil => 1
  | .ptr d => uptoBulk d + 1
  | .slice elems spare => uptoBulkAll elems + uptoBulkAll spare + 1
  | .agg parts => uptoBulkAll parts + 1
  | .iface _ d => uptoBulk d + 1
  | .map entries => uptoBulkEntries entries + 1
  | .held _ => 1
def uptoBulkAll {H : Type} : List (DataW H) → Nat
  | [] => 0
  | d :: r => uptoBulk d + uptoBulkAll r
def uptoBulkEntries {H : Type} : List (Lit × DataW H) → Nat
  | [] => 0
  | x :: r => uptoBulkEntry x + uptoBulkEntries r
def uptoBulkEntry {H : Type} : Lit × DataW H → Nat
  | (.string bytes, d) => bytes.length + uptoBulk d + 1
  | (_, d) => uptoBulk d + 1
 end
def uptoSmall : (H : Type) → List (DataW H) → Bool := fun _ ds => decide (uptoBulkAll ds ≤ 1048576)
def OpenSpec.upto (s : _root_.Go.ChangeSpec) : _root_.Go.OpenSpec := { _root_.Go.OpenSpec.ofChange s with cond := some uptoSmall }

/-- 'fellrunnerlaw.FloodSays', WHERE WHAT IT READS IS OF BULK AT MOST 1048576: true; the input reads as it did. -/
def floodSaysUptoRow : OpenClaim := { program := "ytfhicijgpdpfpaadoor", sum := "3997810900f8bd4c7cb102d062e6c9b72accb696dfeaea4cb6ddced231cd4bc3", func := "fellrunner/fellrunnerlaw.FloodSays", spec := "floodSays", unfollowed := true, recurses := true, named := ["fellrunner/grid.steps"], apart := false, laid := [("fellrunner/grid.steps", laid_fellrunner_grid_steps)], narrowed := true }
def FloodSaysUptoSaid : Prop := floodSaysUptoRow.holds Tryd.pinned (OpenSpec.upto floodSaysSpec)

/-- 'fellrunnertop.TopFlood', WHERE WHAT IT READS IS OF BULK AT MOST 1048576: true; the input reads as it did. -/
def topFloodUptoRow : OpenClaim := { program := "ytfhicijgpdpfpaadoor", sum := "3997810900f8bd4c7cb102d062e6c9b72accb696dfeaea4cb6ddced231cd4bc3", func := "fellrunner/fellrunnertop.TopFlood", spec := "topFlood", named := ["fellrunner/grid.steps"], apart := false, laid := [("fellrunner/grid.steps", laid_fellrunner_grid_steps)], narrowed := true }
def TopFloodUptoSaid : Prop := topFloodUptoRow.holds Tryd.pinned (OpenSpec.upto topFloodSpec)

/-- 'fellrunnerlaw.CornerSays', WHERE WHAT IT READS IS OF BULK AT MOST 1048576: true; the input reads as it did. -/
def cornerSaysUptoRow : OpenClaim := { program := "ytfhicijgpdpfpaadoor", sum := "3997810900f8bd4c7cb102d062e6c9b72accb696dfeaea4cb6ddced231cd4bc3", func := "fellrunner/fellrunnerlaw.CornerSays", spec := "cornerSays", named := ["fellrunner/grid.steps"], apart := false, laid := [("fellrunner/grid.steps", laid_fellrunner_grid_steps)], narrowed := true }
def CornerSaysUptoSaid : Prop := cornerSaysUptoRow.holds Tryd.pinned (OpenSpec.upto cornerSaysSpec)

/-- 'fellrunnerlaw.ReachSays', WHERE WHAT IT READS IS OF BULK AT MOST 1048576: true; the input reads as it did. -/
def reachSaysUptoRow : OpenClaim := { program := "ytfhicijgpdpfpaadoor", sum := "3997810900f8bd4c7cb102d062e6c9b72accb696dfeaea4cb6ddced231cd4bc3", func := "fellrunner/fellrunnerlaw.ReachSays", spec := "reachSays", named := ["fellrunner/reach.diagonalFirst", "fellrunner/grid.steps"], apart := false, laid := [("fellrunner/grid.steps", laid_fellrunner_grid_steps), ("fellrunner/reach.diagonalFirst", laid_fellrunner_reach_diagonalFirst)], narrowed := true }
def ReachSaysUptoSaid : Prop := reachSaysUptoRow.holds Tryd.pinned (OpenSpec.upto reachSaysSpec)

/-- 'fellrunnertop.TopCorner', WHERE WHAT IT READS IS OF BULK AT MOST 1048576: true; the input reads as it did. -/
def topCornerUptoRow : OpenClaim := { program := "ytfhicijgpdpfpaadoor", sum := "3997810900f8bd4c7cb102d062e6c9b72accb696dfeaea4cb6ddced231cd4bc3", func := "fellrunner/fellrunnertop.TopCorner", spec := "topCorner", named := ["fellrunner/grid.steps", "fellrunner/reach.diagonalFirst"], apart := false, laid := [("fellrunner/grid.steps", laid_fellrunner_grid_steps), ("fellrunner/reach.diagonalFirst", laid_fellrunner_reach_diagonalFirst)], narrowed := true }
def TopCornerUptoSaid : Prop := topCornerUptoRow.holds Tryd.pinned (OpenSpec.upto topCornerSpec)

/-- 'fellrunnertop.TopNear', WHERE WHAT IT READS IS OF BULK AT MOST 1048576: true; the input reads as it did. -/
def topNearUptoRow : OpenClaim := { program := "ytfhicijgpdpfpaadoor", sum := "3997810900f8bd4c7cb102d062e6c9b72accb696dfeaea4cb6ddced231cd4bc3", func := "fellrunner/fellrunnertop.TopNear", spec := "topNear", named := ["fellrunner/reach.diagonalFirst", "fellrunner/grid.steps"], apart := false, laid := [("fellrunner/grid.steps", laid_fellrunner_grid_steps), ("fellrunner/reach.diagonalFirst", laid_fellrunner_reach_diagonalFirst)], narrowed := true }
def TopNearUptoSaid : Prop := topNearUptoRow.holds Tryd.pinned (OpenSpec.upto topNearSpec)

end Rows
end Go.Proofs.YtfhicijgpdpfpaaDoor
