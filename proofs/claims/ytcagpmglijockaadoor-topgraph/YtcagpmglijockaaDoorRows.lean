/-
  NARROWER THAN 'FOR EVERY INPUT', by the rows' own cells (each row's printed sentence says how): TopGraph: laid · TopRepair: laid.
  DERIVED. THE GIVEN ROWS OF THIS SEAT. 2 by the template 'for every input the law returns true; each argument reads behind the call as it read before'; 0 by the template 'total and deterministic' (their statements: YtcagpmglijockaaDoorTotals.lean).
  GIVEN WITH THE SEED: the statements are not yours to turn. If you find one false, say at which input.
  Laid BY PROGRAM, IN A SANDBOX (cutbox-rows.mjs): the forced cells as the released guide's own fill.sh prints them over the translation ebd30fd8a2087813… (all of the seat's roots in one cut). By AI agents, Wed Nov 11 2026. No macro, syntax, notation, axiom, sorry.
-/
import Derived.Test.YtcagpmglijockaaDoorChecked
import GoSem.Claim
import GoSem.ClaimJoined
import GoSem.ClaimMapViews
import Derived.JoinedTies
import Derived.KernelRfl
namespace Go.Proofs.YtcagpmglijockaaDoor
/- THE CELL 'sum', in the pinned program and in every row, IS THE sha256 OF THE DUMP (.gsa) THAT YtcagpmglijockaaDoorProg.lean LOADS. Nothing in Lean hashes anything: it is a label: what it is worth is what the hold of that sum in a sandbox is worth. -/
noncomputable def Tryd.pinned : Pinned := { name := "ytcagpmglijockaadoor", sum := "ebd30fd8a208781364170964a3ec707bc9d8df4e1149c68f4e8e8ea44aa10400", checked := Tryd.checked }
namespace Rows
def none {H : Type} : Left H := { results := [], args := [] }

/- WHAT THE LISTED PACKAGE-LEVEL VARIABLES READ AS WHEN THE CALL BEGINS. Each datum BY PROGRAM (the guide's laid-datum.mjs) off the statement by which the dump's own 'gosem.cut.vars' lays the variable. In a bare row this is a premise. The card (YtcagpmglijockaaDoorCards.lean) ties it to the program's text. -/
def laid_fellrunner_grid_steps {H : Type} : DataW H := .agg [.agg [.lit (.int .i64 0), .lit (.int .i64 (-1))], .agg [.lit (.int .i64 1), .lit (.int .i64 (-1))], .agg [.lit (.int .i64 1), .lit (.int .i64 0)], .agg [.lit (.int .i64 1), .lit (.int .i64 1)], .agg [.lit (.int .i64 0), .lit (.int .i64 1)], .agg [.lit (.int .i64 (-1)), .lit (.int .i64 1)], .agg [.lit (.int .i64 (-1)), .lit (.int .i64 0)], .agg [.lit (.int .i64 (-1)), .lit (.int .i64 (-1))]]

/-- 'fellrunnertop.TopGraph': WHATEVER THE INPUT: true; the input reads as it did. -/
def topGraphSpec : ChangeSpec := { name := "topGraph", fn := fun _ => fun
  | [d] => { results := [.lit (.bool true)], args := [d] }
  | _ => none }
def topGraphRow : OpenClaim := { program := "ytcagpmglijockaadoor", sum := "ebd30fd8a208781364170964a3ec707bc9d8df4e1149c68f4e8e8ea44aa10400", func := "fellrunner/fellrunnertop.TopGraph", spec := "topGraph", unfollowed := true, recurses := true, named := ["fellrunner/grid.steps"], apart := false, laid := [("fellrunner/grid.steps", laid_fellrunner_grid_steps)] }
def TopGraphSaid : Prop := topGraphRow.holds Tryd.pinned (OpenSpec.ofChange topGraphSpec)

/-- ITS FALSE NEIGHBOUR: 'it returns false'. Refute it at one input. -/
def topGraphWrong : ChangeSpec := { name := "topGraph", fn := fun _ => fun
  | [d] => { results := [.lit (.bool false)], args := [d] }
  | _ => none }
def TopGraphWrongFalsely : Prop := topGraphRow.holds Tryd.pinned (OpenSpec.ofChange topGraphWrong)

/-- 'fellrunnertop.TopRepair': WHATEVER THE INPUT: true; the input reads as it did. -/
def topRepairSpec : ChangeSpec := { name := "topRepair", fn := fun _ => fun
  | [d1, d2] => { results := [.lit (.bool true)], args := [d1, d2] }
  | _ => none }
def topRepairRow : OpenClaim := { program := "ytcagpmglijockaadoor", sum := "ebd30fd8a208781364170964a3ec707bc9d8df4e1149c68f4e8e8ea44aa10400", func := "fellrunner/fellrunnertop.TopRepair", spec := "topRepair", unfollowed := true, recurses := true, named := ["fellrunner/grid.steps"], apart := false, laid := [("fellrunner/grid.steps", laid_fellrunner_grid_steps)] }
def TopRepairSaid : Prop := topRepairRow.holds Tryd.pinned (OpenSpec.ofChange topRepairSpec)

/-- ITS FALSE NEIGHBOUR: 'it returns false'. Refute it at one input. -/
def topRepairWrong : ChangeSpec := { name := "topRepair", fn := fun _ => fun
  | [d1, d2] => { results := [.lit (.bool false)], args := [d1, d2] }
  | _ => none }
def TopRepairWrongFalsely : Prop := topRepairRow.holds Tryd.pinned (OpenSpec.ofChange topRepairWrong)

/- THE SECOND FORM. 'bulk': how many values and letters a reading holds, each counted each time it is reached (what is shared counts as often as it is met; a slice's spare places count too). A statement '..UptoSaid' is the law's where the arguments, and the package variables that the reading takes, are together of bulk at most 1048576: NARROWER than '..Said'. Prove '..Said' where nothing that the law and all that it calls make is longer than what came in: it says more and counts as full. Else prove '..UptoSaid'. A law counts once. -/
mutual
def uptoBulk {H : Type} : DataW H → Nat
  | .lit (.string bytes) => bytes.length + 1
  | .lit _ => 1
  | .nil => 1
  | .ptr d => uptoBulk d + 1
  | .slice elems spare => uptoBulkAll elems + uptoBulkAll spare + 1
  | .agg parts => uptoBulkAll parts + 1
  | .iface _ d => uptoBulk d + 1
  | .map entries => uptoBulkEntries entries + 1
  | .held _ => 1
def uptoBulkAll {H : Type} : List (DataW H) → Nat
  | [] => 0
  | d :: r => uptoBulk d + uptoBulkAll r
def uptoBulkEntries {H : Type} : List (Lit × DataW H) → Nat
  | [] => 0
  | x :: r => uptoBulkEntry x + uptoBulkEntries r
def uptoBulkEntry {H : Type} : Lit × DataW H → Nat
  | (.string bytes, d) => bytes.length + uptoBulk d + 1
  | (_, d) => uptoBulk d + 1
 end
def uptoSmall : (H : Type) → List (DataW H) → Bool := fun _ ds => decide (uptoBulkAll ds ≤ 1048576)
def OpenSpec.upto (s : _root_.Go.ChangeSpec) : _root_.Go.OpenSpec := { _root_.Go.OpenSpec.ofChange s with cond := some uptoSmall }

/-- 'fellrunnertop.TopGraph', WHERE WHAT IT READS IS OF BULK AT MOST 1048576: true; the input reads as it did. -/
def topGraphUptoRow : OpenClaim := { program := "ytcagpmglijockaadoor", sum := "ebd30fd8a208781364170964a3ec707bc9d8df4e1149c68f4e8e8ea44aa10400", func := "fellrunner/fellrunnertop.TopGraph", spec := "topGraph", unfollowed := true, recurses := true, named := ["fellrunner/grid.steps"], apart := false, laid := [("fellrunner/grid.steps", laid_fellrunner_grid_steps)], narrowed := true }
def TopGraphUptoSaid : Prop := topGraphUptoRow.holds Tryd.pinned (OpenSpec.upto topGraphSpec)

/-- 'fellrunnertop.TopRepair', WHERE WHAT IT READS IS OF BULK AT MOST 1048576: true; the input reads as it did. -/
def topRepairUptoRow : OpenClaim := { program := "ytcagpmglijockaadoor", sum := "ebd30fd8a208781364170964a3ec707bc9d8df4e1149c68f4e8e8ea44aa10400", func := "fellrunner/fellrunnertop.TopRepair", spec := "topRepair", unfollowed := true, recurses := true, named := ["fellrunner/grid.steps"], apart := false, laid := [("fellrunner/grid.steps", laid_fellrunner_grid_steps)], narrowed := true }
def TopRepairUptoSaid : Prop := topRepairUptoRow.holds Tryd.pinned (OpenSpec.upto topRepairSpec)

end Rows
end Go.Proofs.YtcagpmglijockaaDoor
