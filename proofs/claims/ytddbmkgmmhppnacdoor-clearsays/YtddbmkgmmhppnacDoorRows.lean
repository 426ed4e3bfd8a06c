/-
  NARROWER THAN 'FOR EVERY INPUT', by the rows' own cells (each row's printed sentence says how): ClearSays: laid · TopClear: laid.
  DERIVED. THE GIVEN ROWS OF THIS SEAT. 2 by the template 'for every input the law returns true; each argument reads behind the call as it read before'; 0 by the template 'total and deterministic' (their statements: YtddbmkgmmhppnacDoorTotals.lean).
  GIVEN WITH THE SEED: the statements are not yours to turn. If you find one false, say at which input.
  Laid BY PROGRAM, IN A SANDBOX (cutbox-rows.mjs): the forced cells as the released guide's own fill.sh prints them over the translation eaea83ed27c1cecb… (all of the seat's roots in one cut). By AI agents, Wed Nov 11 2026. No macro, syntax, notation, axiom, sorry.
-/
import Derived.Test.YtddbmkgmmhppnacDoorChecked
import GoSem.Claim
import GoSem.ClaimJoined
import GoSem.ClaimMapViews
import Derived.JoinedTies
import Derived.KernelRfl
namespace Go.Proofs.YtddbmkgmmhppnacDoor
/- THE CELL 'sum', in the pinned program and in every row, IS THE sha256 OF THE DUMP (.gsa) THAT YtddbmkgmmhppnacDoorProg.lean LOADS. Nothing in Lean hashes anything: it is a label: what it is worth is what the hold of that sum in a sandbox is worth. -/
noncomputable def Tryd.pinned : Pinned := { name := "ytddbmkgmmhppnacdoor", sum := "eaea83ed27c1cecb95118bfe6955fa0e9349f1d6e00ddc6ddc5a66056c5ca345", checked := Tryd.checked }
namespace Rows
def none {H : Type} : Left H := { results := [], args := [] }

/- WHAT THE LISTED PACKAGE-LEVEL VARIABLES READ AS WHEN THE CALL BEGINS. Each datum BY PROGRAM (the guide's laid-datum.mjs) off the statement by which the dump's own 'gosem.cut.vars' lays the variable. In a bare row this is a premise. The card (YtddbmkgmmhppnacDoorCards.lean) ties it to the program's text. -/
def laid_fellrunner_grid_steps {H : Type} : DataW H := .agg [.agg [.lit (.int .i64 0), .lit (.int .i64 (-1))], .agg [.lit (.int .i64 1), .lit (.int .i64 (-1))], .agg [.lit (.int .i64 1), .lit (.int .i64 0)], .agg [.lit (.int .i64 1), .lit (.int .i64 1)], .agg [.lit (.int .i64 0), .lit (.int .i64 1)], .agg [.lit (.int .i64 (-1)), .lit (.int .i64 1)], .agg [.lit (.int .i64 (-1)), .lit (.int .i64 0)], .agg [.lit (.int .i64 (-1)), .lit (.int .i64 (-1))]]

/-- 'fellrunnerlaw.ClearSays': WHATEVER THE INPUT: true; the input reads as it did. -/
def clearSaysSpec : ChangeSpec := { name := "clearSays", fn := fun _ => fun
  | [d1, d2, d3] => { results := [.lit (.bool true)], args := [d1, d2, d3] }
  | _ => none }
def clearSaysRow : OpenClaim := { program := "ytddbmkgmmhppnacdoor", sum := "eaea83ed27c1cecb95118bfe6955fa0e9349f1d6e00ddc6ddc5a66056c5ca345", func := "fellrunner/fellrunnerlaw.ClearSays", spec := "clearSays", named := ["fellrunner/grid.steps"], apart := false, laid := [("fellrunner/grid.steps", laid_fellrunner_grid_steps)] }
def ClearSaysSaid : Prop := clearSaysRow.holds Tryd.pinned (OpenSpec.ofChange clearSaysSpec)

/-- ITS FALSE NEIGHBOUR: 'it returns false'. Refute it at one input. -/
def clearSaysWrong : ChangeSpec := { name := "clearSays", fn := fun _ => fun
  | [d1, d2, d3] => { results := [.lit (.bool false)], args := [d1, d2, d3] }
  | _ => none }
def ClearSaysWrongFalsely : Prop := clearSaysRow.holds Tryd.pinned (OpenSpec.ofChange clearSaysWrong)

/-- 'fellrunnertop.TopClear': WHATEVER THE INPUT: true; the input reads as it did. -/
def topClearSpec : ChangeSpec := { name := "topClear", fn := fun _ => fun
  | [d1, d2] => { results := [.lit (.bool true)], args := [d1, d2] }
  | _ => none }
def topClearRow : OpenClaim := { program := "ytddbmkgmmhppnacdoor", sum := "eaea83ed27c1cecb95118bfe6955fa0e9349f1d6e00ddc6ddc5a66056c5ca345", func := "fellrunner/fellrunnertop.TopClear", spec := "topClear", named := ["fellrunner/grid.steps"], apart := false, laid := [("fellrunner/grid.steps", laid_fellrunner_grid_steps)] }
def TopClearSaid : Prop := topClearRow.holds Tryd.pinned (OpenSpec.ofChange topClearSpec)

/-- ITS FALSE NEIGHBOUR: 'it returns false'. Refute it at one input. -/
def topClearWrong : ChangeSpec := { name := "topClear", fn := fun _ => fun
  | [d1, d2] => { results := [.lit (.bool false)], args := [d1, d2] }
  | _ => none }
def TopClearWrongFalsely : Prop := topClearRow.holds Tryd.pinned (OpenSpec.ofChange topClearWrong)

/- THE SECOND FORM. 'bulk': how many values and letters a reading holds, each counted each time it is reached (what is shared counts as often as it is met; a slice's spare places count too). A statement '..UptoSaid' is the law's where the arguments, and the package variables that the reading takes, are together of bulk at most 1048576: NARROWER than '..Said'. Prove '..Said' where nothing that the law and all that it calls make is longer than what came in: it says more and counts as full. Else prove '..UptoSaid'. A law counts once. -/
mutual
def uptoBulk {H : Type} : DataW H → Nat
  | .lit (.string bytes) => bytes.length + 1
  | .lit _ => 1
  | .nil => 1
  | .ptr d => uptoBulk d + 1
  | .slice elems spare => uptoBulkAll elems + uptoBulkAll spare + 1
  | .agg parts => uptoBulkAll parts + 1
  | .iface _ d => uptoBulk d + 1
  | .map entries => uptoBulkEntries entries + 1
  | .held _ => 1
def uptoBulkAll {H : Type} : List (DataW H) → Nat
  | [] => 0
  | d :: r => uptoBulk d + uptoBulkAll r
def uptoBulkEntries {H : Type} : List (Lit × DataW H) → Nat
  | [] => 0
  | x :: r => uptoBulkEntry x + uptoBulkEntries r
def uptoBulkEntry {H : Type} : Lit × DataW H → Nat
  | (.string bytes, d) => bytes.length + uptoBulk d + 1
  | (_, d) => uptoBulk d + 1
 end
def uptoSmall : (H : Type) → List (DataW H) → Bool := fun _ ds => decide (uptoBulkAll ds ≤ 1048576)
def OpenSpec.upto (s : _root_.Go.ChangeSpec) : _root_.Go.OpenSpec := { _root_.Go.OpenSpec.ofChange s with cond := some uptoSmall }

/-- 'fellrunnerlaw.ClearSays', WHERE WHAT IT READS IS OF BULK AT MOST 1048576: true; the input reads as it did. -/
def clearSaysUptoRow : OpenClaim := { program := "ytddbmkgmmhppnacdoor", sum := "eaea83ed27c1cecb95118bfe6955fa0e9349f1d6e00ddc6ddc5a66056c5ca345", func := "fellrunner/fellrunnerlaw.ClearSays", spec := "clearSays", named := ["fellrunner/grid.steps"], apart := false, laid := [("fellrunner/grid.steps", laid_fellrunner_grid_steps)], narrowed := true }
def ClearSaysUptoSaid : Prop := clearSaysUptoRow.holds Tryd.pinned (OpenSpec.upto clearSaysSpec)

/-- 'fellrunnertop.TopClear', WHERE WHAT IT READS IS OF BULK AT MOST 1048576: true; the input reads as it did. -/
def topClearUptoRow : OpenClaim := { program := "ytddbmkgmmhppnacdoor", sum := "eaea83ed27c1cecb95118bfe6955fa0e9349f1d6e00ddc6ddc5a66056c5ca345", func := "fellrunner/fellrunnertop.TopClear", spec := "topClear", named := ["fellrunner/grid.steps"], apart := false, laid := [("fellrunner/grid.steps", laid_fellrunner_grid_steps)], narrowed := true }
def TopClearUptoSaid : Prop := topClearUptoRow.holds Tryd.pinned (OpenSpec.upto topClearSpec)

end Rows
end Go.Proofs.YtddbmkgmmhppnacDoor
