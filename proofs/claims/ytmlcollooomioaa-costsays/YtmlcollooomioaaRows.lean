/-
  No cell of these rows narrows 'for every input' (looked for: loops, veiled, ifaces, maps, wideKeys, modest, calm, conditions, laid).
  DERIVED. THE GIVEN ROWS OF THIS SEAT. 3 by the template 'for every input the law returns true; each argument reads behind the call as it read before'; 0 by the template 'total and deterministic' (their statements: YtmlcollooomioaaTotals.lean).
  GIVEN WITH THE SEED: the statements are not yours to turn. If you find one false, say at which input.
  Laid BY PROGRAM, IN A SANDBOX (cutbox-rows.mjs): the forced cells as the released guide's own fill.sh prints them over the translation f6aa68d98a624fe9… (all of the seat's roots in one cut). By AI agents, Wed Nov 11 2026. No macro, syntax, notation, axiom, sorry.
-/
import Derived.Test.YtmlcollooomioaaChecked
import GoSem.Claim
import GoSem.ClaimJoined
import GoSem.ClaimMapViews
import Derived.JoinedTies
import Derived.KernelRfl
namespace Go.Proofs.Ytmlcollooomioaa
/- THE CELL 'sum', in the pinned program and in every row, IS THE sha256 OF THE DUMP (.gsa) THAT YtmlcollooomioaaProg.lean LOADS. Nothing in Lean hashes anything: it is a label: what it is worth is what the hold of that sum in a sandbox is worth. -/
noncomputable def Try.pinned : Pinned := { name := "ytmlcollooomioaa", sum := "f6aa68d98a624fe9ea1c0fdb01320e41d6f5603b536cc97952c53763153e749d", checked := Try.checked }
namespace Rows
def none {H : Type} : Left H := { results := [], args := [] }

/-- 'fellrunnerlaw.CostSays': WHATEVER THE INPUT: true; the input reads as it did. -/
def costSaysSpec : ChangeSpec := { name := "costSays", fn := fun _ => fun
  | [d1, d2, d3, d4, d5, d6] => { results := [.lit (.bool true)], args := [d1, d2, d3, d4, d5, d6] }
  | _ => none }
def costSaysRow : OpenClaim := { program := "ytmlcollooomioaa", sum := "f6aa68d98a624fe9ea1c0fdb01320e41d6f5603b536cc97952c53763153e749d", func := "fellrunner/fellrunnerlaw.CostSays", spec := "costSays", apart := false }
def CostSaysSaid : Prop := costSaysRow.holds Try.pinned (OpenSpec.ofChange costSaysSpec)

/-- ITS FALSE NEIGHBOUR: 'it returns false'. Refute it at one input. -/
def costSaysWrong : ChangeSpec := { name := "costSays", fn := fun _ => fun
  | [d1, d2, d3, d4, d5, d6] => { results := [.lit (.bool false)], args := [d1, d2, d3, d4, d5, d6] }
  | _ => none }
def CostSaysWrongFalsely : Prop := costSaysRow.holds Try.pinned (OpenSpec.ofChange costSaysWrong)

/-- 'fellrunnertop.TopCost': WHATEVER THE INPUT: true; the input reads as it did. -/
def topCostSpec : ChangeSpec := { name := "topCost", fn := fun _ => fun
  | [d1, d2, d3] => { results := [.lit (.bool true)], args := [d1, d2, d3] }
  | _ => none }
def topCostRow : OpenClaim := { program := "ytmlcollooomioaa", sum := "f6aa68d98a624fe9ea1c0fdb01320e41d6f5603b536cc97952c53763153e749d", func := "fellrunner/fellrunnertop.TopCost", spec := "topCost", apart := false }
def TopCostSaid : Prop := topCostRow.holds Try.pinned (OpenSpec.ofChange topCostSpec)

/-- ITS FALSE NEIGHBOUR: 'it returns false'. Refute it at one input. -/
def topCostWrong : ChangeSpec := { name := "topCost", fn := fun _ => fun
  | [d1, d2, d3] => { results := [.lit (.bool false)], args := [d1, d2, d3] }
  | _ => none }
def TopCostWrongFalsely : Prop := topCostRow.holds Try.pinned (OpenSpec.ofChange topCostWrong)

/-- 'fellrunnertop.TopOctile': WHATEVER THE INPUT: true; the input reads as it did. -/
def topOctileSpec : ChangeSpec := { name := "topOctile", fn := fun _ => fun
  | [d1, d2, d3, d4, d5, d6] => { results := [.lit (.bool true)], args := [d1, d2, d3, d4, d5, d6] }
  | _ => none }
def topOctileRow : OpenClaim := { program := "ytmlcollooomioaa", sum := "f6aa68d98a624fe9ea1c0fdb01320e41d6f5603b536cc97952c53763153e749d", func := "fellrunner/fellrunnertop.TopOctile", spec := "topOctile", apart := false }
def TopOctileSaid : Prop := topOctileRow.holds Try.pinned (OpenSpec.ofChange topOctileSpec)

/-- ITS FALSE NEIGHBOUR: 'it returns false'. Refute it at one input. -/
def topOctileWrong : ChangeSpec := { name := "topOctile", fn := fun _ => fun
  | [d1, d2, d3, d4, d5, d6] => { results := [.lit (.bool false)], args := [d1, d2, d3, d4, d5, d6] }
  | _ => none }
def TopOctileWrongFalsely : Prop := topOctileRow.holds Try.pinned (OpenSpec.ofChange topOctileWrong)

/- THE SECOND FORM. 'bulk': how many values and letters a reading holds, each counted each time it is reached (what is shared counts as often as it is met; a slice's spare places count too). A statement '..UptoSaid' is the law's where the arguments, and the package variables that the reading takes, are together of bulk at most 1048576: NARROWER than '..Said'. Prove '..Said' where nothing that the law and all that it calls make is longer than what came in: it says more and counts as full. Else prove '..UptoSaid'. A law counts once. -/
mutual
def uptoBulk {H : Type} : DataW H → Nat
  | .lit (.string bytes) => bytes.length + 1
  | .lit _ => 1
  | .nil => 1
  | .ptr d => uptoBulk d + 1
  | .slice elems spare => uptoBulkAll elems + uptoBulkAll spare + 1
  | .agg parts => uptoBulkAll parts + 1
  | .iface _ d => uptoBulk d + 1
  | .map entries => uptoBulkEntries entries + 1
  | .held _ => 1
def uptoBulkAll {H : Type} : List (DataW H) → Nat
  | [] => 0
  | d :: r => uptoBulk d + uptoBulkAll r
def uptoBulkEntries {H : Type} : List (Lit × DataW H) → Nat
  | [] => 0
  | x :: r => uptoBulkEntry x + uptoBulkEntries r
def uptoBulkEntry {H : Type} : Lit × DataW H → Nat
  | (.string bytes, d) => bytes.length + uptoBulk d + 1
  | (_, d) => uptoBulk d + 1
 end
def uptoSmall : (H : Type) → List (DataW H) → Bool := fun _ ds => decide (uptoBulkAll ds ≤ 1048576)
def OpenSpec.upto (s : _root_.Go.ChangeSpec) : _root_.Go.OpenSpec := { _root_.Go.OpenSpec.ofChange s with cond := some uptoSmall }

/-- 'fellrunnerlaw.CostSays', WHERE WHAT IT READS IS OF BULK AT MOST 1048576: true; the input reads as it did. -/
def costSaysUptoRow : OpenClaim := { program := "ytmlcollooomioaa", sum := "f6aa68d98a624fe9ea1c0fdb01320e41d6f5603b536cc97952c53763153e749d", func := "fellrunner/fellrunnerlaw.CostSays", spec := "costSays", apart := false, narrowed := true }
def CostSaysUptoSaid : Prop := costSaysUptoRow.holds Try.pinned (OpenSpec.upto costSaysSpec)

/-- 'fellrunnertop.TopCost', WHERE WHAT IT READS IS OF BULK AT MOST 1048576: true; the input reads as it did. -/
def topCostUptoRow : OpenClaim := { program := "ytmlcollooomioaa", sum := "f6aa68d98a624fe9ea1c0fdb01320e41d6f5603b536cc97952c53763153e749d", func := "fellrunner/fellrunnertop.TopCost", spec := "topCost", apart := false, narrowed := true }
def TopCostUptoSaid : Prop := topCostUptoRow.holds Try.pinned (OpenSpec.upto topCostSpec)

/-- 'fellrunnertop.TopOctile', WHERE WHAT IT READS IS OF BULK AT MOST 1048576: true; the input reads as it did. -/
def topOctileUptoRow : OpenClaim := { program := "ytmlcollooomioaa", sum := "f6aa68d98a624fe9ea1c0fdb01320e41d6f5603b536cc97952c53763153e749d", func := "fellrunner/fellrunnertop.TopOctile", spec := "topOctile", apart := false, narrowed := true }
def TopOctileUptoSaid : Prop := topOctileUptoRow.holds Try.pinned (OpenSpec.upto topOctileSpec)

end Rows
end Go.Proofs.Ytmlcollooomioaa
