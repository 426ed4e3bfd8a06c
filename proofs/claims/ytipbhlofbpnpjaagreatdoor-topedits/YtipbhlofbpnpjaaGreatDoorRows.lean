/-
  NARROWER THAN 'FOR EVERY INPUT', by the rows' own cells (each row's printed sentence says how): TopBest: laid · TopEdits: laid · TopUndo: laid · TopStill: laid · TopBack: laid · TopWalls: laid · TopDetour: laid · TopMost: laid · TopParts: laid · TopLook: laid · TopIsland: laid · TopSave: laid.
  DERIVED. THE GIVEN ROWS OF THIS SEAT. 12 by the template 'for every input the law returns true; each argument reads behind the call as it read before'; 0 by the template 'total and deterministic' (their statements: YtipbhlofbpnpjaaGreatDoorTotals.lean).
  GIVEN WITH THE SEED: the statements are not yours to turn. If you find one false, say at which input.
  Laid BY PROGRAM, IN A SANDBOX (cutbox-rows.mjs): the forced cells as the released guide's own fill.sh prints them over the translation 57e70527ef328d5a… (all of the seat's roots in one cut). By AI agents, Wed Nov 11 2026. No macro, syntax, notation, axiom, sorry.
-/
import Derived.Test.YtipbhlofbpnpjaaGreatDoorChecked
import GoSem.Claim
import GoSem.ClaimJoined
import GoSem.ClaimMapViews
import Derived.JoinedTies
import Derived.KernelRfl
namespace Go.Proofs.YtipbhlofbpnpjaaGreatDoor
/- THE CELL 'sum', in the pinned program and in every row, IS THE sha256 OF THE DUMP (.gsa) THAT YtipbhlofbpnpjaaGreatDoorProg.lean LOADS. Nothing in Lean hashes anything: it is a label: what it is worth is what the hold of that sum in a sandbox is worth. -/
noncomputable def Tryz.pinned : Pinned := { name := "ytipbhlofbpnpjaagreatdoor", sum := "57e70527ef328d5afcbc9766fd3fe8e6cc7567f5360534bb65ac848aa0ca7433", checked := Tryz.checked }
namespace Rows
def none {H : Type} : Left H := { results := [], args := [] }

/- WHAT THE LISTED PACKAGE-LEVEL VARIABLES READ AS WHEN THE CALL BEGINS. Each datum BY PROGRAM (the guide's laid-datum.mjs) off the statement by which the dump's own 'gosem.cut.vars' lays the variable. In a bare row this is a premise. The card (YtipbhlofbpnpjaaGreatDoorCards.lean) ties it to the program's text. -/
def laid_math_bits_deBruijn32tab {H : Type} : DataW H := .agg [.lit (.int .u8 0), .lit (.int .u8 1), .lit (.int .u8 28), .lit (.int .u8 2), .lit (.int .u8 29), .lit (.int .u8 14), .lit (.int .u8 24), .lit (.int .u8 3), .lit (.int .u8 30), .lit (.int .u8 22), .lit (.int .u8 20), .lit (.int .u8 15), .lit (.int .u8 25), .lit (.int .u8 17), .lit (.int .u8 4), .lit (.int .u8 8), .lit (.int .u8 31), .lit (.int .u8 27), .lit (.int .u8 13), .lit (.int .u8 23), .lit (.int .u8 21), .lit (.int .u8 19), .lit (.int .u8 16), .lit (.int .u8 7), .lit (.int .u8 26), .lit (.int .u8 12), .lit (.int .u8 18), .lit (.int .u8 6), .lit (.int .u8 11), .lit (.int .u8 5), .lit (.int .u8 10), .lit (.int .u8 9)]
def laid_math_bits_deBruijn64tab {H : Type} : DataW H := .agg [.lit (.int .u8 0), .lit (.int .u8 1), .lit (.int .u8 56), .lit (.int .u8 2), .lit (.int .u8 57), .lit (.int .u8 49), .lit (.int .u8 28), .lit (.int .u8 3), .lit (.int .u8 61), .lit (.int .u8 58), .lit (.int .u8 42), .lit (.int .u8 50), .lit (.int .u8 38), .lit (.int .u8 29), .lit (.int .u8 17), .lit (.int .u8 4), .lit (.int .u8 62), .lit (.int .u8 47), .lit (.int .u8 59), .lit (.int .u8 36), .lit (.int .u8 45), .lit (.int .u8 43), .lit (.int .u8 51), .lit (.int .u8 22), .lit (.int .u8 53), .lit (.int .u8 39), .lit (.int .u8 33), .lit (.int .u8 30), .lit (.int .u8 24), .lit (.int .u8 18), .lit (.int .u8 12), .lit (.int .u8 5), .lit (.int .u8 63), .lit (.int .u8 55), .lit (.int .u8 48), .lit (.int .u8 27), .lit (.int .u8 60), .lit (.int .u8 41), .lit (.int .u8 37), .lit (.int .u8 16), .lit (.int .u8 46), .lit (.int .u8 35), .lit (.int .u8 44), .lit (.int .u8 21), .lit (.int .u8 52), .lit (.int .u8 32), .lit (.int .u8 23), .lit (.int .u8 11), .lit (.int .u8 54), .lit (.int .u8 26), .lit (.int .u8 40), .lit (.int .u8 15), .lit (.int .u8 34), .lit (.int .u8 20), .lit (.int .u8 31), .lit (.int .u8 10), .lit (.int .u8 25), .lit (.int .u8 14), .lit (.int .u8 19), .lit (.int .u8 9), .lit (.int .u8 13), .lit (.int .u8 8), .lit (.int .u8 7), .lit (.int .u8 6)]
def laid_internal_strconv_uint64pow10 {H : Type} : DataW H := .agg [.lit (.int .u64 1), .lit (.int .u64 10), .lit (.int .u64 100), .lit (.int .u64 1000), .lit (.int .u64 10000), .lit (.int .u64 100000), .lit (.int .u64 1000000), .lit (.int .u64 10000000), .lit (.int .u64 100000000), .lit (.int .u64 1000000000), .lit (.int .u64 10000000000), .lit (.int .u64 100000000000), .lit (.int .u64 1000000000000), .lit (.int .u64 10000000000000), .lit (.int .u64 100000000000000), .lit (.int .u64 1000000000000000), .lit (.int .u64 10000000000000000), .lit (.int .u64 100000000000000000), .lit (.int .u64 1000000000000000000), .lit (.int .u64 10000000000000000000)]
def laid_strconv_ErrRange {H : Type} : DataW H := .iface "*errors.errorString" (.ptr (.agg [.lit (.string [118, 97, 108, 117, 101, 32, 111, 117, 116, 32, 111, 102, 32, 114, 97, 110, 103, 101])]))
def laid_strconv_ErrSyntax {H : Type} : DataW H := .iface "*errors.errorString" (.ptr (.agg [.lit (.string [105, 110, 118, 97, 108, 105, 100, 32, 115, 121, 110, 116, 97, 120])]))
def laid_fellrunner_grid_steps {H : Type} : DataW H := .agg [.agg [.lit (.int .i64 0), .lit (.int .i64 (-1))], .agg [.lit (.int .i64 1), .lit (.int .i64 (-1))], .agg [.lit (.int .i64 1), .lit (.int .i64 0)], .agg [.lit (.int .i64 1), .lit (.int .i64 1)], .agg [.lit (.int .i64 0), .lit (.int .i64 1)], .agg [.lit (.int .i64 (-1)), .lit (.int .i64 1)], .agg [.lit (.int .i64 (-1)), .lit (.int .i64 0)], .agg [.lit (.int .i64 (-1)), .lit (.int .i64 (-1))]]
def laid_fellrunner_reach_diagonalFirst {H : Type} : DataW H := .agg [.lit (.int .i64 1), .lit (.int .i64 3), .lit (.int .i64 5), .lit (.int .i64 7), .lit (.int .i64 0), .lit (.int .i64 2), .lit (.int .i64 4), .lit (.int .i64 6)]

/-- 'fellrunnertop.TopBest': WHATEVER THE INPUT: true; the input reads as it did. -/
def topBestSpec : ChangeSpec := { name := "topBest", fn := fun _ => fun
  | [d1, d2, d3] => { results := [.lit (.bool true)], args := [d1, d2, d3] }
  | _ => none }
def topBestRow : OpenClaim := { program := "ytipbhlofbpnpjaagreatdoor", sum := "57e70527ef328d5afcbc9766fd3fe8e6cc7567f5360534bb65ac848aa0ca7433", func := "fellrunner/fellrunnertop.TopBest", spec := "topBest", inPlace := ["slices.overlaps[fellrunner/api.Edge]", "internal/bytealg.IndexByteString", "internal/bytealg.IndexString"], unfollowed := true, recurses := true, named := ["fellrunner/grid.steps", "fellrunner/reach.diagonalFirst", "internal/bytealg.MaxLen", "strconv.ErrSyntax", "strconv.ErrRange", "internal/strconv.uint64pow10", "math/bits.deBruijn32tab", "math/bits.deBruijn64tab"], apart := false, laid := [("math/bits.deBruijn32tab", laid_math_bits_deBruijn32tab), ("math/bits.deBruijn64tab", laid_math_bits_deBruijn64tab), ("internal/strconv.uint64pow10", laid_internal_strconv_uint64pow10), ("strconv.ErrRange", laid_strconv_ErrRange), ("strconv.ErrSyntax", laid_strconv_ErrSyntax), ("fellrunner/grid.steps", laid_fellrunner_grid_steps), ("fellrunner/reach.diagonalFirst", laid_fellrunner_reach_diagonalFirst)] }
def TopBestSaid : Prop := topBestRow.holds Tryz.pinned (OpenSpec.ofChange topBestSpec)

/-- ITS FALSE NEIGHBOUR: 'it returns false'. Refute it at one input. -/
def topBestWrong : ChangeSpec := { name := "topBest", fn := fun _ => fun
  | [d1, d2, d3] => { results := [.lit (.bool false)], args := [d1, d2, d3] }
  | _ => none }
def TopBestWrongFalsely : Prop := topBestRow.holds Tryz.pinned (OpenSpec.ofChange topBestWrong)

/-- 'fellrunnertop.TopEdits': WHATEVER THE INPUT: true; the input reads as it did. -/
def topEditsSpec : ChangeSpec := { name := "topEdits", fn := fun _ => fun
  | [d1, d2, d3, d4] => { results := [.lit (.bool true)], args := [d1, d2, d3, d4] }
  | _ => none }
def topEditsRow : OpenClaim := { program := "ytipbhlofbpnpjaagreatdoor", sum := "57e70527ef328d5afcbc9766fd3fe8e6cc7567f5360534bb65ac848aa0ca7433", func := "fellrunner/fellrunnertop.TopEdits", spec := "topEdits", inPlace := ["slices.overlaps[fellrunner/api.Edge]", "internal/bytealg.IndexByteString", "internal/bytealg.IndexString", "internal/abi.NoEscape"], unfollowed := true, recurses := true, named := ["fellrunner/grid.steps", "fellrunner/reach.diagonalFirst", "internal/bytealg.MaxLen", "strconv.ErrSyntax", "strconv.ErrRange", "internal/strconv.uint64pow10", "math/bits.deBruijn32tab", "math/bits.deBruijn64tab"], apart := false, laid := [("math/bits.deBruijn32tab", laid_math_bits_deBruijn32tab), ("math/bits.deBruijn64tab", laid_math_bits_deBruijn64tab), ("internal/strconv.uint64pow10", laid_internal_strconv_uint64pow10), ("strconv.ErrRange", laid_strconv_ErrRange), ("strconv.ErrSyntax", laid_strconv_ErrSyntax), ("fellrunner/grid.steps", laid_fellrunner_grid_steps), ("fellrunner/reach.diagonalFirst", laid_fellrunner_reach_diagonalFirst)] }
def TopEditsSaid : Prop := topEditsRow.holds Tryz.pinned (OpenSpec.ofChange topEditsSpec)

/-- ITS FALSE NEIGHBOUR: 'it returns false'. Refute it at one input. -/
def topEditsWrong : ChangeSpec := { name := "topEdits", fn := fun _ => fun
  | [d1, d2, d3, d4] => { results := [.lit (.bool false)], args := [d1, d2, d3, d4] }
  | _ => none }
def TopEditsWrongFalsely : Prop := topEditsRow.holds Tryz.pinned (OpenSpec.ofChange topEditsWrong)

/-- 'fellrunnertop.TopUndo': WHATEVER THE INPUT: true; the input reads as it did. -/
def topUndoSpec : ChangeSpec := { name := "topUndo", fn := fun _ => fun
  | [d1, d2, d3, d4] => { results := [.lit (.bool true)], args := [d1, d2, d3, d4] }
  | _ => none }
def topUndoRow : OpenClaim := { program := "ytipbhlofbpnpjaagreatdoor", sum := "57e70527ef328d5afcbc9766fd3fe8e6cc7567f5360534bb65ac848aa0ca7433", func := "fellrunner/fellrunnertop.TopUndo", spec := "topUndo", inPlace := ["slices.overlaps[fellrunner/api.Edge]", "internal/bytealg.IndexByteString", "internal/bytealg.IndexString"], unfollowed := true, recurses := true, named := ["fellrunner/grid.steps", "fellrunner/reach.diagonalFirst", "internal/bytealg.MaxLen", "strconv.ErrSyntax", "strconv.ErrRange", "internal/strconv.uint64pow10", "math/bits.deBruijn32tab", "math/bits.deBruijn64tab"], apart := false, laid := [("math/bits.deBruijn32tab", laid_math_bits_deBruijn32tab), ("math/bits.deBruijn64tab", laid_math_bits_deBruijn64tab), ("internal/strconv.uint64pow10", laid_internal_strconv_uint64pow10), ("strconv.ErrRange", laid_strconv_ErrRange), ("strconv.ErrSyntax", laid_strconv_ErrSyntax), ("fellrunner/grid.steps", laid_fellrunner_grid_steps), ("fellrunner/reach.diagonalFirst", laid_fellrunner_reach_diagonalFirst)] }
def TopUndoSaid : Prop := topUndoRow.holds Tryz.pinned (OpenSpec.ofChange topUndoSpec)

/-- ITS FALSE NEIGHBOUR: 'it returns false'. Refute it at one input. -/
def topUndoWrong : ChangeSpec := { name := "topUndo", fn := fun _ => fun
  | [d1, d2, d3, d4] => { results := [.lit (.bool false)], args := [d1, d2, d3, d4] }
  | _ => none }
def TopUndoWrongFalsely : Prop := topUndoRow.holds Tryz.pinned (OpenSpec.ofChange topUndoWrong)

/-- 'fellrunnertop.TopStill': WHATEVER THE INPUT: true; the input reads as it did. -/
def topStillSpec : ChangeSpec := { name := "topStill", fn := fun _ => fun
  | [d1, d2, d3] => { results := [.lit (.bool true)], args := [d1, d2, d3] }
  | _ => none }
def topStillRow : OpenClaim := { program := "ytipbhlofbpnpjaagreatdoor", sum := "57e70527ef328d5afcbc9766fd3fe8e6cc7567f5360534bb65ac848aa0ca7433", func := "fellrunner/fellrunnertop.TopStill", spec := "topStill", inPlace := ["slices.overlaps[fellrunner/api.Edge]", "internal/bytealg.IndexByteString", "internal/bytealg.IndexString"], unfollowed := true, recurses := true, named := ["fellrunner/grid.steps", "fellrunner/reach.diagonalFirst", "internal/bytealg.MaxLen", "strconv.ErrSyntax", "strconv.ErrRange", "internal/strconv.uint64pow10", "math/bits.deBruijn32tab", "math/bits.deBruijn64tab"], apart := false, laid := [("math/bits.deBruijn32tab", laid_math_bits_deBruijn32tab), ("math/bits.deBruijn64tab", laid_math_bits_deBruijn64tab), ("internal/strconv.uint64pow10", laid_internal_strconv_uint64pow10), ("strconv.ErrRange", laid_strconv_ErrRange), ("strconv.ErrSyntax", laid_strconv_ErrSyntax), ("fellrunner/grid.steps", laid_fellrunner_grid_steps), ("fellrunner/reach.diagonalFirst", laid_fellrunner_reach_diagonalFirst)] }
def TopStillSaid : Prop := topStillRow.holds Tryz.pinned (OpenSpec.ofChange topStillSpec)

/-- ITS FALSE NEIGHBOUR: 'it returns false'. Refute it at one input. -/
def topStillWrong : ChangeSpec := { name := "topStill", fn := fun _ => fun
  | [d1, d2, d3] => { results := [.lit (.bool false)], args := [d1, d2, d3] }
  | _ => none }
def TopStillWrongFalsely : Prop := topStillRow.holds Tryz.pinned (OpenSpec.ofChange topStillWrong)

/-- 'fellrunnertop.TopBack': WHATEVER THE INPUT: true; the input reads as it did. -/
def topBackSpec : ChangeSpec := { name := "topBack", fn := fun _ => fun
  | [d1, d2, d3, d4, d5] => { results := [.lit (.bool true)], args := [d1, d2, d3, d4, d5] }
  | _ => none }
def topBackRow : OpenClaim := { program := "ytipbhlofbpnpjaagreatdoor", sum := "57e70527ef328d5afcbc9766fd3fe8e6cc7567f5360534bb65ac848aa0ca7433", func := "fellrunner/fellrunnertop.TopBack", spec := "topBack", inPlace := ["slices.overlaps[fellrunner/api.Edge]", "internal/bytealg.IndexByteString", "internal/bytealg.IndexString"], unfollowed := true, recurses := true, named := ["fellrunner/grid.steps", "fellrunner/reach.diagonalFirst", "internal/bytealg.MaxLen", "strconv.ErrSyntax", "strconv.ErrRange", "internal/strconv.uint64pow10", "math/bits.deBruijn32tab", "math/bits.deBruijn64tab"], apart := false, laid := [("math/bits.deBruijn32tab", laid_math_bits_deBruijn32tab), ("math/bits.deBruijn64tab", laid_math_bits_deBruijn64tab), ("internal/strconv.uint64pow10", laid_internal_strconv_uint64pow10), ("strconv.ErrRange", laid_strconv_ErrRange), ("strconv.ErrSyntax", laid_strconv_ErrSyntax), ("fellrunner/grid.steps", laid_fellrunner_grid_steps), ("fellrunner/reach.diagonalFirst", laid_fellrunner_reach_diagonalFirst)] }
def TopBackSaid : Prop := topBackRow.holds Tryz.pinned (OpenSpec.ofChange topBackSpec)

/-- ITS FALSE NEIGHBOUR: 'it returns false'. Refute it at one input. -/
def topBackWrong : ChangeSpec := { name := "topBack", fn := fun _ => fun
  | [d1, d2, d3, d4, d5] => { results := [.lit (.bool false)], args := [d1, d2, d3, d4, d5] }
  | _ => none }
def TopBackWrongFalsely : Prop := topBackRow.holds Tryz.pinned (OpenSpec.ofChange topBackWrong)

/-- 'fellrunnertop.TopWalls': WHATEVER THE INPUT: true; the input reads as it did. -/
def topWallsSpec : ChangeSpec := { name := "topWalls", fn := fun _ => fun
  | [d1, d2, d3, d4, d5] => { results := [.lit (.bool true)], args := [d1, d2, d3, d4, d5] }
  | _ => none }
def topWallsRow : OpenClaim := { program := "ytipbhlofbpnpjaagreatdoor", sum := "57e70527ef328d5afcbc9766fd3fe8e6cc7567f5360534bb65ac848aa0ca7433", func := "fellrunner/fellrunnertop.TopWalls", spec := "topWalls", inPlace := ["slices.overlaps[fellrunner/api.Edge]", "internal/bytealg.IndexByteString", "internal/bytealg.IndexString"], unfollowed := true, recurses := true, named := ["fellrunner/grid.steps", "fellrunner/reach.diagonalFirst", "internal/bytealg.MaxLen", "strconv.ErrSyntax", "strconv.ErrRange", "internal/strconv.uint64pow10", "math/bits.deBruijn32tab", "math/bits.deBruijn64tab"], apart := false, laid := [("math/bits.deBruijn32tab", laid_math_bits_deBruijn32tab), ("math/bits.deBruijn64tab", laid_math_bits_deBruijn64tab), ("internal/strconv.uint64pow10", laid_internal_strconv_uint64pow10), ("strconv.ErrRange", laid_strconv_ErrRange), ("strconv.ErrSyntax", laid_strconv_ErrSyntax), ("fellrunner/grid.steps", laid_fellrunner_grid_steps), ("fellrunner/reach.diagonalFirst", laid_fellrunner_reach_diagonalFirst)] }
def TopWallsSaid : Prop := topWallsRow.holds Tryz.pinned (OpenSpec.ofChange topWallsSpec)

/-- ITS FALSE NEIGHBOUR: 'it returns false'. Refute it at one input. -/
def topWallsWrong : ChangeSpec := { name := "topWalls", fn := fun _ => fun
  | [d1, d2, d3, d4, d5] => { results := [.lit (.bool false)], args := [d1, d2, d3, d4, d5] }
  | _ => none }
def TopWallsWrongFalsely : Prop := topWallsRow.holds Tryz.pinned (OpenSpec.ofChange topWallsWrong)

/-- 'fellrunnertop.TopDetour': WHATEVER THE INPUT: true; the input reads as it did. -/
def topDetourSpec : ChangeSpec := { name := "topDetour", fn := fun _ => fun
  | [d1, d2, d3, d4, d5] => { results := [.lit (.bool true)], args := [d1, d2, d3, d4, d5] }
  | _ => none }
def topDetourRow : OpenClaim := { program := "ytipbhlofbpnpjaagreatdoor", sum := "57e70527ef328d5afcbc9766fd3fe8e6cc7567f5360534bb65ac848aa0ca7433", func := "fellrunner/fellrunnertop.TopDetour", spec := "topDetour", inPlace := ["slices.overlaps[fellrunner/api.Edge]", "internal/bytealg.IndexByteString", "internal/bytealg.IndexString"], unfollowed := true, recurses := true, named := ["fellrunner/grid.steps", "fellrunner/reach.diagonalFirst", "internal/bytealg.MaxLen", "strconv.ErrSyntax", "strconv.ErrRange", "internal/strconv.uint64pow10", "math/bits.deBruijn32tab", "math/bits.deBruijn64tab"], apart := false, laid := [("math/bits.deBruijn32tab", laid_math_bits_deBruijn32tab), ("math/bits.deBruijn64tab", laid_math_bits_deBruijn64tab), ("internal/strconv.uint64pow10", laid_internal_strconv_uint64pow10), ("strconv.ErrRange", laid_strconv_ErrRange), ("strconv.ErrSyntax", laid_strconv_ErrSyntax), ("fellrunner/grid.steps", laid_fellrunner_grid_steps), ("fellrunner/reach.diagonalFirst", laid_fellrunner_reach_diagonalFirst)] }
def TopDetourSaid : Prop := topDetourRow.holds Tryz.pinned (OpenSpec.ofChange topDetourSpec)

/-- ITS FALSE NEIGHBOUR: 'it returns false'. Refute it at one input. -/
def topDetourWrong : ChangeSpec := { name := "topDetour", fn := fun _ => fun
  | [d1, d2, d3, d4, d5] => { results := [.lit (.bool false)], args := [d1, d2, d3, d4, d5] }
  | _ => none }
def TopDetourWrongFalsely : Prop := topDetourRow.holds Tryz.pinned (OpenSpec.ofChange topDetourWrong)

/-- 'fellrunnertop.TopMost': WHATEVER THE INPUT: true; the input reads as it did. -/
def topMostSpec : ChangeSpec := { name := "topMost", fn := fun _ => fun
  | [d1, d2, d3] => { results := [.lit (.bool true)], args := [d1, d2, d3] }
  | _ => none }
def topMostRow : OpenClaim := { program := "ytipbhlofbpnpjaagreatdoor", sum := "57e70527ef328d5afcbc9766fd3fe8e6cc7567f5360534bb65ac848aa0ca7433", func := "fellrunner/fellrunnertop.TopMost", spec := "topMost", inPlace := ["slices.overlaps[fellrunner/api.Edge]", "internal/bytealg.IndexByteString", "internal/bytealg.IndexString"], unfollowed := true, recurses := true, named := ["fellrunner/grid.steps", "fellrunner/reach.diagonalFirst", "internal/bytealg.MaxLen", "strconv.ErrSyntax", "strconv.ErrRange", "internal/strconv.uint64pow10", "math/bits.deBruijn32tab", "math/bits.deBruijn64tab"], apart := false, laid := [("math/bits.deBruijn32tab", laid_math_bits_deBruijn32tab), ("math/bits.deBruijn64tab", laid_math_bits_deBruijn64tab), ("internal/strconv.uint64pow10", laid_internal_strconv_uint64pow10), ("strconv.ErrRange", laid_strconv_ErrRange), ("strconv.ErrSyntax", laid_strconv_ErrSyntax), ("fellrunner/grid.steps", laid_fellrunner_grid_steps), ("fellrunner/reach.diagonalFirst", laid_fellrunner_reach_diagonalFirst)] }
def TopMostSaid : Prop := topMostRow.holds Tryz.pinned (OpenSpec.ofChange topMostSpec)

/-- ITS FALSE NEIGHBOUR: 'it returns false'. Refute it at one input. -/
def topMostWrong : ChangeSpec := { name := "topMost", fn := fun _ => fun
  | [d1, d2, d3] => { results := [.lit (.bool false)], args := [d1, d2, d3] }
  | _ => none }
def TopMostWrongFalsely : Prop := topMostRow.holds Tryz.pinned (OpenSpec.ofChange topMostWrong)

/-- 'fellrunnertop.TopParts': WHATEVER THE INPUT: true; the input reads as it did. -/
def topPartsSpec : ChangeSpec := { name := "topParts", fn := fun _ => fun
  | [d1, d2, d3, d4] => { results := [.lit (.bool true)], args := [d1, d2, d3, d4] }
  | _ => none }
def topPartsRow : OpenClaim := { program := "ytipbhlofbpnpjaagreatdoor", sum := "57e70527ef328d5afcbc9766fd3fe8e6cc7567f5360534bb65ac848aa0ca7433", func := "fellrunner/fellrunnertop.TopParts", spec := "topParts", inPlace := ["slices.overlaps[fellrunner/api.Edge]", "internal/bytealg.IndexByteString", "internal/bytealg.IndexString"], unfollowed := true, recurses := true, named := ["fellrunner/grid.steps", "fellrunner/reach.diagonalFirst", "internal/bytealg.MaxLen", "strconv.ErrSyntax", "strconv.ErrRange", "internal/strconv.uint64pow10", "math/bits.deBruijn32tab", "math/bits.deBruijn64tab"], apart := false, laid := [("math/bits.deBruijn32tab", laid_math_bits_deBruijn32tab), ("math/bits.deBruijn64tab", laid_math_bits_deBruijn64tab), ("internal/strconv.uint64pow10", laid_internal_strconv_uint64pow10), ("strconv.ErrRange", laid_strconv_ErrRange), ("strconv.ErrSyntax", laid_strconv_ErrSyntax), ("fellrunner/grid.steps", laid_fellrunner_grid_steps), ("fellrunner/reach.diagonalFirst", laid_fellrunner_reach_diagonalFirst)] }
def TopPartsSaid : Prop := topPartsRow.holds Tryz.pinned (OpenSpec.ofChange topPartsSpec)

/-- ITS FALSE NEIGHBOUR: 'it returns false'. Refute it at one input. -/
def topPartsWrong : ChangeSpec := { name := "topParts", fn := fun _ => fun
  | [d1, d2, d3, d4] => { results := [.lit (.bool false)], args := [d1, d2, d3, d4] }
  | _ => none }
def TopPartsWrongFalsely : Prop := topPartsRow.holds Tryz.pinned (OpenSpec.ofChange topPartsWrong)

/-- 'fellrunnertop.TopLook': WHATEVER THE INPUT: true; the input reads as it did. -/
def topLookSpec : ChangeSpec := { name := "topLook", fn := fun _ => fun
  | [d1, d2, d3, d4] => { results := [.lit (.bool true)], args := [d1, d2, d3, d4] }
  | _ => none }
def topLookRow : OpenClaim := { program := "ytipbhlofbpnpjaagreatdoor", sum := "57e70527ef328d5afcbc9766fd3fe8e6cc7567f5360534bb65ac848aa0ca7433", func := "fellrunner/fellrunnertop.TopLook", spec := "topLook", inPlace := ["slices.overlaps[fellrunner/api.Edge]", "internal/bytealg.IndexByteString", "internal/bytealg.IndexString"], unfollowed := true, recurses := true, named := ["fellrunner/grid.steps", "fellrunner/reach.diagonalFirst", "internal/bytealg.MaxLen", "strconv.ErrSyntax", "strconv.ErrRange", "internal/strconv.uint64pow10", "math/bits.deBruijn32tab", "math/bits.deBruijn64tab"], apart := false, laid := [("math/bits.deBruijn32tab", laid_math_bits_deBruijn32tab), ("math/bits.deBruijn64tab", laid_math_bits_deBruijn64tab), ("internal/strconv.uint64pow10", laid_internal_strconv_uint64pow10), ("strconv.ErrRange", laid_strconv_ErrRange), ("strconv.ErrSyntax", laid_strconv_ErrSyntax), ("fellrunner/grid.steps", laid_fellrunner_grid_steps), ("fellrunner/reach.diagonalFirst", laid_fellrunner_reach_diagonalFirst)] }
def TopLookSaid : Prop := topLookRow.holds Tryz.pinned (OpenSpec.ofChange topLookSpec)

/-- ITS FALSE NEIGHBOUR: 'it returns false'. Refute it at one input. -/
def topLookWrong : ChangeSpec := { name := "topLook", fn := fun _ => fun
  | [d1, d2, d3, d4] => { results := [.lit (.bool false)], args := [d1, d2, d3, d4] }
  | _ => none }
def TopLookWrongFalsely : Prop := topLookRow.holds Tryz.pinned (OpenSpec.ofChange topLookWrong)

/-- 'fellrunnertop.TopIsland': WHATEVER THE INPUT: true; the input reads as it did. -/
def topIslandSpec : ChangeSpec := { name := "topIsland", fn := fun _ => fun
  | [d1, d2, d3] => { results := [.lit (.bool true)], args := [d1, d2, d3] }
  | _ => none }
def topIslandRow : OpenClaim := { program := "ytipbhlofbpnpjaagreatdoor", sum := "57e70527ef328d5afcbc9766fd3fe8e6cc7567f5360534bb65ac848aa0ca7433", func := "fellrunner/fellrunnertop.TopIsland", spec := "topIsland", inPlace := ["slices.overlaps[fellrunner/api.Edge]", "internal/bytealg.IndexByteString", "internal/bytealg.IndexString"], unfollowed := true, recurses := true, named := ["fellrunner/grid.steps", "fellrunner/reach.diagonalFirst", "internal/bytealg.MaxLen", "strconv.ErrSyntax", "strconv.ErrRange", "internal/strconv.uint64pow10", "math/bits.deBruijn32tab", "math/bits.deBruijn64tab"], apart := false, laid := [("math/bits.deBruijn32tab", laid_math_bits_deBruijn32tab), ("math/bits.deBruijn64tab", laid_math_bits_deBruijn64tab), ("internal/strconv.uint64pow10", laid_internal_strconv_uint64pow10), ("strconv.ErrRange", laid_strconv_ErrRange), ("strconv.ErrSyntax", laid_strconv_ErrSyntax), ("fellrunner/grid.steps", laid_fellrunner_grid_steps), ("fellrunner/reach.diagonalFirst", laid_fellrunner_reach_diagonalFirst)] }
def TopIslandSaid : Prop := topIslandRow.holds Tryz.pinned (OpenSpec.ofChange topIslandSpec)

/-- ITS FALSE NEIGHBOUR: 'it returns false'. Refute it at one input. -/
def topIslandWrong : ChangeSpec := { name := "topIsland", fn := fun _ => fun
  | [d1, d2, d3] => { results := [.lit (.bool false)], args := [d1, d2, d3] }
  | _ => none }
def TopIslandWrongFalsely : Prop := topIslandRow.holds Tryz.pinned (OpenSpec.ofChange topIslandWrong)

/-- 'fellrunnertop.TopSave': WHATEVER THE INPUT: true; the input reads as it did. -/
def topSaveSpec : ChangeSpec := { name := "topSave", fn := fun _ => fun
  | [d1, d2, d3] => { results := [.lit (.bool true)], args := [d1, d2, d3] }
  | _ => none }
def topSaveRow : OpenClaim := { program := "ytipbhlofbpnpjaagreatdoor", sum := "57e70527ef328d5afcbc9766fd3fe8e6cc7567f5360534bb65ac848aa0ca7433", func := "fellrunner/fellrunnertop.TopSave", spec := "topSave", inPlace := ["slices.overlaps[fellrunner/api.Edge]", "internal/bytealg.IndexByteString", "internal/bytealg.IndexString", "internal/abi.NoEscape"], unfollowed := true, recurses := true, named := ["fellrunner/grid.steps", "fellrunner/reach.diagonalFirst", "internal/bytealg.MaxLen", "strconv.ErrSyntax", "strconv.ErrRange", "internal/strconv.uint64pow10", "math/bits.deBruijn32tab", "math/bits.deBruijn64tab"], apart := false, laid := [("math/bits.deBruijn32tab", laid_math_bits_deBruijn32tab), ("math/bits.deBruijn64tab", laid_math_bits_deBruijn64tab), ("internal/strconv.uint64pow10", laid_internal_strconv_uint64pow10), ("strconv.ErrRange", laid_strconv_ErrRange), ("strconv.ErrSyntax", laid_strconv_ErrSyntax), ("fellrunner/grid.steps", laid_fellrunner_grid_steps), ("fellrunner/reach.diagonalFirst", laid_fellrunner_reach_diagonalFirst)] }
def TopSaveSaid : Prop := topSaveRow.holds Tryz.pinned (OpenSpec.ofChange topSaveSpec)

/-- ITS FALSE NEIGHBOUR: 'it returns false'. Refute it at one input. -/
def topSaveWrong : ChangeSpec := { name := "topSave", fn := fun _ => fun
  | [d1, d2, d3] => { results := [.lit (.bool false)], args := [d1, d2, d3] }
  | _ => none }
def TopSaveWrongFalsely : Prop := topSaveRow.holds Tryz.pinned (OpenSpec.ofChange topSaveWrong)

/- THE SECOND FORM. 'bulk': how many values and letters a reading holds, each counted each time it is reached (what is shared counts as often as it is met; a slice's spare places count too). A statement '..UptoSaid' is the law's where the arguments, and the package variables that the reading takes, are together of bulk at most 1048576: NARROWER than '..Said'. Prove '..Said' where nothing that the law and all that it calls make is longer than what came in: it says more and counts as full. Else prove '..UptoSaid'. A law counts once. -/
mutual
def uptoBulk {H : Type} : DataW H → Nat
  | .lit (.string bytes) => bytes.length + 1
  | .lit _ => 1
  | .nil => 1
  | .ptr d => uptoBulk d + 1
  | .slice elems spare => uptoBulkAll elems + uptoBulkAll spare + 1
  | .agg parts => uptoBulkAll parts + 1
  | .iface _ d => uptoBulk d + 1
  | .map entries => uptoBulkEntries entries + 1
  | .held _ => 1
def uptoBulkAll {H : Type} : List (DataW H) → Nat
  | [] => 0
  | d :: r => uptoBulk d + uptoBulkAll r
def uptoBulkEntries {H : Type} : List (Lit × DataW H) → Nat
  | [] => 0
  | x :: r => uptoBulkEntry x + uptoBulkEntries r
def uptoBulkEntry {H : Type} : Lit × DataW H → Nat
  | (.string bytes, d) => bytes.length + uptoBulk d + 1
  | (_, d) => uptoBulk d + 1
 end
def uptoSmall : (H : Type) → List (DataW H) → Bool := fun _ ds => decide (uptoBulkAll ds ≤ 1048576)
def OpenSpec.upto (s : _root_.Go.ChangeSpec) : _root_.Go.OpenSpec := { _root_.Go.OpenSpec.ofChange s with cond := some uptoSmall }

/-- 'fellrunnertop.TopBest', WHERE WHAT IT READS IS OF BULK AT MOST 1048576: true; the input reads as it did. -/
def topBestUptoRow : OpenClaim := { program := "ytipbhlofbpnpjaagreatdoor", sum := "57e70527ef328d5afcbc9766fd3fe8e6cc7567f5360534bb65ac848aa0ca7433", func := "fellrunner/fellrunnertop.TopBest", spec := "topBest", inPlace := ["slices.overlaps[fellrunner/api.Edge]", "internal/bytealg.IndexByteString", "internal/bytealg.IndexString"], unfollowed := true, recurses := true, named := ["fellrunner/grid.steps", "fellrunner/reach.diagonalFirst", "internal/bytealg.MaxLen", "strconv.ErrSyntax", "strconv.ErrRange", "internal/strconv.uint64pow10", "math/bits.deBruijn32tab", "math/bits.deBruijn64tab"], apart := false, laid := [("math/bits.deBruijn32tab", laid_math_bits_deBruijn32tab), ("math/bits.deBruijn64tab", laid_math_bits_deBruijn64tab), ("internal/strconv.uint64pow10", laid_internal_strconv_uint64pow10), ("strconv.ErrRange", laid_strconv_ErrRange), ("strconv.ErrSyntax", laid_strconv_ErrSyntax), ("fellrunner/grid.steps", laid_fellrunner_grid_steps), ("fellrunner/reach.diagonalFirst", laid_fellrunner_reach_diagonalFirst)], narrowed := true }
def TopBestUptoSaid : Prop := topBestUptoRow.holds Tryz.pinned (OpenSpec.upto topBestSpec)

/-- 'fellrunnertop.TopEdits', WHERE WHAT IT READS IS OF BULK AT MOST 1048576: true; the input reads as it did. -/
def topEditsUptoRow : OpenClaim := { program := "ytipbhlofbpnpjaagreatdoor", sum := "57e70527ef328d5afcbc9766fd3fe8e6cc7567f5360534bb65ac848aa0ca7433", func := "fellrunner/fellrunnertop.TopEdits", spec := "topEdits", inPlace := ["slices.overlaps[fellrunner/api.Edge]", "internal/bytealg.IndexByteString", "internal/bytealg.IndexString", "internal/abi.NoEscape"], unfollowed := true, recurses := true, named := ["fellrunner/grid.steps", "fellrunner/reach.diagonalFirst", "internal/bytealg.MaxLen", "strconv.ErrSyntax", "strconv.ErrRange", "internal/strconv.uint64pow10", "math/bits.deBruijn32tab", "math/bits.deBruijn64tab"], apart := false, laid := [("math/bits.deBruijn32tab", laid_math_bits_deBruijn32tab), ("math/bits.deBruijn64tab", laid_math_bits_deBruijn64tab), ("internal/strconv.uint64pow10", laid_internal_strconv_uint64pow10), ("strconv.ErrRange", laid_strconv_ErrRange), ("strconv.ErrSyntax", laid_strconv_ErrSyntax), ("fellrunner/grid.steps", laid_fellrunner_grid_steps), ("fellrunner/reach.diagonalFirst", laid_fellrunner_reach_diagonalFirst)], narrowed := true }
def TopEditsUptoSaid : Prop := topEditsUptoRow.holds Tryz.pinned (OpenSpec.upto topEditsSpec)

/-- 'fellrunnertop.TopUndo', WHERE WHAT IT READS IS OF BULK AT MOST 1048576: true; the input reads as it did. -/
def topUndoUptoRow : OpenClaim := { program := "ytipbhlofbpnpjaagreatdoor", sum := "57e70527ef328d5afcbc9766fd3fe8e6cc7567f5360534bb65ac848aa0ca7433", func := "fellrunner/fellrunnertop.TopUndo", spec := "topUndo", inPlace := ["slices.overlaps[fellrunner/api.Edge]", "internal/bytealg.IndexByteString", "internal/bytealg.IndexString"], unfollowed := true, recurses := true, named := ["fellrunner/grid.steps", "fellrunner/reach.diagonalFirst", "internal/bytealg.MaxLen", "strconv.ErrSyntax", "strconv.ErrRange", "internal/strconv.uint64pow10", "math/bits.deBruijn32tab", "math/bits.deBruijn64tab"], apart := false, laid := [("math/bits.deBruijn32tab", laid_math_bits_deBruijn32tab), ("math/bits.deBruijn64tab", laid_math_bits_deBruijn64tab), ("internal/strconv.uint64pow10", laid_internal_strconv_uint64pow10), ("strconv.ErrRange", laid_strconv_ErrRange), ("strconv.ErrSyntax", laid_strconv_ErrSyntax), ("fellrunner/grid.steps", laid_fellrunner_grid_steps), ("fellrunner/reach.diagonalFirst", laid_fellrunner_reach_diagonalFirst)], narrowed := true }
def TopUndoUptoSaid : Prop := topUndoUptoRow.holds Tryz.pinned (OpenSpec.upto topUndoSpec)

/-- 'fellrunnertop.TopStill', WHERE WHAT IT READS IS OF BULK AT MOST 1048576: true; the input reads as it did. -/
def topStillUptoRow : OpenClaim := { program := "ytipbhlofbpnpjaagreatdoor", sum := "57e70527ef328d5afcbc9766fd3fe8e6cc7567f5360534bb65ac848aa0ca7433", func := "fellrunner/fellrunnertop.TopStill", spec := "topStill", inPlace := ["slices.overlaps[fellrunner/api.Edge]", "internal/bytealg.IndexByteString", "internal/bytealg.IndexString"], unfollowed := true, recurses := true, named := ["fellrunner/grid.steps", "fellrunner/reach.diagonalFirst", "internal/bytealg.MaxLen", "strconv.ErrSyntax", "strconv.ErrRange", "internal/strconv.uint64pow10", "math/bits.deBruijn32tab", "math/bits.deBruijn64tab"], apart := false, laid := [("math/bits.deBruijn32tab", laid_math_bits_deBruijn32tab), ("math/bits.deBruijn64tab", laid_math_bits_deBruijn64tab), ("internal/strconv.uint64pow10", laid_internal_strconv_uint64pow10), ("strconv.ErrRange", laid_strconv_ErrRange), ("strconv.ErrSyntax", laid_strconv_ErrSyntax), ("fellrunner/grid.steps", laid_fellrunner_grid_steps), ("fellrunner/reach.diagonalFirst", laid_fellrunner_reach_diagonalFirst)], narrowed := true }
def TopStillUptoSaid : Prop := topStillUptoRow.holds Tryz.pinned (OpenSpec.upto topStillSpec)

/-- 'fellrunnertop.TopBack', WHERE WHAT IT READS IS OF BULK AT MOST 1048576: true; the input reads as it did. -/
def topBackUptoRow : OpenClaim := { program := "ytipbhlofbpnpjaagreatdoor", sum := "57e70527ef328d5afcbc9766fd3fe8e6cc7567f5360534bb65ac848aa0ca7433", func := "fellrunner/fellrunnertop.TopBack", spec := "topBack", inPlace := ["slices.overlaps[fellrunner/api.Edge]", "internal/bytealg.IndexByteString", "internal/bytealg.IndexString"], unfollowed := true, recurses := true, named := ["fellrunner/grid.steps", "fellrunner/reach.diagonalFirst", "internal/bytealg.MaxLen", "strconv.ErrSyntax", "strconv.ErrRange", "internal/strconv.uint64pow10", "math/bits.deBruijn32tab", "math/bits.deBruijn64tab"], apart := false, laid := [("math/bits.deBruijn32tab", laid_math_bits_deBruijn32tab), ("math/bits.deBruijn64tab", laid_math_bits_deBruijn64tab), ("internal/strconv.uint64pow10", laid_internal_strconv_uint64pow10), ("strconv.ErrRange", laid_strconv_ErrRange), ("strconv.ErrSyntax", laid_strconv_ErrSyntax), ("fellrunner/grid.steps", laid_fellrunner_grid_steps), ("fellrunner/reach.diagonalFirst", laid_fellrunner_reach_diagonalFirst)], narrowed := true }
def TopBackUptoSaid : Prop := topBackUptoRow.holds Tryz.pinned (OpenSpec.upto topBackSpec)

/-- 'fellrunnertop.TopWalls', WHERE WHAT IT READS IS OF BULK AT MOST 1048576: true; the input reads as it did. -/
def topWallsUptoRow : OpenClaim := { program := "ytipbhlofbpnpjaagreatdoor", sum := "57e70527ef328d5afcbc9766fd3fe8e6cc7567f5360534bb65ac848aa0ca7433", func := "fellrunner/fellrunnertop.TopWalls", spec := "topWalls", inPlace := ["slices.overlaps[fellrunner/api.Edge]", "internal/bytealg.IndexByteString", "internal/bytealg.IndexString"], unfollowed := true, recurses := true, named := ["fellrunner/grid.steps", "fellrunner/reach.diagonalFirst", "internal/bytealg.MaxLen", "strconv.ErrSyntax", "strconv.ErrRange", "internal/strconv.uint64pow10", "math/bits.deBruijn32tab", "math/bits.deBruijn64tab"], apart := false, laid := [("math/bits.deBruijn32tab", laid_math_bits_deBruijn32tab), ("math/bits.deBruijn64tab", laid_math_bits_deBruijn64tab), ("internal/strconv.uint64pow10", laid_internal_strconv_uint64pow10), ("strconv.ErrRange", laid_strconv_ErrRange), ("strconv.ErrSyntax", laid_strconv_ErrSyntax), ("fellrunner/grid.steps", laid_fellrunner_grid_steps), ("fellrunner/reach.diagonalFirst", laid_fellrunner_reach_diagonalFirst)], narrowed := true }
def TopWallsUptoSaid : Prop := topWallsUptoRow.holds Tryz.pinned (OpenSpec.upto topWallsSpec)

/-- 'fellrunnertop.TopDetour', WHERE WHAT IT READS IS OF BULK AT MOST 1048576: true; the input reads as it did. -/
def topDetourUptoRow : OpenClaim := { program := "ytipbhlofbpnpjaagreatdoor", sum := "57e70527ef328d5afcbc9766fd3fe8e6cc7567f5360534bb65ac848aa0ca7433", func := "fellrunner/fellrunnertop.TopDetour", spec := "topDetour", inPlace := ["slices.overlaps[fellrunner/api.Edge]", "internal/bytealg.IndexByteString", "internal/bytealg.IndexString"], unfollowed := true, recurses := true, named := ["fellrunner/grid.steps", "fellrunner/reach.diagonalFirst", "internal/bytealg.MaxLen", "strconv.ErrSyntax", "strconv.ErrRange", "internal/strconv.uint64pow10", "math/bits.deBruijn32tab", "math/bits.deBruijn64tab"], apart := false, laid := [("math/bits.deBruijn32tab", laid_math_bits_deBruijn32tab), ("math/bits.deBruijn64tab", laid_math_bits_deBruijn64tab), ("internal/strconv.uint64pow10", laid_internal_strconv_uint64pow10), ("strconv.ErrRange", laid_strconv_ErrRange), ("strconv.ErrSyntax", laid_strconv_ErrSyntax), ("fellrunner/grid.steps", laid_fellrunner_grid_steps), ("fellrunner/reach.diagonalFirst", laid_fellrunner_reach_diagonalFirst)], narrowed := true }
def TopDetourUptoSaid : Prop := topDetourUptoRow.holds Tryz.pinned (OpenSpec.upto topDetourSpec)

/-- 'fellrunnertop.TopMost', WHERE WHAT IT READS IS OF BULK AT MOST 1048576: true; the input reads as it did. -/
def topMostUptoRow : OpenClaim := { program := "ytipbhlofbpnpjaagreatdoor", sum := "57e70527ef328d5afcbc9766fd3fe8e6cc7567f5360534bb65ac848aa0ca7433", func := "fellrunner/fellrunnertop.TopMost", spec := "topMost", inPlace := ["slices.overlaps[fellrunner/api.Edge]", "internal/bytealg.IndexByteString", "internal/bytealg.IndexString"], unfollowed := true, recurses := true, named := ["fellrunner/grid.steps", "fellrunner/reach.diagonalFirst", "internal/bytealg.MaxLen", "strconv.ErrSyntax", "strconv.ErrRange", "internal/strconv.uint64pow10", "math/bits.deBruijn32tab", "math/bits.deBruijn64tab"], apart := false, laid := [("math/bits.deBruijn32tab", laid_math_bits_deBruijn32tab), ("math/bits.deBruijn64tab", laid_math_bits_deBruijn64tab), ("internal/strconv.uint64pow10", laid_internal_strconv_uint64pow10), ("strconv.ErrRange", laid_strconv_ErrRange), ("strconv.ErrSyntax", laid_strconv_ErrSyntax), ("fellrunner/grid.steps", laid_fellrunner_grid_steps), ("fellrunner/reach.diagonalFirst", laid_fellrunner_reach_diagonalFirst)], narrowed := true }
def TopMostUptoSaid : Prop := topMostUptoRow.holds Tryz.pinned (OpenSpec.upto topMostSpec)

/-- 'fellrunnertop.TopParts', WHERE WHAT IT READS IS OF BULK AT MOST 1048576: true; the input reads as it did. -/
def topPartsUptoRow : OpenClaim := { program := "ytipbhlofbpnpjaagreatdoor", sum := "57e70527ef328d5afcbc9766fd3fe8e6cc7567f5360534bb65ac848aa0ca7433", func := "fellrunner/fellrunnertop.TopParts", spec := "topParts", inPlace := ["slices.overlaps[fellrunner/api.Edge]", "internal/bytealg.IndexByteString", "internal/bytealg.IndexString"], unfollowed := true, recurses := true, named := ["fellrunner/grid.steps", "fellrunner/reach.diagonalFirst", "internal/bytealg.MaxLen", "strconv.ErrSyntax", "strconv.ErrRange", "internal/strconv.uint64pow10", "math/bits.deBruijn32tab", "math/bits.deBruijn64tab"], apart := false, laid := [("math/bits.deBruijn32tab", laid_math_bits_deBruijn32tab), ("math/bits.deBruijn64tab", laid_math_bits_deBruijn64tab), ("internal/strconv.uint64pow10", laid_internal_strconv_uint64pow10), ("strconv.ErrRange", laid_strconv_ErrRange), ("strconv.ErrSyntax", laid_strconv_ErrSyntax), ("fellrunner/grid.steps", laid_fellrunner_grid_steps), ("fellrunner/reach.diagonalFirst", laid_fellrunner_reach_diagonalFirst)], narrowed := true }
def TopPartsUptoSaid : Prop := topPartsUptoRow.holds Tryz.pinned (OpenSpec.upto topPartsSpec)

/-- 'fellrunnertop.TopLook', WHERE WHAT IT READS IS OF BULK AT MOST 1048576: true; the input reads as it did. -/
def topLookUptoRow : OpenClaim := { program := "ytipbhlofbpnpjaagreatdoor", sum := "57e70527ef328d5afcbc9766fd3fe8e6cc7567f5360534bb65ac848aa0ca7433", func := "fellrunner/fellrunnertop.TopLook", spec := "topLook", inPlace := ["slices.overlaps[fellrunner/api.Edge]", "internal/bytealg.IndexByteString", "internal/bytealg.IndexString"], unfollowed := true, recurses := true, named := ["fellrunner/grid.steps", "fellrunner/reach.diagonalFirst", "internal/bytealg.MaxLen", "strconv.ErrSyntax", "strconv.ErrRange", "internal/strconv.uint64pow10", "math/bits.deBruijn32tab", "math/bits.deBruijn64tab"], apart := false, laid := [("math/bits.deBruijn32tab", laid_math_bits_deBruijn32tab), ("math/bits.deBruijn64tab", laid_math_bits_deBruijn64tab), ("internal/strconv.uint64pow10", laid_internal_strconv_uint64pow10), ("strconv.ErrRange", laid_strconv_ErrRange), ("strconv.ErrSyntax", laid_strconv_ErrSyntax), ("fellrunner/grid.steps", laid_fellrunner_grid_steps), ("fellrunner/reach.diagonalFirst", laid_fellrunner_reach_diagonalFirst)], narrowed := true }
def TopLookUptoSaid : Prop := topLookUptoRow.holds Tryz.pinned (OpenSpec.upto topLookSpec)

/-- 'fellrunnertop.TopIsland', WHERE WHAT IT READS IS OF BULK AT MOST 1048576: true; the input reads as it did. -/
def topIslandUptoRow : OpenClaim := { program := "ytipbhlofbpnpjaagreatdoor", sum := "57e70527ef328d5afcbc9766fd3fe8e6cc7567f5360534bb65ac848aa0ca7433", func := "fellrunner/fellrunnertop.TopIsland", spec := "topIsland", inPlace := ["slices.overlaps[fellrunner/api.Edge]", "internal/bytealg.IndexByteString", "internal/bytealg.IndexString"], unfollowed := true, recurses := true, named := ["fellrunner/grid.steps", "fellrunner/reach.diagonalFirst", "internal/bytealg.MaxLen", "strconv.ErrSyntax", "strconv.ErrRange", "internal/strconv.uint64pow10", "math/bits.deBruijn32tab", "math/bits.deBruijn64tab"], apart := false, laid := [("math/bits.deBruijn32tab", laid_math_bits_deBruijn32tab), ("math/bits.deBruijn64tab", laid_math_bits_deBruijn64tab), ("internal/strconv.uint64pow10", laid_internal_strconv_uint64pow10), ("strconv.ErrRange", laid_strconv_ErrRange), ("strconv.ErrSyntax", laid_strconv_ErrSyntax), ("fellrunner/grid.steps", laid_fellrunner_grid_steps), ("fellrunner/reach.diagonalFirst", laid_fellrunner_reach_diagonalFirst)], narrowed := true }
def TopIslandUptoSaid : Prop := topIslandUptoRow.holds Tryz.pinned (OpenSpec.upto topIslandSpec)

/-- 'fellrunnertop.TopSave', WHERE WHAT IT READS IS OF BULK AT MOST 1048576: true; the input reads as it did. -/
def topSaveUptoRow : OpenClaim := { program := "ytipbhlofbpnpjaagreatdoor", sum := "57e70527ef328d5afcbc9766fd3fe8e6cc7567f5360534bb65ac848aa0ca7433", func := "fellrunner/fellrunnertop.TopSave", spec := "topSave", inPlace := ["slices.overlaps[fellrunner/api.Edge]", "internal/bytealg.IndexByteString", "internal/bytealg.IndexString", "internal/abi.NoEscape"], unfollowed := true, recurses := true, named := ["fellrunner/grid.steps", "fellrunner/reach.diagonalFirst", "internal/bytealg.MaxLen", "strconv.ErrSyntax", "strconv.ErrRange", "internal/strconv.uint64pow10", "math/bits.deBruijn32tab", "math/bits.deBruijn64tab"], apart := false, laid := [("math/bits.deBruijn32tab", laid_math_bits_deBruijn32tab), ("math/bits.deBruijn64tab", laid_math_bits_deBruijn64tab), ("internal/strconv.uint64pow10", laid_internal_strconv_uint64pow10), ("strconv.ErrRange", laid_strconv_ErrRange), ("strconv.ErrSyntax", laid_strconv_ErrSyntax), ("fellrunner/grid.steps", laid_fellrunner_grid_steps), ("fellrunner/reach.diagonalFirst", laid_fellrunner_reach_diagonalFirst)], narrowed := true }
def TopSaveUptoSaid : Prop := topSaveUptoRow.holds Tryz.pinned (OpenSpec.upto topSaveSpec)

end Rows
end Go.Proofs.YtipbhlofbpnpjaaGreatDoor
