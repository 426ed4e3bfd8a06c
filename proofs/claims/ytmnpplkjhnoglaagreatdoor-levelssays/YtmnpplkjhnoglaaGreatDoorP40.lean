/-
  Texts laid together: Sets2, Advance, RSpread.
-/
import Derived.Test.YtmnpplkjhnoglaaGreatDoorP39
/-
  Sets laid together: maps.Copy.
-/
namespace Go.Proofs.YtmnpplkjhnoglaaGreatDoor
open Go.RowKit

end Go.Proofs.YtmnpplkjhnoglaaGreatDoor
/-
  A step towards a cell: package reach's 'advance'.
-/
namespace Go.Proofs.YtmnpplkjhnoglaaGreatDoor
open Go.RowKit

end Go.Proofs.YtmnpplkjhnoglaaGreatDoor
/-
  All steps towards a cell: package reach's 'spread'.
-/
namespace Go.Proofs.YtmnpplkjhnoglaaGreatDoor
open Go.RowKit

end Go.Proofs.YtmnpplkjhnoglaaGreatDoor
