/-
  Texts laid together: Between, Reach, Sr9.
-/
import Derived.Test.YtmnpplkjhnoglaaGreatDoorP40
/-
  What is between: package reach's 'between'.
-/
namespace Go.Proofs.YtmnpplkjhnoglaaGreatDoor
open Go.RowKit

end Go.Proofs.YtmnpplkjhnoglaaGreatDoor
/-
  Near or not: package reach's 'Near'.
-/
namespace Go.Proofs.YtmnpplkjhnoglaaGreatDoor
open Go.RowKit

end Go.Proofs.YtmnpplkjhnoglaaGreatDoor
/-
  Searches over levels in memory: their answers; a closed fact of nine cells.
-/
namespace Go.Proofs.YtmnpplkjhnoglaaGreatDoor
open Go.RowKit

end Go.Proofs.YtmnpplkjhnoglaaGreatDoor
