/-
  Texts laid together: SdB, SdC, SdD.
-/
import Derived.Test.YtmnpplkjhnoglaaGreatDoorP33
/-
  Edges from an end are taken in: package search's 'from'.
-/
namespace Go.Proofs.YtmnpplkjhnoglaaGreatDoor
open Go.RowKit

end Go.Proofs.YtmnpplkjhnoglaaGreatDoor
/-
  One goes on from a corner: package search's 'goOn'.
-/
namespace Go.Proofs.YtmnpplkjhnoglaaGreatDoor
open Go.RowKit

end Go.Proofs.YtmnpplkjhnoglaaGreatDoor
/-
  Back from a corner to the end from which it was come to: package search's 'back'.
-/
namespace Go.Proofs.YtmnpplkjhnoglaaGreatDoor
open Go.RowKit

end Go.Proofs.YtmnpplkjhnoglaaGreatDoor
