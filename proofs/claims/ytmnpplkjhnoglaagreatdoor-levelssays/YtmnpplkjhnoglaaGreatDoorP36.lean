/-
  Texts laid together: SdG, SdH, SdI.
-/
import Derived.Test.YtmnpplkjhnoglaaGreatDoorP35
/-
  Both sides joined: package search's 'join'.
-/
namespace Go.Proofs.YtmnpplkjhnoglaaGreatDoor
open Go.RowKit Go.Lib

end Go.Proofs.YtmnpplkjhnoglaaGreatDoor
/-
  Edges between corners taken apart: package search's 'unpack'.
-/
namespace Go.Proofs.YtmnpplkjhnoglaaGreatDoor
open Go.RowKit Go.Lib

end Go.Proofs.YtmnpplkjhnoglaaGreatDoor
/-
  The best way over levels: package search's 'Best'.
-/
namespace Go.Proofs.YtmnpplkjhnoglaaGreatDoor
open Go.RowKit Go.Lib

end Go.Proofs.YtmnpplkjhnoglaaGreatDoor
