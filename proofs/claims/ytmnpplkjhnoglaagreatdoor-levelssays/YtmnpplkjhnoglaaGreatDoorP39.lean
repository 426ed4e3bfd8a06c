/-
  Texts laid together: SrU, Conn, Onward.
-/
import Derived.Test.YtmnpplkjhnoglaaGreatDoorP38
import Derived.Deep.RegionHeld3
/-
  What searches answer over levels of a grid's graph: the same whatever the levels and the guess, and the flood's answer where the ends are not near.
-/
namespace Go.Proofs.YtmnpplkjhnoglaaGreatDoor
section
variable {W H : Int} {bl : Nat → Bool} {es : Nat → List LE}
end
section
variable {W H : Int} {bl : Nat → Bool} {es : Nat → List LE} {out inn : List IE}
end
end Go.Proofs.YtmnpplkjhnoglaaGreatDoor
/-
  What connects a cell: package graph's 'Connect'.
-/
namespace Go.Proofs.YtmnpplkjhnoglaaGreatDoor
open Go.RowKit Go.Maps

end Go.Proofs.YtmnpplkjhnoglaaGreatDoor
/-
  Where one comes nearer: package reach's 'onward'.
-/
namespace Go.Proofs.YtmnpplkjhnoglaaGreatDoor
open Go.RowKit

end Go.Proofs.YtmnpplkjhnoglaaGreatDoor
