/-
  Texts laid together: SdE, SdF, Rev.
-/
import Derived.Test.YtmnpplkjhnoglaaGreatDoorP34
import Derived.Deep.CutRange
import Derived.Deep.LoopGhost
import Derived.Deep.Light
/-
  How long a search may go on. (For search.)
-/
namespace Go.Proofs.YtmnpplkjhnoglaaGreatDoor

section
variable {L : List Nat} {lv : LSt} {r : Nat} {g : Int → Int × Int} {src : Int → Int → Int → Prop} {x : SS}
end
end Go.Proofs.YtmnpplkjhnoglaaGreatDoor
/-
  Both sides meet: package search's 'meet'.
-/
namespace Go.Proofs.YtmnpplkjhnoglaaGreatDoor
open Go.RowKit

end Go.Proofs.YtmnpplkjhnoglaaGreatDoor
/-
  A list of numbers is turned round.
-/
namespace Go.Proofs.YtmnpplkjhnoglaaGreatDoor
open Go.RowKit

end Go.Proofs.YtmnpplkjhnoglaaGreatDoor
