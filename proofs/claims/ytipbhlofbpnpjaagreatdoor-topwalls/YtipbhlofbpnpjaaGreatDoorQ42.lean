/-
  Texts laid together: AddP, Nv9, Nv10, Nv11.
-/
import Derived.Test.YtipbhlofbpnpjaaGreatDoorQ41
import Derived.Test.YtipbhlofbpnpjaaGreatDoorQ28
import Derived.Test.YtipbhlofbpnpjaaGreatDoorQ15
import Derived.Test.YtipbhlofbpnpjaaGreatDoorQ2
import Derived.Test.YtipbhlofbpnpjaaGreatDoorQ4
namespace Go.Proofs.YtipbhlofbpnpjaaGreatDoor
section
open Go.RowKit Go.Maps
end
section
open Go.RowKit Go.Lib
end
section
open Go.RowKit Go.Lib
section
variable {w : World} {lo hi sb rb pb mb lb tb gb N x most : Nat} {W H V V2 : Int} {bl : Nat → Bool}
end
end
section
open Go.RowKit Go.Lib
end
end Go.Proofs.YtipbhlofbpnpjaaGreatDoor
