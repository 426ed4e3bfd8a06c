/-
  The reference's moves from a cell; lists of directions as rows.
-/
import Derived.Test.YtddbmkgmmhppnacDoorRef
import Derived.Test.YtddbmkgmmhppnacDoorLaid
import Derived.Test.YtddbmkgmmhppnacDoorBack
namespace Go.Proofs.YtddbmkgmmhppnacDoor
open Go.RowKit

theorem rmay_v {b : Nat} {W H V x y : Int} {bl : Nat → Bool} {d : Nat} {r : Bool} (hr : mayB W H bl x y d = r) (w : World) (g : RefAt w b W H V bl) (hd : d < 8) (x1 : -100 ≤ x) (x2 : x ≤ 100) (y1 : -100 ≤ y) (y2 : y ≤ 100) :
    Calls Tryd.prog 15 #[.pointer (some ⟨b, 0, none⟩), .int .i64 x, .int .i64 y, .int .i64 d] w fun e w' => e = .returned (.bool r) ∧ ∃ m, w' = w.drewN m := hr ▸ rmay_any x y d w g hd x1 x2 y1 y2

end Go.Proofs.YtddbmkgmmhppnacDoor
