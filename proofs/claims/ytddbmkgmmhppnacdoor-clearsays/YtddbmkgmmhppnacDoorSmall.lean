/-
  Small functions of the laws: 'same', 'SameNumbers'.
-/
import Derived.Test.YtddbmkgmmhppnacDoorRows
import Derived.Test.YtddbmkgmmhppnacDoorAid
namespace Go.Proofs.YtddbmkgmmhppnacDoor
open Go.RowKit

theorem as23 (v : Value) (w : World) : (Instr.typeAssert (.iface 63 v) 34 63 true).run Tryd.prog w = .ok (.tuple #[v, .bool true]) w := by kernel_rfl

set_option maxHeartbeats 400000 in
theorem same_nil (w : World) :
    Calls Tryd.prog 10 #[.nilIface, .int .i64 0] w fun e w' => e = .returned (.bool true) ∧ w' = w := by
  go_enter Tryd.func10, Tryd.ntmps10
  go_wp2
  go_ret
  exact ⟨rfl, rfl⟩

set_option maxHeartbeats 400000 in
theorem same_err (n : Int) (w : World) (h : 0 < n) :
    Calls Tryd.prog 10 #[.iface 63 (.int .i64 n), .int .i64 n] w fun e w' => e = .returned (.bool true) ∧ w' = w := by
  have g := as23
  go_enter Tryd.func10, Tryd.ntmps10
  go_wp2
  go_ret
  exact ⟨rfl, rfl⟩

/-- a row of numbers, as a slice's value reads in a world -/
def RowIs (w : World) (A : Option Addr) (n : Nat) (xs : Nat → Int) : Prop := ∀ i, i < n → ∃ b o, A = some ⟨b, o, none⟩ ∧ w.cell? ⟨b, o + i, none⟩ = some (.int .i64 (xs i))

end Go.Proofs.YtddbmkgmmhppnacDoor
