/-
  Small functions of the laws: 'same', 'SameNumbers'.
-/
import Derived.Test.YtfhicijgpdpfpaaDoorRows
import Derived.Test.YtfhicijgpdpfpaaDoorAid
namespace Go.Proofs.YtfhicijgpdpfpaaDoor
open Go.RowKit

theorem as23 (v : Value) (w : World) : (Instr.typeAssert (.iface 78 v) 33 78 true).run Tryd.prog w = .ok (.tuple #[v, .bool true]) w := by kernel_rfl

set_option maxHeartbeats 400000 in
theorem same_nil (w : World) :
    Calls Tryd.prog 13 #[.nilIface, .int .i64 0] w fun e w' => e = .returned (.bool true) ∧ w' = w := by
  go_enter Tryd.func13, Tryd.ntmps13
  go_wp2
  go_ret
  exact ⟨rfl, rfl⟩

set_option maxHeartbeats 400000 in
theorem same_err (n : Int) (w : World) (h : 0 < n) :
    Calls Tryd.prog 13 #[.iface 78 (.int .i64 n), .int .i64 n] w fun e w' => e = .returned (.bool true) ∧ w' = w := by
  have g := as23
  go_enter Tryd.func13, Tryd.ntmps13
  go_wp2
  go_ret
  exact ⟨rfl, rfl⟩

/-- a row of numbers, as a slice's value reads in a world -/
def RowIs (w : World) (A : Option Addr) (n : Nat) (xs : Nat → Int) : Prop := ∀ i, i < n → ∃ b o, A = some ⟨b, o, none⟩ ∧ w.cell? ⟨b, o + i, none⟩ = some (.int .i64 (xs i))

set_option maxHeartbeats 400000 in
theorem sameNumbers_zero (A B : Option Addr) (ca cb : Nat) (w : World) :
    Calls Tryd.prog 32 #[.slice A 0 ca, .slice B 0 cb] w fun e w' => e = .returned (.bool true) ∧ ∃ m, w' = w.drewN m := by
  go_enter Tryd.func32, Tryd.ntmps32
  go_wp2
  go_loop [5] (fun i => i = .int .i64 0) (fun _ => 0)
  case atStart => rfl
  case round =>
    subst hrel
    go_wp2
    go_ret
    exact ⟨rfl, 0, rfl⟩

set_option maxHeartbeats 400000 in
theorem sameNumbers_pos (b o b2 o2 n ca cb : Nat) (xs : Nat → Int) (w : World) (hn : n ≤ 1000000)
    (hA : ∀ i, i < n → w.cell? ⟨b, o + i, none⟩ = some (.int .i64 (xs i))) (hB : ∀ i, i < n → w.cell? ⟨b2, o2 + i, none⟩ = some (.int .i64 (xs i))) :
    Calls Tryd.prog 32 #[.slice (some ⟨b, o, none⟩) n ca, .slice (some ⟨b2, o2, none⟩) n cb] w fun e w' => e = .returned (.bool true) ∧ ∃ m, w' = w.drewN m := by
  go_enter Tryd.func32, Tryd.ntmps32
  go_wp2
  go_loopw [5] (fun i w' => ∃ k m : Nat, k ≤ n ∧ i = .int .i64 k ∧ w' = w.drewN m) (fun i _ => n - (intOf i).toNat)
  case atStart => exact ⟨0, 0, by omega, rfl, rfl⟩
  case round =>
    obtain ⟨k, m, hk, rfl, rfl⟩ := hrel
    by_cases hlt : k < n
    · have h1 := hA k hlt
      have h2 := hB k hlt
      have hi : (0 : Int) ≤ (k : Int) := by omega
      have hj : (k : Int) < (n : Int) := by omega
      clear hA hB
      go_wp2
      go_quiet (fail)
      go_wp2
      go_roundw
      case rel => exact ⟨k + 1, _, by omega, by go_num, rfl⟩
      case measure => simp [intOf]; omega
    · have : k = n := by omega
      subst this
      go_wp2
      go_ret
      exact ⟨rfl, m, rfl⟩
end Go.Proofs.YtfhicijgpdpfpaaDoor
