/-
  Texts laid together: Edge, TopFloodM, TurnM.
-/
import Derived.Test.YtmnpplkjhnoglaaGreatDoorP15
import Derived.Deep.LoopGhost
import Derived.Deep.Light
import Derived.Deep.RegionWith
/-
  Steps on a grid as edges; what a step costs; may one be in a cell?
-/
namespace Go.Proofs.YtmnpplkjhnoglaaGreatDoor
open Go.RowKit

/-- one may go from a in direction k, and comes to b -/
def Edge (W H : Int) (bl : Nat → Bool) (a : Int) (k : Nat) (b : Int) : Prop := k < 8 ∧ inB W H a = true ∧ mayB W H bl (a % W) (a / W) k = true ∧ b = a + (stepY k * W + stepX k)

theorem Edge.in' {W H a b : Int} {bl : Nat → Bool} {k : Nat} (w1 : 1 ≤ W) (e : Edge W H bl a k b) : inB W H b = true := by
  rw [e.2.2.2]; exact (back_facts w1 e.1 e.2.2.1).1

theorem st_opp (k : Nat) : stS (opp k) = stS k ∧ stD (opp k) = stD k := by
  have : opp k % 2 = k % 2 := by unfold opp; omega
  unfold stS stD
  rw [this]
  exact ⟨rfl, rfl⟩

theorem Edge.back {W H : Int} {bl : Nat → Bool} (w1 : 1 ≤ W) (a : Int) (k : Nat) (b : Int) (e : Edge W H bl a k b) : ∃ k', Edge W H bl b k' a ∧ stS k' = stS k ∧ stD k' = stD k := by
  obtain ⟨h1, h2, h3, h4⟩ := e
  obtain ⟨f1, j, hj, hj2⟩ := back_facts w1 h1 h3
  have hm := mvs_at hj
  rw [hj2, ← h4] at hm
  refine ⟨opp k, ⟨opp_lt k, by rw [h4]; exact f1, hm.2, ?_⟩, st_opp k⟩
  rw [h4]; exact (back_home h1).symm

theorem Edge.one {W H a b c : Int} {bl : Nat → Bool} {k j : Nat} (e : Edge W H bl a k b) (f : Edge W H bl a j c) (h : j = k) : c = b := by
  rw [e.2.2.2, f.2.2.2, h]

set_option maxHeartbeats 400000 in
theorem check_out {b : Nat} {W H V : Int} {bl : Nat → Bool} (c : Int) (w : World) (g : GridAt w b W H V bl) (hr : inB W H c = false) :
    Calls Tryz.prog 75 #[.pointer (some ⟨b, 0, none⟩), .int .i64 c] w fun e w' => e = .returned (.iface 96 (.int .i64 1)) ∧ ∃ m, w' = w.drewN m := by
  go_enter Tryz.func75, Tryz.ntmps75
  go_wp2_with (go_at_call 110; refine (free_out c _ g hr).mono ?_; rintro e w' ⟨rfl, m, rfl⟩)
  go_ret
  exact ⟨rfl, _, rfl⟩
set_option maxHeartbeats 400000 in
theorem check_bl {b : Nat} {W H V : Int} {bl : Nat → Bool} (c : Nat) (w : World) (g : GridAt w b W H V bl) (hr : inB W H c = true) (hb : bl c = true) :
    Calls Tryz.prog 75 #[.pointer (some ⟨b, 0, none⟩), .int .i64 c] w fun e w' => e = .returned (.iface 96 (.int .i64 4)) ∧ ∃ m, w' = w.drewN m := by
  have hf := fun w g => free_in (b := b) (W := W) (H := H) (V := V) (bl := bl) c w g hr
  rw [hb] at hf
  go_enter Tryz.func75, Tryz.ntmps75
  go_wp2_with (go_at_call 110; refine (hf _ g).mono ?_; rintro e w' ⟨rfl, m, rfl⟩)
  go_ret
  exact ⟨rfl, _, rfl⟩
set_option maxHeartbeats 400000 in
theorem check_ok {b : Nat} {W H V : Int} {bl : Nat → Bool} (c : Nat) (w : World) (g : GridAt w b W H V bl) (hr : inB W H c = true) (hb : bl c = false) :
    Calls Tryz.prog 75 #[.pointer (some ⟨b, 0, none⟩), .int .i64 c] w fun e w' => e = .returned .nilIface ∧ ∃ m, w' = w.drewN m := by
  have hf := fun w g => free_in (b := b) (W := W) (H := H) (V := V) (bl := bl) c w g hr
  rw [hb] at hf
  go_enter Tryz.func75, Tryz.ntmps75
  go_wp2_with (go_at_call 110; refine (hf _ g).mono ?_; rintro e w' ⟨rfl, m, rfl⟩)
  go_ret
  exact ⟨rfl, _, rfl⟩
end Go.Proofs.YtmnpplkjhnoglaaGreatDoor
/-
  What the walk of 'TopFlood' needs of ways.
-/
namespace Go.Proofs.YtmnpplkjhnoglaaGreatDoor
open Go.RowKit

theorem oct_low {W H : Int} {bl : Nat → Bool} {o a s d : Int} (w1 : 1 ≤ W) (h : Wk (Edge W H bl) o a s d) :
    val (dst (dst (o % W) (a % W)) (dst (o / W) (a / W))) (les (dst (o % W) (a % W)) (dst (o / W) (a / W))) ≤ val s d := by
  refine h.ind (R := fun a s d => val (dst (dst (o % W) (a % W)) (dst (o / W) (a / W))) (les (dst (o % W) (a % W)) (dst (o / W) (a / W))) ≤ val s d) ?_ (fun a s d k b _ ih e => ?_)
  · unfold dst les val
    simp
  · obtain ⟨h1, h2, h3, h4⟩ := e
    obtain ⟨_, o2, _, _⟩ := may_parts h3
    obtain ⟨a1, a2, a3, a4⟩ := open_in o2
    have e : a + (stepY k * W + stepX k) = (a / W + stepY k) * W + (a % W + stepX k) := by
      have := cell_eq W a
      rw [Int.add_mul]
      omega
    obtain ⟨p1, p2, p3⟩ := place_to (H := H) w1 a1 a2 a3 a4
    rw [h4, e, p2, p3]
    clear e p1 p2 p3 a1 a2 a3 a4 o2 h3 h4 h2
    rw [val_add]
    generalize o % W = ox at *
    generalize o / W = oy at *
    generalize a % W = ax at *
    generalize a / W = ay at *
    have hks : k = 0 ∨ k = 1 ∨ k = 2 ∨ k = 3 ∨ k = 4 ∨ k = 5 ∨ k = 6 ∨ k = 7 := by omega
    have hst : stepX k = 0 ∧ stepY k = -1 ∧ stS k = 1 ∧ stD k = 0 ∨ stepX k = 0 ∧ stepY k = 1 ∧ stS k = 1 ∧ stD k = 0 ∨ stepX k = 1 ∧ stepY k = 0 ∧ stS k = 1 ∧ stD k = 0 ∨ stepX k = -1 ∧ stepY k = 0 ∧ stS k = 1 ∧ stD k = 0 ∨ (stepX k = 1 ∨ stepX k = -1) ∧ (stepY k = 1 ∨ stepY k = -1) ∧ stS k = 0 ∧ stD k = 1 := by
      rcases hks with rfl | rfl | rfl | rfl | rfl | rfl | rfl | rfl <;> decide
    refine Int.le_trans ?_ (Int.add_le_add_right ih _)
    clear ih hks h1
    unfold val dst les
    split <;> split <;> split <;> split <;> split <;> split <;> (try split) <;> (try split) <;> omega

theorem wrap_small {x : Int} (h0 : 0 ≤ x) (h : x ≤ 1000) : IntKind.i64.wrap x = x := by unfold IntKind.wrap; simp [IntKind.bits, IntKind.signed]; omega
theorem near_small {x : Int} (h0 : 0 ≤ x) (h : x ≤ 1000) : nearB x := ⟨by omega, by omega⟩

end Go.Proofs.YtmnpplkjhnoglaaGreatDoor
/-
  How shortest ways turn: the mathematics of two steps one behind the other.
-/
namespace Go.Proofs.YtmnpplkjhnoglaaGreatDoor
open Go.RowKit

/-- a corner: free, in a diagonal direction none that is free, both between are -/
def Corn (W H : Int) (bl : Nat → Bool) (x y : Int) : Prop :=
  openB W H bl x y = true ∧ ∃ k, k < 8 ∧ k % 2 = 1 ∧ openB W H bl (x + stepX k) (y + stepY k) = false ∧ openB W H bl (x + stepX k) y = true ∧ openB W H bl x (y + stepY k) = true

theorem k8 {d : Nat} (h : d < 8) : d = 0 ∨ d = 1 ∨ d = 2 ∨ d = 3 ∨ d = 4 ∨ d = 5 ∨ d = 6 ∨ d = 7 := by omega

end Go.Proofs.YtmnpplkjhnoglaaGreatDoor
