/-
  The walk of 'GridSays': it returns true for every size and cells set.
-/
import Derived.Test.YtmlcollooomioaaDoorAsGrid
import Derived.Test.YtmlcollooomioaaDoorCopy
import Derived.Deep.RegionHeld3
namespace Go.Proofs.YtmlcollooomioaaDoor
open Go.RowKit

/-- a row of bools in memory that was there -/
def OldBools (w : World) (A : Option Addr) (n : Nat) (xs : Nat → Bool) : Prop := ∀ i, i < n → ∃ b o, A = some ⟨b, o, none⟩ ∧ b < w.heap.size ∧ w.cell? ⟨b, o + i, none⟩ = some (.bool (xs i))

set_option maxHeartbeats 1000000 in
set_option maxRecDepth 1000000 in
theorem gridSays_many (W H : Int) (A B : Option Addr) (n ca k cb : Nat) (w : World) (s : StepsAt w) (h0 : 0 < w.heap.size) (_hn : n ≤ maxLen) (_hk : k ≤ maxLen) (h : 200 < (n : Int) ∨ (¬ 200 < (n : Int) ∧ 200 < (k : Int))) :
    Calls Tryd.prog 4 #[.int .i64 W, .int .i64 H, .slice A n ca, .slice B k cb] w fun e w' => e = .returned (.bool true) ∧ Below w.heap.size w w' := by
  unfold maxLen at _hn _hk
  rcases h with h | ⟨h, h2⟩
  · have hd : decide (200 < (n : Int)) = true := decide_eq_true h
    go_enter Tryd.func4, Tryd.ntmps4
    go_wp2_with (go_at_call 9; refine (grounds_any _ s h0).mono ?_; rintro e w1 ⟨rfl, hb1⟩)
    go_ret
    exact ⟨rfl, hb1⟩
  · have hd : decide (200 < (n : Int)) = false := decide_eq_false h
    go_enter Tryd.func4, Tryd.ntmps4
    go_wp2_with (go_at_call 9; refine (grounds_any _ s h0).mono ?_; rintro e w1 ⟨rfl, hb1⟩)
    go_ret
    exact ⟨rfl, hb1⟩

set_option maxHeartbeats 2000000 in
set_option maxRecDepth 1000000 in
theorem gridSays_bad (W H : Int) (A B : Option Addr) (n ca k cb : Nat) (w : World) (s : StepsAt w) (h0 : 0 < w.heap.size) (h1 : ¬ 200 < (n : Int)) (h2 : ¬ 200 < (k : Int)) (h : sideB W = false ∨ (sideB W = true ∧ sideB H = false)) :
    Calls Tryd.prog 4 #[.int .i64 W, .int .i64 H, .slice A n ca, .slice B k cb] w fun e w' => e = .returned (.bool true) ∧ Below w.heap.size w w' := by
  have HH : Hid (sideB W = false ∨ (sideB W = true ∧ sideB H = false)) := h
  clear h
  go_enter Tryd.func4, Tryd.ntmps4
  go_wp2_with (go_at_call 9; refine (grounds_any _ s h0).mono ?_; rintro e w1 ⟨rfl, hb1⟩)
  have s1 := s.below hb1 h0
  go_loopg [10] 8 (fun q i wr => ∃ j : Nat, j ≤ 8 ∧ q = 8 - j ∧ i = .int .i64 j ∧ ∃ m, wr = w1.drewN m)
  case atStart => exact ⟨0, by omega, rfl, rfl, 0, rfl⟩
  case round =>
    obtain ⟨j, hj, hgj, rfl, m, rfl⟩ := hrel
    have HG : Hid (gk = 8 - j) := hgj
    clear hgj
    by_cases hlt : j < 8
    · go_wp2_with (first | (go_at_call 10; refine (step_any _ _ (s1.drewN _) hlt).mono ?_; rintro e w' ⟨rfl, m1, rfl⟩) | (go_at_call 11; refine (rstep_d _ _ hlt).mono ?_; rintro e w' ⟨rfl, m1, rfl⟩))
      go_roundg (8 - (j + 1))
      case measure => have := HG.out; omega
      case rel => exact ⟨j + 1, by omega, rfl, by go_num, _, rfl⟩
    · go_wp2_with (first | (go_at_call 12; refine (new_bad _ _ _ HH.out).mono ?_; rintro e w' ⟨rfl, rfl⟩) | (go_at_call 13; refine (rnew_bad _ _ _ HH.out).mono ?_; rintro e w' ⟨rfl, rfl⟩) | (go_at_call 6; refine (same_err 1 _ (by decide)).mono ?_; rintro e w' ⟨rfl, rfl⟩))
      go_ret
      exact ⟨rfl, below_drewN hb1 _⟩
end Go.Proofs.YtmlcollooomioaaDoor
