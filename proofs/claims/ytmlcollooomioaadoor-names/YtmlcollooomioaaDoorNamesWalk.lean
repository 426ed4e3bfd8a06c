/-
  The walk of 'Names': it returns true.
-/
import Derived.Test.YtmlcollooomioaaDoorSmall
namespace Go.Proofs.YtmlcollooomioaaDoor
open Go.RowKit

set_option maxHeartbeats 400000 in
theorem error_eight (w : World) :
    Calls Tryd.prog 8 #[.int .i64 8] w fun e w' => e = .returned (.string { data := #[102, 101, 108, 108, 114, 117, 110, 110, 101, 114, 58, 32, 101, 114, 114, 111, 114, 32, 56] }) ∧ Below w.heap.size w w' := by
  go_enter Tryd.func8, Tryd.ntmps8
  go_wp2
  go_ret
  exact ⟨rfl, Below.refl _ _⟩

/-- the numbers of the document -/
def nums (i : Nat) : Int := [16, 256, 1000, 6, 40, 60, 80, 1100, 1048576, 8].getD i 0
abbrev numCells : Array Value := #[.int .i64 16, .int .i64 256, .int .i64 1000, .int .i64 6, .int .i64 40, .int .i64 60, .int .i64 80, .int .i64 1100, .int .i64 1048576, .int .i64 8]
theorem numCells_at (i : Nat) (h : i < 10) : numCells[i]? = some (.int .i64 (nums i)) := by
  have hks : i = 0 ∨ i = 1 ∨ i = 2 ∨ i = 3 ∨ i = 4 ∨ i = 5 ∨ i = 6 ∨ i = 7 ∨ i = 8 ∨ i = 9 := by omega
  rcases hks with rfl | rfl | rfl | rfl | rfl | rfl | rfl | rfl | rfl | rfl <;> rfl
theorem numsIn0 (w : World) (B C : Obj) : ∀ i, i < 10 → (((w.alloc (.cells numCells 3)).alloc B).alloc C).cell? ⟨w.heap.size, 0 + i, none⟩ = some (.int .i64 (nums i)) := by
  intro i hi
  rw [World.cell?_alloc_old _ _ _ (by simp; omega), World.cell?_alloc_old _ _ _ (by simp), Nat.zero_add, World.cell?_alloc_new]
  exact numCells_at i hi
theorem numsIn1 (w : World) (A C : Obj) : ∀ i, i < 10 → (((w.alloc A).alloc (.cells numCells 3)).alloc C).cell? ⟨w.heap.size + 1, 0 + i, none⟩ = some (.int .i64 (nums i)) := by
  intro i hi
  have e : w.heap.size + 1 = (w.alloc A).heap.size := by simp
  rw [World.cell?_alloc_old _ _ _ (by simp), Nat.zero_add, e, World.cell?_alloc_new]
  exact numCells_at i hi
theorem hb3 (w : World) (A B C : Obj) : Below w.heap.size w (((w.alloc A).alloc B).alloc C) :=
  (((Below.refl _ _).alloc (Nat.le_refl _) _).alloc (by simp) _).alloc (by simp; omega) _

set_option maxHeartbeats 1000000 in
theorem names_any (w : World) :
    Calls Tryd.prog 3 #[] w fun e w' => e = .returned (.bool true) ∧ Below w.heap.size w w' := by
  go_enter Tryd.func3, Tryd.ntmps3
  go_wp2
  go_loop [4] (fun i => ∃ k : Nat, k ≤ 8 ∧ i = .int .i64 k) (fun i => 8 - (intOf i).toNat)
  case atStart => exact ⟨0, by omega, rfl⟩
  case round =>
    obtain ⟨k, hk, rfl⟩ := hrel
    have hks : k = 0 ∨ k = 1 ∨ k = 2 ∨ k = 3 ∨ k = 4 ∨ k = 5 ∨ k = 6 ∨ k = 7 ∨ k = 8 := by omega
    rcases hks with rfl | rfl | rfl | rfl | rfl | rfl | rfl | rfl | rfl
    rotate_left 8
    · go_wp2_with (first | (go_at_call 7; refine (sameNumbers_pos _ _ _ _ 10 _ _ nums _ ?_ ?_ ?_).mono ?_; (decide); (exact numsIn0 _ _ _); (exact numsIn1 _ _ _); rintro e w1 ⟨rfl, m, rfl⟩) | (go_at_call 8; refine (error_eight _).mono ?_; rintro e w2 ⟨rfl, hb2⟩))
      go_ret
      exact ⟨rfl, (below_drewN (hb3 _ _ _ _) _).trans (hb2.mono (by simp; omega))⟩
    all_goals
      go_wp2_with (go_at_call 6; refine (same_err _ _ ?_).mono ?_; decide; rintro e w' ⟨rfl, rfl⟩)
      go_round
      case rel => exact ⟨_, by decide, rfl⟩
      case measure => simp [intOf]
end Go.Proofs.YtmlcollooomioaaDoor
