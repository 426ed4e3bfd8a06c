/-
  The walk of 'ClearSays': it returns true for every plot, all cells and all bools.
-/
import Derived.Test.YtddbmkgmmhppnacDoorFrame
namespace Go.Proofs.YtddbmkgmmhppnacDoor
open Go.RowKit

theorem boxed1 (w : World) (W H : Int) (A : Option Addr) (n cap : Nat) {wa : World}
    (hb : Below (w.alloc (.cells #[.int .i64 W, .int .i64 H, .slice A n cap] 24)).heap.size (w.alloc (.cells #[.int .i64 W, .int .i64 H, .slice A n cap] 24)) wa) :
    wa.cell? ⟨w.heap.size, 0, none⟩ = some (.int .i64 W) ∧ wa.cell? ⟨w.heap.size, 1, none⟩ = some (.int .i64 H) ∧ wa.cell? ⟨w.heap.size, 2, none⟩ = some (.slice A n cap) := by
  have h : ∀ o, wa.cell? ⟨w.heap.size, o, none⟩ = #[Value.int .i64 W, .int .i64 H, .slice A n cap][o]? := fun o => by
    rw [hb.cell (p := ⟨w.heap.size, o, none⟩) (by simp), World.cell?_alloc_new]
  exact ⟨h 0, h 1, h 2⟩

set_option maxHeartbeats 1000000 in
set_option maxRecDepth 1000000 in
theorem clears_any (w : World) (s : StepsAt w) : Calls Tryd.prog 5 #[] w fun e w' => e = .returned (.bool true) ∧ Below w.heap.size w w' := by
  have hs3 : sideB 3 = true := by decide
  have hs1 : sideB 1 = true := by decide
  have hG := gridAt_new 3 1 w hs3 hs1
  have hb : Below w.heap.size w (w.alloc (.cells (gridC 3 1) 68)) := (Below.refl _ _).alloc (Nat.le_refl _) _
  have hs := s.below hb s.pos
  go_enter Tryd.func5, Tryd.ntmps5
  go_wp2_with (go_at_call 14; refine (new_ok _ _ _ hs3 hs1).mono ?_; rintro e w' ⟨rfl, rfl⟩)
  refine (tnew_any _ hG hs).mono ?_
  rintro e wa ⟨tb, pb, rfl, tk, _, _, hba⟩
  have HBA : Below w.heap.size w wa := hb.trans (hba.mono (by simp))
  clear hG hs hb hba
  have hst := steps_in 0 2 wa tk (by decide) (by decide)
  rw [show clr 3 1 (fun _ => false) (((0 : Nat) : Int) % 3) (((0 : Nat) : Int) / 3) 2 = 2 from by decide] at hst
  go_wp2_with fail
  refine hst.mono ?_
  rintro e wb ⟨rfl, m, rfl⟩
  clear hst tk
  go_wp2_with (go_at_call 10; refine (same_nil _).mono ?_; rintro e w' ⟨rfl, rfl⟩)
  go_ret
  exact ⟨rfl, below_drewN HBA m⟩

set_option maxHeartbeats 1000000 in
set_option maxRecDepth 1000000 in
theorem clearSays_many (W H : Int) (A B C : Option Addr) (n cap k cb l cc : Nat) (w : World) (s : StepsAt w) (h0 : 0 < w.heap.size) (_hk : k ≤ maxLen) (_hl : l ≤ maxLen) (hm : 40 < (k : Int) ∨ (¬ 40 < (k : Int) ∧ 40 < (l : Int))) :
    Calls Tryd.prog 3 #[.agg #[.int .i64 W, .int .i64 H, .slice A n cap], .slice B k cb, .slice C l cc] w fun e w' => e = .returned (.bool true) ∧ Below w.heap.size w w' := by
  unfold maxLen at _hk _hl
  have hb : Below w.heap.size w (w.alloc (.cells #[.int .i64 W, .int .i64 H, .slice A n cap] 24)) := (Below.refl _ _).alloc (Nat.le_refl _) _
  have hs := s.below hb h0
  rcases hm with hm | ⟨hm1, hm⟩
  all_goals
    go_enter Tryd.func3, Tryd.ntmps3
    go_wp2_with (go_at_call 5; refine (clears_any _ hs).mono ?_; rintro e w1 ⟨rfl, hb1⟩)
    go_ret
    exact ⟨rfl, hb.trans (hb1.mono (by simp))⟩

set_option maxHeartbeats 1000000 in
set_option maxRecDepth 1000000 in
theorem clearSays_none (W H : Int) (A B C : Option Addr) (n cap k cb l cc : Nat) (w : World) (s : StepsAt w) (h0 : 0 < w.heap.size) (hk : ¬ 40 < (k : Int)) (hl : ¬ 40 < (l : Int))
    (hL : ∀ w' : World, Calls Tryd.prog 6 #[.agg #[.int .i64 W, .int .i64 H, .slice A n cap]] w' fun e w'' => e = .returned (.tuple #[.pointer none, .pointer none, .bool false]) ∧ Below w'.heap.size w' w'') :
    Calls Tryd.prog 3 #[.agg #[.int .i64 W, .int .i64 H, .slice A n cap], .slice B k cb, .slice C l cc] w fun e w' => e = .returned (.bool true) ∧ Below w.heap.size w w' := by
  have hb : Below w.heap.size w (w.alloc (.cells #[.int .i64 W, .int .i64 H, .slice A n cap] 24)) := (Below.refl _ _).alloc (Nat.le_refl _) _
  have hs := s.below hb h0
  go_enter Tryd.func3, Tryd.ntmps3
  go_wp2_with (first | (go_at_call 5; refine (clears_any _ hs).mono ?_; rintro e w1 ⟨rfl, hb1⟩; obtain ⟨p0, p1, p2⟩ := boxed1 w W H A n cap hb1) | (go_at_call 6; refine (hL _).mono ?_; rintro e w2 ⟨rfl, hb2⟩))
  go_ret
  exact ⟨rfl, (hb.trans (hb1.mono (by simp))).trans (hb2.mono (hb.trans (hb1.mono (by simp))).size)⟩
end Go.Proofs.YtddbmkgmmhppnacDoor
