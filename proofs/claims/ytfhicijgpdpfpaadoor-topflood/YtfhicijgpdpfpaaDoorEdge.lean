/-
  Steps on a grid as edges; what a step costs; may one be in a cell?
-/
import Derived.Test.YtfhicijgpdpfpaaDoorFloodM
import Derived.Test.YtfhicijgpdpfpaaDoorOct
import Derived.Test.YtfhicijgpdpfpaaDoorAsAid
import Derived.Test.YtfhicijgpdpfpaaDoorPop
namespace Go.Proofs.YtfhicijgpdpfpaaDoor
open Go.RowKit

/-- one may go from a in direction k, and comes to b -/
def Edge (W H : Int) (bl : Nat → Bool) (a : Int) (k : Nat) (b : Int) : Prop := k < 8 ∧ inB W H a = true ∧ mayB W H bl (a % W) (a / W) k = true ∧ b = a + (stepY k * W + stepX k)

theorem Edge.in' {W H a b : Int} {bl : Nat → Bool} {k : Nat} (w1 : 1 ≤ W) (e : Edge W H bl a k b) : inB W H b = true := by
  rw [e.2.2.2]; exact (back_facts w1 e.1 e.2.2.1).1

theorem st_opp (k : Nat) : stS (opp k) = stS k ∧ stD (opp k) = stD k := by
  have : opp k % 2 = k % 2 := by unfold opp; omega
  unfold stS stD
  rw [this]
  exact ⟨rfl, rfl⟩

theorem Edge.back {W H : Int} {bl : Nat → Bool} (w1 : 1 ≤ W) (a : Int) (k : Nat) (b : Int) (e : Edge W H bl a k b) : ∃ k', Edge W H bl b k' a ∧ stS k' = stS k ∧ stD k' = stD k := by
  obtain ⟨h1, h2, h3, h4⟩ := e
  obtain ⟨f1, j, hj, hj2⟩ := back_facts w1 h1 h3
  have hm := mvs_at hj
  rw [hj2, ← h4] at hm
  refine ⟨opp k, ⟨opp_lt k, by rw [h4]; exact f1, hm.2, ?_⟩, st_opp k⟩
  rw [h4]; exact (back_home h1).symm

theorem Edge.one {W H a b c : Int} {bl : Nat → Bool} {k j : Nat} (e : Edge W H bl a k b) (f : Edge W H bl a j c) (h : j = k) : c = b := by
  rw [e.2.2.2, f.2.2.2, h]

theorem step_oct (d : Nat) (h : d < 8) : dst (dst 0 (stepX d)) (dst 0 (stepY d)) = stS d ∧ les (dst 0 (stepX d)) (dst 0 (stepY d)) = stD d := by
  have hks : d = 0 ∨ d = 1 ∨ d = 2 ∨ d = 3 ∨ d = 4 ∨ d = 5 ∨ d = 6 ∨ d = 7 := by omega
  rcases hks with rfl | rfl | rfl | rfl | rfl | rfl | rfl | rfl <;> decide

set_option maxHeartbeats 400000 in
theorem stepCost_any (d : Nat) (w : World) (h : StepsAt w) (hd : d < 8) :
    Calls Tryd.prog 47 #[.int .i64 d] w fun e w' => e = .returned (.agg #[.int .i64 (stS d), .int .i64 (stD d)]) ∧ Below w.heap.size w w' := by
  obtain ⟨b1, b2, b3, b4⟩ := step_bd d
  obtain ⟨e1, e2⟩ := step_oct d hd
  have hs := fun w' (hb : Below w.heap.size w w') (h0 : 0 < w.heap.size) => step_any d w' (h.below hb h0) hd
  have ho := fun w' => oct_any 0 0 (stepX d) (stepY d) w' (by unfold nearB; omega) (by unfold nearB; omega) (by unfold nearB; omega) (by unfold nearB; omega)
  rw [e1, e2] at ho
  have h0 : 0 < w.heap.size := World.block_lt_of_cell? w _ (h 0 (by decide)).1
  have HB : Below w.heap.size w (w.alloc (.cells #[.int .i64 0, .int .i64 0] 31)) := (Below.refl _ _).alloc (Nat.le_refl _) _
  generalize stepX d = dx at *
  generalize stepY d = dy at *
  clear e1 e2
  generalize stS d = cs at *
  generalize stD d = cd at *
  go_enter Tryd.func47, Tryd.ntmps47
  go_wp2_with (first | (go_at_call 58; refine (hs _ HB h0).mono ?_; rintro e w' ⟨rfl, m, rfl⟩) | (go_at_call 77; refine (ho _).mono ?_; rintro e w2 ⟨rfl, hb2⟩; obtain ⟨hq1, hq2⟩ := bcell hb2))
  have a0 : w2.cell? ⟨w.heap.size, 0, none⟩ = some (.int .i64 0) := (hq1 _ _ (by simp)).trans (World.cell?_alloc_at #[.int .i64 0, .int .i64 0] 31 w.heap.size 0 rfl)
  have a1 : w2.cell? ⟨w.heap.size, 1, none⟩ = some (.int .i64 0) := (hq1 _ _ (by simp)).trans (World.cell?_alloc_at #[.int .i64 0, .int .i64 0] 31 w.heap.size 1 rfl)
  have r0 := popCells w2 w.heap.size cs cd a0 a1
  have HB2 : Below w.heap.size w w2 := (below_drewN HB m).trans (hb2.mono (by simp))
  exact bodyPost_ret (v := .agg #[.int .i64 cs, .int .i64 cd]) (by simp [results, Tryd.results47, go_sem, r0.1, r0.2]) rfl ⟨rfl, (HB2.setCell (p := ⟨w.heap.size, 0, none⟩) (Nat.le_refl _) _).setCell (p := ⟨w.heap.size, 1, none⟩) (Nat.le_refl _) _⟩

set_option maxHeartbeats 400000 in
theorem check_out {b : Nat} {W H V : Int} {bl : Nat → Bool} (c : Int) (w : World) (g : GridAt w b W H V bl) (hr : inB W H c = false) :
    Calls Tryd.prog 45 #[.pointer (some ⟨b, 0, none⟩), .int .i64 c] w fun e w' => e = .returned (.iface 78 (.int .i64 1)) ∧ ∃ m, w' = w.drewN m := by
  go_enter Tryd.func45, Tryd.ntmps45
  go_wp2_with (go_at_call 53; refine (free_out c _ g hr).mono ?_; rintro e w' ⟨rfl, m, rfl⟩)
  go_ret
  exact ⟨rfl, _, rfl⟩
set_option maxHeartbeats 400000 in
theorem check_bl {b : Nat} {W H V : Int} {bl : Nat → Bool} (c : Nat) (w : World) (g : GridAt w b W H V bl) (hr : inB W H c = true) (hb : bl c = true) :
    Calls Tryd.prog 45 #[.pointer (some ⟨b, 0, none⟩), .int .i64 c] w fun e w' => e = .returned (.iface 78 (.int .i64 4)) ∧ ∃ m, w' = w.drewN m := by
  have hf := fun w g => free_in (b := b) (W := W) (H := H) (V := V) (bl := bl) c w g hr
  rw [hb] at hf
  go_enter Tryd.func45, Tryd.ntmps45
  go_wp2_with (go_at_call 53; refine (hf _ g).mono ?_; rintro e w' ⟨rfl, m, rfl⟩)
  go_ret
  exact ⟨rfl, _, rfl⟩
set_option maxHeartbeats 400000 in
theorem check_ok {b : Nat} {W H V : Int} {bl : Nat → Bool} (c : Nat) (w : World) (g : GridAt w b W H V bl) (hr : inB W H c = true) (hb : bl c = false) :
    Calls Tryd.prog 45 #[.pointer (some ⟨b, 0, none⟩), .int .i64 c] w fun e w' => e = .returned .nilIface ∧ ∃ m, w' = w.drewN m := by
  have hf := fun w g => free_in (b := b) (W := W) (H := H) (V := V) (bl := bl) c w g hr
  rw [hb] at hf
  go_enter Tryd.func45, Tryd.ntmps45
  go_wp2_with (go_at_call 53; refine (hf _ g).mono ?_; rintro e w' ⟨rfl, m, rfl⟩)
  go_ret
  exact ⟨rfl, _, rfl⟩
end Go.Proofs.YtfhicijgpdpfpaaDoor
