/-
  What the reference's grid answers: steps, what is open, moves; and the small readers of the program's grid.
-/
import Derived.Test.YtfhicijgpdpfpaaDoorSet
namespace Go.Proofs.YtfhicijgpdpfpaaDoor
open Go.RowKit

set_option maxHeartbeats 1000000 in
theorem rstep_any (d : Nat) (w : World) (hd : d < 8) :
    Calls Tryd.prog 78 #[.int .i64 d] w fun e w' => e = .returned (.tuple #[.int .i64 (stepX d), .int .i64 (stepY d)]) ∧ w' = w := by
  have hks : d = 0 ∨ d = 1 ∨ d = 2 ∨ d = 3 ∨ d = 4 ∨ d = 5 ∨ d = 6 ∨ d = 7 := by omega
  rcases hks with rfl | rfl | rfl | rfl | rfl | rfl | rfl | rfl
  all_goals
    go_enter Tryd.func78, Tryd.ntmps78
    go_wp2
    go_ret2
    exact ⟨rfl, rfl⟩

theorem rstep_d (d : Nat) (w : World) (hd : d < 8) :
    Calls Tryd.prog 78 #[.int .i64 d] w fun e w' => e = .returned (.tuple #[.int .i64 (stepX d), .int .i64 (stepY d)]) ∧ ∃ m, w' = w.drewN m :=
  (rstep_any d w hd).mono fun _ _ ⟨h1, h2⟩ => ⟨h1, 0, h2⟩

set_option maxHeartbeats 1000000 in
theorem ropen_any {b : Nat} {W H V : Int} {bl : Nat → Bool} (x y : Int) (w : World) (g : RefAt w b W H V bl) :
    Calls Tryd.prog 66 #[.pointer (some ⟨b, 0, none⟩), .int .i64 x, .int .i64 y] w fun e w' => e = .returned (.bool (openB W H bl x y)) ∧ ∃ m, w' = w.drewN m := by
  have c0 := g.c0
  have c1 := g.c1
  have gw1 := g.w1
  have gw2 := g.w2
  have gh2 := g.h2
  by_cases h : 0 ≤ x ∧ x < W ∧ 0 ≤ y ∧ y < H
  · have ha : atB W H x y = true := decide_eq_true h
    have e : openB W H bl x y = !bl (y * W + x).toNat := by unfold openB; rw [ha]; rfl
    rw [e]; clear e
    obtain ⟨x1, x2, y1, y2⟩ := h
    obtain ⟨i1, i2, i3⟩ := idx_bd g.w1 g.w2 g.h1 g.h2 x1 x2 y1 y2
    obtain ⟨k1, k2⟩ := yw_bd (y := y) g.w1 g.w2 (by omega) (by omega)
    have hc := g.cs (y * W + x).toNat (by omega)
    have d1 : decide (0 ≤ x) = true := decide_eq_true x1
    have d2 : decide (x < W) = true := decide_eq_true x2
    have d3 : decide (0 ≤ y) = true := decide_eq_true y1
    have d4 : decide (y < H) = true := decide_eq_true y2
    clear i2 ha
    go_enter Tryd.func66, Tryd.ntmps66
    go_wp2
    go_quiet (fail)
    go_wp2
    go_ret
    exact ⟨rfl, _, rfl⟩
  · have ha : atB W H x y = false := decide_eq_false h
    have e : openB W H bl x y = false := by unfold openB; rw [ha]; rfl
    rw [e]; clear e
    have hc : (¬ 0 ≤ x) ∨ (0 ≤ x ∧ ¬ x < W) ∨ (0 ≤ x ∧ x < W ∧ ¬ 0 ≤ y) ∨ (0 ≤ x ∧ x < W ∧ 0 ≤ y ∧ ¬ y < H) := by omega
    clear ha h
    rcases hc with h | ⟨h1, h2⟩ | ⟨h1, h2, h3⟩ | ⟨h1, h2, h3, h4⟩
    · have d1 : decide (0 ≤ x) = false := decide_eq_false h
      go_enter Tryd.func66, Tryd.ntmps66
      go_wp2
      go_quiet (fail)
      go_wp2
      go_ret
      exact ⟨rfl, _, rfl⟩
    · have d1 : decide (0 ≤ x) = true := decide_eq_true h1
      have d2 : decide (x < W) = false := decide_eq_false h2
      go_enter Tryd.func66, Tryd.ntmps66
      go_wp2
      go_quiet (fail)
      go_wp2
      go_ret
      exact ⟨rfl, _, rfl⟩
    · have d1 : decide (0 ≤ x) = true := decide_eq_true h1
      have d2 : decide (x < W) = true := decide_eq_true h2
      have d3 : decide (0 ≤ y) = false := decide_eq_false h3
      go_enter Tryd.func66, Tryd.ntmps66
      go_wp2
      go_quiet (fail)
      go_wp2
      go_ret
      exact ⟨rfl, _, rfl⟩
    · have d1 : decide (0 ≤ x) = true := decide_eq_true h1
      have d2 : decide (x < W) = true := decide_eq_true h2
      have d3 : decide (0 ≤ y) = true := decide_eq_true h3
      have d4 : decide (y < H) = false := decide_eq_false h4
      go_enter Tryd.func66, Tryd.ntmps66
      go_wp2
      go_quiet (fail)
      go_wp2
      go_ret
      exact ⟨rfl, _, rfl⟩

theorem ropen_v {b : Nat} {W H V : Int} {bl : Nat → Bool} {x y : Int} {r : Bool} (hr : openB W H bl x y = r) (w : World) (g : RefAt w b W H V bl) :
    Calls Tryd.prog 66 #[.pointer (some ⟨b, 0, none⟩), .int .i64 x, .int .i64 y] w fun e w' => e = .returned (.bool r) ∧ ∃ m, w' = w.drewN m := hr ▸ ropen_any x y w g

set_option maxHeartbeats 1000000 in
theorem rmay_any {b : Nat} {W H V : Int} {bl : Nat → Bool} (x y : Int) (d : Nat) (w : World) (g : RefAt w b W H V bl) (hd : d < 8) (x1 : -100 ≤ x) (x2 : x ≤ 100) (y1 : -100 ≤ y) (y2 : y ≤ 100) :
    Calls Tryd.prog 57 #[.pointer (some ⟨b, 0, none⟩), .int .i64 x, .int .i64 y, .int .i64 d] w fun e w' => e = .returned (.bool (mayB W H bl x y d)) ∧ ∃ m, w' = w.drewN m := by
  obtain ⟨s1, s2, s3, s4⟩ := step_bd d
  have hs := fun w => rstep_d d w hd
  have hm : mayB W H bl x y d = (openB W H bl x y && openB W H bl (x + stepX d) (y + stepY d) && openB W H bl (x + stepX d) y && openB W H bl x (y + stepY d)) := rfl
  generalize stepX d = dx at *
  generalize stepY d = dy at *
  cases hA : openB W H bl x y with
  | false =>
    rw [hm, hA]
    simp only [Bool.false_and]
    clear hm
    go_enter Tryd.func57, Tryd.ntmps57
    go_wp2_with (first | (go_at_call 78; refine (hs _).mono ?_; rintro e w' ⟨rfl, m0, rfl⟩) | (go_at_call 66; refine (ropen_v (by assumption) _ (g.drewN _)).mono ?_; rintro e w' ⟨rfl, m, rfl⟩))
    go_ret
    exact ⟨rfl, _, rfl⟩
  | true =>
    cases hB : openB W H bl (x + dx) (y + dy) with
    | false =>
      rw [hm, hA, hB]
      simp only [Bool.true_and, Bool.false_and]
      clear hm
      go_enter Tryd.func57, Tryd.ntmps57
      go_wp2_with (first | (go_at_call 78; refine (hs _).mono ?_; rintro e w' ⟨rfl, m0, rfl⟩) | (go_at_call 66; refine (ropen_v (by assumption) _ (g.drewN _)).mono ?_; rintro e w' ⟨rfl, m, rfl⟩))
      go_ret
      exact ⟨rfl, _, rfl⟩
    | true =>
      cases hC : openB W H bl (x + dx) y with
      | false =>
        rw [hm, hA, hB, hC]
        simp only [Bool.true_and, Bool.false_and]
        clear hm
        go_enter Tryd.func57, Tryd.ntmps57
        go_wp2_with (first | (go_at_call 78; refine (hs _).mono ?_; rintro e w' ⟨rfl, m0, rfl⟩) | (go_at_call 66; refine (ropen_v (by assumption) _ (g.drewN _)).mono ?_; rintro e w' ⟨rfl, m, rfl⟩))
        go_ret
        exact ⟨rfl, _, rfl⟩
      | true =>
        cases hD : openB W H bl x (y + dy) with
        | false =>
          rw [hm, hA, hB, hC, hD]
          simp only [Bool.true_and]
          clear hm
          go_enter Tryd.func57, Tryd.ntmps57
          go_wp2_with (first | (go_at_call 78; refine (hs _).mono ?_; rintro e w' ⟨rfl, m0, rfl⟩) | (go_at_call 66; refine (ropen_v (by assumption) _ (g.drewN _)).mono ?_; rintro e w' ⟨rfl, m, rfl⟩))
          go_ret
          exact ⟨rfl, _, rfl⟩
        | true =>
          rw [hm, hA, hB, hC, hD]
          simp only [Bool.true_and]
          clear hm
          go_enter Tryd.func57, Tryd.ntmps57
          go_wp2_with (first | (go_at_call 78; refine (hs _).mono ?_; rintro e w' ⟨rfl, m0, rfl⟩) | (go_at_call 66; refine (ropen_v (by assumption) _ (g.drewN _)).mono ?_; rintro e w' ⟨rfl, m, rfl⟩))
          go_ret
          exact ⟨rfl, _, rfl⟩

set_option maxHeartbeats 400000 in
theorem rto_any {b : Nat} {W H V : Int} {bl : Nat → Bool} (c : Int) (d : Nat) (w : World) (g : RefAt w b W H V bl) (hd : d < 8) (c1 : -1000 ≤ c) (c2 : c ≤ 1000) :
    Calls Tryd.prog 48 #[.pointer (some ⟨b, 0, none⟩), .int .i64 c, .int .i64 d] w fun e w' => e = .returned (.int .i64 (c + stepX d + stepY d * W)) ∧ w' = w := by
  obtain ⟨s1, s2, s3, s4⟩ := step_bd d
  obtain ⟨k1, k2⟩ := yw_bd g.w1 g.w2 (show -100 ≤ stepY d by omega) (by omega)
  have hs := fun w => rstep_any d w hd
  have c0 := g.c0
  generalize stepX d = dx at *
  generalize stepY d = dy at *
  go_enter Tryd.func48, Tryd.ntmps48
  go_wp2_with (go_at_call 78; refine (hs _).mono ?_; rintro e w' ⟨rfl, rfl⟩)
  go_ret
  exact ⟨rfl, rfl⟩

set_option maxHeartbeats 400000 in
theorem free_in {b : Nat} {W H V : Int} {bl : Nat → Bool} (c : Nat) (w : World) (g : GridAt w b W H V bl) (hr : inB W H c = true) :
    Calls Tryd.prog 53 #[.pointer (some ⟨b, 0, none⟩), .int .i64 c] w fun e w' => e = .returned (.tuple #[.bool (!bl c), .nilIface]) ∧ ∃ m, w' = w.drewN m := by
  have hc : 0 ≤ (c : Int) ∧ (c : Int) < W * H := of_decide_eq_true hr
  obtain ⟨k1, k2⟩ := wh_bd g.w1 g.w2 g.h1 g.h2
  obtain ⟨q1, q2⟩ := hc
  have q3 : (c : Int) < 256 := by omega
  have h := g.cs c (by omega)
  go_enter Tryd.func53, Tryd.ntmps53
  go_wp2_with (go_at_call 51; refine (hasCell_v hr _ g).mono ?_; rintro e w' ⟨rfl, m, rfl⟩)
  go_ret2
  exact ⟨rfl, _, rfl⟩
set_option maxHeartbeats 400000 in
theorem free_out {b : Nat} {W H V : Int} {bl : Nat → Bool} (c : Int) (w : World) (g : GridAt w b W H V bl) (hr : inB W H c = false) :
    Calls Tryd.prog 53 #[.pointer (some ⟨b, 0, none⟩), .int .i64 c] w fun e w' => e = .returned (.tuple #[.bool false, .iface 78 (.int .i64 1)]) ∧ ∃ m, w' = w.drewN m := by
  go_enter Tryd.func53, Tryd.ntmps53
  go_wp2_with (go_at_call 51; refine (hasCell_v hr _ g).mono ?_; rintro e w' ⟨rfl, m, rfl⟩)
  go_ret2
  exact ⟨rfl, _, rfl⟩

end Go.Proofs.YtfhicijgpdpfpaaDoor
