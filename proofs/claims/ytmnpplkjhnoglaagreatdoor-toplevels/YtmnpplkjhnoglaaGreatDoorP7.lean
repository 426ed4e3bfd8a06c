/-
  Texts laid together: Set, Ref.
-/
import Derived.Test.YtmnpplkjhnoglaaGreatDoorP6
/-
  What setting a cell does, in the program's grid and in the reference's.
-/
namespace Go.Proofs.YtmnpplkjhnoglaaGreatDoor
open Go.RowKit

/-- none of a block's cells is frozen -/
def Free (w : World) (b : Nat) : Prop := ∀ o, w.frozen? ⟨b, o, none⟩ = false

set_option maxHeartbeats 400000 in
theorem set_out {b : Nat} {W H V : Int} {bl : Nat → Bool} (c : Int) (v : Bool) (w : World) (g : GridAt w b W H V bl) (hr : inB W H c = false) :
    Calls Tryz.prog 22 #[.pointer (some ⟨b, 0, none⟩), .int .i64 c, .bool v] w fun e w' => e = .returned (.tuple #[.bool false, .iface 96 (.int .i64 1)]) ∧ ∃ m, w' = w.drewN m := by
  go_enter Tryz.func22, Tryz.ntmps22
  go_wp2_with (go_at_call 59; refine (hasCell_v hr _ g).mono ?_; rintro e w' ⟨rfl, m, rfl⟩)
  go_ret2
  exact ⟨rfl, _, rfl⟩

set_option maxHeartbeats 400000 in
theorem set_same {b : Nat} {W H V : Int} {bl : Nat → Bool} (c : Nat) (v : Bool) (w : World) (g : GridAt w b W H V bl) (hr : inB W H c = true) (hv : bl c = v) :
    Calls Tryz.prog 22 #[.pointer (some ⟨b, 0, none⟩), .int .i64 c, .bool v] w fun e w' => e = .returned (.tuple #[.bool false, .nilIface]) ∧ ∃ m, w' = w.drewN m := by
  have hc : 0 ≤ (c : Int) ∧ (c : Int) < W * H := of_decide_eq_true hr
  obtain ⟨k1, k2⟩ := wh_bd g.w1 g.w2 g.h1 g.h2
  obtain ⟨q1, q2⟩ := hc
  have q3 : (c : Int) < 256 := by omega
  have h := g.cs c (by omega)
  rw [hv] at h
  go_enter Tryz.func22, Tryz.ntmps22
  go_wp2_with (go_at_call 59; refine (hasCell_v hr _ g).mono ?_; rintro e w' ⟨rfl, m, rfl⟩)
  go_ret2
  exact ⟨rfl, _, rfl⟩

theorem addr_ne {b o p : Nat} (h : o ≠ p) : (⟨b, o, none⟩ : Addr) ≠ ⟨b, p, none⟩ := by
  intro e; cases e; exact h rfl

theorem gridAt_set {w : World} {b : Nat} {W H V : Int} {bl : Nat → Bool} (g : GridAt w b W H V bl) (c : Nat) (hc : c < 256) (v : Bool) :
    GridAt ((w.setCell ⟨b, 3 + c, none⟩ (.bool v)).setCell ⟨b, 2, none⟩ (.int .i64 (V + 1))) b W H (V + 1) (upd bl c v) := by
  refine ⟨g.w1, g.w2, g.h1, g.h2, ?_, ?_, ?_, fun i hi => ?_⟩
  · rw [World.cell?_setCell_other _ _ _ _ (addr_ne (by omega)), World.cell?_setCell_other _ _ _ _ (addr_ne (by omega))]; exact g.c0
  · rw [World.cell?_setCell_other _ _ _ _ (addr_ne (by omega)), World.cell?_setCell_other _ _ _ _ (addr_ne (by omega))]; exact g.c1
  · refine World.cell?_setCell_same _ _ _ (u := .int .i64 V) ?_
    rw [World.cell?_setCell_other _ _ _ _ (addr_ne (by omega))]; exact g.c2
  · rw [World.cell?_setCell_other _ _ _ _ (addr_ne (by omega))]
    unfold upd
    by_cases e : i = c
    · subst e
      rw [if_pos rfl]
      exact World.cell?_setCell_same _ _ _ (g.cs i hi)
    · rw [if_neg e, World.cell?_setCell_other _ _ _ _ (addr_ne (by omega))]; exact g.cs i hi

set_option maxHeartbeats 400000 in
theorem set_new {b : Nat} {W H V : Int} {bl : Nat → Bool} (c : Nat) (v : Bool) (w : World) (g : GridAt w b W H V bl) (f : Free w b) (hr : inB W H c = true) (hv : bl c = !v) (v1 : 0 ≤ V) (v2 : V ≤ 1000000) :
    Calls Tryz.prog 22 #[.pointer (some ⟨b, 0, none⟩), .int .i64 c, .bool v] w fun e w' => e = .returned (.tuple #[.bool true, .nilIface]) ∧ Touch b w w' ∧ GridAt w' b W H (V + 1) (upd bl c v) ∧ Free w' b := by
  have hc : 0 ≤ (c : Int) ∧ (c : Int) < W * H := of_decide_eq_true hr
  obtain ⟨k1, k2⟩ := wh_bd g.w1 g.w2 g.h1 g.h2
  obtain ⟨q1, q2⟩ := hc
  have q3 : (c : Int) < 256 := by omega
  have h := g.cs c (by omega)
  have c2 := g.c2
  have f1 := f 2
  have f2 := f (3 + c)
  rw [hv] at h
  have hx : ((!v) == v) = false := by cases v <;> rfl
  have hG := fun m => gridAt_set (g.drewN m) c (by omega) v
  have hne : (⟨b, 3 + c, none⟩ : Addr) ≠ ⟨b, 2, none⟩ := addr_ne (by omega)
  have c3 : (w.setCell ⟨b, 3 + c, none⟩ (.bool v)).cell? ⟨b, 2, none⟩ = some (.int .i64 V) := by rw [World.cell?_setCell_other _ _ _ _ hne]; exact c2
  go_enter Tryz.func22, Tryz.ntmps22
  go_wp2_with (go_at_call 59; refine (hasCell_v hr _ g).mono ?_; rintro e w' ⟨rfl, m, rfl⟩)
  go_ret2
  exact ⟨rfl, (((Touch.refl b w).drewN m).setCell _ _).setCell _ _, hG m, fun o => by simpa using f o⟩

/-- the fault's number: is it a cell of the reference's grid? -/
def isB (W H c : Int) : Int := if inB W H c then 0 else 1

set_option maxHeartbeats 400000 in
theorem ris_in {b : Nat} {W H V : Int} {bl : Nat → Bool} (c : Int) (w : World) (g : RefAt w b W H V bl) (hr : inB W H c = true) :
    Calls Tryz.prog 31 #[.pointer (some ⟨b, 0, none⟩), .int .i64 c] w fun e w' => e = .returned (.int .i64 0) ∧ ∃ m, w' = w.drewN m := by
  have hc : 0 ≤ c ∧ c < W * H := of_decide_eq_true hr
  obtain ⟨k1, k2⟩ := wh_bd g.w1 g.w2 g.h1 g.h2
  obtain ⟨q1, q2⟩ := hc
  have c0 := g.c0
  have c1 := g.c1
  have hd : decide (c < 0) = false := decide_eq_false (by omega)
  have he : ¬ W * H ≤ c := by omega
  go_enter Tryz.func31, Tryz.ntmps31
  go_wp2
  go_quiet (fail)
  go_wp2
  go_ret
  exact ⟨rfl, _, rfl⟩

set_option maxHeartbeats 400000 in
theorem ris_out {b : Nat} {W H V : Int} {bl : Nat → Bool} (c : Int) (w : World) (g : RefAt w b W H V bl) (hr : inB W H c = false) :
    Calls Tryz.prog 31 #[.pointer (some ⟨b, 0, none⟩), .int .i64 c] w fun e w' => e = .returned (.int .i64 1) ∧ ∃ m, w' = w.drewN m := by
  have hc : ¬ (0 ≤ c ∧ c < W * H) := of_decide_eq_false hr
  obtain ⟨k1, k2⟩ := wh_bd g.w1 g.w2 g.h1 g.h2
  have c0 := g.c0
  have c1 := g.c1
  by_cases h : c < 0
  · have hd : decide (c < 0) = true := decide_eq_true h
    go_enter Tryz.func31, Tryz.ntmps31
    go_wp2
    go_quiet (fail)
    go_wp2
    go_ret
    exact ⟨rfl, _, rfl⟩
  · have hd : decide (c < 0) = false := decide_eq_false h
    have he : W * H ≤ c := by omega
    go_enter Tryz.func31, Tryz.ntmps31
    go_wp2
    go_quiet (fail)
    go_wp2
    go_ret
    exact ⟨rfl, _, rfl⟩

set_option maxHeartbeats 400000 in
theorem rset_out {b : Nat} {W H V : Int} {bl : Nat → Bool} (c : Int) (v : Bool) (w : World) (g : RefAt w b W H V bl) (hr : inB W H c = false) :
    Calls Tryz.prog 43 #[.pointer (some ⟨b, 0, none⟩), .int .i64 c, .bool v] w fun e w' => e = .returned (.tuple #[.bool false, .int .i64 1]) ∧ ∃ m, w' = w.drewN m := by
  go_enter Tryz.func43, Tryz.ntmps43
  go_wp2_with (go_at_call 31; refine (ris_out _ _ g hr).mono ?_; rintro e w' ⟨rfl, m, rfl⟩)
  go_ret2
  exact ⟨rfl, _, rfl⟩

set_option maxHeartbeats 400000 in
theorem rset_same {b : Nat} {W H V : Int} {bl : Nat → Bool} (c : Nat) (v : Bool) (w : World) (g : RefAt w b W H V bl) (hr : inB W H c = true) (hv : bl c = v) :
    Calls Tryz.prog 43 #[.pointer (some ⟨b, 0, none⟩), .int .i64 c, .bool v] w fun e w' => e = .returned (.tuple #[.bool false, .int .i64 0]) ∧ ∃ m, w' = w.drewN m := by
  have hc : 0 ≤ (c : Int) ∧ (c : Int) < W * H := of_decide_eq_true hr
  obtain ⟨k1, k2⟩ := wh_bd g.w1 g.w2 g.h1 g.h2
  obtain ⟨q1, q2⟩ := hc
  have q3 : (c : Int) < 256 := by omega
  have h := g.cs c (by omega)
  rw [hv] at h
  go_enter Tryz.func43, Tryz.ntmps43
  go_wp2_with (go_at_call 31; refine (ris_in _ _ g hr).mono ?_; rintro e w' ⟨rfl, m, rfl⟩)
  go_ret2
  exact ⟨rfl, _, rfl⟩

theorem refAt_set {w : World} {b : Nat} {W H V : Int} {bl : Nat → Bool} (g : RefAt w b W H V bl) (c : Nat) (hc : c < 256) (v : Bool) :
    RefAt ((w.setCell ⟨b, 2 + c, none⟩ (.bool v)).setCell ⟨b, 258, none⟩ (.int .i64 (V + 1))) b W H (V + 1) (upd bl c v) := by
  refine ⟨g.w1, g.w2, g.h1, g.h2, ?_, ?_, ?_, fun i hi => ?_⟩
  · rw [World.cell?_setCell_other _ _ _ _ (addr_ne (by omega)), World.cell?_setCell_other _ _ _ _ (addr_ne (by omega))]; exact g.c0
  · rw [World.cell?_setCell_other _ _ _ _ (addr_ne (by omega)), World.cell?_setCell_other _ _ _ _ (addr_ne (by omega))]; exact g.c1
  · refine World.cell?_setCell_same _ _ _ (u := .int .i64 V) ?_
    rw [World.cell?_setCell_other _ _ _ _ (addr_ne (by omega))]; exact g.c2
  · rw [World.cell?_setCell_other _ _ _ _ (addr_ne (by omega))]
    unfold upd
    by_cases e : i = c
    · subst e
      rw [if_pos rfl]
      exact World.cell?_setCell_same _ _ _ (g.cs i hi)
    · rw [if_neg e, World.cell?_setCell_other _ _ _ _ (addr_ne (by omega))]; exact g.cs i hi

set_option maxHeartbeats 400000 in
theorem rset_new {b : Nat} {W H V : Int} {bl : Nat → Bool} (c : Nat) (v : Bool) (w : World) (g : RefAt w b W H V bl) (f : Free w b) (hr : inB W H c = true) (hv : bl c = !v) (v1 : 0 ≤ V) (v2 : V ≤ 1000000) :
    Calls Tryz.prog 43 #[.pointer (some ⟨b, 0, none⟩), .int .i64 c, .bool v] w fun e w' => e = .returned (.tuple #[.bool true, .int .i64 0]) ∧ Touch b w w' ∧ RefAt w' b W H (V + 1) (upd bl c v) ∧ Free w' b := by
  have hc : 0 ≤ (c : Int) ∧ (c : Int) < W * H := of_decide_eq_true hr
  obtain ⟨k1, k2⟩ := wh_bd g.w1 g.w2 g.h1 g.h2
  obtain ⟨q1, q2⟩ := hc
  have q3 : (c : Int) < 256 := by omega
  have h := g.cs c (by omega)
  have c2 := g.c2
  have f1 := f 258
  have f2 := f (2 + c)
  rw [hv] at h
  have hx : ((!v) == v) = false := by cases v <;> rfl
  have hG := fun m => refAt_set (g.drewN m) c (by omega) v
  have hne : (⟨b, 2 + c, none⟩ : Addr) ≠ ⟨b, 258, none⟩ := addr_ne (by omega)
  have c3 : (w.setCell ⟨b, 2 + c, none⟩ (.bool v)).cell? ⟨b, 258, none⟩ = some (.int .i64 V) := by rw [World.cell?_setCell_other _ _ _ _ hne]; exact c2
  go_enter Tryz.func43, Tryz.ntmps43
  go_wp2_with (go_at_call 31; refine (ris_in _ _ g hr).mono ?_; rintro e w' ⟨rfl, m, rfl⟩)
  go_ret2
  exact ⟨rfl, (((Touch.refl b w).drewN m).setCell _ _).setCell _ _, hG m, fun o => by simpa using f o⟩
end Go.Proofs.YtmnpplkjhnoglaaGreatDoor
/-
  What the reference's grid answers: steps, what is open, moves; and the small readers of the program's grid.
-/
namespace Go.Proofs.YtmnpplkjhnoglaaGreatDoor
open Go.RowKit

set_option maxHeartbeats 1000000 in
theorem rstep_any (d : Nat) (w : World) (hd : d < 8) :
    Calls Tryz.prog 114 #[.int .i64 d] w fun e w' => e = .returned (.tuple #[.int .i64 (stepX d), .int .i64 (stepY d)]) ∧ w' = w := by
  have hks : d = 0 ∨ d = 1 ∨ d = 2 ∨ d = 3 ∨ d = 4 ∨ d = 5 ∨ d = 6 ∨ d = 7 := by omega
  rcases hks with rfl | rfl | rfl | rfl | rfl | rfl | rfl | rfl
  all_goals
    go_enter Tryz.func114, Tryz.ntmps114
    go_wp2
    go_ret2
    exact ⟨rfl, rfl⟩

theorem rstep_d (d : Nat) (w : World) (hd : d < 8) :
    Calls Tryz.prog 114 #[.int .i64 d] w fun e w' => e = .returned (.tuple #[.int .i64 (stepX d), .int .i64 (stepY d)]) ∧ ∃ m, w' = w.drewN m :=
  (rstep_any d w hd).mono fun _ _ ⟨h1, h2⟩ => ⟨h1, 0, h2⟩

set_option maxHeartbeats 1000000 in
theorem ropen_any {b : Nat} {W H V : Int} {bl : Nat → Bool} (x y : Int) (w : World) (g : RefAt w b W H V bl) :
    Calls Tryz.prog 123 #[.pointer (some ⟨b, 0, none⟩), .int .i64 x, .int .i64 y] w fun e w' => e = .returned (.bool (openB W H bl x y)) ∧ ∃ m, w' = w.drewN m := by
  have c0 := g.c0
  have c1 := g.c1
  have gw1 := g.w1
  have gw2 := g.w2
  have gh2 := g.h2
  by_cases h : 0 ≤ x ∧ x < W ∧ 0 ≤ y ∧ y < H
  · have ha : atB W H x y = true := decide_eq_true h
    have e : openB W H bl x y = !bl (y * W + x).toNat := by unfold openB; rw [ha]; rfl
    rw [e]; clear e
    obtain ⟨x1, x2, y1, y2⟩ := h
    obtain ⟨i1, i2, i3⟩ := idx_bd g.w1 g.w2 g.h1 g.h2 x1 x2 y1 y2
    obtain ⟨k1, k2⟩ := yw_bd (y := y) g.w1 g.w2 (by omega) (by omega)
    have hc := g.cs (y * W + x).toNat (by omega)
    have d1 : decide (0 ≤ x) = true := decide_eq_true x1
    have d2 : decide (x < W) = true := decide_eq_true x2
    have d3 : decide (0 ≤ y) = true := decide_eq_true y1
    have d4 : decide (y < H) = true := decide_eq_true y2
    clear i2 ha
    go_enter Tryz.func123, Tryz.ntmps123
    go_wp2
    go_quiet (fail)
    go_wp2
    go_ret
    exact ⟨rfl, _, rfl⟩
  · have ha : atB W H x y = false := decide_eq_false h
    have e : openB W H bl x y = false := by unfold openB; rw [ha]; rfl
    rw [e]; clear e
    have hc : (¬ 0 ≤ x) ∨ (0 ≤ x ∧ ¬ x < W) ∨ (0 ≤ x ∧ x < W ∧ ¬ 0 ≤ y) ∨ (0 ≤ x ∧ x < W ∧ 0 ≤ y ∧ ¬ y < H) := by omega
    clear ha h
    rcases hc with h | ⟨h1, h2⟩ | ⟨h1, h2, h3⟩ | ⟨h1, h2, h3, h4⟩
    · have d1 : decide (0 ≤ x) = false := decide_eq_false h
      go_enter Tryz.func123, Tryz.ntmps123
      go_wp2
      go_quiet (fail)
      go_wp2
      go_ret
      exact ⟨rfl, _, rfl⟩
    · have d1 : decide (0 ≤ x) = true := decide_eq_true h1
      have d2 : decide (x < W) = false := decide_eq_false h2
      go_enter Tryz.func123, Tryz.ntmps123
      go_wp2
      go_quiet (fail)
      go_wp2
      go_ret
      exact ⟨rfl, _, rfl⟩
    · have d1 : decide (0 ≤ x) = true := decide_eq_true h1
      have d2 : decide (x < W) = true := decide_eq_true h2
      have d3 : decide (0 ≤ y) = false := decide_eq_false h3
      go_enter Tryz.func123, Tryz.ntmps123
      go_wp2
      go_quiet (fail)
      go_wp2
      go_ret
      exact ⟨rfl, _, rfl⟩
    · have d1 : decide (0 ≤ x) = true := decide_eq_true h1
      have d2 : decide (x < W) = true := decide_eq_true h2
      have d3 : decide (0 ≤ y) = true := decide_eq_true h3
      have d4 : decide (y < H) = false := decide_eq_false h4
      go_enter Tryz.func123, Tryz.ntmps123
      go_wp2
      go_quiet (fail)
      go_wp2
      go_ret
      exact ⟨rfl, _, rfl⟩

theorem ropen_v {b : Nat} {W H V : Int} {bl : Nat → Bool} {x y : Int} {r : Bool} (hr : openB W H bl x y = r) (w : World) (g : RefAt w b W H V bl) :
    Calls Tryz.prog 123 #[.pointer (some ⟨b, 0, none⟩), .int .i64 x, .int .i64 y] w fun e w' => e = .returned (.bool r) ∧ ∃ m, w' = w.drewN m := hr ▸ ropen_any x y w g

set_option maxHeartbeats 1000000 in
theorem rmay_any {b : Nat} {W H V : Int} {bl : Nat → Bool} (x y : Int) (d : Nat) (w : World) (g : RefAt w b W H V bl) (hd : d < 8) (x1 : -100 ≤ x) (x2 : x ≤ 100) (y1 : -100 ≤ y) (y2 : y ≤ 100) :
    Calls Tryz.prog 113 #[.pointer (some ⟨b, 0, none⟩), .int .i64 x, .int .i64 y, .int .i64 d] w fun e w' => e = .returned (.bool (mayB W H bl x y d)) ∧ ∃ m, w' = w.drewN m := by
  obtain ⟨s1, s2, s3, s4⟩ := step_bd d
  have hs := fun w => rstep_d d w hd
  have hm : mayB W H bl x y d = (openB W H bl x y && openB W H bl (x + stepX d) (y + stepY d) && openB W H bl (x + stepX d) y && openB W H bl x (y + stepY d)) := rfl
  generalize stepX d = dx at *
  generalize stepY d = dy at *
  cases hA : openB W H bl x y with
  | false =>
    rw [hm, hA]
    simp only [Bool.false_and]
    clear hm
    go_enter Tryz.func113, Tryz.ntmps113
    go_wp2_with (first | (go_at_call 114; refine (hs _).mono ?_; rintro e w' ⟨rfl, m0, rfl⟩) | (go_at_call 123; refine (ropen_v (by assumption) _ (g.drewN _)).mono ?_; rintro e w' ⟨rfl, m, rfl⟩))
    go_ret
    exact ⟨rfl, _, rfl⟩
  | true =>
    cases hB : openB W H bl (x + dx) (y + dy) with
    | false =>
      rw [hm, hA, hB]
      simp only [Bool.true_and, Bool.false_and]
      clear hm
      go_enter Tryz.func113, Tryz.ntmps113
      go_wp2_with (first | (go_at_call 114; refine (hs _).mono ?_; rintro e w' ⟨rfl, m0, rfl⟩) | (go_at_call 123; refine (ropen_v (by assumption) _ (g.drewN _)).mono ?_; rintro e w' ⟨rfl, m, rfl⟩))
      go_ret
      exact ⟨rfl, _, rfl⟩
    | true =>
      cases hC : openB W H bl (x + dx) y with
      | false =>
        rw [hm, hA, hB, hC]
        simp only [Bool.true_and, Bool.false_and]
        clear hm
        go_enter Tryz.func113, Tryz.ntmps113
        go_wp2_with (first | (go_at_call 114; refine (hs _).mono ?_; rintro e w' ⟨rfl, m0, rfl⟩) | (go_at_call 123; refine (ropen_v (by assumption) _ (g.drewN _)).mono ?_; rintro e w' ⟨rfl, m, rfl⟩))
        go_ret
        exact ⟨rfl, _, rfl⟩
      | true =>
        cases hD : openB W H bl x (y + dy) with
        | false =>
          rw [hm, hA, hB, hC, hD]
          simp only [Bool.true_and]
          clear hm
          go_enter Tryz.func113, Tryz.ntmps113
          go_wp2_with (first | (go_at_call 114; refine (hs _).mono ?_; rintro e w' ⟨rfl, m0, rfl⟩) | (go_at_call 123; refine (ropen_v (by assumption) _ (g.drewN _)).mono ?_; rintro e w' ⟨rfl, m, rfl⟩))
          go_ret
          exact ⟨rfl, _, rfl⟩
        | true =>
          rw [hm, hA, hB, hC, hD]
          simp only [Bool.true_and]
          clear hm
          go_enter Tryz.func113, Tryz.ntmps113
          go_wp2_with (first | (go_at_call 114; refine (hs _).mono ?_; rintro e w' ⟨rfl, m0, rfl⟩) | (go_at_call 123; refine (ropen_v (by assumption) _ (g.drewN _)).mono ?_; rintro e w' ⟨rfl, m, rfl⟩))
          go_ret
          exact ⟨rfl, _, rfl⟩

set_option maxHeartbeats 400000 in
theorem rto_any {b : Nat} {W H V : Int} {bl : Nat → Bool} (c : Int) (d : Nat) (w : World) (g : RefAt w b W H V bl) (hd : d < 8) (c1 : -1000 ≤ c) (c2 : c ≤ 1000) :
    Calls Tryz.prog 80 #[.pointer (some ⟨b, 0, none⟩), .int .i64 c, .int .i64 d] w fun e w' => e = .returned (.int .i64 (c + stepX d + stepY d * W)) ∧ w' = w := by
  obtain ⟨s1, s2, s3, s4⟩ := step_bd d
  obtain ⟨k1, k2⟩ := yw_bd g.w1 g.w2 (show -100 ≤ stepY d by omega) (by omega)
  have hs := fun w => rstep_any d w hd
  have c0 := g.c0
  generalize stepX d = dx at *
  generalize stepY d = dy at *
  go_enter Tryz.func80, Tryz.ntmps80
  go_wp2_with (go_at_call 114; refine (hs _).mono ?_; rintro e w' ⟨rfl, rfl⟩)
  go_ret
  exact ⟨rfl, rfl⟩

set_option maxHeartbeats 400000 in
theorem free_in {b : Nat} {W H V : Int} {bl : Nat → Bool} (c : Nat) (w : World) (g : GridAt w b W H V bl) (hr : inB W H c = true) :
    Calls Tryz.prog 110 #[.pointer (some ⟨b, 0, none⟩), .int .i64 c] w fun e w' => e = .returned (.tuple #[.bool (!bl c), .nilIface]) ∧ ∃ m, w' = w.drewN m := by
  have hc : 0 ≤ (c : Int) ∧ (c : Int) < W * H := of_decide_eq_true hr
  obtain ⟨k1, k2⟩ := wh_bd g.w1 g.w2 g.h1 g.h2
  obtain ⟨q1, q2⟩ := hc
  have q3 : (c : Int) < 256 := by omega
  have h := g.cs c (by omega)
  go_enter Tryz.func110, Tryz.ntmps110
  go_wp2_with (go_at_call 59; refine (hasCell_v hr _ g).mono ?_; rintro e w' ⟨rfl, m, rfl⟩)
  go_ret2
  exact ⟨rfl, _, rfl⟩
set_option maxHeartbeats 400000 in
theorem free_out {b : Nat} {W H V : Int} {bl : Nat → Bool} (c : Int) (w : World) (g : GridAt w b W H V bl) (hr : inB W H c = false) :
    Calls Tryz.prog 110 #[.pointer (some ⟨b, 0, none⟩), .int .i64 c] w fun e w' => e = .returned (.tuple #[.bool false, .iface 96 (.int .i64 1)]) ∧ ∃ m, w' = w.drewN m := by
  go_enter Tryz.func110, Tryz.ntmps110
  go_wp2_with (go_at_call 59; refine (hasCell_v hr _ g).mono ?_; rintro e w' ⟨rfl, m, rfl⟩)
  go_ret2
  exact ⟨rfl, _, rfl⟩

end Go.Proofs.YtmnpplkjhnoglaaGreatDoor
