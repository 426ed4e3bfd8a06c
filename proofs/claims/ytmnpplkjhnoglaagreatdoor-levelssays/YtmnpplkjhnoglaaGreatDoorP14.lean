/-
  Texts laid together: Ref, Laid, Back.
-/
import Derived.Test.YtmnpplkjhnoglaaGreatDoorP13
/-
  What the reference's grid answers: steps, what is open, moves; and the small readers of the program's grid.
-/
namespace Go.Proofs.YtmnpplkjhnoglaaGreatDoor
open Go.RowKit

set_option maxHeartbeats 1000000 in
theorem rstep_any (d : Nat) (w : World) (hd : d < 8) :
    Calls Tryz.prog 114 #[.int .i64 d] w fun e w' => e = .returned (.tuple #[.int .i64 (stepX d), .int .i64 (stepY d)]) ∧ w' = w := by
  have hks : d = 0 ∨ d = 1 ∨ d = 2 ∨ d = 3 ∨ d = 4 ∨ d = 5 ∨ d = 6 ∨ d = 7 := by omega
  rcases hks with rfl | rfl | rfl | rfl | rfl | rfl | rfl | rfl
  all_goals
    go_enter Tryz.func114, Tryz.ntmps114
    go_wp2
    go_ret2
    exact ⟨rfl, rfl⟩

theorem rstep_d (d : Nat) (w : World) (hd : d < 8) :
    Calls Tryz.prog 114 #[.int .i64 d] w fun e w' => e = .returned (.tuple #[.int .i64 (stepX d), .int .i64 (stepY d)]) ∧ ∃ m, w' = w.drewN m :=
  (rstep_any d w hd).mono fun _ _ ⟨h1, h2⟩ => ⟨h1, 0, h2⟩

set_option maxHeartbeats 1000000 in
theorem ropen_any {b : Nat} {W H V : Int} {bl : Nat → Bool} (x y : Int) (w : World) (g : RefAt w b W H V bl) :
    Calls Tryz.prog 123 #[.pointer (some ⟨b, 0, none⟩), .int .i64 x, .int .i64 y] w fun e w' => e = .returned (.bool (openB W H bl x y)) ∧ ∃ m, w' = w.drewN m := by
  have c0 := g.c0
  have c1 := g.c1
  have gw1 := g.w1
  have gw2 := g.w2
  have gh2 := g.h2
  by_cases h : 0 ≤ x ∧ x < W ∧ 0 ≤ y ∧ y < H
  · have ha : atB W H x y = true := decide_eq_true h
    have e : openB W H bl x y = !bl (y * W + x).toNat := by unfold openB; rw [ha]; rfl
    rw [e]; clear e
    obtain ⟨x1, x2, y1, y2⟩ := h
    obtain ⟨i1, i2, i3⟩ := idx_bd g.w1 g.w2 g.h1 g.h2 x1 x2 y1 y2
    obtain ⟨k1, k2⟩ := yw_bd (y := y) g.w1 g.w2 (by omega) (by omega)
    have hc := g.cs (y * W + x).toNat (by omega)
    have d1 : decide (0 ≤ x) = true := decide_eq_true x1
    have d2 : decide (x < W) = true := decide_eq_true x2
    have d3 : decide (0 ≤ y) = true := decide_eq_true y1
    have d4 : decide (y < H) = true := decide_eq_true y2
    clear i2 ha
    go_enter Tryz.func123, Tryz.ntmps123
    go_wp2
    go_quiet (fail)
    go_wp2
    go_ret
    exact ⟨rfl, _, rfl⟩
  · have ha : atB W H x y = false := decide_eq_false h
    have e : openB W H bl x y = false := by unfold openB; rw [ha]; rfl
    rw [e]; clear e
    have hc : (¬ 0 ≤ x) ∨ (0 ≤ x ∧ ¬ x < W) ∨ (0 ≤ x ∧ x < W ∧ ¬ 0 ≤ y) ∨ (0 ≤ x ∧ x < W ∧ 0 ≤ y ∧ ¬ y < H) := by omega
    clear ha h
    rcases hc with h | ⟨h1, h2⟩ | ⟨h1, h2, h3⟩ | ⟨h1, h2, h3, h4⟩
    · have d1 : decide (0 ≤ x) = false := decide_eq_false h
      go_enter Tryz.func123, Tryz.ntmps123
      go_wp2
      go_quiet (fail)
      go_wp2
      go_ret
      exact ⟨rfl, _, rfl⟩
    · have d1 : decide (0 ≤ x) = true := decide_eq_true h1
      have d2 : decide (x < W) = false := decide_eq_false h2
      go_enter Tryz.func123, Tryz.ntmps123
      go_wp2
      go_quiet (fail)
      go_wp2
      go_ret
      exact ⟨rfl, _, rfl⟩
    · have d1 : decide (0 ≤ x) = true := decide_eq_true h1
      have d2 : decide (x < W) = true := decide_eq_true h2
      have d3 : decide (0 ≤ y) = false := decide_eq_false h3
      go_enter Tryz.func123, Tryz.ntmps123
      go_wp2
      go_quiet (fail)
      go_wp2
      go_ret
      exact ⟨rfl, _, rfl⟩
    · have d1 : decide (0 ≤ x) = true := decide_eq_true h1
      have d2 : decide (x < W) = true := decide_eq_true h2
      have d3 : decide (0 ≤ y) = true := decide_eq_true h3
      have d4 : decide (y < H) = false := decide_eq_false h4
      go_enter Tryz.func123, Tryz.ntmps123
      go_wp2
      go_quiet (fail)
      go_wp2
      go_ret
      exact ⟨rfl, _, rfl⟩

theorem ropen_v {b : Nat} {W H V : Int} {bl : Nat → Bool} {x y : Int} {r : Bool} (hr : openB W H bl x y = r) (w : World) (g : RefAt w b W H V bl) :
    Calls Tryz.prog 123 #[.pointer (some ⟨b, 0, none⟩), .int .i64 x, .int .i64 y] w fun e w' => e = .returned (.bool r) ∧ ∃ m, w' = w.drewN m := hr ▸ ropen_any x y w g

set_option maxHeartbeats 1000000 in
theorem rmay_any {b : Nat} {W H V : Int} {bl : Nat → Bool} (x y : Int) (d : Nat) (w : World) (g : RefAt w b W H V bl) (hd : d < 8) (x1 : -100 ≤ x) (x2 : x ≤ 100) (y1 : -100 ≤ y) (y2 : y ≤ 100) :
    Calls Tryz.prog 113 #[.pointer (some ⟨b, 0, none⟩), .int .i64 x, .int .i64 y, .int .i64 d] w fun e w' => e = .returned (.bool (mayB W H bl x y d)) ∧ ∃ m, w' = w.drewN m := by
  obtain ⟨s1, s2, s3, s4⟩ := step_bd d
  have hs := fun w => rstep_d d w hd
  have hm : mayB W H bl x y d = (openB W H bl x y && openB W H bl (x + stepX d) (y + stepY d) && openB W H bl (x + stepX d) y && openB W H bl x (y + stepY d)) := rfl
  generalize stepX d = dx at *
  generalize stepY d = dy at *
  cases hA : openB W H bl x y with
  | false =>
    rw [hm, hA]
    simp only [Bool.false_and]
    clear hm
    go_enter Tryz.func113, Tryz.ntmps113
    go_wp2_with (first | (go_at_call 114; refine (hs _).mono ?_; rintro e w' ⟨rfl, m0, rfl⟩) | (go_at_call 123; refine (ropen_v (by assumption) _ (g.drewN _)).mono ?_; rintro e w' ⟨rfl, m, rfl⟩))
    go_ret
    exact ⟨rfl, _, rfl⟩
  | true =>
    cases hB : openB W H bl (x + dx) (y + dy) with
    | false =>
      rw [hm, hA, hB]
      simp only [Bool.true_and, Bool.false_and]
      clear hm
      go_enter Tryz.func113, Tryz.ntmps113
      go_wp2_with (first | (go_at_call 114; refine (hs _).mono ?_; rintro e w' ⟨rfl, m0, rfl⟩) | (go_at_call 123; refine (ropen_v (by assumption) _ (g.drewN _)).mono ?_; rintro e w' ⟨rfl, m, rfl⟩))
      go_ret
      exact ⟨rfl, _, rfl⟩
    | true =>
      cases hC : openB W H bl (x + dx) y with
      | false =>
        rw [hm, hA, hB, hC]
        simp only [Bool.true_and, Bool.false_and]
        clear hm
        go_enter Tryz.func113, Tryz.ntmps113
        go_wp2_with (first | (go_at_call 114; refine (hs _).mono ?_; rintro e w' ⟨rfl, m0, rfl⟩) | (go_at_call 123; refine (ropen_v (by assumption) _ (g.drewN _)).mono ?_; rintro e w' ⟨rfl, m, rfl⟩))
        go_ret
        exact ⟨rfl, _, rfl⟩
      | true =>
        cases hD : openB W H bl x (y + dy) with
        | false =>
          rw [hm, hA, hB, hC, hD]
          simp only [Bool.true_and]
          clear hm
          go_enter Tryz.func113, Tryz.ntmps113
          go_wp2_with (first | (go_at_call 114; refine (hs _).mono ?_; rintro e w' ⟨rfl, m0, rfl⟩) | (go_at_call 123; refine (ropen_v (by assumption) _ (g.drewN _)).mono ?_; rintro e w' ⟨rfl, m, rfl⟩))
          go_ret
          exact ⟨rfl, _, rfl⟩
        | true =>
          rw [hm, hA, hB, hC, hD]
          simp only [Bool.true_and]
          clear hm
          go_enter Tryz.func113, Tryz.ntmps113
          go_wp2_with (first | (go_at_call 114; refine (hs _).mono ?_; rintro e w' ⟨rfl, m0, rfl⟩) | (go_at_call 123; refine (ropen_v (by assumption) _ (g.drewN _)).mono ?_; rintro e w' ⟨rfl, m, rfl⟩))
          go_ret
          exact ⟨rfl, _, rfl⟩

set_option maxHeartbeats 400000 in
theorem rto_any {b : Nat} {W H V : Int} {bl : Nat → Bool} (c : Int) (d : Nat) (w : World) (g : RefAt w b W H V bl) (hd : d < 8) (c1 : -1000 ≤ c) (c2 : c ≤ 1000) :
    Calls Tryz.prog 80 #[.pointer (some ⟨b, 0, none⟩), .int .i64 c, .int .i64 d] w fun e w' => e = .returned (.int .i64 (c + stepX d + stepY d * W)) ∧ w' = w := by
  obtain ⟨s1, s2, s3, s4⟩ := step_bd d
  obtain ⟨k1, k2⟩ := yw_bd g.w1 g.w2 (show -100 ≤ stepY d by omega) (by omega)
  have hs := fun w => rstep_any d w hd
  have c0 := g.c0
  generalize stepX d = dx at *
  generalize stepY d = dy at *
  go_enter Tryz.func80, Tryz.ntmps80
  go_wp2_with (go_at_call 114; refine (hs _).mono ?_; rintro e w' ⟨rfl, rfl⟩)
  go_ret
  exact ⟨rfl, rfl⟩

set_option maxHeartbeats 400000 in
theorem free_in {b : Nat} {W H V : Int} {bl : Nat → Bool} (c : Nat) (w : World) (g : GridAt w b W H V bl) (hr : inB W H c = true) :
    Calls Tryz.prog 110 #[.pointer (some ⟨b, 0, none⟩), .int .i64 c] w fun e w' => e = .returned (.tuple #[.bool (!bl c), .nilIface]) ∧ ∃ m, w' = w.drewN m := by
  have hc : 0 ≤ (c : Int) ∧ (c : Int) < W * H := of_decide_eq_true hr
  obtain ⟨k1, k2⟩ := wh_bd g.w1 g.w2 g.h1 g.h2
  obtain ⟨q1, q2⟩ := hc
  have q3 : (c : Int) < 256 := by omega
  have h := g.cs c (by omega)
  go_enter Tryz.func110, Tryz.ntmps110
  go_wp2_with (go_at_call 59; refine (hasCell_v hr _ g).mono ?_; rintro e w' ⟨rfl, m, rfl⟩)
  go_ret2
  exact ⟨rfl, _, rfl⟩
set_option maxHeartbeats 400000 in
theorem free_out {b : Nat} {W H V : Int} {bl : Nat → Bool} (c : Int) (w : World) (g : GridAt w b W H V bl) (hr : inB W H c = false) :
    Calls Tryz.prog 110 #[.pointer (some ⟨b, 0, none⟩), .int .i64 c] w fun e w' => e = .returned (.tuple #[.bool false, .iface 96 (.int .i64 1)]) ∧ ∃ m, w' = w.drewN m := by
  go_enter Tryz.func110, Tryz.ntmps110
  go_wp2_with (go_at_call 59; refine (hasCell_v hr _ g).mono ?_; rintro e w' ⟨rfl, m, rfl⟩)
  go_ret2
  exact ⟨rfl, _, rfl⟩

end Go.Proofs.YtmnpplkjhnoglaaGreatDoor
/-
  What laying a plot does: no grid, or two that are alike.
-/
namespace Go.Proofs.YtmnpplkjhnoglaaGreatDoor
open Go.RowKit

/-- a row of numbers in memory that was there -/
def OldRow (w : World) (A : Option Addr) (n : Nat) (xs : Nat → Int) : Prop := ∀ i, i < n → ∃ b o, A = some ⟨b, o, none⟩ ∧ b < w.heap.size ∧ w.cell? ⟨b, o + i, none⟩ = some (.int .i64 (xs i))

/-- the two grids, laid behind block N -/
structure Both (w : World) (g m : Nat) (W H V : Int) (bl : Nat → Bool) : Prop where
  ga : GridAt w g W H V bl
  gf : Free w g
  ra : RefAt w m W H V bl
  rf : Free w m
  v1 : 0 ≤ V
  ne : g ≠ m

theorem Both.drewN {w : World} {g m : Nat} {W H V : Int} {bl : Nat → Bool} (h : Both w g m W H V bl) (k : Nat) : Both (w.drewN k) g m W H V bl := ⟨h.ga.drewN k, h.gf, h.ra.drewN k, h.rf, h.v1, h.ne⟩

set_option maxHeartbeats 400000 in
theorem laid_many (W H : Int) (A : Option Addr) (n cap : Nat) (w : World) (hn : 300 < (n : Int)) (_hm : n ≤ maxLen) :
    Calls Tryz.prog 8 #[.agg #[.int .i64 W, .int .i64 H, .slice A n cap]] w fun e w' => e = .returned (.tuple #[.pointer none, .pointer none, .bool false]) ∧ Below w.heap.size w w' := by
  unfold maxLen at _hm
  go_enter Tryz.func8, Tryz.ntmps8
  go_wp2
  go_ret3
  exact ⟨rfl, (Below.refl _ _).alloc (Nat.le_refl _) _⟩

set_option maxHeartbeats 400000 in
theorem laid_bad (W H : Int) (A : Option Addr) (n cap : Nat) (w : World) (hn : ¬ 300 < (n : Int)) (h : sideB W = false ∨ (sideB W = true ∧ sideB H = false)) :
    Calls Tryz.prog 8 #[.agg #[.int .i64 W, .int .i64 H, .slice A n cap]] w fun e w' => e = .returned (.tuple #[.pointer none, .pointer none, .bool false]) ∧ Below w.heap.size w w' := by
  go_enter Tryz.func8, Tryz.ntmps8
  go_wp2_with (first | (go_at_call 21; refine (new_bad _ _ _ h).mono ?_; rintro e w' ⟨rfl, rfl⟩) | (go_at_call 42; refine (rnew_bad _ _ _ h).mono ?_; rintro e w' ⟨rfl, rfl⟩))
  go_ret3
  exact ⟨rfl, (Below.refl _ _).alloc (Nat.le_refl _) _⟩

theorem free_alloc (w : World) (c : Array Value) (t : TypeId) (b : Nat) (h : w.heap.size ≤ b) : Free (w.alloc (.cells c t)) b := fun o => by
  rw [frozen?_alloc_cells]
  unfold World.frozen?
  rw [Array.getElem?_eq_none h]

theorem both_new (W H : Int) (h : sideB W = true) (k : sideB H = true) (w : World) (C : Array Value) (t : TypeId) :
    Both (((w.alloc (.cells C t)).alloc (.cells (gridC W H) 117)).alloc (.cells (refC W H) 32)) (w.heap.size + 1) (w.heap.size + 1 + 1) W H 0 (fun _ => false) := by
  have e1 : w.heap.size + 1 = (w.alloc (.cells C t)).heap.size := by simp
  have e2 : w.heap.size + 1 + 1 = ((w.alloc (.cells C t)).alloc (.cells (gridC W H) 117)).heap.size := by simp
  refine ⟨?_, ?_, ?_, ?_, by omega, by omega⟩
  · have g := gridAt_new W H (w.alloc (.cells C t)) h k
    rw [← e1] at g
    exact g.below ((Below.refl _ _).alloc (Nat.le_refl _) _) (by simp)
  · intro o
    rw [frozen?_alloc_cells]
    exact free_alloc (w.alloc (.cells C t)) _ _ _ (by simp) o
  · rw [e2]; exact refAt_new W H _ h k
  · exact free_alloc _ _ _ _ (by simp)

set_option maxHeartbeats 1600000 in
theorem laid_ok (W H : Int) (A : Option Addr) (n cap : Nat) (xs : Nat → Int) (w : World) (hn : ¬ 300 < (n : Int)) (h : sideB W = true) (k : sideB H = true) (hx : OldRow w A n xs) :
    Calls Tryz.prog 8 #[.agg #[.int .i64 W, .int .i64 H, .slice A n cap]] w fun e w' => e = .returned (.tuple #[.pointer (some ⟨w.heap.size + 1, 0, none⟩), .pointer (some ⟨w.heap.size + 1 + 1, 0, none⟩), .bool true]) ∧ Below w.heap.size w w' ∧ w'.heap.size = w.heap.size + 3 ∧
      ∃ V bl, V ≤ 300 ∧ Both w' (w.heap.size + 1) (w.heap.size + 1 + 1) W H V bl := by
  have a : 1 ≤ W ∧ W ≤ 16 := of_decide_eq_true h
  have b : 1 ≤ H ∧ H ≤ 16 := of_decide_eq_true k
  go_enter Tryz.func8, Tryz.ntmps8
  go_wp2_with (first | (go_at_call 21; refine (new_ok _ _ _ h k).mono ?_; rintro e w' ⟨rfl, rfl⟩) | (go_at_call 42; refine (rnew_ok _ _ _ a.1 a.2 b.1 b.2).mono ?_; rintro e w' ⟨rfl, rfl⟩))
  go_loopw [9] (fun i wr => ∃ (j : Nat) (V : Int) (bl : Nat → Bool), j ≤ n ∧ i = .int .i64 j ∧ V ≤ j ∧ Both wr (w.heap.size + 1) (w.heap.size + 1 + 1) W H V bl ∧ Below w.heap.size w wr ∧ wr.cell? ⟨w.heap.size, 2, none⟩ = some (.slice A n cap) ∧ wr.heap.size = w.heap.size + 3)
    (fun i _ => n - (intOf i).toNat)
  case atStart =>
    refine ⟨0, 0, fun _ => false, Nat.zero_le _, rfl, by omega, both_new W H h k w _ 24, ((((Below.refl _ _).alloc (Nat.le_refl _) _).alloc (by simp) _).alloc (by simp; omega) _), ?_, by simp⟩
    rw [World.cell?_alloc_old _ _ _ (by simp; omega), World.cell?_alloc_old _ _ _ (by simp), World.cell?_alloc_new]; rfl
  case round =>
    obtain ⟨j, V, bl, hj, rfl, hV, hB, hnx, hbox, hsz⟩ := hrel
    have hv0 := hB.v1
    by_cases hlt : j < n
    · obtain ⟨ba, oa, rfl, hba, hcell⟩ := hx j hlt
      have hc2 : wr.cell? ⟨ba, oa + j, none⟩ = some (.int .i64 (xs j)) := (hnx.cell (p := ⟨ba, oa + j, none⟩) hba).trans hcell
      clear hcell
      generalize xs j = c at hc2
      have i1 : (0 : Int) ≤ (j : Int) := by omega
      have i2 : (j : Int) < (n : Int) := by omega
      cases hin : inB W H c with
      | false =>
        go_wp2_with (first | (go_at_call 31; refine (ris_out _ _ hB.ra hin).mono ?_; rintro e w' ⟨rfl, m1, rfl⟩) | (go_at_call 22; refine (set_out _ _ _ (hB.drewN _).ga hin).mono ?_; rintro e w' ⟨rfl, m2, rfl⟩) | (go_at_call 43; refine (rset_out _ _ _ (hB.drewN _).ra hin).mono ?_; rintro e w' ⟨rfl, m3, rfl⟩))
        go_roundw
        case rel => exact ⟨j + 1, V, bl, by omega, by go_num, by omega, hB.drewN _, below_drewN hnx _, hbox, hsz⟩
        case measure => simp [intOf]; omega
      | true =>
        have hc : 0 ≤ c ∧ c < W * H := of_decide_eq_true hin
        obtain ⟨k1, k2⟩ := wh_bd a.1 a.2 b.1 b.2
        obtain ⟨cN, rfl⟩ : ∃ cN : Nat, c = cN := ⟨c.toNat, by omega⟩
        obtain ⟨q1, q2⟩ := hc
        have q3 : (cN : Int) < 256 := by omega
        have hbl := hB.ra.cs cN (by omega)
        have ne1 : w.heap.size ≠ w.heap.size + 1 := by omega
        have ne2 : w.heap.size ≠ w.heap.size + 1 + 1 := by omega
        go_wp2_with (first | (go_at_call 31; refine (ris_in _ _ hB.ra hin).mono ?_; rintro e w' ⟨rfl, m1, rfl⟩) | (go_at_call 22; refine (set_new cN (!bl cN) _ (hB.drewN _).ga (hB.drewN _).gf hin (Bool.not_not _).symm hv0 (by omega)).mono ?_; rintro e w1 ⟨rfl, T1, G1, F1⟩) | (go_at_call 43; refine (rset_new cN (!bl cN) _ ((hB.drewN _).ra.touch T1 hB.ne.symm) (fun o => (T1.frozen (p := ⟨w.heap.size + 1 + 1, o, none⟩) hB.ne.symm).trans (hB.rf o)) hin (Bool.not_not _).symm hv0 (by omega)).mono ?_; rintro e w2 ⟨rfl, T2, R2, F2⟩))
        go_roundw
        case rel =>
          refine ⟨j + 1, V + 1, upd bl cN (!bl cN), by omega, by go_num, by omega, ⟨G1.touch T2 hB.ne, fun o => (T2.frozen (p := ⟨w.heap.size + 1, o, none⟩) hB.ne).trans (F1 o), R2, F2, by omega, hB.ne⟩, T2.below (T1.below (below_drewN hnx _) (by omega)) (by omega), ?_, ?_⟩
          · exact ((T2.cell (p := ⟨w.heap.size, 2, none⟩) ne2).trans (T1.cell (p := ⟨w.heap.size, 2, none⟩) ne1)).trans hbox
          · exact (T2.size.trans T1.size).trans hsz
        case measure => simp [intOf]; omega
    · have : j = n := by omega
      subst this
      go_wp2
      go_ret3
      exact ⟨rfl, hnx, hsz, V, bl, by omega, hB⟩
end Go.Proofs.YtmnpplkjhnoglaaGreatDoor
/-
  Who may go may come back: the plain mathematics of moves on a grid; no Go in sight.
-/
namespace Go.Proofs.YtmnpplkjhnoglaaGreatDoor

theorem open_in {W H x y : Int} {bl : Nat → Bool} (h : openB W H bl x y = true) : 0 ≤ x ∧ x < W ∧ 0 ≤ y ∧ y < H := by
  unfold openB at h
  rw [Bool.and_eq_true] at h
  exact of_decide_eq_true h.1

theorem mem_mvs {W H x y : Int} {bl : Nat → Bool} {k d : Nat} : d ∈ mvs W H bl x y k ↔ d < k ∧ mayB W H bl x y d = true := by
  unfold mvs; rw [List.mem_filter, List.mem_range]

theorem getD_at (l : List Nat) (i : Nat) (h : i < l.length) : l.getD i 0 = l[i] := by
  rw [List.getD_eq_getElem?_getD, List.getElem?_eq_getElem h]; rfl

/-- the direction back -/
def opp (d : Nat) : Nat := (d + 4) % 8
theorem opp_lt (d : Nat) : opp d < 8 := Nat.mod_lt _ (by decide)
theorem opp_step (d : Nat) (h : d < 8) : stepX (opp d) = -stepX d ∧ stepY (opp d) = -stepY d := by
  have hks : d = 0 ∨ d = 1 ∨ d = 2 ∨ d = 3 ∨ d = 4 ∨ d = 5 ∨ d = 6 ∨ d = 7 := by omega
  rcases hks with rfl | rfl | rfl | rfl | rfl | rfl | rfl | rfl <;> decide
theorem may_parts {W H x y : Int} {bl : Nat → Bool} {d : Nat} (h : mayB W H bl x y d = true) :
    openB W H bl x y = true ∧ openB W H bl (x + stepX d) (y + stepY d) = true ∧ openB W H bl (x + stepX d) y = true ∧ openB W H bl x (y + stepY d) = true := by
  unfold mayB at h
  simp only [Bool.and_eq_true] at h
  exact ⟨h.1.1.1, h.1.1.2, h.1.2, h.2⟩

theorem may_back {W H x y : Int} {bl : Nat → Bool} {d : Nat} (hd : d < 8) (h : mayB W H bl x y d = true) : mayB W H bl (x + stepX d) (y + stepY d) (opp d) = true := by
  obtain ⟨a, b, c, e⟩ := may_parts h
  obtain ⟨o1, o2⟩ := opp_step d hd
  unfold mayB
  rw [o1, o2, show x + stepX d + -stepX d = x from by omega, show y + stepY d + -stepY d = y from by omega, a, b, c, e]
  rfl

theorem place_to {W H x y : Int} (w1 : 1 ≤ W) (x1 : 0 ≤ x) (x2 : x < W) (y1 : 0 ≤ y) (y2 : y < H) : inB W H (y * W + x) = true ∧ (y * W + x) % W = x ∧ (y * W + x) / W = y := by
  refine ⟨decide_eq_true ⟨?_, ?_⟩, ?_, ?_⟩
  · have := Int.mul_nonneg y1 (show 0 ≤ W by omega); omega
  · have := Int.mul_le_mul_of_nonneg_right (show y + 1 ≤ H by omega) (show 0 ≤ W by omega)
    rw [Int.add_mul, Int.one_mul, Int.mul_comm H W] at this
    omega
  · rw [Int.add_comm, Int.add_mul_emod_self_right]; exact Int.emod_eq_of_lt x1 x2
  · rw [Int.add_comm, Int.add_mul_ediv_right _ _ (by omega), Int.ediv_eq_zero_of_lt x1 x2]; omega

theorem cell_eq (W c : Int) : c / W * W + c % W = c := by
  have := Int.mul_ediv_add_emod c W
  rw [Int.mul_comm] at this
  exact this

/-- one step from a cell: it is a cell, and there is a way back -/
theorem back_facts {W H c : Int} {bl : Nat → Bool} {d : Nat} (w1 : 1 ≤ W) (hd : d < 8) (h : mayB W H bl (c % W) (c / W) d = true) :
    inB W H (c + (stepY d * W + stepX d)) = true ∧
    ∃ j, j < (mvs W H bl ((c + (stepY d * W + stepX d)) % W) ((c + (stepY d * W + stepX d)) / W) 8).length ∧
      (mvs W H bl ((c + (stepY d * W + stepX d)) % W) ((c + (stepY d * W + stepX d)) / W) 8).getD j 0 = opp d := by
  have hb := may_back hd h
  obtain ⟨_, o2, _, _⟩ := may_parts h
  obtain ⟨a1, a2, a3, a4⟩ := open_in o2
  have e : c + (stepY d * W + stepX d) = (c / W + stepY d) * W + (c % W + stepX d) := by
    have := cell_eq W c
    rw [Int.add_mul]
    omega
  obtain ⟨p1, p2, p3⟩ := place_to (H := H) w1 a1 a2 a3 a4
  rw [e, p2, p3]
  refine ⟨p1, ?_⟩
  have hm : opp d ∈ mvs W H bl (c % W + stepX d) (c / W + stepY d) 8 := mem_mvs.mpr ⟨opp_lt d, hb⟩
  obtain ⟨j, hj, he⟩ := List.mem_iff_getElem.mp hm
  exact ⟨j, hj, by rw [getD_at _ _ hj]; exact he⟩

theorem back_home {W c : Int} {d : Nat} (hd : d < 8) : c + (stepY d * W + stepX d) + (stepY (opp d) * W + stepX (opp d)) = c := by
  obtain ⟨o1, o2⟩ := opp_step d hd
  rw [o1, o2, Int.neg_mul]
  omega

theorem mvs_sorted (W H x y : Int) (bl : Nat → Bool) (k : Nat) : (mvs W H bl x y k).Pairwise (· < ·) :=
  List.Pairwise.filter _ List.pairwise_lt_range

theorem mvs_rise {W H x y : Int} {bl : Nat → Bool} {k i : Nat} (h0 : 0 < i) (hi : i < (mvs W H bl x y k).length) : (mvs W H bl x y k).getD (i - 1) 0 < (mvs W H bl x y k).getD i 0 := by
  rw [getD_at _ _ hi, getD_at _ _ (by omega)]
  exact List.pairwise_iff_getElem.mp (mvs_sorted W H x y bl k) (i - 1) i (by omega) hi (by omega)

theorem mvs_at {W H x y : Int} {bl : Nat → Bool} {k i : Nat} (hi : i < (mvs W H bl x y k).length) : (mvs W H bl x y k).getD i 0 < k ∧ mayB W H bl x y ((mvs W H bl x y k).getD i 0) = true := by
  rw [getD_at _ _ hi]
  exact mem_mvs.mp (List.getElem_mem hi)
end Go.Proofs.YtmnpplkjhnoglaaGreatDoor
