/-
  Texts laid together: Small, Grid, Moves, New.
-/
import Derived.Test.YtfhicijgpdpfpaaDoorP2
import Derived.Test.YtfhicijgpdpfpaaDoorRows
/-
  Small functions of the laws: 'same', 'SameNumbers'.
-/
namespace Go.Proofs.YtfhicijgpdpfpaaDoor
open Go.RowKit

theorem as23 (v : Value) (w : World) : (Instr.typeAssert (.iface 78 v) 33 78 true).run Tryd.prog w = .ok (.tuple #[v, .bool true]) w := by kernel_rfl

set_option maxHeartbeats 400000 in
theorem same_nil (w : World) :
    Calls Tryd.prog 13 #[.nilIface, .int .i64 0] w fun e w' => e = .returned (.bool true) ∧ w' = w := by
  go_enter Tryd.func13, Tryd.ntmps13
  go_wp2
  go_ret
  exact ⟨rfl, rfl⟩

set_option maxHeartbeats 400000 in
theorem same_err (n : Int) (w : World) (h : 0 < n) :
    Calls Tryd.prog 13 #[.iface 78 (.int .i64 n), .int .i64 n] w fun e w' => e = .returned (.bool true) ∧ w' = w := by
  have g := as23
  go_enter Tryd.func13, Tryd.ntmps13
  go_wp2
  go_ret
  exact ⟨rfl, rfl⟩

/-- a row of numbers, as a slice's value reads in a world -/
def RowIs (w : World) (A : Option Addr) (n : Nat) (xs : Nat → Int) : Prop := ∀ i, i < n → ∃ b o, A = some ⟨b, o, none⟩ ∧ w.cell? ⟨b, o + i, none⟩ = some (.int .i64 (xs i))

set_option maxHeartbeats 400000 in
theorem sameNumbers_zero (A B : Option Addr) (ca cb : Nat) (w : World) :
    Calls Tryd.prog 32 #[.slice A 0 ca, .slice B 0 cb] w fun e w' => e = .returned (.bool true) ∧ ∃ m, w' = w.drewN m := by
  go_enter Tryd.func32, Tryd.ntmps32
  go_wp2
  go_loop [5] (fun i => i = .int .i64 0) (fun _ => 0)
  case atStart => rfl
  case round =>
    subst hrel
    go_wp2
    go_ret
    exact ⟨rfl, 0, rfl⟩

set_option maxHeartbeats 400000 in
theorem sameNumbers_pos (b o b2 o2 n ca cb : Nat) (xs : Nat → Int) (w : World) (hn : n ≤ 1000000)
    (hA : ∀ i, i < n → w.cell? ⟨b, o + i, none⟩ = some (.int .i64 (xs i))) (hB : ∀ i, i < n → w.cell? ⟨b2, o2 + i, none⟩ = some (.int .i64 (xs i))) :
    Calls Tryd.prog 32 #[.slice (some ⟨b, o, none⟩) n ca, .slice (some ⟨b2, o2, none⟩) n cb] w fun e w' => e = .returned (.bool true) ∧ ∃ m, w' = w.drewN m := by
  go_enter Tryd.func32, Tryd.ntmps32
  go_wp2
  go_loopw [5] (fun i w' => ∃ k m : Nat, k ≤ n ∧ i = .int .i64 k ∧ w' = w.drewN m) (fun i _ => n - (intOf i).toNat)
  case atStart => exact ⟨0, 0, by omega, rfl, rfl⟩
  case round =>
    obtain ⟨k, m, hk, rfl, rfl⟩ := hrel
    by_cases hlt : k < n
    · have h1 := hA k hlt
      have h2 := hB k hlt
      have hi : (0 : Int) ≤ (k : Int) := by omega
      have hj : (k : Int) < (n : Int) := by omega
      clear hA hB
      go_wp2
      go_quiet (fail)
      go_wp2
      go_roundw
      case rel => exact ⟨k + 1, _, by omega, by go_num, rfl⟩
      case measure => simp [intOf]; omega
    · have : k = n := by omega
      subst this
      go_wp2
      go_ret
      exact ⟨rfl, m, rfl⟩
end Go.Proofs.YtfhicijgpdpfpaaDoor
/-
  What the reading methods of a grid do: its size, its cells, what is open.
-/
namespace Go.Proofs.YtfhicijgpdpfpaaDoor
open Go.RowKit

/-- a grid lies in block b: so wide, so high, so many changes, these cells blocked -/
structure GridAt (w : World) (b : Nat) (W H V : Int) (bl : Nat → Bool) : Prop where
  w1 : 1 ≤ W
  w2 : W ≤ 16
  h1 : 1 ≤ H
  h2 : H ≤ 16
  c0 : w.cell? ⟨b, 0, none⟩ = some (.int .i64 W)
  c1 : w.cell? ⟨b, 1, none⟩ = some (.int .i64 H)
  c2 : w.cell? ⟨b, 2, none⟩ = some (.int .i64 V)
  cs : ∀ i, i < 256 → w.cell? ⟨b, 3 + i, none⟩ = some (.bool (bl i))

theorem wh_bd {W H : Int} (w1 : 1 ≤ W) (w2 : W ≤ 16) (h1 : 1 ≤ H) (h2 : H ≤ 16) : 1 ≤ W * H ∧ W * H ≤ 256 := by
  have a := Int.mul_le_mul w1 h1 (by omega) (by omega)
  have b := Int.mul_le_mul w2 h2 (by omega) (by omega)
  omega

set_option maxHeartbeats 400000 in
theorem cells_any {b : Nat} {W H V : Int} {bl : Nat → Bool} (w : World) (g : GridAt w b W H V bl) :
    Calls Tryd.prog 23 #[.pointer (some ⟨b, 0, none⟩)] w fun e w' => e = .returned (.int .i64 (W * H)) ∧ ∃ m, w' = w.drewN m := by
  obtain ⟨w1, w2, h1, h2, c0, c1, c2, cs⟩ := g
  obtain ⟨k1, k2⟩ := wh_bd w1 w2 h1 h2
  go_enter Tryd.func23, Tryd.ntmps23
  go_wp2
  go_quiet (fail)
  go_wp2
  go_ret
  exact ⟨rfl, _, rfl⟩

/-- is it a cell? -/
def inB (W H c : Int) : Bool := decide (0 ≤ c ∧ c < W * H)

set_option maxHeartbeats 400000 in
theorem hasCell_any {b : Nat} {W H V : Int} {bl : Nat → Bool} (c : Int) (w : World) (g : GridAt w b W H V bl) :
    Calls Tryd.prog 51 #[.pointer (some ⟨b, 0, none⟩), .int .i64 c] w fun e w' => e = .returned (.bool (inB W H c)) ∧ ∃ m, w' = w.drewN m := by
  by_cases h : 0 ≤ c
  · by_cases k : c < W * H
    · rw [show inB W H c = true from decide_eq_true ⟨h, k⟩]
      go_enter Tryd.func51, Tryd.ntmps51
      go_wp2_with (go_at_call 23; refine (cells_any _ g).mono ?_; rintro e w' ⟨rfl, m, rfl⟩)
      go_ret
      exact ⟨rfl, _, rfl⟩
    · rw [show inB W H c = false from decide_eq_false fun q => k q.2]
      have hd : decide (c < W * H) = false := decide_eq_false k
      go_enter Tryd.func51, Tryd.ntmps51
      go_wp2_with (go_at_call 23; refine (cells_any _ g).mono ?_; rintro e w' ⟨rfl, m, rfl⟩)
      go_ret
      exact ⟨rfl, _, rfl⟩
  · rw [show inB W H c = false from decide_eq_false fun q => h q.1]
    go_enter Tryd.func51, Tryd.ntmps51
    go_wp2
    go_ret
    exact ⟨rfl, 0, rfl⟩

/-- is there a cell? -/
def atB (W H x y : Int) : Bool := decide (0 ≤ x ∧ x < W ∧ 0 ≤ y ∧ y < H)

set_option maxHeartbeats 1000000 in
theorem hasPlace_any {b : Nat} {W H V : Int} {bl : Nat → Bool} (x y : Int) (w : World) (g : GridAt w b W H V bl) :
    Calls Tryd.prog 87 #[.pointer (some ⟨b, 0, none⟩), .int .i64 x, .int .i64 y] w fun e w' => e = .returned (.bool (atB W H x y)) ∧ w' = w := by
  obtain ⟨w1, w2, h1, h2, c0, c1, c2, cs⟩ := g
  have hc : (0 ≤ x ∧ x < W ∧ 0 ≤ y ∧ y < H) ∨ (¬ 0 ≤ x) ∨ (0 ≤ x ∧ ¬ x < W) ∨ (0 ≤ x ∧ x < W ∧ ¬ 0 ≤ y) ∨ (0 ≤ x ∧ x < W ∧ 0 ≤ y ∧ ¬ y < H) := by omega
  rcases hc with h | h | h | h | h
  · rw [show atB W H x y = true from decide_eq_true h]
    obtain ⟨q1, q2, q3, q4⟩ := h
    go_enter Tryd.func87, Tryd.ntmps87
    go_wp2
    go_ret
    exact ⟨rfl, rfl⟩
  all_goals
    rw [show atB W H x y = false from decide_eq_false (by omega)]
    go_enter Tryd.func87, Tryd.ntmps87
    go_wp2
    go_ret
    exact ⟨rfl, rfl⟩

theorem yw_bd {W y : Int} (w1 : 1 ≤ W) (w2 : W ≤ 16) (y1 : -100 ≤ y) (y2 : y ≤ 100) : -1600 ≤ y * W ∧ y * W ≤ 1600 := by
  rcases Int.le_total 0 y with h | h
  · have a := Int.mul_nonneg h (show 0 ≤ W by omega)
    have b := Int.mul_le_mul y2 w2 (by omega) (by omega)
    omega
  · have a := Int.mul_nonneg (show 0 ≤ -y by omega) (show 0 ≤ W by omega)
    have b := Int.mul_le_mul (show -y ≤ 100 by omega) w2 (by omega) (by omega)
    rw [Int.neg_mul] at a b
    omega

set_option maxHeartbeats 400000 in
theorem number_any {b : Nat} {W H V : Int} {bl : Nat → Bool} (x y : Int) (w : World) (g : GridAt w b W H V bl) (x1 : -100 ≤ x) (x2 : x ≤ 100) (y1 : -100 ≤ y) (y2 : y ≤ 100) :
    Calls Tryd.prog 59 #[.pointer (some ⟨b, 0, none⟩), .int .i64 x, .int .i64 y] w fun e w' => e = .returned (.int .i64 (y * W + x)) ∧ w' = w := by
  obtain ⟨w1, w2, h1, h2, c0, c1, c2, cs⟩ := g
  obtain ⟨k1, k2⟩ := yw_bd w1 w2 y1 y2
  go_enter Tryd.func59, Tryd.ntmps59
  go_wp2
  go_ret
  exact ⟨rfl, rfl⟩

/-- is it free there? -/
def openB (W H : Int) (bl : Nat → Bool) (x y : Int) : Bool := atB W H x y && !bl (y * W + x).toNat

theorem idx_bd {W H x y : Int} (w1 : 1 ≤ W) (w2 : W ≤ 16) (h1 : 1 ≤ H) (h2 : H ≤ 16) (x1 : 0 ≤ x) (x2 : x < W) (y1 : 0 ≤ y) (y2 : y < H) : 0 ≤ y * W + x ∧ y * W + x < W * H ∧ y * W + x < 256 := by
  have k := wh_bd w1 w2 h1 h2
  have a := Int.mul_nonneg y1 (show 0 ≤ W by omega)
  have b : y * W + W ≤ H * W := by
    have := Int.mul_le_mul_of_nonneg_right (show y + 1 ≤ H by omega) (show 0 ≤ W by omega)
    rw [Int.add_mul, Int.one_mul] at this
    exact this
  rw [Int.mul_comm H W] at b
  omega

set_option maxHeartbeats 400000 in
theorem open_any {b : Nat} {W H V : Int} {bl : Nat → Bool} (x y : Int) (w : World) (g : GridAt w b W H V bl) :
    Calls Tryd.prog 64 #[.pointer (some ⟨b, 0, none⟩), .int .i64 x, .int .i64 y] w fun e w' => e = .returned (.bool (openB W H bl x y)) ∧ ∃ m, w' = w.drewN m := by
  by_cases h : 0 ≤ x ∧ x < W ∧ 0 ≤ y ∧ y < H
  · have ha : atB W H x y = true := decide_eq_true h
    have e : openB W H bl x y = !bl (y * W + x).toNat := by unfold openB; rw [ha]; rfl
    rw [e]; clear e
    obtain ⟨x1, x2, y1, y2⟩ := h
    obtain ⟨i1, i2, i3⟩ := idx_bd g.w1 g.w2 g.h1 g.h2 x1 x2 y1 y2
    have gw1 := g.w1
    have gw2 := g.w2
    have gh2 := g.h2
    have hp : ∀ w : World, GridAt w b W H V bl → Calls Tryd.prog 87 #[.pointer (some ⟨b, 0, none⟩), .int .i64 x, .int .i64 y] w fun e w' => e = .returned (.bool true) ∧ w' = w := fun w g => ha ▸ hasPlace_any x y w g
    have hc := g.cs (y * W + x).toNat (by omega)
    obtain ⟨n, hn⟩ : ∃ n : Nat, y * W + x = n := ⟨(y * W + x).toNat, by omega⟩
    have gd : ∀ m, GridAt (w.drewN m) b W H V bl := fun m => ⟨g.w1, g.w2, g.h1, g.h2, g.c0, g.c1, g.c2, g.cs⟩
    have hnum : ∀ w : World, GridAt w b W H V bl → Calls Tryd.prog 59 #[.pointer (some ⟨b, 0, none⟩), .int .i64 x, .int .i64 y] w fun e w' => e = .returned (.int .i64 n) ∧ w' = w := fun w g => hn ▸ number_any x y w g (by omega) (by omega) (by omega) (by omega)
    rw [hn] at hc i1 i3 ⊢
    simp only [Int.toNat_natCast] at hc ⊢
    have j3 : (n : Int) < 256 := i3
    clear hn i2 ha
    go_enter Tryd.func64, Tryd.ntmps64
    go_wp2
    go_quiet (first | (go_at_call 87; exact Calls.quiet_of_same (hp _ (gd _))) | (go_at_call 59; exact Calls.quiet_of_same (hnum _ (gd _))))
    go_wp2
    go_ret
    exact ⟨rfl, _, rfl⟩
  · have ha : atB W H x y = false := decide_eq_false h
    have e : openB W H bl x y = false := by unfold openB; rw [ha]; rfl
    rw [e]; clear e
    have hp : ∀ w : World, GridAt w b W H V bl → Calls Tryd.prog 87 #[.pointer (some ⟨b, 0, none⟩), .int .i64 x, .int .i64 y] w fun e w' => e = .returned (.bool false) ∧ w' = w := fun w g => ha ▸ hasPlace_any x y w g
    have gd : ∀ m, GridAt (w.drewN m) b W H V bl := fun m => ⟨g.w1, g.w2, g.h1, g.h2, g.c0, g.c1, g.c2, g.cs⟩
    clear ha h
    go_enter Tryd.func64, Tryd.ntmps64
    go_wp2
    go_quiet ((go_at_call 87; exact Calls.quiet_of_same (hp _ (gd _))))
    go_wp2
    go_ret
    exact ⟨rfl, _, rfl⟩

/-- by how much x and y change -/
def stepX (d : Nat) : Int := [0, 1, 1, 1, 0, -1, -1, -1].getD d 0
def stepY (d : Nat) : Int := [-1, -1, 0, 1, 1, 1, 0, -1].getD d 0
/-- the table lies there -/
def StepsAt (w : World) : Prop := ∀ i, i < 8 → w.cell? ⟨0, 2 * i, none⟩ = some (.int .i64 (stepX i)) ∧ w.cell? ⟨0, 2 * i + 1, none⟩ = some (.int .i64 (stepY i))

set_option maxHeartbeats 1000000 in
theorem step_any (d : Nat) (w : World) (h : StepsAt w) (hd : d < 8) :
    Calls Tryd.prog 58 #[.int .i64 d] w fun e w' => e = .returned (.tuple #[.int .i64 (stepX d), .int .i64 (stepY d)]) ∧ ∃ m, w' = w.drewN m := by
  obtain ⟨a, b⟩ := h d hd
  have b0 : bits BinOp.and IntKind.i64 0 7 = 0 := by decide
  have b1 : bits BinOp.and IntKind.i64 1 7 = 1 := by decide
  have b2 : bits BinOp.and IntKind.i64 2 7 = 2 := by decide
  have b3 : bits BinOp.and IntKind.i64 3 7 = 3 := by decide
  have b4 : bits BinOp.and IntKind.i64 4 7 = 4 := by decide
  have b5 : bits BinOp.and IntKind.i64 5 7 = 5 := by decide
  have b6 : bits BinOp.and IntKind.i64 6 7 = 6 := by decide
  have b7 : bits BinOp.and IntKind.i64 7 7 = 7 := by decide
  have hks : d = 0 ∨ d = 1 ∨ d = 2 ∨ d = 3 ∨ d = 4 ∨ d = 5 ∨ d = 6 ∨ d = 7 := by omega
  clear h
  rcases hks with rfl | rfl | rfl | rfl | rfl | rfl | rfl | rfl
  all_goals
    simp [stepX, stepY] at a b
    go_enter Tryd.func58, Tryd.ntmps58
    go_wp2
    go_quiet (fail)
    go_wp2
    go_ret2
    exact ⟨rfl, _, rfl⟩
end Go.Proofs.YtfhicijgpdpfpaaDoor
/-
  What a grid's methods about moves do.
-/
namespace Go.Proofs.YtfhicijgpdpfpaaDoor
open Go.RowKit

theorem GridAt.drewN {w : World} {b : Nat} {W H V : Int} {bl : Nat → Bool} (g : GridAt w b W H V bl) (m : Nat) : GridAt (w.drewN m) b W H V bl := ⟨g.w1, g.w2, g.h1, g.h2, g.c0, g.c1, g.c2, g.cs⟩
theorem StepsAt.drewN {w : World} (h : StepsAt w) (m : Nat) : StepsAt (w.drewN m) := h

/-- may one go? -/
def mayB (W H : Int) (bl : Nat → Bool) (x y : Int) (d : Nat) : Bool := openB W H bl x y && openB W H bl (x + stepX d) (y + stepY d) && openB W H bl (x + stepX d) y && openB W H bl x (y + stepY d)

theorem step_bd (d : Nat) : -1 ≤ stepX d ∧ stepX d ≤ 1 ∧ -1 ≤ stepY d ∧ stepY d ≤ 1 := by
  by_cases h : d < 8
  · have hks : d = 0 ∨ d = 1 ∨ d = 2 ∨ d = 3 ∨ d = 4 ∨ d = 5 ∨ d = 6 ∨ d = 7 := by omega
    rcases hks with rfl | rfl | rfl | rfl | rfl | rfl | rfl | rfl <;> decide
  · have e1 : stepX d = 0 := by unfold stepX; rw [List.getD_eq_getElem?_getD, List.getElem?_eq_none (by simp; omega)]; rfl
    have e2 : stepY d = 0 := by unfold stepY; rw [List.getD_eq_getElem?_getD, List.getElem?_eq_none (by simp; omega)]; rfl
    omega

theorem open_v {b : Nat} {W H V : Int} {bl : Nat → Bool} {x y : Int} {r : Bool} (hr : openB W H bl x y = r) (w : World) (g : GridAt w b W H V bl) :
    Calls Tryd.prog 64 #[.pointer (some ⟨b, 0, none⟩), .int .i64 x, .int .i64 y] w fun e w' => e = .returned (.bool r) ∧ ∃ m, w' = w.drewN m := hr ▸ open_any x y w g

set_option maxHeartbeats 1000000 in
theorem may_any {b : Nat} {W H V : Int} {bl : Nat → Bool} (x y : Int) (d : Nat) (w : World) (g : GridAt w b W H V bl) (s : StepsAt w) (hd : d < 8) (x1 : -100 ≤ x) (x2 : x ≤ 100) (y1 : -100 ≤ y) (y2 : y ≤ 100) :
    Calls Tryd.prog 90 #[.pointer (some ⟨b, 0, none⟩), .int .i64 x, .int .i64 y, .int .i64 d] w fun e w' => e = .returned (.bool (mayB W H bl x y d)) ∧ ∃ m, w' = w.drewN m := by
  obtain ⟨s1, s2, s3, s4⟩ := step_bd d
  have hs := fun w h => step_any d w h hd
  have hm : mayB W H bl x y d = (openB W H bl x y && openB W H bl (x + stepX d) (y + stepY d) && openB W H bl (x + stepX d) y && openB W H bl x (y + stepY d)) := rfl
  generalize stepX d = dx at *
  generalize stepY d = dy at *
  cases hA : openB W H bl x y with
  | false =>
    rw [hm, hA]
    simp only [Bool.false_and]
    clear hm
    go_enter Tryd.func90, Tryd.ntmps90
    go_wp2_with (first | (go_at_call 58; refine (hs _ s).mono ?_; rintro e w' ⟨rfl, m, rfl⟩) | (go_at_call 64; refine (open_v (by assumption) _ (g.drewN _)).mono ?_; rintro e w' ⟨rfl, m, rfl⟩))
    go_ret
    exact ⟨rfl, _, rfl⟩
  | true =>
    cases hB : openB W H bl (x + dx) (y + dy) with
    | false =>
      rw [hm, hA, hB]
      simp only [Bool.true_and, Bool.false_and]
      clear hm
      go_enter Tryd.func90, Tryd.ntmps90
      go_wp2_with (first | (go_at_call 58; refine (hs _ s).mono ?_; rintro e w' ⟨rfl, m, rfl⟩) | (go_at_call 64; refine (open_v (by assumption) _ (g.drewN _)).mono ?_; rintro e w' ⟨rfl, m, rfl⟩))
      go_ret
      exact ⟨rfl, _, rfl⟩
    | true =>
      cases hC : openB W H bl (x + dx) y with
      | false =>
        rw [hm, hA, hB, hC]
        simp only [Bool.true_and, Bool.false_and]
        clear hm
        go_enter Tryd.func90, Tryd.ntmps90
        go_wp2_with (first | (go_at_call 58; refine (hs _ s).mono ?_; rintro e w' ⟨rfl, m, rfl⟩) | (go_at_call 64; refine (open_v (by assumption) _ (g.drewN _)).mono ?_; rintro e w' ⟨rfl, m, rfl⟩))
        go_ret
        exact ⟨rfl, _, rfl⟩
      | true =>
        cases hD : openB W H bl x (y + dy) with
        | false =>
          rw [hm, hA, hB, hC, hD]
          simp only [Bool.true_and]
          clear hm
          go_enter Tryd.func90, Tryd.ntmps90
          go_wp2_with (first | (go_at_call 58; refine (hs _ s).mono ?_; rintro e w' ⟨rfl, m, rfl⟩) | (go_at_call 64; refine (open_v (by assumption) _ (g.drewN _)).mono ?_; rintro e w' ⟨rfl, m, rfl⟩))
          go_ret
          exact ⟨rfl, _, rfl⟩
        | true =>
          rw [hm, hA, hB, hC, hD]
          simp only [Bool.true_and]
          clear hm
          go_enter Tryd.func90, Tryd.ntmps90
          go_wp2_with (first | (go_at_call 58; refine (hs _ s).mono ?_; rintro e w' ⟨rfl, m, rfl⟩) | (go_at_call 64; refine (open_v (by assumption) _ (g.drewN _)).mono ?_; rintro e w' ⟨rfl, m, rfl⟩))
          go_ret
          exact ⟨rfl, _, rfl⟩

theorem hasCell_v {b : Nat} {W H V c : Int} {bl : Nat → Bool} {r : Bool} (hr : inB W H c = r) (w : World) (g : GridAt w b W H V bl) :
    Calls Tryd.prog 51 #[.pointer (some ⟨b, 0, none⟩), .int .i64 c] w fun e w' => e = .returned (.bool r) ∧ ∃ m, w' = w.drewN m := hr ▸ hasCell_any c w g

set_option maxHeartbeats 1000000 in
theorem place_in {b : Nat} {W H V : Int} {bl : Nat → Bool} (c : Int) (w : World) (g : GridAt w b W H V bl) (hr : inB W H c = true) :
    Calls Tryd.prog 63 #[.pointer (some ⟨b, 0, none⟩), .int .i64 c] w fun e w' => e = .returned (.tuple #[.int .i64 (c % W), .int .i64 (c / W), .nilIface]) ∧ ∃ m, w' = w.drewN m := by
  have hc : 0 ≤ c ∧ c < W * H := of_decide_eq_true hr
  obtain ⟨k1, k2⟩ := wh_bd g.w1 g.w2 g.h1 g.h2
  have w1 := g.w1
  have w2 := g.w2
  have c0 := g.c0
  obtain ⟨q1, q2⟩ := hc
  go_enter Tryd.func63, Tryd.ntmps63
  go_wp2_with (go_at_call 51; refine (hasCell_v hr _ g).mono ?_; rintro e w' ⟨rfl, m, rfl⟩)
  go_quiet (fail)
  go_wp2
  go_ret3
  exact ⟨rfl, _, World.drewN_drewN _ _ _⟩

set_option maxHeartbeats 400000 in
theorem place_out {b : Nat} {W H V : Int} {bl : Nat → Bool} (c : Int) (w : World) (g : GridAt w b W H V bl) (hr : inB W H c = false) :
    Calls Tryd.prog 63 #[.pointer (some ⟨b, 0, none⟩), .int .i64 c] w fun e w' => e = .returned (.tuple #[.int .i64 0, .int .i64 0, .iface 78 (.int .i64 1)]) ∧ ∃ m, w' = w.drewN m := by
  go_enter Tryd.func63, Tryd.ntmps63
  go_wp2_with (go_at_call 51; refine (hasCell_v hr _ g).mono ?_; rintro e w' ⟨rfl, m, rfl⟩)
  go_ret3
  exact ⟨rfl, _, rfl⟩

set_option maxHeartbeats 400000 in
theorem to_any {b : Nat} {W H V : Int} {bl : Nat → Bool} (c : Int) (d : Nat) (w : World) (g : GridAt w b W H V bl) (s : StepsAt w) (hd : d < 8) (c1 : -1000 ≤ c) (c2 : c ≤ 1000) :
    Calls Tryd.prog 25 #[.pointer (some ⟨b, 0, none⟩), .int .i64 c, .int .i64 d] w fun e w' => e = .returned (.int .i64 (c + (stepY d * W + stepX d))) ∧ ∃ m, w' = w.drewN m := by
  obtain ⟨s1, s2, s3, s4⟩ := step_bd d
  obtain ⟨k1, k2⟩ := yw_bd g.w1 g.w2 (show -100 ≤ stepY d by omega) (by omega)
  have hs := fun w h => step_any d w h hd
  have hn := fun w g => number_any (b := b) (W := W) (H := H) (V := V) (bl := bl) (stepX d) (stepY d) w g (by omega) (by omega) (by omega) (by omega)
  generalize stepX d = dx at *
  generalize stepY d = dy at *
  go_enter Tryd.func25, Tryd.ntmps25
  go_wp2_with (first | (go_at_call 58; refine (hs _ s).mono ?_; rintro e w' ⟨rfl, m, rfl⟩) | (go_at_call 59; refine (hn _ (g.drewN _)).mono ?_; rintro e w' ⟨rfl, rfl⟩))
  go_ret
  exact ⟨rfl, _, rfl⟩

/-- the directions below k in which one may go -/
def mvs (W H : Int) (bl : Nat → Bool) (x y : Int) (k : Nat) : List Nat := (List.range k).filter (mayB W H bl x y)
theorem mvs_succ (W H : Int) (bl : Nat → Bool) (x y : Int) (k : Nat) : mvs W H bl x y (k + 1) = mvs W H bl x y k ++ (if mayB W H bl x y k then [k] else []) := by
  unfold mvs
  rw [List.range_succ, List.filter_append]
  cases h : mayB W H bl x y k <;> simp [h]
theorem mvs_len (W H : Int) (bl : Nat → Bool) (x y : Int) (k : Nat) : (mvs W H bl x y k).length ≤ k := by
  unfold mvs
  have := List.length_filter_le (mayB W H bl x y) (List.range k)
  simpa using this
/-- a list of numbers as values -/
abbrev vals (l : List Nat) : List Value := l.map fun d : Nat => Value.int .i64 (d : Int)

theorem may_v {b : Nat} {W H V x y : Int} {bl : Nat → Bool} {d : Nat} {r : Bool} (hr : mayB W H bl x y d = r) (w : World) (g : GridAt w b W H V bl) (s : StepsAt w) (hd : d < 8) (x1 : -100 ≤ x) (x2 : x ≤ 100) (y1 : -100 ≤ y) (y2 : y ≤ 100) :
    Calls Tryd.prog 90 #[.pointer (some ⟨b, 0, none⟩), .int .i64 x, .int .i64 y, .int .i64 d] w fun e w' => e = .returned (.bool r) ∧ ∃ m, w' = w.drewN m := hr ▸ may_any x y d w g s hd x1 x2 y1 y2

theorem GridAt.below {w w' : World} {b : Nat} {W H V : Int} {bl : Nat → Bool} {B : Nat} (g : GridAt w b W H V bl) (hb : Below B w w') (h : b < B) : GridAt w' b W H V bl :=
  ⟨g.w1, g.w2, g.h1, g.h2, (hb.cell (p := ⟨b, 0, none⟩) h).trans g.c0, (hb.cell (p := ⟨b, 1, none⟩) h).trans g.c1, (hb.cell (p := ⟨b, 2, none⟩) h).trans g.c2, fun i hi => (hb.cell (p := ⟨b, 3 + i, none⟩) h).trans (g.cs i hi)⟩
theorem StepsAt.below {w w' : World} {B : Nat} (s : StepsAt w) (hb : Below B w w') (h : 0 < B) : StepsAt w' :=
  fun i hi => ⟨(hb.cell (p := ⟨0, 2 * i, none⟩) h).trans (s i hi).1, (hb.cell (p := ⟨0, 2 * i + 1, none⟩) h).trans (s i hi).2⟩

theorem Tryd.info3 : (Tryd.prog.info? 3).map (fun i => (i.zero, i.size, i.bytes)) = some (some (.int .i64 0), 1, 8) := by kernel_rfl

set_option maxHeartbeats 1600000 in
set_option maxRecDepth 1000000 in
theorem moves_in {b : Nat} {W H V : Int} {bl : Nat → Bool} (c : Int) (w : World) (g : GridAt w b W H V bl) (s : StepsAt w) (hr : inB W H c = true) (hb : b < w.heap.size) :
    Calls Tryd.prog 96 #[.pointer (some ⟨b, 0, none⟩), .int .i64 c] w fun e w' => ∃ v, e = .returned (.tuple #[v, .nilIface]) ∧
      w'.ownsRow w.heap.size 3 1 v (mvs W H bl (c % W) (c / W) 8).length (vals (mvs W H bl (c % W) (c / W) 8)) ∧ Below w.heap.size w w' := by
  obtain ⟨i0, hi, hz0, hz1, hz2⟩ := info_parts Tryd.info3
  have hc : 0 ≤ c ∧ c < W * H := of_decide_eq_true hr
  obtain ⟨k1, k2⟩ := wh_bd g.w1 g.w2 g.h1 g.h2
  have x1 : 0 ≤ c % W := Int.emod_nonneg _ (by have := g.w1; omega)
  have x2 : c % W < W := Int.emod_lt_of_pos _ (by have := g.w1; omega)
  have y1 : 0 ≤ c / W := Int.ediv_nonneg hc.1 (by have := g.w1; omega)
  have y2 : c / W ≤ 256 := by
    have := Int.ediv_le_self W hc.1
    omega
  have y3 : c / W < H := Int.ediv_lt_of_lt_mul (by have := g.w1; omega) (by rw [Int.mul_comm]; exact hc.2)
  have hP := fun w g => place_in (b := b) (W := W) (H := H) (V := V) (bl := bl) c w g hr
  have gw := g.w2
  have gh := g.h2
  generalize c % W = x at *
  generalize c / W = y at *
  go_enter Tryd.func96, Tryd.ntmps96
  go_wp2_with (go_at_call 63; refine (hP _ g).mono ?_; rintro e w' ⟨rfl, m, rfl⟩)
  go_loopw [9, 21] (fun v i wr => ∃ k : Nat, k ≤ 8 ∧ i = .int .i64 k ∧ wr.ownsRow w.heap.size 3 1 v (mvs W H bl x y k).length (vals (mvs W H bl x y k)) ∧ Below w.heap.size w wr)
    (fun _ i _ => 8 - (intOf i).toNat)
  case atStart => exact ⟨0, Nat.zero_le _, rfl, World.ownsRow_nil _ _ _ _, below_drewN (Below.refl _ _) _⟩
  case round =>
    obtain ⟨k, hk, rfl, hown, hnx⟩ := hrel
    have hl := mvs_len W H bl x y k
    have gr := g.below hnx hb
    have sr := s.below hnx (by omega)
    have hsz := hnx.size
    by_cases hlt : k < 8
    · have hms := mvs_succ W H bl x y k
      cases hM : mayB W H bl x y k with
      | false =>
        rw [hM] at hms
        have h0 : mvs W H bl x y (k + 1) = mvs W H bl x y k := by simpa using hms
        have HS : Hid (mvs W H bl x y (k + 1) = mvs W H bl x y k) := h0
        clear h0
        clear hms
        go_wp2_with (go_at_call 90; refine (may_v hM _ gr sr hlt (by omega) (by omega) (by omega) (by omega)).mono ?_; rintro e w' ⟨rfl, m, rfl⟩)
        go_roundw
        case rel => exact ⟨k + 1, by omega, by go_num, by rw [HS.out]; exact hown, below_drewN hnx _⟩
        case measure => simp [intOf]; omega
      | true =>
        rw [hM] at hms
        have h0 : mvs W H bl x y (k + 1) = mvs W H bl x y k ++ [k] := by simpa using hms
        have HS : Hid (mvs W H bl x y (k + 1) = mvs W H bl x y k ++ [k]) := h0
        clear h0
        clear hms
        go_wp2_with (first | (go_at_call 90; refine (may_v hM _ gr sr hlt (by omega) (by omega) (by omega) (by omega)).mono ?_; rintro e w' ⟨rfl, m, rfl⟩) | (at_builtin; refine wpList_append_own _ rfl _ _ 22 rfl w.heap.size 3 i0 (.int .i64 0) 1 8 Tryd.underlying22 hi hz0 hz1 hz2 rfl (by decide) _ _ _ rfl (World.ownsRow.alloc hown _) ⟨wr.heap.size, 0, none⟩ 1 1 [.int .i64 k] rfl rfl ?c1 ?c2 ?c3 ?c4 ?c5 ?_))
        case c1 =>
          intro j u hj
          match j, hj with
          | 0, hj =>
            simp at hj; subst hj; simp only [Addr.add]
            exact World.cell?_alloc_at (w := wr.drewN m) #[.int .i64 k] 3 wr.heap.size 0 rfl
        case c2 => intro u hu; simp at hu; subst hu; rfl
        case c3 => unfold maxLen; omega
        case c4 => omega
        case c5 => simp; omega
        intro v' w1 hown' hgrow _
        have hbase := fun q hq => (hown.lt q hq).1
        have B1 : Below w.heap.size w w1 := ((below_drewN hnx m).alloc hsz _).grown hgrow (by simp; omega) hbase
        have O1 : w1.ownsRow w.heap.size 3 1 v' (mvs W H bl x y (k + 1)).length (vals (mvs W H bl x y (k + 1))) := by
          rw [HS.out]
          simpa [vals] using hown'
        clear hown' hgrow hown hnx gr sr
        go_wp2
        go_roundw
        case rel => exact ⟨k + 1, by omega, by go_num, O1, B1⟩
        case measure => simp [intOf]; omega
    · have : k = 8 := by omega
      subst this
      go_wp2
      go_ret2
      exact ⟨_, rfl, hown, hnx⟩

set_option maxHeartbeats 400000 in
theorem moves_out {b : Nat} {W H V : Int} {bl : Nat → Bool} (c : Int) (w : World) (g : GridAt w b W H V bl) (hr : inB W H c = false) :
    Calls Tryd.prog 96 #[.pointer (some ⟨b, 0, none⟩), .int .i64 c] w fun e w' => e = .returned (.tuple #[.slice none 0 0, .iface 78 (.int .i64 1)]) ∧ ∃ m, w' = w.drewN m := by
  go_enter Tryd.func96, Tryd.ntmps96
  go_wp2_with (go_at_call 63; refine (place_out c _ g hr).mono ?_; rintro e w' ⟨rfl, m, rfl⟩)
  go_ret2
  exact ⟨rfl, _, rfl⟩
end Go.Proofs.YtfhicijgpdpfpaaDoor
/-
  New grids, the program's and the reference's.
-/
namespace Go.Proofs.YtfhicijgpdpfpaaDoor
open Go.RowKit

/-- may a side be so? -/
def sideB (n : Int) : Bool := decide (1 ≤ n ∧ n ≤ 16)
theorem isSide_any (n : Int) (w : World) :
    Calls Tryd.prog 56 #[.int .i64 n] w fun e w' => e = .returned (.bool (sideB n)) ∧ w' = w := by
  by_cases h : 1 ≤ n
  · by_cases k : n ≤ 16
    · rw [show sideB n = true from decide_eq_true ⟨h, k⟩]
      go_enter Tryd.func56, Tryd.ntmps56
      go_wp2
      go_ret
      exact ⟨rfl, rfl⟩
    · rw [show sideB n = false from decide_eq_false fun q => k q.2]
      go_enter Tryd.func56, Tryd.ntmps56
      go_wp2
      go_ret
      exact ⟨rfl, rfl⟩
  · rw [show sideB n = false from decide_eq_false fun q => h q.1]
    go_enter Tryd.func56, Tryd.ntmps56
    go_wp2
    go_ret
    exact ⟨rfl, rfl⟩
theorem isSide_v {n : Int} {r : Bool} (hr : sideB n = r) (w : World) :
    Calls Tryd.prog 56 #[.int .i64 n] w fun e w' => e = .returned (.bool r) ∧ w' = w := hr ▸ isSide_any n w

set_option maxHeartbeats 400000 in
theorem new_bad (W H : Int) (w : World) (h : sideB W = false ∨ (sideB W = true ∧ sideB H = false)) :
    Calls Tryd.prog 22 #[.int .i64 W, .int .i64 H] w fun e w' => e = .returned (.tuple #[.pointer none, .iface 78 (.int .i64 1)]) ∧ w' = w := by
  rcases h with h | ⟨h, k⟩
  all_goals
    go_enter Tryd.func22, Tryd.ntmps22
    go_wp2_with (go_at_call 56; refine (isSide_v (by assumption) _).mono ?_; rintro e w' ⟨rfl, rfl⟩)
    go_ret2
    exact ⟨rfl, rfl⟩

/-- a new grid's cells, all free: the program's -/
def gridC (W H : Int) : Array Value := #[.int .i64 W, .int .i64 H, .int .i64 0] ++ Array.replicate 256 (.bool false)
/-- .. and the reference's -/
def refC (W H : Int) : Array Value := #[.int .i64 W, .int .i64 H] ++ (Array.replicate 256 (.bool false) ++ #[.int .i64 0])
theorem built65 (W H : Int) : Tryd.prog.built 90 [(0, .int .i64 W), (1, .int .i64 H)] = some (gridC W H) := by kernel_rfl
theorem built67 (W H : Int) : Tryd.prog.built 50 [(0, .int .i64 W), (1, .int .i64 H)] = some (refC W H) := by kernel_rfl

theorem wpList_build65 {ops : Array Oper} {rest : List Oper} {o : Oper} {a : Act} {w : World} {Q : Exit → Act → World → Prop} (hgd : o.guard = none) (x y : Operand) (ho : o.op = .build 90 #[(0, x), (1, y)]) (W H : Int)
    (hx : a.eval x = .int .i64 W) (hy : a.eval y = .int .i64 H) (h : wpList Tryd.prog ops Q rest (a.put o.dst (.agg (gridC W H))) w) : wpList Tryd.prog ops Q (o :: rest) a w :=
  wpList_plain hgd fun _ hK => wp_build 90 _ ho (by simp [hx, hy, built65]) (by simp [hx, hy, built65]; exact hK _ _ h)
theorem wpList_build67 {ops : Array Oper} {rest : List Oper} {o : Oper} {a : Act} {w : World} {Q : Exit → Act → World → Prop} (hgd : o.guard = none) (x y : Operand) (ho : o.op = .build 50 #[(0, x), (1, y)]) (W H : Int)
    (hx : a.eval x = .int .i64 W) (hy : a.eval y = .int .i64 H) (h : wpList Tryd.prog ops Q rest (a.put o.dst (.agg (refC W H))) w) : wpList Tryd.prog ops Q (o :: rest) a w :=
  wpList_plain hgd fun _ hK => wp_build 50 _ ho (by simp [hx, hy, built67]) (by simp [hx, hy, built67]; exact hK _ _ h)

set_option maxHeartbeats 400000 in
theorem new_ok (W H : Int) (w : World) (h : sideB W = true) (k : sideB H = true) :
    Calls Tryd.prog 22 #[.int .i64 W, .int .i64 H] w fun e w' => e = .returned (.tuple #[.pointer (some ⟨w.heap.size, 0, none⟩), .nilIface]) ∧ w' = w.alloc (.cells (gridC W H) 90) := by
  go_enter Tryd.func22, Tryd.ntmps22
  go_wp2_with (first | (go_at_call 56; refine (isSide_v (by assumption) _).mono ?_; rintro e w' ⟨rfl, rfl⟩) | refine wpList_build65 rfl _ _ rfl W H rfl rfl ?_)
  go_ret2
  exact ⟨rfl, rfl⟩

set_option maxHeartbeats 400000 in
theorem rnew_ok (W H : Int) (w : World) (w1 : 1 ≤ W) (w2 : W ≤ 16) (h1 : 1 ≤ H) (h2 : H ≤ 16) :
    Calls Tryd.prog 43 #[.int .i64 W, .int .i64 H] w fun e w' => e = .returned (.tuple #[.pointer (some ⟨w.heap.size, 0, none⟩), .int .i64 0]) ∧ w' = w.alloc (.cells (refC W H) 50) := by
  go_enter Tryd.func43, Tryd.ntmps43
  go_wp2_with (refine wpList_build67 rfl _ _ rfl W H rfl rfl ?_)
  go_ret2
  exact ⟨rfl, rfl⟩

set_option maxHeartbeats 400000 in
theorem rnew_bad (W H : Int) (w : World) (h : sideB W = false ∨ (sideB W = true ∧ sideB H = false)) :
    Calls Tryd.prog 43 #[.int .i64 W, .int .i64 H] w fun e w' => e = .returned (.tuple #[.pointer none, .int .i64 1]) ∧ w' = w := by
  have hc : (W < 1) ∨ (¬ W < 1 ∧ 16 < W) ∨ (¬ W < 1 ∧ ¬ 16 < W ∧ H < 1) ∨ (¬ W < 1 ∧ ¬ 16 < W ∧ ¬ H < 1 ∧ 16 < H) := by
    unfold sideB at h
    simp only [decide_eq_false_iff_not, decide_eq_true_eq] at h
    omega
  clear h
  rcases hc with h | ⟨h1, h2⟩ | ⟨h1, h2, h3⟩ | ⟨h1, h2, h3, h4⟩
  all_goals
    go_enter Tryd.func43, Tryd.ntmps43
    go_wp2
    go_ret2
    exact ⟨rfl, rfl⟩

theorem gridC_at (W H : Int) (i : Nat) (hi : i < 256) : (gridC W H)[3 + i]? = some (.bool false) := by
  unfold gridC
  rw [Array.getElem?_append_right (by simp)]
  simp [hi]
theorem gridAt_new (W H : Int) (w : World) (h : sideB W = true) (k : sideB H = true) : GridAt (w.alloc (.cells (gridC W H) 90)) w.heap.size W H 0 (fun _ => false) := by
  have a : 1 ≤ W ∧ W ≤ 16 := of_decide_eq_true h
  have b : 1 ≤ H ∧ H ≤ 16 := of_decide_eq_true k
  refine ⟨a.1, a.2, b.1, b.2, ?_, ?_, ?_, fun i hi => ?_⟩
  · rw [World.cell?_alloc_new]; unfold gridC; rw [Array.getElem?_append_left (by simp)]; rfl
  · rw [World.cell?_alloc_new]; unfold gridC; rw [Array.getElem?_append_left (by simp)]; rfl
  · rw [World.cell?_alloc_new]; unfold gridC; rw [Array.getElem?_append_left (by simp)]; rfl
  · rw [World.cell?_alloc_new]; exact gridC_at W H i hi
/-- the reference's grid lies in block b -/
structure RefAt (w : World) (b : Nat) (W H V : Int) (bl : Nat → Bool) : Prop where
  w1 : 1 ≤ W
  w2 : W ≤ 16
  h1 : 1 ≤ H
  h2 : H ≤ 16
  c0 : w.cell? ⟨b, 0, none⟩ = some (.int .i64 W)
  c1 : w.cell? ⟨b, 1, none⟩ = some (.int .i64 H)
  c2 : w.cell? ⟨b, 258, none⟩ = some (.int .i64 V)
  cs : ∀ i, i < 256 → w.cell? ⟨b, 2 + i, none⟩ = some (.bool (bl i))

theorem refAt_new (W H : Int) (w : World) (h : sideB W = true) (k : sideB H = true) : RefAt (w.alloc (.cells (refC W H) 50)) w.heap.size W H 0 (fun _ => false) := by
  have a : 1 ≤ W ∧ W ≤ 16 := of_decide_eq_true h
  have b : 1 ≤ H ∧ H ≤ 16 := of_decide_eq_true k
  refine ⟨a.1, a.2, b.1, b.2, ?_, ?_, ?_, fun i hi => ?_⟩
  · rw [World.cell?_alloc_new]; unfold refC; rw [Array.getElem?_append_left (by simp)]; rfl
  · rw [World.cell?_alloc_new]; unfold refC; rw [Array.getElem?_append_left (by simp)]; rfl
  · rw [World.cell?_alloc_new]; unfold refC; rw [Array.getElem?_append_right (by simp), Array.getElem?_append_right (by simp)]; simp
  · rw [World.cell?_alloc_new]; unfold refC; rw [Array.getElem?_append_right (by simp), Array.getElem?_append_left (by simp; omega)]; simp [hi]

/-- but for block b all is as it was -/
structure Touch (b : Nat) (w w' : World) : Prop where
  os : w'.os = w.os
  tape : w'.tape = w.tape
  output : w'.output = w.output
  size : w'.heap.size = w.heap.size
  other : ∀ k, k ≠ b → w'.heap[k]? = w.heap[k]?

theorem Touch.refl (b : Nat) (w : World) : Touch b w w := ⟨rfl, rfl, rfl, rfl, fun _ _ => rfl⟩
theorem Touch.drewN {b : Nat} {w w' : World} (h : Touch b w w') (m : Nat) : Touch b w (w'.drewN m) := ⟨h.os, h.tape, h.output, h.size, h.other⟩
theorem Touch.setCell {b : Nat} {w w' : World} (h : Touch b w w') (o : Nat) (v : Value) : Touch b w (w'.setCell ⟨b, o, none⟩ v) :=
  ⟨h.os, h.tape, h.output, by rw [← h.size]; simp [World.setCell], fun k hk => (Below.heap_setCell _ _ _ k hk).trans (h.other k hk)⟩
theorem Touch.below {b B : Nat} {a w w' : World} (h : Touch b w w') (hb : Below B a w) (hB : B ≤ b) : Below B a w' :=
  hb.trans ⟨h.os, h.tape, h.output, by rw [h.size]; exact Nat.le_refl _, fun k hk => h.other k (by omega)⟩
theorem Touch.cell {b : Nat} {w w' : World} (h : Touch b w w') {p : Addr} (hp : p.block ≠ b) : w'.cell? p = w.cell? p := World.cell?_of_block (h.other _ hp)
theorem Touch.frozen {b : Nat} {w w' : World} (h : Touch b w w') {p : Addr} (hp : p.block ≠ b) : w'.frozen? p = w.frozen? p := World.frozen?_of_block (h.other _ hp)
theorem GridAt.touch {w w' : World} {b b' : Nat} {W H V : Int} {bl : Nat → Bool} (g : GridAt w b W H V bl) (h : Touch b' w w') (hne : b ≠ b') : GridAt w' b W H V bl :=
  ⟨g.w1, g.w2, g.h1, g.h2, (h.cell (p := ⟨b, 0, none⟩) hne).trans g.c0, (h.cell (p := ⟨b, 1, none⟩) hne).trans g.c1, (h.cell (p := ⟨b, 2, none⟩) hne).trans g.c2, fun i hi => (h.cell (p := ⟨b, 3 + i, none⟩) hne).trans (g.cs i hi)⟩
theorem RefAt.touch {w w' : World} {b b' : Nat} {W H V : Int} {bl : Nat → Bool} (g : RefAt w b W H V bl) (h : Touch b' w w') (hne : b ≠ b') : RefAt w' b W H V bl :=
  ⟨g.w1, g.w2, g.h1, g.h2, (h.cell (p := ⟨b, 0, none⟩) hne).trans g.c0, (h.cell (p := ⟨b, 1, none⟩) hne).trans g.c1, (h.cell (p := ⟨b, 258, none⟩) hne).trans g.c2, fun i hi => (h.cell (p := ⟨b, 2 + i, none⟩) hne).trans (g.cs i hi)⟩
theorem RefAt.drewN {w : World} {b : Nat} {W H V : Int} {bl : Nat → Bool} (g : RefAt w b W H V bl) (m : Nat) : RefAt (w.drewN m) b W H V bl := ⟨g.w1, g.w2, g.h1, g.h2, g.c0, g.c1, g.c2, g.cs⟩
theorem RefAt.below {w w' : World} {b : Nat} {W H V : Int} {bl : Nat → Bool} {B : Nat} (g : RefAt w b W H V bl) (hb : Below B w w') (h : b < B) : RefAt w' b W H V bl :=
  ⟨g.w1, g.w2, g.h1, g.h2, (hb.cell (p := ⟨b, 0, none⟩) h).trans g.c0, (hb.cell (p := ⟨b, 1, none⟩) h).trans g.c1, (hb.cell (p := ⟨b, 258, none⟩) h).trans g.c2, fun i hi => (hb.cell (p := ⟨b, 2 + i, none⟩) h).trans (g.cs i hi)⟩
/-- one cell set -/
def upd (bl : Nat → Bool) (c : Nat) (v : Bool) : Nat → Bool := fun i => if i = c then v else bl i
end Go.Proofs.YtfhicijgpdpfpaaDoor
