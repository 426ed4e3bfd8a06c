/-
  What a grid's methods about moves do.
-/
import Derived.Test.YtfhicijgpdpfpaaDoorGrid
namespace Go.Proofs.YtfhicijgpdpfpaaDoor
open Go.RowKit

theorem GridAt.drewN {w : World} {b : Nat} {W H V : Int} {bl : Nat → Bool} (g : GridAt w b W H V bl) (m : Nat) : GridAt (w.drewN m) b W H V bl := ⟨g.w1, g.w2, g.h1, g.h2, g.c0, g.c1, g.c2, g.cs⟩
theorem StepsAt.drewN {w : World} (h : StepsAt w) (m : Nat) : StepsAt (w.drewN m) := h

/-- may one go? -/
def mayB (W H : Int) (bl : Nat → Bool) (x y : Int) (d : Nat) : Bool := openB W H bl x y && openB W H bl (x + stepX d) (y + stepY d) && openB W H bl (x + stepX d) y && openB W H bl x (y + stepY d)

theorem step_bd (d : Nat) : -1 ≤ stepX d ∧ stepX d ≤ 1 ∧ -1 ≤ stepY d ∧ stepY d ≤ 1 := by
  by_cases h : d < 8
  · have hks : d = 0 ∨ d = 1 ∨ d = 2 ∨ d = 3 ∨ d = 4 ∨ d = 5 ∨ d = 6 ∨ d = 7 := by omega
    rcases hks with rfl | rfl | rfl | rfl | rfl | rfl | rfl | rfl <;> decide
  · have e1 : stepX d = 0 := by unfold stepX; rw [List.getD_eq_getElem?_getD, List.getElem?_eq_none (by simp; omega)]; rfl
    have e2 : stepY d = 0 := by unfold stepY; rw [List.getD_eq_getElem?_getD, List.getElem?_eq_none (by simp; omega)]; rfl
    omega

theorem open_v {b : Nat} {W H V : Int} {bl : Nat → Bool} {x y : Int} {r : Bool} (hr : openB W H bl x y = r) (w : World) (g : GridAt w b W H V bl) :
    Calls Tryd.prog 64 #[.pointer (some ⟨b, 0, none⟩), .int .i64 x, .int .i64 y] w fun e w' => e = .returned (.bool r) ∧ ∃ m, w' = w.drewN m := hr ▸ open_any x y w g

set_option maxHeartbeats 1000000 in
theorem may_any {b : Nat} {W H V : Int} {bl : Nat → Bool} (x y : Int) (d : Nat) (w : World) (g : GridAt w b W H V bl) (s : StepsAt w) (hd : d < 8) (x1 : -100 ≤ x) (x2 : x ≤ 100) (y1 : -100 ≤ y) (y2 : y ≤ 100) :
    Calls Tryd.prog 90 #[.pointer (some ⟨b, 0, none⟩), .int .i64 x, .int .i64 y, .int .i64 d] w fun e w' => e = .returned (.bool (mayB W H bl x y d)) ∧ ∃ m, w' = w.drewN m := by
  obtain ⟨s1, s2, s3, s4⟩ := step_bd d
  have hs := fun w h => step_any d w h hd
  have hm : mayB W H bl x y d = (openB W H bl x y && openB W H bl (x + stepX d) (y + stepY d) && openB W H bl (x + stepX d) y && openB W H bl x (y + stepY d)) := rfl
  generalize stepX d = dx at *
  generalize stepY d = dy at *
  cases hA : openB W H bl x y with
  | false =>
    rw [hm, hA]
    simp only [Bool.false_and]
    clear hm
    go_enter Tryd.func90, Tryd.ntmps90
    go_wp2_with (first | (go_at_call 58; refine (hs _ s).mono ?_; rintro e w' ⟨rfl, m, rfl⟩) | (go_at_call 64; refine (open_v (by assumption) _ (g.drewN _)).mono ?_; rintro e w' ⟨rfl, m, rfl⟩))
    go_ret
    exact ⟨rfl, _, rfl⟩
  | true =>
    cases hB : openB W H bl (x + dx) (y + dy) with
    | false =>
      rw [hm, hA, hB]
      simp only [Bool.true_and, Bool.false_and]
      clear hm
      go_enter Tryd.func90, Tryd.ntmps90
      go_wp2_with (first | (go_at_call 58; refine (hs _ s).mono ?_; rintro e w' ⟨rfl, m, rfl⟩) | (go_at_call 64; refine (open_v (by assumption) _ (g.drewN _)).mono ?_; rintro e w' ⟨rfl, m, rfl⟩))
      go_ret
      exact ⟨rfl, _, rfl⟩
    | true =>
      cases hC : openB W H bl (x + dx) y with
      | false =>
        rw [hm, hA, hB, hC]
        simp only [Bool.true_and, Bool.false_and]
        clear hm
        go_enter Tryd.func90, Tryd.ntmps90
        go_wp2_with (first | (go_at_call 58; refine (hs _ s).mono ?_; rintro e w' ⟨rfl, m, rfl⟩) | (go_at_call 64; refine (open_v (by assumption) _ (g.drewN _)).mono ?_; rintro e w' ⟨rfl, m, rfl⟩))
        go_ret
        exact ⟨rfl, _, rfl⟩
      | true =>
        cases hD : openB W H bl x (y + dy) with
        | false =>
          rw [hm, hA, hB, hC, hD]
          simp only [Bool.true_and]
          clear hm
          go_enter Tryd.func90, Tryd.ntmps90
          go_wp2_with (first | (go_at_call 58; refine (hs _ s).mono ?_; rintro e w' ⟨rfl, m, rfl⟩) | (go_at_call 64; refine (open_v (by assumption) _ (g.drewN _)).mono ?_; rintro e w' ⟨rfl, m, rfl⟩))
          go_ret
          exact ⟨rfl, _, rfl⟩
        | true =>
          rw [hm, hA, hB, hC, hD]
          simp only [Bool.true_and]
          clear hm
          go_enter Tryd.func90, Tryd.ntmps90
          go_wp2_with (first | (go_at_call 58; refine (hs _ s).mono ?_; rintro e w' ⟨rfl, m, rfl⟩) | (go_at_call 64; refine (open_v (by assumption) _ (g.drewN _)).mono ?_; rintro e w' ⟨rfl, m, rfl⟩))
          go_ret
          exact ⟨rfl, _, rfl⟩

theorem hasCell_v {b : Nat} {W H V c : Int} {bl : Nat → Bool} {r : Bool} (hr : inB W H c = r) (w : World) (g : GridAt w b W H V bl) :
    Calls Tryd.prog 51 #[.pointer (some ⟨b, 0, none⟩), .int .i64 c] w fun e w' => e = .returned (.bool r) ∧ ∃ m, w' = w.drewN m := hr ▸ hasCell_any c w g

set_option maxHeartbeats 1000000 in
theorem place_in {b : Nat} {W H V : Int} {bl : Nat → Bool} (c : Int) (w : World) (g : GridAt w b W H V bl) (hr : inB W H c = true) :
    Calls Tryd.prog 63 #[.pointer (some ⟨b, 0, none⟩), .int .i64 c] w fun e w' => e = .returned (.tuple #[.int .i64 (c % W), .int .i64 (c / W), .nilIface]) ∧ ∃ m, w' = w.drewN m := by
  have hc : 0 ≤ c ∧ c < W * H := of_decide_eq_true hr
  obtain ⟨k1, k2⟩ := wh_bd g.w1 g.w2 g.h1 g.h2
  have w1 := g.w1
  have w2 := g.w2
  have c0 := g.c0
  obtain ⟨q1, q2⟩ := hc
  go_enter Tryd.func63, Tryd.ntmps63
  go_wp2_with (go_at_call 51; refine (hasCell_v hr _ g).mono ?_; rintro e w' ⟨rfl, m, rfl⟩)
  go_quiet (fail)
  go_wp2
  go_ret3
  exact ⟨rfl, _, World.drewN_drewN _ _ _⟩

set_option maxHeartbeats 400000 in
theorem place_out {b : Nat} {W H V : Int} {bl : Nat → Bool} (c : Int) (w : World) (g : GridAt w b W H V bl) (hr : inB W H c = false) :
    Calls Tryd.prog 63 #[.pointer (some ⟨b, 0, none⟩), .int .i64 c] w fun e w' => e = .returned (.tuple #[.int .i64 0, .int .i64 0, .iface 78 (.int .i64 1)]) ∧ ∃ m, w' = w.drewN m := by
  go_enter Tryd.func63, Tryd.ntmps63
  go_wp2_with (go_at_call 51; refine (hasCell_v hr _ g).mono ?_; rintro e w' ⟨rfl, m, rfl⟩)
  go_ret3
  exact ⟨rfl, _, rfl⟩

set_option maxHeartbeats 400000 in
theorem to_any {b : Nat} {W H V : Int} {bl : Nat → Bool} (c : Int) (d : Nat) (w : World) (g : GridAt w b W H V bl) (s : StepsAt w) (hd : d < 8) (c1 : -1000 ≤ c) (c2 : c ≤ 1000) :
    Calls Tryd.prog 25 #[.pointer (some ⟨b, 0, none⟩), .int .i64 c, .int .i64 d] w fun e w' => e = .returned (.int .i64 (c + (stepY d * W + stepX d))) ∧ ∃ m, w' = w.drewN m := by
  obtain ⟨s1, s2, s3, s4⟩ := step_bd d
  obtain ⟨k1, k2⟩ := yw_bd g.w1 g.w2 (show -100 ≤ stepY d by omega) (by omega)
  have hs := fun w h => step_any d w h hd
  have hn := fun w g => number_any (b := b) (W := W) (H := H) (V := V) (bl := bl) (stepX d) (stepY d) w g (by omega) (by omega) (by omega) (by omega)
  generalize stepX d = dx at *
  generalize stepY d = dy at *
  go_enter Tryd.func25, Tryd.ntmps25
  go_wp2_with (first | (go_at_call 58; refine (hs _ s).mono ?_; rintro e w' ⟨rfl, m, rfl⟩) | (go_at_call 59; refine (hn _ (g.drewN _)).mono ?_; rintro e w' ⟨rfl, rfl⟩))
  go_ret
  exact ⟨rfl, _, rfl⟩

/-- the directions below k in which one may go -/
def mvs (W H : Int) (bl : Nat → Bool) (x y : Int) (k : Nat) : List Nat := (List.range k).filter (mayB W H bl x y)
theorem mvs_succ (W H : Int) (bl : Nat → Bool) (x y : Int) (k : Nat) : mvs W H bl x y (k + 1) = mvs W H bl x y k ++ (if mayB W H bl x y k then [k] else []) := by
  unfold mvs
  rw [List.range_succ, List.filter_append]
  cases h : mayB W H bl x y k <;> simp [h]
theorem mvs_len (W H : Int) (bl : Nat → Bool) (x y : Int) (k : Nat) : (mvs W H bl x y k).length ≤ k := by
  unfold mvs
  have := List.length_filter_le (mayB W H bl x y) (List.range k)
  simpa using this
/-- a list of numbers as values -/
abbrev vals (l : List Nat) : List Value := l.map fun d : Nat => Value.int .i64 (d : Int)

theorem may_v {b : Nat} {W H V x y : Int} {bl : Nat → Bool} {d : Nat} {r : Bool} (hr : mayB W H bl x y d = r) (w : World) (g : GridAt w b W H V bl) (s : StepsAt w) (hd : d < 8) (x1 : -100 ≤ x) (x2 : x ≤ 100) (y1 : -100 ≤ y) (y2 : y ≤ 100) :
    Calls Tryd.prog 90 #[.pointer (some ⟨b, 0, none⟩), .int .i64 x, .int .i64 y, .int .i64 d] w fun e w' => e = .returned (.bool r) ∧ ∃ m, w' = w.drewN m := hr ▸ may_any x y d w g s hd x1 x2 y1 y2

theorem GridAt.below {w w' : World} {b : Nat} {W H V : Int} {bl : Nat → Bool} {B : Nat} (g : GridAt w b W H V bl) (hb : Below B w w') (h : b < B) : GridAt w' b W H V bl :=
  ⟨g.w1, g.w2, g.h1, g.h2, (hb.cell (p := ⟨b, 0, none⟩) h).trans g.c0, (hb.cell (p := ⟨b, 1, none⟩) h).trans g.c1, (hb.cell (p := ⟨b, 2, none⟩) h).trans g.c2, fun i hi => (hb.cell (p := ⟨b, 3 + i, none⟩) h).trans (g.cs i hi)⟩
theorem StepsAt.below {w w' : World} {B : Nat} (s : StepsAt w) (hb : Below B w w') (h : 0 < B) : StepsAt w' :=
  fun i hi => ⟨(hb.cell (p := ⟨0, 2 * i, none⟩) h).trans (s i hi).1, (hb.cell (p := ⟨0, 2 * i + 1, none⟩) h).trans (s i hi).2⟩

theorem Tryd.info3 : (Tryd.prog.info? 3).map (fun i => (i.zero, i.size, i.bytes)) = some (some (.int .i64 0), 1, 8) := by kernel_rfl

set_option maxHeartbeats 1600000 in
set_option maxRecDepth 1000000 in
theorem moves_in {b : Nat} {W H V : Int} {bl : Nat → Bool} (c : Int) (w : World) (g : GridAt w b W H V bl) (s : StepsAt w) (hr : inB W H c = true) (hb : b < w.heap.size) :
    Calls Tryd.prog 96 #[.pointer (some ⟨b, 0, none⟩), .int .i64 c] w fun e w' => ∃ v, e = .returned (.tuple #[v, .nilIface]) ∧
      w'.ownsRow w.heap.size 3 1 v (mvs W H bl (c % W) (c / W) 8).length (vals (mvs W H bl (c % W) (c / W) 8)) ∧ Below w.heap.size w w' := by
  obtain ⟨i0, hi, hz0, hz1, hz2⟩ := info_parts Tryd.info3
  have hc : 0 ≤ c ∧ c < W * H := of_decide_eq_true hr
  obtain ⟨k1, k2⟩ := wh_bd g.w1 g.w2 g.h1 g.h2
  have x1 : 0 ≤ c % W := Int.emod_nonneg _ (by have := g.w1; omega)
  have x2 : c % W < W := Int.emod_lt_of_pos _ (by have := g.w1; omega)
  have y1 : 0 ≤ c / W := Int.ediv_nonneg hc.1 (by have := g.w1; omega)
  have y2 : c / W ≤ 256 := by
    have := Int.ediv_le_self W hc.1
    omega
  have y3 : c / W < H := Int.ediv_lt_of_lt_mul (by have := g.w1; omega) (by rw [Int.mul_comm]; exact hc.2)
  have hP := fun w g => place_in (b := b) (W := W) (H := H) (V := V) (bl := bl) c w g hr
  have gw := g.w2
  have gh := g.h2
  generalize c % W = x at *
  generalize c / W = y at *
  go_enter Tryd.func96, Tryd.ntmps96
  go_wp2_with (go_at_call 63; refine (hP _ g).mono ?_; rintro e w' ⟨rfl, m, rfl⟩)
  go_loopw [9, 21] (fun v i wr => ∃ k : Nat, k ≤ 8 ∧ i = .int .i64 k ∧ wr.ownsRow w.heap.size 3 1 v (mvs W H bl x y k).length (vals (mvs W H bl x y k)) ∧ Below w.heap.size w wr)
    (fun _ i _ => 8 - (intOf i).toNat)
  case atStart => exact ⟨0, Nat.zero_le _, rfl, World.ownsRow_nil _ _ _ _, below_drewN (Below.refl _ _) _⟩
  case round =>
    obtain ⟨k, hk, rfl, hown, hnx⟩ := hrel
    have hl := mvs_len W H bl x y k
    have gr := g.below hnx hb
    have sr := s.below hnx (by omega)
    have hsz := hnx.size
    by_cases hlt : k < 8
    · have hms := mvs_succ W H bl x y k
      cases hM : mayB W H bl x y k with
      | false =>
        rw [hM] at hms
        have h0 : mvs W H bl x y (k + 1) = mvs W H bl x y k := by simpa using hms
        have HS : Hid (mvs W H bl x y (k + 1) = mvs W H bl x y k) := h0
        clear h0
        clear hms
        go_wp2_with (go_at_call 90; refine (may_v hM _ gr sr hlt (by omega) (by omega) (by omega) (by omega)).mono ?_; rintro e w' ⟨rfl, m, rfl⟩)
        go_roundw
        case rel => exact ⟨k + 1, by omega, by go_num, by rw [HS.out]; exact hown, below_drewN hnx _⟩
        case measure => simp [intOf]; omega
      | true =>
        rw [hM] at hms
        have h0 : mvs W H bl x y (k + 1) = mvs W H bl x y k ++ [k] := by simpa using hms
        have HS : Hid (mvs W H bl x y (k + 1) = mvs W H bl x y k ++ [k]) := h0
        clear h0
        clear hms
        go_wp2_with (first | (go_at_call 90; refine (may_v hM _ gr sr hlt (by omega) (by omega) (by omega) (by omega)).mono ?_; rintro e w' ⟨rfl, m, rfl⟩) | (at_builtin; refine wpList_append_own _ rfl _ _ 22 rfl w.heap.size 3 i0 (.int .i64 0) 1 8 Tryd.underlying22 hi hz0 hz1 hz2 rfl (by decide) _ _ _ rfl (World.ownsRow.alloc hown _) ⟨wr.heap.size, 0, none⟩ 1 1 [.int .i64 k] rfl rfl ?c1 ?c2 ?c3 ?c4 ?c5 ?_))
        case c1 =>
          intro j u hj
          match j, hj with
          | 0, hj =>
            simp at hj; subst hj; simp only [Addr.add]
            exact World.cell?_alloc_at (w := wr.drewN m) #[.int .i64 k] 3 wr.heap.size 0 rfl
        case c2 => intro u hu; simp at hu; subst hu; rfl
        case c3 => unfold maxLen; omega
        case c4 => omega
        case c5 => simp; omega
        intro v' w1 hown' hgrow _
        have hbase := fun q hq => (hown.lt q hq).1
        have B1 : Below w.heap.size w w1 := ((below_drewN hnx m).alloc hsz _).grown hgrow (by simp; omega) hbase
        have O1 : w1.ownsRow w.heap.size 3 1 v' (mvs W H bl x y (k + 1)).length (vals (mvs W H bl x y (k + 1))) := by
          rw [HS.out]
          simpa [vals] using hown'
        clear hown' hgrow hown hnx gr sr
        go_wp2
        go_roundw
        case rel => exact ⟨k + 1, by omega, by go_num, O1, B1⟩
        case measure => simp [intOf]; omega
    · have : k = 8 := by omega
      subst this
      go_wp2
      go_ret2
      exact ⟨_, rfl, hown, hnx⟩

set_option maxHeartbeats 400000 in
theorem moves_out {b : Nat} {W H V : Int} {bl : Nat → Bool} (c : Int) (w : World) (g : GridAt w b W H V bl) (hr : inB W H c = false) :
    Calls Tryd.prog 96 #[.pointer (some ⟨b, 0, none⟩), .int .i64 c] w fun e w' => e = .returned (.tuple #[.slice none 0 0, .iface 78 (.int .i64 1)]) ∧ ∃ m, w' = w.drewN m := by
  go_enter Tryd.func96, Tryd.ntmps96
  go_wp2_with (go_at_call 63; refine (place_out c _ g hr).mono ?_; rintro e w' ⟨rfl, m, rfl⟩)
  go_ret2
  exact ⟨rfl, _, rfl⟩
end Go.Proofs.YtfhicijgpdpfpaaDoor
