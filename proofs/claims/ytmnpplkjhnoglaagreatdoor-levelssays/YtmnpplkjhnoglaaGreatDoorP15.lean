/-
  Texts laid together: RMoves, Dirs, AsAid.
-/
import Derived.Test.YtmnpplkjhnoglaaGreatDoorP14
import Derived.Deep.LoopGhost
import Derived.Deep.Light
/-
  The reference's moves from a cell; lists of directions as rows.
-/
namespace Go.Proofs.YtmnpplkjhnoglaaGreatDoor
open Go.RowKit

theorem rmay_v {b : Nat} {W H V x y : Int} {bl : Nat → Bool} {d : Nat} {r : Bool} (hr : mayB W H bl x y d = r) (w : World) (g : RefAt w b W H V bl) (hd : d < 8) (x1 : -100 ≤ x) (x2 : x ≤ 100) (y1 : -100 ≤ y) (y2 : y ≤ 100) :
    Calls Tryz.prog 113 #[.pointer (some ⟨b, 0, none⟩), .int .i64 x, .int .i64 y, .int .i64 d] w fun e w' => e = .returned (.bool r) ∧ ∃ m, w' = w.drewN m := hr ▸ rmay_any x y d w g hd x1 x2 y1 y2

set_option maxHeartbeats 1600000 in
set_option maxRecDepth 1000000 in
theorem rmoves_in {b : Nat} {W H V : Int} {bl : Nat → Bool} (c : Int) (w : World) (g : RefAt w b W H V bl) (hr : inB W H c = true) (hb : b < w.heap.size) :
    Calls Tryz.prog 79 #[.pointer (some ⟨b, 0, none⟩), .int .i64 c] w fun e w' => ∃ v, e = .returned v ∧
      w'.ownsRow w.heap.size 3 1 v (mvs W H bl (c % W) (c / W) 8).length (vals (mvs W H bl (c % W) (c / W) 8)) ∧ Below w.heap.size w w' := by
  obtain ⟨i0, hi, hz0, hz1, hz2⟩ := info_parts Tryz.info3
  have hc : 0 ≤ c ∧ c < W * H := of_decide_eq_true hr
  obtain ⟨k1, k2⟩ := wh_bd g.w1 g.w2 g.h1 g.h2
  have gw1 := g.w1
  have gw := g.w2
  have gh := g.h2
  have x1 : 0 ≤ c % W := Int.emod_nonneg _ (by omega)
  have x2 : c % W < W := Int.emod_lt_of_pos _ (by omega)
  have y1 : 0 ≤ c / W := Int.ediv_nonneg hc.1 (by omega)
  have y3 : c / W < H := Int.ediv_lt_of_lt_mul (by omega) (by rw [Int.mul_comm]; exact hc.2)
  obtain ⟨q1, q2⟩ := hc
  go_enter Tryz.func79, Tryz.ntmps79
  go_wp2
  go_loopw [5, 6] (fun v i wr => ∃ k : Nat, k ≤ 8 ∧ i = .int .i64 k ∧ wr.ownsRow w.heap.size 3 1 v (mvs W H bl (c % W) (c / W) k).length (vals (mvs W H bl (c % W) (c / W) k)) ∧ Below w.heap.size w wr)
    (fun _ i _ => 8 - (intOf i).toNat)
  case atStart => exact ⟨0, Nat.zero_le _, rfl, World.ownsRow_nil _ _ _ _, Below.refl _ _⟩
  case round =>
    obtain ⟨k, hk, rfl, hown, hnx⟩ := hrel
    have hl := mvs_len W H bl (c % W) (c / W) k
    have gr := g.below hnx hb
    have c0 := gr.c0
    have hsz := hnx.size
    by_cases hlt : k < 8
    · have hms := mvs_succ W H bl (c % W) (c / W) k
      cases hM : mayB W H bl (c % W) (c / W) k with
      | false =>
        rw [hM] at hms
        have h0 : mvs W H bl (c % W) (c / W) (k + 1) = mvs W H bl (c % W) (c / W) k := by simpa using hms
        have HS : Hid (mvs W H bl (c % W) (c / W) (k + 1) = mvs W H bl (c % W) (c / W) k) := h0
        clear h0 hms
        go_wp2
        go_quiet ((go_at_call 113; exact Calls.quiet_of (rmay_v hM _ (gr.drewN _) hlt (by omega) (by omega) (by omega) (by omega))))
        go_wp2
        go_roundw
        case rel => exact ⟨k + 1, by omega, by go_num, by rw [HS.out]; exact hown, below_drewN hnx _⟩
        case measure => simp [intOf]; omega
      | true =>
        rw [hM] at hms
        have h0 : mvs W H bl (c % W) (c / W) (k + 1) = mvs W H bl (c % W) (c / W) k ++ [k] := by simpa using hms
        have HS : Hid (mvs W H bl (c % W) (c / W) (k + 1) = mvs W H bl (c % W) (c / W) k ++ [k]) := h0
        clear h0 hms
        go_wp2
        go_quiet ((go_at_call 113; exact Calls.quiet_of (rmay_v hM _ (gr.drewN _) hlt (by omega) (by omega) (by omega) (by omega))))
        go_wp2_with (at_builtin; refine wpList_append_own _ rfl _ _ 22 rfl w.heap.size 3 i0 (.int .i64 0) 1 8 Tryz.underlying22 hi hz0 hz1 hz2 rfl (by decide) _ _ _ rfl (World.ownsRow.alloc hown _) ⟨wr.heap.size, 0, none⟩ 1 1 [.int .i64 k] rfl rfl ?c1 ?c2 ?c3 ?c4 ?c5 ?_)
        case c1 =>
          intro j u hj
          match j, hj with
          | 0, hj =>
            simp at hj; subst hj; simp only [Addr.add]
            exact World.cell?_alloc_at (w := wr.drewN nq) #[.int .i64 k] 3 wr.heap.size 0 rfl
        case c2 => intro u hu; simp at hu; subst hu; rfl
        case c3 => unfold maxLen; omega
        case c4 => omega
        case c5 => simp; omega
        intro v' w1 hown' hgrow _
        have hbase := fun q hq => (hown.lt q hq).1
        have B1 : Below w.heap.size w w1 := ((below_drewN hnx nq).alloc hsz _).grown hgrow (by simp; omega) hbase
        have O1 : w1.ownsRow w.heap.size 3 1 v' (mvs W H bl (c % W) (c / W) (k + 1)).length (vals (mvs W H bl (c % W) (c / W) (k + 1))) := by
          rw [HS.out]
          simpa [vals] using hown'
        clear hown' hgrow hown hnx gr c0
        go_wp2
        go_roundw
        case rel => exact ⟨k + 1, by omega, by go_num, O1, B1⟩
        case measure => simp [intOf]; omega
    · have : k = 8 := by omega
      subst this
      go_wp2
      go_ret
      exact ⟨_, rfl, hown, hnx⟩
end Go.Proofs.YtmnpplkjhnoglaaGreatDoor
/-
  Rows of directions.
-/
namespace Go.Proofs.YtmnpplkjhnoglaaGreatDoor
open Go.RowKit

theorem OldRow.below {w w' : World} {A : Option Addr} {n : Nat} {xs : Nat → Int} (h : OldRow w A n xs) (hb : Below w.heap.size w w') : OldRow w' A n xs := fun i hi => by
  obtain ⟨b, o, e, hlt, hc⟩ := h i hi
  exact ⟨b, o, e, Nat.lt_of_lt_of_le hlt hb.size, (hb.cell (p := ⟨b, o + i, none⟩) hlt).trans hc⟩

/-- a list of directions as a row -/
theorem row_of {w : World} {base : Nat} {v : Value} {l : List Nat} (h : w.ownsRow base 3 1 v l.length (vals l)) : ∃ A cap, v = .slice A l.length cap ∧ OldRow w A l.length (fun i => (l.getD i 0 : Nat)) := by
  rcases h.2 with ⟨hv, h0⟩ | ⟨g, cap, cur, hv, hb, hg, _, _, hsz, htk⟩
  · refine ⟨none, 0, by rw [h0]; exact hv, fun i hi => absurd hi (by omega)⟩
  · refine ⟨_, cap, hv, fun i hi => ⟨g, 0, rfl, (Array.getElem?_eq_some_iff.1 hg).1, ?_⟩⟩
    subst hv
    have := h.cellAt i (by omega)
    rw [Nat.zero_add, this]
    rw [List.getElem?_map, List.getElem?_eq_getElem hi]
    show _ = some (Value.int .i64 ((l.getD i 0 : Nat) : Int))
    rw [getD_at _ _ hi]
    rfl

/-- the directions from a cell: a short rising list, each below 8, each with a way back -/
structure DirsOf (W H : Int) (bl : Nat → Bool) (c : Int) (l : List Nat) : Prop where
  eq : mvs W H bl (c % W) (c / W) 8 = l
  len : l.length ≤ 8
  lt : ∀ i, i < l.length → l.getD i 0 < 8
  rise : ∀ i, 0 < i → i < l.length → l.getD (i - 1) 0 < l.getD i 0
  back : ∀ i, i < l.length → inB W H (c + (stepY (l.getD i 0) * W + stepX (l.getD i 0))) = true ∧
    ∀ l', mvs W H bl ((c + (stepY (l.getD i 0) * W + stepX (l.getD i 0))) % W) ((c + (stepY (l.getD i 0) * W + stepX (l.getD i 0))) / W) 8 = l' → ∃ j, j < l'.length ∧ l'.getD j 0 = opp (l.getD i 0)

theorem dirsOf {W H : Int} (bl : Nat → Bool) (c : Int) (w1 : 1 ≤ W) : ∃ l, DirsOf W H bl c l :=
  ⟨_, rfl, mvs_len _ _ _ _ _ _, fun _ hi => (mvs_at hi).1, fun _ h0 hi => mvs_rise h0 hi, fun _ hi => ⟨(back_facts w1 (mvs_at hi).1 (mvs_at hi).2).1, fun _ e => e ▸ (back_facts w1 (mvs_at hi).1 (mvs_at hi).2).2⟩⟩

end Go.Proofs.YtmnpplkjhnoglaaGreatDoor
/-
  Small facts for the walk of 'asGrid'.
-/
namespace Go.Proofs.YtmnpplkjhnoglaaGreatDoor
open Go.RowKit

/-- two rows of the same numbers -/
theorem sameRows {w : World} {A B : Option Addr} {n ca cb : Nat} {xs : Nat → Int} (hn : n ≤ 1000000) (hA : OldRow w A n xs) (hB : OldRow w B n xs) :
    Calls Tryz.prog 56 #[.slice A n ca, .slice B n cb] w fun e w' => e = .returned (.bool true) ∧ ∃ m, w' = w.drewN m := by
  by_cases h0 : n = 0
  · subst h0
    exact sameNumbers_zero A B ca cb w
  · obtain ⟨b, o, rfl, _, _⟩ := hA 0 (by omega)
    obtain ⟨b2, o2, rfl, _, _⟩ := hB 0 (by omega)
    refine sameNumbers_pos b o b2 o2 n ca cb xs w hn (fun i hi => ?_) (fun i hi => ?_)
    · obtain ⟨b', o', e, _, hc⟩ := hA i hi
      cases e
      exact hc
    · obtain ⟨b', o', e, _, hc⟩ := hB i hi
      cases e
      exact hc

theorem rto_v {b : Nat} {W H V c r : Int} {bl : Nat → Bool} {d : Nat} (hr : c + (stepY d * W + stepX d) = r) (w : World) (g : RefAt w b W H V bl) (hd : d < 8) (c1 : -1000 ≤ c) (c2 : c ≤ 1000) :
    Calls Tryz.prog 80 #[.pointer (some ⟨b, 0, none⟩), .int .i64 c, .int .i64 d] w fun e w' => e = .returned (.int .i64 r) ∧ w' = w := by
  have := rto_any c d w g hd c1 c2
  rw [show c + stepX d + stepY d * W = r from by omega] at this
  exact this
theorem to_v {b : Nat} {W H V c r : Int} {bl : Nat → Bool} {d : Nat} (hr : c + (stepY d * W + stepX d) = r) (w : World) (g : GridAt w b W H V bl) (s : StepsAt w) (hd : d < 8) (c1 : -1000 ≤ c) (c2 : c ≤ 1000) :
    Calls Tryz.prog 174 #[.pointer (some ⟨b, 0, none⟩), .int .i64 c, .int .i64 d] w fun e w' => e = .returned (.int .i64 r) ∧ ∃ m, w' = w.drewN m := hr ▸ to_any c d w g s hd c1 c2

end Go.Proofs.YtmnpplkjhnoglaaGreatDoor
