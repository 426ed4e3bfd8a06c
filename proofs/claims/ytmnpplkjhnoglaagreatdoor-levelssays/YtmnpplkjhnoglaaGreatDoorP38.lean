/-
  Texts laid together: Labs, ROct, Gs.
-/
import Derived.Test.YtmnpplkjhnoglaaGreatDoorP37
import Derived.Deep.RegionHeld3
/-
  What the reference's flood gives back, laid in memory.
-/
namespace Go.Proofs.YtmnpplkjhnoglaaGreatDoor
open Go.RowKit

theorem lab_ok {E : Int → Nat → Int → Prop} {o : Int} {F : Int → Option (Int × Int)} (h : Best E o F) (a : Int) : okC (labS F a) (labD F a) := by
  unfold labS labD okC
  cases hF : F a with
  | none => simp
  | some c =>
    obtain ⟨s, d⟩ := c
    obtain ⟨h1, h2, h3⟩ := h.small hF
    have := val_small h1 h2 h3
    show 0 ≤ s ∧ s ≤ 8388608 ∧ 0 ≤ d ∧ d ≤ 8388608
    omega

end Go.Proofs.YtmnpplkjhnoglaaGreatDoor
/-
  The reference's octile cost between two cells, and what is near by its floods.
-/
namespace Go.Proofs.YtmnpplkjhnoglaaGreatDoor
open Go.RowKit

theorem slot0 (w : World) : Below w.heap.size w (w.alloc (.cells #[.int .i64 0, .int .i64 0] 65)) := (Below.refl _ _).alloc (Nat.le_refl _) _
theorem slotW (w : World) {w1 : World} {m : Nat} (h : w1 = (w.alloc (.cells #[.int .i64 0, .int .i64 0] 65)).drewN m) :
    w1.cell? ⟨w.heap.size, 0, none⟩ = some (.int .i64 0) ∧ w1.cell? ⟨w.heap.size, 1, none⟩ = some (.int .i64 0) ∧ w1.frozen? ⟨w.heap.size, 0, none⟩ = false ∧ w1.frozen? ⟨w.heap.size, 1, none⟩ = false ∧ w1.heap.size = w.heap.size + 1 ∧ Below w.heap.size w w1 := by
  subst h
  have hB := slot0 w
  refine ⟨World.cell?_alloc_at #[.int .i64 0, .int .i64 0] 65 w.heap.size 0 rfl, World.cell?_alloc_at #[.int .i64 0, .int .i64 0] 65 w.heap.size 1 rfl, free_alloc w #[.int .i64 0, .int .i64 0] 65 w.heap.size (Nat.le_refl _) 0, free_alloc w #[.int .i64 0, .int .i64 0] 65 w.heap.size (Nat.le_refl _) 1, by simp, ⟨hB.os, hB.tape, hB.output, hB.size, hB.block⟩⟩


set_option maxHeartbeats 2000000 in
set_option maxRecDepth 1000000 in
theorem roct' {M : Nat} {W a b ax ay bx by' cs cd : Int} (w : World) (c0 : w.cell? ⟨M, 0, none⟩ = some (.int .i64 W)) (hne : W ≠ 0) (t1 : Int.tmod a W = ax) (t2 : Int.tmod b W = bx) (t3 : Int.tdiv a W = ay) (t4 : Int.tdiv b W = by')
    (u3 : IntKind.i64.wrap ay = ay) (u4 : IntKind.i64.wrap by' = by')
    (ho : ∀ w, Calls Tryz.prog 33 #[.int .i64 ax, .int .i64 ay, .int .i64 bx, .int .i64 by'] w fun e w' => e = .returned (.agg #[.int .i64 cs, .int .i64 cd]) ∧ Below w.heap.size w w') :
    Calls Tryz.prog 90 #[.pointer (some ⟨M, 0, none⟩), .int .i64 a, .int .i64 b] w fun e w' => e = .returned (.agg #[.int .i64 cs, .int .i64 cd]) ∧ Below w.heap.size w w' := by
  have hM : M < w.heap.size := World.block_lt_of_cell? w _ c0
  go_enter Tryz.func90, Tryz.ntmps90
  go_wp2
  obtain ⟨k0, k1, f0, f1, hsz, HB⟩ := slotW w (m := 0) rfl
  rw [World.drewN_zero] at k0 k1 f0 f1 hsz HB
  have c0 := (HB.cell (p := ⟨M, 0, none⟩) hM).trans c0
  generalize w.alloc (.cells #[.int .i64 0, .int .i64 0] 65) = W1 at *
  have c0 : W1.drew.cell? ⟨M, 0, none⟩ = some (.int .i64 W) := c0
  have k0 : W1.drew.cell? ⟨w.heap.size, 0, none⟩ = some (.int .i64 0) := k0
  have k1 : W1.drew.cell? ⟨w.heap.size, 1, none⟩ = some (.int .i64 0) := k1
  have f0 : W1.drew.frozen? ⟨w.heap.size, 0, none⟩ = false := f0
  have f1 : W1.drew.frozen? ⟨w.heap.size, 1, none⟩ = false := f1
  have HB : Below w.heap.size w W1.drew := ⟨HB.os, HB.tape, HB.output, HB.size, HB.block⟩
  have hsz : w.heap.size < W1.drew.heap.size := World.block_lt_of_cell? W1.drew _ k0
  go_region_with (first | (go_at_call 33; refine (ho _).mono ?_; rintro e w2 ⟨rfl, hb2⟩; have k0 := (hb2.cell (p := ⟨w.heap.size, 0, none⟩) hsz).trans k0; have k1 := (hb2.cell (p := ⟨w.heap.size, 1, none⟩) hsz).trans k1; have f0 := (hb2.frozen (p := ⟨w.heap.size, 0, none⟩) hsz).trans f0; have f1 := (hb2.frozen (p := ⟨w.heap.size, 1, none⟩) hsz).trans f1; have HB := HB.trans (hb2.mono HB.size)))
  all_goals
    have r0 := popCells w2 w.heap.size cs cd k0 k1
    go_wp2
    exact bodyPost_ret (v := .agg #[.int .i64 cs, .int .i64 cd]) (by simp [results, Tryz.results90, go_sem, r0.1, r0.2]) rfl ⟨rfl, (HB.setCell (p := ⟨w.heap.size, 0, none⟩) (Nat.le_refl _) _).setCell (p := ⟨w.heap.size, 1, none⟩) (Nat.le_refl _) _⟩

theorem roct_any {M : Nat} {W H V : Int} {bl : Nat → Bool} (a b : Int) (w : World) (g : RefAt w M W H V bl) (ha : inB W H a = true) (hb : inB W H b = true) :
    Calls Tryz.prog 90 #[.pointer (some ⟨M, 0, none⟩), .int .i64 a, .int .i64 b] w fun e w' => e = .returned (.agg #[.int .i64 (octS W a b), .int .i64 (octD W a b)]) ∧ Below w.heap.size w w' := by
  have gw1 := g.w1
  have gw2 := g.w2
  have gh2 := g.h2
  have qa : 0 ≤ a ∧ a < W * H := of_decide_eq_true ha
  have qb : 0 ≤ b ∧ b < W * H := of_decide_eq_true hb
  obtain ⟨m1, m3, d1, d3⟩ := place_bd gw1 ha
  obtain ⟨m2, m4, d2, d4⟩ := place_bd gw1 hb
  have t1 : Int.tmod a W = a % W := Int.tmod_eq_emod_of_nonneg qa.1
  have t2 : Int.tmod b W = b % W := Int.tmod_eq_emod_of_nonneg qb.1
  have t3 : Int.tdiv a W = a / W := Int.tdiv_eq_ediv_of_nonneg qa.1
  have t4 : Int.tdiv b W = b / W := Int.tdiv_eq_ediv_of_nonneg qb.1
  refine roct' w g.c0 (by omega) t1 t2 t3 t4 (wrap_small (by omega) (by omega)) (wrap_small (by omega) (by omega)) (fun w => ?_)
  exact rOct_any _ _ _ _ w (near_small m1 (by omega)) (near_small d1 (by omega)) (near_small m2 (by omega)) (near_small d2 (by omega))

end Go.Proofs.YtmnpplkjhnoglaaGreatDoor
/-
  What guesses answer: nothing, and the cost as if nothing were in the way. (For search.)
-/
namespace Go.Proofs.YtmnpplkjhnoglaaGreatDoor
open Go.RowKit Go.Lib

end Go.Proofs.YtmnpplkjhnoglaaGreatDoor
