/-
  What the walk of 'TopFlood' needs of ways.
-/
import Derived.Test.YtfhicijgpdpfpaaDoorFrom
import Derived.Test.YtfhicijgpdpfpaaDoorAsAid
import Derived.Test.YtfhicijgpdpfpaaDoorOct
import Derived.Deep.LoopGhost
import Derived.Deep.Light
import Derived.Deep.RegionWith
namespace Go.Proofs.YtfhicijgpdpfpaaDoor
open Go.RowKit

theorem cells_b {b : Nat} {W H V : Int} {bl : Nat → Bool} (w : World) (g : GridAt w b W H V bl) :
    Calls Tryd.prog 23 #[.pointer (some ⟨b, 0, none⟩)] w fun e w' => e = .returned (.int .i64 (W * H)) ∧ Below w.heap.size w w' :=
  (cells_any w g).mono fun _ _ ⟨he, m, hm⟩ => ⟨he, by subst hm; exact below_drewN (Below.refl _ _) m⟩
theorem to_b {b : Nat} {W H V c r : Int} {bl : Nat → Bool} {d : Nat} (hr : c + (stepY d * W + stepX d) = r) (w : World) (g : GridAt w b W H V bl) (s : StepsAt w) (hd : d < 8) (c1 : -1000 ≤ c) (c2 : c ≤ 1000) :
    Calls Tryd.prog 25 #[.pointer (some ⟨b, 0, none⟩), .int .i64 c, .int .i64 d] w fun e w' => e = .returned (.int .i64 r) ∧ Below w.heap.size w w' :=
  (to_v hr w g s hd c1 c2).mono fun _ _ ⟨he, m, hm⟩ => ⟨he, by subst hm; exact below_drewN (Below.refl _ _) m⟩

theorem oct_low {W H : Int} {bl : Nat → Bool} {o a s d : Int} (w1 : 1 ≤ W) (h : Wk (Edge W H bl) o a s d) :
    val (dst (dst (o % W) (a % W)) (dst (o / W) (a / W))) (les (dst (o % W) (a % W)) (dst (o / W) (a / W))) ≤ val s d := by
  refine h.ind (R := fun a s d => val (dst (dst (o % W) (a % W)) (dst (o / W) (a / W))) (les (dst (o % W) (a % W)) (dst (o / W) (a / W))) ≤ val s d) ?_ (fun a s d k b _ ih e => ?_)
  · unfold dst les val
    simp
  · obtain ⟨h1, h2, h3, h4⟩ := e
    obtain ⟨_, o2, _, _⟩ := may_parts h3
    obtain ⟨a1, a2, a3, a4⟩ := open_in o2
    have e : a + (stepY k * W + stepX k) = (a / W + stepY k) * W + (a % W + stepX k) := by
      have := cell_eq W a
      rw [Int.add_mul]
      omega
    obtain ⟨p1, p2, p3⟩ := place_to (H := H) w1 a1 a2 a3 a4
    rw [h4, e, p2, p3]
    clear e p1 p2 p3 a1 a2 a3 a4 o2 h3 h4 h2
    rw [val_add]
    generalize o % W = ox at *
    generalize o / W = oy at *
    generalize a % W = ax at *
    generalize a / W = ay at *
    have hks : k = 0 ∨ k = 1 ∨ k = 2 ∨ k = 3 ∨ k = 4 ∨ k = 5 ∨ k = 6 ∨ k = 7 := by omega
    have hst : stepX k = 0 ∧ stepY k = -1 ∧ stS k = 1 ∧ stD k = 0 ∨ stepX k = 0 ∧ stepY k = 1 ∧ stS k = 1 ∧ stD k = 0 ∨ stepX k = 1 ∧ stepY k = 0 ∧ stS k = 1 ∧ stD k = 0 ∨ stepX k = -1 ∧ stepY k = 0 ∧ stS k = 1 ∧ stD k = 0 ∨ (stepX k = 1 ∨ stepX k = -1) ∧ (stepY k = 1 ∨ stepY k = -1) ∧ stS k = 0 ∧ stD k = 1 := by
      rcases hks with rfl | rfl | rfl | rfl | rfl | rfl | rfl | rfl <;> decide
    refine Int.le_trans ?_ (Int.add_le_add_right ih _)
    clear ih hks h1
    unfold val dst les
    split <;> split <;> split <;> split <;> split <;> split <;> (try split) <;> (try split) <;> omega

theorem Best.sym {W H : Int} {bl : Nat → Bool} {o c : Int} {F G : Int → Option (Int × Int)} (w1 : 1 ≤ W) (hF : Best (Edge W H bl) o F) (hG : Best (Edge W H bl) c G) {s d : Int} (h : F c = some (s, d)) : G o = some (s, d) := by
  obtain ⟨s', d', h1, h2⟩ := hG.least ((hF.sound h).back (Edge.back w1))
  obtain ⟨s2, d2, h3, h4⟩ := hF.least ((hG.sound h1).back (Edge.back w1))
  rw [h] at h3
  cases h3
  obtain ⟨a1, a2, a3⟩ := hF.small h
  obtain ⟨b1, b2, b3⟩ := hG.small h1
  have c1 := val_small a1 a2 a3
  have c2 := val_small b1 b2 b3
  obtain ⟨e1, e2⟩ := val_inj s' d' s d (by omega) (by omega) (by omega)
  rw [h1, e1, e2]

theorem wk_free {W H : Int} {bl : Nat → Bool} {o a s d : Int} (ho : bl o.toNat = false) (h : Wk (Edge W H bl) o a s d) : bl a.toNat = false := by
  refine h.ind (R := fun a _ _ => bl a.toNat = false) ho (fun a s d k b _ _ e => ?_)
  obtain ⟨h1, h2, h3, h4⟩ := e
  obtain ⟨_, o2, _, _⟩ := may_parts h3
  have e : a + (stepY k * W + stepX k) = (a / W + stepY k) * W + (a % W + stepX k) := by
    have := cell_eq W a
    rw [Int.add_mul]
    omega
  rw [h4, e]
  unfold openB at o2
  rw [Bool.and_eq_true] at o2
  simpa using o2.2

theorem one_two {F : Int → Option (Int × Int)} (h : Best (Edge 2 1 (fun _ => false)) 0 F) : cnt F (2 * 1 : Int).toNat = 2 := by
  have h0 := h.home
  obtain ⟨s, d, h1, _⟩ := h.edge (k := 2) (b := 1) h0 ⟨by decide, by decide, by decide, by decide⟩
  show cnt F 2 = 2
  have e0 : F ((0 : Nat) : Int) = some (0, 0) := h0
  have e1 : F ((1 : Nat) : Int) = some (s, d) := h1
  unfold cnt cnt cnt
  rw [e0, e1]
  rfl

theorem wrap_small {x : Int} (h0 : 0 ≤ x) (h : x ≤ 1000) : IntKind.i64.wrap x = x := by unfold IntKind.wrap; simp [IntKind.bits, IntKind.signed]; omega
theorem near_small {x : Int} (h0 : 0 ≤ x) (h : x ≤ 1000) : nearB x := ⟨by omega, by omega⟩

set_option maxHeartbeats 2000000 in
set_option maxRecDepth 1000000 in
theorem topOct' {W a b ax ay bx by' cs cd : Int} (w : World) (hne : W ≠ 0) (t1 : Int.tmod a W = ax) (t2 : Int.tmod b W = bx) (t3 : Int.tdiv a W = ay) (t4 : Int.tdiv b W = by')
    (u3 : IntKind.i64.wrap ay = ay) (u4 : IntKind.i64.wrap by' = by')
    (ho : ∀ w, Calls Tryd.prog 62 #[.int .i64 ax, .int .i64 ay, .int .i64 bx, .int .i64 by'] w fun e w' => e = .returned (.agg #[.int .i64 cs, .int .i64 cd]) ∧ Below w.heap.size w w') :
    Calls Tryd.prog 28 #[.int .i64 W, .int .i64 a, .int .i64 b] w fun e w' => e = .returned (.agg #[.int .i64 cs, .int .i64 cd]) ∧ Below w.heap.size w w' := by
  go_enter Tryd.func28, Tryd.ntmps28
  go_wp2
  obtain ⟨c0, c1, f0, f1, hsz, HB⟩ := slotW w (m := 0) rfl
  rw [World.drewN_zero] at c0 c1 f0 f1 hsz HB
  generalize w.alloc (.cells #[.int .i64 0, .int .i64 0] 31) = W1 at *
  have c0 : W1.drew.cell? ⟨w.heap.size, 0, none⟩ = some (.int .i64 0) := c0
  have c1 : W1.drew.cell? ⟨w.heap.size, 1, none⟩ = some (.int .i64 0) := c1
  have f0 : W1.drew.frozen? ⟨w.heap.size, 0, none⟩ = false := f0
  have f1 : W1.drew.frozen? ⟨w.heap.size, 1, none⟩ = false := f1
  have HB : Below w.heap.size w W1.drew := ⟨HB.os, HB.tape, HB.output, HB.size, HB.block⟩
  have hsz : w.heap.size < W1.drew.heap.size := World.block_lt_of_cell? W1.drew _ c0
  go_region_with (first | (go_at_call 62; refine (ho _).mono ?_; rintro e w2 ⟨rfl, hb2⟩; have c0 := (hb2.cell (p := ⟨w.heap.size, 0, none⟩) hsz).trans c0; have c1 := (hb2.cell (p := ⟨w.heap.size, 1, none⟩) hsz).trans c1; have f0 := (hb2.frozen (p := ⟨w.heap.size, 0, none⟩) hsz).trans f0; have f1 := (hb2.frozen (p := ⟨w.heap.size, 1, none⟩) hsz).trans f1; have HB := HB.trans (hb2.mono HB.size)))
  have r0 := popCells w2 w.heap.size cs cd c0 c1
  clear ho
  go_wp2
  exact bodyPost_ret (v := .agg #[.int .i64 cs, .int .i64 cd]) (by simp [results, Tryd.results28, go_sem, r0.1, r0.2]) rfl ⟨rfl, (HB.setCell (p := ⟨w.heap.size, 0, none⟩) (Nat.le_refl _) _).setCell (p := ⟨w.heap.size, 1, none⟩) (Nat.le_refl _) _⟩

theorem topOct (W : Int) (a b : Nat) (w : World) (w1 : 1 ≤ W) (w2 : W ≤ 16) (ha : a < 1000) (hb : b < 1000) :
    Calls Tryd.prog 28 #[.int .i64 W, .int .i64 a, .int .i64 b] w fun e w' => e = .returned (.agg #[.int .i64 (dst (dst ((a : Int) % W) ((b : Int) % W)) (dst ((a : Int) / W) ((b : Int) / W))), .int .i64 (les (dst ((a : Int) % W) ((b : Int) % W)) (dst ((a : Int) / W) ((b : Int) / W)))]) ∧ Below w.heap.size w w' := by
  have t1 : Int.tmod (a : Int) W = (a : Int) % W := Int.tmod_eq_emod_of_nonneg (by omega)
  have t2 : Int.tmod (b : Int) W = (b : Int) % W := Int.tmod_eq_emod_of_nonneg (by omega)
  have t3 : Int.tdiv (a : Int) W = (a : Int) / W := Int.tdiv_eq_ediv_of_nonneg (by omega)
  have t4 : Int.tdiv (b : Int) W = (b : Int) / W := Int.tdiv_eq_ediv_of_nonneg (by omega)
  have m1 := Int.emod_nonneg (a : Int) (show W ≠ 0 by omega)
  have m2 := Int.emod_nonneg (b : Int) (show W ≠ 0 by omega)
  have m3 := Int.emod_lt_of_pos (a : Int) (show 0 < W by omega)
  have m4 := Int.emod_lt_of_pos (b : Int) (show 0 < W by omega)
  have d1 : 0 ≤ (a : Int) / W := Int.ediv_nonneg (by omega) (by omega)
  have d2 : 0 ≤ (b : Int) / W := Int.ediv_nonneg (by omega) (by omega)
  have d3 : (a : Int) / W ≤ a := Int.ediv_le_self _ (by omega)
  have d4 : (b : Int) / W ≤ b := Int.ediv_le_self _ (by omega)
  have hne : W ≠ 0 := by omega
  refine topOct' w hne t1 t2 t3 t4 (wrap_small (by omega) (by omega)) (wrap_small (by omega) (by omega)) (fun w => rOct_any _ _ _ _ w (near_small m1 (by omega)) (near_small d1 (by omega)) (near_small m2 (by omega)) (near_small d2 (by omega)))
end Go.Proofs.YtfhicijgpdpfpaaDoor
