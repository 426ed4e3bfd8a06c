/-
  Which direction leads from a cell to another one; by which one a cell was come to.
-/
import Derived.Test.YtfhicijgpdpfpaaDoorFind
import Derived.Deep.RegionHeld3
import Derived.Test.YtfhicijgpdpfpaaDoorTopFloodM
namespace Go.Proofs.YtfhicijgpdpfpaaDoor
open Go.RowKit

set_option maxHeartbeats 1000000 in
theorem btw_fits {b C1 C2 C3 : Nat} {W H V f t r : Int} {bl : Nat → Bool} (d : Nat) (w : World) (g : GridAt w b W H V bl) (s : StepsAt w) (hd : d < 8) (h1 : -1000 ≤ f) (h2 : f ≤ 1000) (hr : f + (stepY d * W + stepX d) = r)
    (c1 : w.cell? ⟨C1, 0, none⟩ = some (.pointer (some ⟨b, 0, none⟩))) (c2 : w.cell? ⟨C2, 0, none⟩ = some (.int .i64 f)) (c3 : w.cell? ⟨C3, 0, none⟩ = some (.int .i64 t)) :
    Calls Tryd.prog 76 #[.int .i64 d, .pointer (some ⟨C1, 0, none⟩), .pointer (some ⟨C2, 0, none⟩), .pointer (some ⟨C3, 0, none⟩)] w fun e w' => e = .returned (.bool (r == t)) ∧ Below w.heap.size w w' := by
  go_enter Tryd.func76, Tryd.ntmps76
  go_wp2
  go_quiet ((go_at_call 25; exact Calls.quiet_of (to_v hr _ (g.drewN _) (s.drewN _) hd h1 h2)))
  go_wp2
  go_ret
  exact ⟨rfl, below_drewN (Below.refl _ _) _⟩

set_option maxHeartbeats 1000000 in
theorem between_any {b : Nat} {W H V x y : Int} {bl : Nat → Bool} (f : Nat) (t : Int) (hx : (f : Int) % W = x) (hy : (f : Int) / W = y) (w : World) (g : GridAt w b W H V bl) (s : StepsAt w) (hb : b < w.heap.size) (hr : inB W H f = true) :
    Calls Tryd.prog 46 #[.pointer (some ⟨b, 0, none⟩), .int .i64 f, .int .i64 t] w fun e w' => FoundAt w w' e (fun d => mayB W H bl x y d && ((f : Int) + (stepY d * W + stepX d) == t)) := by
  have hcc : 0 ≤ (f : Int) ∧ (f : Int) < W * H := of_decide_eq_true hr
  obtain ⟨k1, k2⟩ := wh_bd g.w1 g.w2 g.h1 g.h2
  have HB : Below w.heap.size w (((w.alloc (.cells #[.pointer (some ⟨b, 0, none⟩)] 26)).alloc (.cells #[.int .i64 (f : Int)] 3)).alloc (.cells #[.int .i64 t] 3)) := (((Below.refl _ _).alloc (Nat.le_refl _) _).alloc (by simp) _).alloc (by simp; omega) _
  have q1 : (((w.alloc (.cells #[.pointer (some ⟨b, 0, none⟩)] 26)).alloc (.cells #[.int .i64 (f : Int)] 3)).alloc (.cells #[.int .i64 t] 3)).cell? ⟨w.heap.size, 0, none⟩ = some (.pointer (some ⟨b, 0, none⟩)) := by
    rw [World.cell?_alloc_old _ _ _ (by simp; omega), World.cell?_alloc_old _ _ _ (by simp), World.cell?_alloc_new]; rfl
  have q2 : (((w.alloc (.cells #[.pointer (some ⟨b, 0, none⟩)] 26)).alloc (.cells #[.int .i64 (f : Int)] 3)).alloc (.cells #[.int .i64 t] 3)).cell? ⟨w.heap.size + 1, 0, none⟩ = some (.int .i64 (f : Int)) := by
    rw [World.cell?_alloc_old _ _ _ (by simp)]
    exact World.cell?_alloc_at #[.int .i64 (f : Int)] 3 (w.heap.size + 1) 0 (by simp)
  have q3 : (((w.alloc (.cells #[.pointer (some ⟨b, 0, none⟩)] 26)).alloc (.cells #[.int .i64 (f : Int)] 3)).alloc (.cells #[.int .i64 t] 3)).cell? ⟨w.heap.size + 1 + 1, 0, none⟩ = some (.int .i64 t) :=
    World.cell?_alloc_at #[.int .i64 t] 3 (w.heap.size + 1 + 1) 0 (by simp)
  go_enter Tryd.func46, Tryd.ntmps46
  go_wp2_with fail
  generalize ((w.alloc (.cells #[.pointer (some ⟨b, 0, none⟩)] 26)).alloc (.cells #[.int .i64 (f : Int)] 3)).alloc (.cells #[.int .i64 t] 3) = W0 at *
  have g0 := g.below HB hb
  have s0 := s.below HB s.pos
  have hz := HB.size
  refine (find_btw f hx hy (fun d => (f : Int) + (stepY d * W + stepX d) == t) W0 g0 s0 (by omega) hr (fun d hd _ w' hb' => ?_)).mono ?_
  · have k : ∀ {a : Addr} {v : Value}, W0.cell? a = some v → w'.cell? a = some v := fun {a v} h => (hb'.cell (World.block_lt_of_cell? W0 a h)).trans h
    exact btw_fits d w' (g0.below hb' (by omega)) (s0.below hb' s0.pos) hd (by omega) (by omega) rfl (k q1) (k q2) (k q3)
  · rintro e w5 ⟨r, ok, rfl, hF, hb5⟩
    go_wp2
    go_ret2
    exact ⟨r, ok, rfl, hF, HB.trans (hb5.mono hz)⟩
end Go.Proofs.YtfhicijgpdpfpaaDoor
