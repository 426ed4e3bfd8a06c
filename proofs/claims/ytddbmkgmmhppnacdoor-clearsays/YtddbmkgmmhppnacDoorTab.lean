/-
  The table of how far one may go, as it lies in memory; whether a line ends; a line counted anew.
-/
import Derived.Test.YtddbmkgmmhppnacDoorClearM
import Derived.Test.YtddbmkgmmhppnacDoorRMoves
import Derived.Test.YtddbmkgmmhppnacDoorCopy
import Derived.Test.YtddbmkgmmhppnacDoorMapF
import Derived.Deep.LoopGhost
import Derived.Deep.RegionWith
import Derived.Deep.RegionHeld3
namespace Go.Proofs.YtddbmkgmmhppnacDoor
open Go.RowKit

theorem GridAt.keep {D : Nat → Prop} {w w' : World} {b : Nat} {W H V : Int} {bl : Nat → Bool} (g : GridAt w b W H V bl) (K : Keep D w w') (h : ¬ D b) : GridAt w' b W H V bl :=
  ⟨g.w1, g.w2, g.h1, g.h2, K.cellOf g.c0 h, K.cellOf g.c1 h, K.cellOf g.c2 h, fun i hi => K.cellOf (g.cs i hi) h⟩
theorem StepsAt.pos {w : World} (s : StepsAt w) : 0 < w.heap.size := World.block_lt_of_cell? w _ (s 0 (by decide)).1
theorem StepsAt.keep {D : Nat → Prop} {w w' : World} (s : StepsAt w) (K : Keep D w w') (h : ¬ D 0) : StepsAt w' :=
  fun i hi => ⟨K.cellOf (s i hi).1 h, K.cellOf (s i hi).2 h⟩
theorem Free.keep {D : Nat → Prop} {w w' : World} {b : Nat} (f : Free w b) (hb : b < w.heap.size) (K : Keep D w w') (h : ¬ D b) : Free w' b := fun o => (K.frozen (p := ⟨b, o, none⟩) hb h).trans (f o)

/-- a table lies in block tb, its grid in block pb -/
structure TabAt (w : World) (tb pb : Nat) (W H V : Int) (bl : Nat → Bool) (T : Nat → Nat → Nat) : Prop where
  p0 : w.cell? ⟨tb, 0, none⟩ = some (.pointer (some ⟨pb, 0, none⟩))
  ts : ∀ c d, c < 256 → d < 8 → w.cell? ⟨tb, 1 + c * 8 + d, none⟩ = some (.int .i64 (T c d : Nat))
  fr : Free w tb
  ga : GridAt w pb W H V bl
  gf : Free w pb
  st : StepsAt w
  ne : tb ≠ pb
  n0 : 0 ≠ tb
  n1 : 0 ≠ pb
theorem TabAt.blocks {w : World} {tb pb : Nat} {W H V : Int} {bl : Nat → Bool} {T : Nat → Nat → Nat} (t : TabAt w tb pb W H V bl T) : tb < w.heap.size ∧ pb < w.heap.size := ⟨World.block_lt_of_cell? w _ t.p0, World.block_lt_of_cell? w _ t.ga.c0⟩
theorem TabAt.keep {D : Nat → Prop} {w w' : World} {tb pb : Nat} {W H V : Int} {bl : Nat → Bool} {T : Nat → Nat → Nat} (t : TabAt w tb pb W H V bl T) (K : Keep D w w') (h1 : ¬ D tb) (h2 : ¬ D pb) (h3 : ¬ D 0) : TabAt w' tb pb W H V bl T :=
  ⟨K.cellOf t.p0 h1, fun c d hc hd => K.cellOf (t.ts c d hc hd) h1, t.fr.keep t.blocks.1 K h1, t.ga.keep K h2, t.gf.keep t.blocks.2 K h2, t.st.keep K h3, t.ne, t.n0, t.n1⟩
theorem TabAt.drewN {w : World} {tb pb : Nat} {W H V : Int} {bl : Nat → Bool} {T : Nat → Nat → Nat} (t : TabAt w tb pb W H V bl T) (m : Nat) : TabAt (w.drewN m) tb pb W H V bl T :=
  ⟨t.p0, t.ts, t.fr, t.ga.drewN m, t.gf, t.st.drewN m, t.ne, t.n0, t.n1⟩
theorem TabAt.below {w w' : World} {tb pb : Nat} {W H V : Int} {bl : Nat → Bool} {T : Nat → Nat → Nat} (t : TabAt w tb pb W H V bl T) (hb : Below w.heap.size w w') : TabAt w' tb pb W H V bl T :=
  t.keep (Keep.of_below (F := fun _ => False) hb) id id id
theorem off_ne {c d c' d' : Nat} (hd : d < 8) (hd' : d' < 8) (h : ¬ (c' = c ∧ d' = d)) : 1 + c' * 8 + d' ≠ 1 + c * 8 + d := by omega
theorem TabAt.set {w : World} {tb pb : Nat} {W H V : Int} {bl : Nat → Bool} {T : Nat → Nat → Nat} (t : TabAt w tb pb W H V bl T) {c d : Nat} (hc : c < 256) (hd : d < 8) (n : Nat) : TabAt (w.setCell ⟨tb, 1 + c * 8 + d, none⟩ (.int .i64 n)) tb pb W H V bl (upd2 T c d n) := by
  have K : Keep (fun k => k = tb) w (w.setCell ⟨tb, 1 + c * 8 + d, none⟩ (.int .i64 n)) := (Keep.refl (fun k => k = tb) w).setCell (p := ⟨tb, 1 + c * 8 + d, none⟩) (fun _ => rfl) _
  refine ⟨?_, fun c' d' hc' hd' => ?_, fun o => by simpa using t.fr o, t.ga.keep K (fun q => t.ne q.symm), t.gf.keep t.blocks.2 K (fun q => t.ne q.symm), t.st.keep K t.n0, t.ne, t.n0, t.n1⟩
  · rw [World.cell?_setCell_other _ _ _ _ (addr_ne (by omega))]; exact t.p0
  · unfold upd2
    by_cases q : c' = c ∧ d' = d
    · rw [if_pos q, q.1, q.2]
      exact World.cell?_setCell_same _ _ _ (t.ts c d hc hd)
    · rw [if_neg q, World.cell?_setCell_other _ _ _ _ (addr_ne (off_ne hd hd' q).symm)]
      exact t.ts c' d' hc' hd'

theorem cell_v {b : Nat} {W H V : Int} {bl : Nat → Bool} {x y : Int} {c : Nat} (hc : idx W x y = c) (w : World) (g : GridAt w b W H V bl) (hr : atB W H x y = true) :
    Calls Tryd.prog 31 #[.pointer (some ⟨b, 0, none⟩), .int .i64 x, .int .i64 y] w fun e w' => e = .returned (.tuple #[.int .i64 (c : Int), .nilIface]) ∧ w' = w := by
  have := cell_in x y w g hr
  rw [← (idx_parts hr).1, hc] at this
  exact this

set_option maxHeartbeats 400000 in
theorem isEnd_any {tb pb : Nat} {W H V : Int} {bl : Nat → Bool} {T : Nat → Nat → Nat} (x y : Int) (d : Nat) (w : World) (t : TabAt w tb pb W H V bl T) (hd : d < 8) (x1 : -50 ≤ x) (x2 : x ≤ 50) (y1 : -50 ≤ y) (y2 : y ≤ 50) :
    Calls Tryd.prog 22 #[.pointer (some ⟨tb, 0, none⟩), .int .i64 x, .int .i64 y, .int .i64 d] w fun e w' => e = .returned (.bool (!atB W H (x + stepX d) (y + stepY d))) ∧ ∃ m, w' = w.drewN m := by
  obtain ⟨s1, s2, s3, s4⟩ := step_bd d
  have hs := fun w h => step_any d w h hd
  have hp := t.p0
  generalize stepX d = dx at *
  generalize stepY d = dy at *
  cases ha : atB W H (x + dx) (y + dy) with
  | true =>
    have hc := fun w g => cell_in (b := pb) (W := W) (H := H) (V := V) (bl := bl) (x + dx) (y + dy) w g ha
    go_enter Tryd.func22, Tryd.ntmps22
    go_wp2_with (first | (go_at_call 30; refine (hs _ t.st).mono ?_; rintro e w' ⟨rfl, m, rfl⟩) | (go_at_call 31; refine (hc _ (t.ga.drewN _)).mono ?_; rintro e w' ⟨rfl, rfl⟩))
    go_ret
    exact ⟨rfl, _, rfl⟩
  | false =>
    have hc := fun w g => cell_out (b := pb) (W := W) (H := H) (V := V) (bl := bl) (x + dx) (y + dy) w g ha
    go_enter Tryd.func22, Tryd.ntmps22
    go_wp2_with (first | (go_at_call 30; refine (hs _ t.st).mono ?_; rintro e w' ⟨rfl, m, rfl⟩) | (go_at_call 31; refine (hc _ (t.ga.drewN _)).mono ?_; rintro e w' ⟨rfl, rfl⟩))
    go_ret
    exact ⟨rfl, _, rfl⟩
end Go.Proofs.YtddbmkgmmhppnacDoor
