/-
  New grids, the program's and the reference's.
-/
import Derived.Test.YtfhicijgpdpfpaaDoorMoves
namespace Go.Proofs.YtfhicijgpdpfpaaDoor
open Go.RowKit

/-- may a side be so? -/
def sideB (n : Int) : Bool := decide (1 ≤ n ∧ n ≤ 16)
theorem isSide_any (n : Int) (w : World) :
    Calls Tryd.prog 56 #[.int .i64 n] w fun e w' => e = .returned (.bool (sideB n)) ∧ w' = w := by
  by_cases h : 1 ≤ n
  · by_cases k : n ≤ 16
    · rw [show sideB n = true from decide_eq_true ⟨h, k⟩]
      go_enter Tryd.func56, Tryd.ntmps56
      go_wp2
      go_ret
      exact ⟨rfl, rfl⟩
    · rw [show sideB n = false from decide_eq_false fun q => k q.2]
      go_enter Tryd.func56, Tryd.ntmps56
      go_wp2
      go_ret
      exact ⟨rfl, rfl⟩
  · rw [show sideB n = false from decide_eq_false fun q => h q.1]
    go_enter Tryd.func56, Tryd.ntmps56
    go_wp2
    go_ret
    exact ⟨rfl, rfl⟩
theorem isSide_v {n : Int} {r : Bool} (hr : sideB n = r) (w : World) :
    Calls Tryd.prog 56 #[.int .i64 n] w fun e w' => e = .returned (.bool r) ∧ w' = w := hr ▸ isSide_any n w

set_option maxHeartbeats 400000 in
theorem new_bad (W H : Int) (w : World) (h : sideB W = false ∨ (sideB W = true ∧ sideB H = false)) :
    Calls Tryd.prog 22 #[.int .i64 W, .int .i64 H] w fun e w' => e = .returned (.tuple #[.pointer none, .iface 78 (.int .i64 1)]) ∧ w' = w := by
  rcases h with h | ⟨h, k⟩
  all_goals
    go_enter Tryd.func22, Tryd.ntmps22
    go_wp2_with (go_at_call 56; refine (isSide_v (by assumption) _).mono ?_; rintro e w' ⟨rfl, rfl⟩)
    go_ret2
    exact ⟨rfl, rfl⟩

/-- a new grid's cells, all free: the program's -/
def gridC (W H : Int) : Array Value := #[.int .i64 W, .int .i64 H, .int .i64 0] ++ Array.replicate 256 (.bool false)
/-- .. and the reference's -/
def refC (W H : Int) : Array Value := #[.int .i64 W, .int .i64 H] ++ (Array.replicate 256 (.bool false) ++ #[.int .i64 0])
theorem built65 (W H : Int) : Tryd.prog.built 90 [(0, .int .i64 W), (1, .int .i64 H)] = some (gridC W H) := by kernel_rfl
theorem built67 (W H : Int) : Tryd.prog.built 50 [(0, .int .i64 W), (1, .int .i64 H)] = some (refC W H) := by kernel_rfl

theorem wpList_build65 {ops : Array Oper} {rest : List Oper} {o : Oper} {a : Act} {w : World} {Q : Exit → Act → World → Prop} (hgd : o.guard = none) (x y : Operand) (ho : o.op = .build 90 #[(0, x), (1, y)]) (W H : Int)
    (hx : a.eval x = .int .i64 W) (hy : a.eval y = .int .i64 H) (h : wpList Tryd.prog ops Q rest (a.put o.dst (.agg (gridC W H))) w) : wpList Tryd.prog ops Q (o :: rest) a w :=
  wpList_plain hgd fun _ hK => wp_build 90 _ ho (by simp [hx, hy, built65]) (by simp [hx, hy, built65]; exact hK _ _ h)
theorem wpList_build67 {ops : Array Oper} {rest : List Oper} {o : Oper} {a : Act} {w : World} {Q : Exit → Act → World → Prop} (hgd : o.guard = none) (x y : Operand) (ho : o.op = .build 50 #[(0, x), (1, y)]) (W H : Int)
    (hx : a.eval x = .int .i64 W) (hy : a.eval y = .int .i64 H) (h : wpList Tryd.prog ops Q rest (a.put o.dst (.agg (refC W H))) w) : wpList Tryd.prog ops Q (o :: rest) a w :=
  wpList_plain hgd fun _ hK => wp_build 50 _ ho (by simp [hx, hy, built67]) (by simp [hx, hy, built67]; exact hK _ _ h)

set_option maxHeartbeats 400000 in
theorem new_ok (W H : Int) (w : World) (h : sideB W = true) (k : sideB H = true) :
    Calls Tryd.prog 22 #[.int .i64 W, .int .i64 H] w fun e w' => e = .returned (.tuple #[.pointer (some ⟨w.heap.size, 0, none⟩), .nilIface]) ∧ w' = w.alloc (.cells (gridC W H) 90) := by
  go_enter Tryd.func22, Tryd.ntmps22
  go_wp2_with (first | (go_at_call 56; refine (isSide_v (by assumption) _).mono ?_; rintro e w' ⟨rfl, rfl⟩) | refine wpList_build65 rfl _ _ rfl W H rfl rfl ?_)
  go_ret2
  exact ⟨rfl, rfl⟩

set_option maxHeartbeats 400000 in
theorem rnew_ok (W H : Int) (w : World) (w1 : 1 ≤ W) (w2 : W ≤ 16) (h1 : 1 ≤ H) (h2 : H ≤ 16) :
    Calls Tryd.prog 43 #[.int .i64 W, .int .i64 H] w fun e w' => e = .returned (.tuple #[.pointer (some ⟨w.heap.size, 0, none⟩), .int .i64 0]) ∧ w' = w.alloc (.cells (refC W H) 50) := by
  go_enter Tryd.func43, Tryd.ntmps43
  go_wp2_with (refine wpList_build67 rfl _ _ rfl W H rfl rfl ?_)
  go_ret2
  exact ⟨rfl, rfl⟩

set_option maxHeartbeats 400000 in
theorem rnew_bad (W H : Int) (w : World) (h : sideB W = false ∨ (sideB W = true ∧ sideB H = false)) :
    Calls Tryd.prog 43 #[.int .i64 W, .int .i64 H] w fun e w' => e = .returned (.tuple #[.pointer none, .int .i64 1]) ∧ w' = w := by
  have hc : (W < 1) ∨ (¬ W < 1 ∧ 16 < W) ∨ (¬ W < 1 ∧ ¬ 16 < W ∧ H < 1) ∨ (¬ W < 1 ∧ ¬ 16 < W ∧ ¬ H < 1 ∧ 16 < H) := by
    unfold sideB at h
    simp only [decide_eq_false_iff_not, decide_eq_true_eq] at h
    omega
  clear h
  rcases hc with h | ⟨h1, h2⟩ | ⟨h1, h2, h3⟩ | ⟨h1, h2, h3, h4⟩
  all_goals
    go_enter Tryd.func43, Tryd.ntmps43
    go_wp2
    go_ret2
    exact ⟨rfl, rfl⟩

theorem gridC_at (W H : Int) (i : Nat) (hi : i < 256) : (gridC W H)[3 + i]? = some (.bool false) := by
  unfold gridC
  rw [Array.getElem?_append_right (by simp)]
  simp [hi]
theorem gridAt_new (W H : Int) (w : World) (h : sideB W = true) (k : sideB H = true) : GridAt (w.alloc (.cells (gridC W H) 90)) w.heap.size W H 0 (fun _ => false) := by
  have a : 1 ≤ W ∧ W ≤ 16 := of_decide_eq_true h
  have b : 1 ≤ H ∧ H ≤ 16 := of_decide_eq_true k
  refine ⟨a.1, a.2, b.1, b.2, ?_, ?_, ?_, fun i hi => ?_⟩
  · rw [World.cell?_alloc_new]; unfold gridC; rw [Array.getElem?_append_left (by simp)]; rfl
  · rw [World.cell?_alloc_new]; unfold gridC; rw [Array.getElem?_append_left (by simp)]; rfl
  · rw [World.cell?_alloc_new]; unfold gridC; rw [Array.getElem?_append_left (by simp)]; rfl
  · rw [World.cell?_alloc_new]; exact gridC_at W H i hi
/-- the reference's grid lies in block b -/
structure RefAt (w : World) (b : Nat) (W H V : Int) (bl : Nat → Bool) : Prop where
  w1 : 1 ≤ W
  w2 : W ≤ 16
  h1 : 1 ≤ H
  h2 : H ≤ 16
  c0 : w.cell? ⟨b, 0, none⟩ = some (.int .i64 W)
  c1 : w.cell? ⟨b, 1, none⟩ = some (.int .i64 H)
  c2 : w.cell? ⟨b, 258, none⟩ = some (.int .i64 V)
  cs : ∀ i, i < 256 → w.cell? ⟨b, 2 + i, none⟩ = some (.bool (bl i))

theorem refAt_new (W H : Int) (w : World) (h : sideB W = true) (k : sideB H = true) : RefAt (w.alloc (.cells (refC W H) 50)) w.heap.size W H 0 (fun _ => false) := by
  have a : 1 ≤ W ∧ W ≤ 16 := of_decide_eq_true h
  have b : 1 ≤ H ∧ H ≤ 16 := of_decide_eq_true k
  refine ⟨a.1, a.2, b.1, b.2, ?_, ?_, ?_, fun i hi => ?_⟩
  · rw [World.cell?_alloc_new]; unfold refC; rw [Array.getElem?_append_left (by simp)]; rfl
  · rw [World.cell?_alloc_new]; unfold refC; rw [Array.getElem?_append_left (by simp)]; rfl
  · rw [World.cell?_alloc_new]; unfold refC; rw [Array.getElem?_append_right (by simp), Array.getElem?_append_right (by simp)]; simp
  · rw [World.cell?_alloc_new]; unfold refC; rw [Array.getElem?_append_right (by simp), Array.getElem?_append_left (by simp; omega)]; simp [hi]

/-- but for block b all is as it was -/
structure Touch (b : Nat) (w w' : World) : Prop where
  os : w'.os = w.os
  tape : w'.tape = w.tape
  output : w'.output = w.output
  size : w'.heap.size = w.heap.size
  other : ∀ k, k ≠ b → w'.heap[k]? = w.heap[k]?

theorem Touch.refl (b : Nat) (w : World) : Touch b w w := ⟨rfl, rfl, rfl, rfl, fun _ _ => rfl⟩
theorem Touch.drewN {b : Nat} {w w' : World} (h : Touch b w w') (m : Nat) : Touch b w (w'.drewN m) := ⟨h.os, h.tape, h.output, h.size, h.other⟩
theorem Touch.setCell {b : Nat} {w w' : World} (h : Touch b w w') (o : Nat) (v : Value) : Touch b w (w'.setCell ⟨b, o, none⟩ v) :=
  ⟨h.os, h.tape, h.output, by rw [← h.size]; simp [World.setCell], fun k hk => (Below.heap_setCell _ _ _ k hk).trans (h.other k hk)⟩
theorem Touch.below {b B : Nat} {a w w' : World} (h : Touch b w w') (hb : Below B a w) (hB : B ≤ b) : Below B a w' :=
  hb.trans ⟨h.os, h.tape, h.output, by rw [h.size]; exact Nat.le_refl _, fun k hk => h.other k (by omega)⟩
theorem Touch.cell {b : Nat} {w w' : World} (h : Touch b w w') {p : Addr} (hp : p.block ≠ b) : w'.cell? p = w.cell? p := World.cell?_of_block (h.other _ hp)
theorem Touch.frozen {b : Nat} {w w' : World} (h : Touch b w w') {p : Addr} (hp : p.block ≠ b) : w'.frozen? p = w.frozen? p := World.frozen?_of_block (h.other _ hp)
theorem GridAt.touch {w w' : World} {b b' : Nat} {W H V : Int} {bl : Nat → Bool} (g : GridAt w b W H V bl) (h : Touch b' w w') (hne : b ≠ b') : GridAt w' b W H V bl :=
  ⟨g.w1, g.w2, g.h1, g.h2, (h.cell (p := ⟨b, 0, none⟩) hne).trans g.c0, (h.cell (p := ⟨b, 1, none⟩) hne).trans g.c1, (h.cell (p := ⟨b, 2, none⟩) hne).trans g.c2, fun i hi => (h.cell (p := ⟨b, 3 + i, none⟩) hne).trans (g.cs i hi)⟩
theorem RefAt.touch {w w' : World} {b b' : Nat} {W H V : Int} {bl : Nat → Bool} (g : RefAt w b W H V bl) (h : Touch b' w w') (hne : b ≠ b') : RefAt w' b W H V bl :=
  ⟨g.w1, g.w2, g.h1, g.h2, (h.cell (p := ⟨b, 0, none⟩) hne).trans g.c0, (h.cell (p := ⟨b, 1, none⟩) hne).trans g.c1, (h.cell (p := ⟨b, 258, none⟩) hne).trans g.c2, fun i hi => (h.cell (p := ⟨b, 2 + i, none⟩) hne).trans (g.cs i hi)⟩
theorem RefAt.drewN {w : World} {b : Nat} {W H V : Int} {bl : Nat → Bool} (g : RefAt w b W H V bl) (m : Nat) : RefAt (w.drewN m) b W H V bl := ⟨g.w1, g.w2, g.h1, g.h2, g.c0, g.c1, g.c2, g.cs⟩
theorem RefAt.below {w w' : World} {b : Nat} {W H V : Int} {bl : Nat → Bool} {B : Nat} (g : RefAt w b W H V bl) (hb : Below B w w') (h : b < B) : RefAt w' b W H V bl :=
  ⟨g.w1, g.w2, g.h1, g.h2, (hb.cell (p := ⟨b, 0, none⟩) h).trans g.c0, (hb.cell (p := ⟨b, 1, none⟩) h).trans g.c1, (hb.cell (p := ⟨b, 258, none⟩) h).trans g.c2, fun i hi => (hb.cell (p := ⟨b, 2 + i, none⟩) h).trans (g.cs i hi)⟩
/-- one cell set -/
def upd (bl : Nat → Bool) (c : Nat) (v : Bool) : Nat → Bool := fun i => if i = c then v else bl i
end Go.Proofs.YtfhicijgpdpfpaaDoor
