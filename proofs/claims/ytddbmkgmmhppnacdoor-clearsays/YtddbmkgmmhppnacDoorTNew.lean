/-
  A new table.
-/
import Derived.Test.YtddbmkgmmhppnacDoorThr
namespace Go.Proofs.YtddbmkgmmhppnacDoor
open Go.RowKit

/-- a new table's cells -/
def tabC (p : Value) : Array Value := (p :: List.replicate 2048 (.int .i64 0)).toArray
set_option maxRecDepth 1000000 in
theorem built58 (p : Option Addr) : Tryd.prog.built 58 [(0, .pointer p)] = some (tabC (.pointer p)) := by kernel_rfl
theorem wpList_build58 {ops : Array Oper} {rest : List Oper} {o : Oper} {a : Act} {w : World} {Q : Exit → Act → World → Prop} (hgd : o.guard = none) (x : Operand) (ho : o.op = .build 58 #[(0, x)]) (p : Option Addr)
    (hx : a.eval x = .pointer p) (h : wpList Tryd.prog ops Q rest (a.put o.dst (.agg (tabC (.pointer p)))) w) : wpList Tryd.prog ops Q (o :: rest) a w :=
  wpList_plain hgd fun _ hK => wp_build 58 _ ho (by simp [hx, built58]) (by simp [hx, built58]; exact hK _ _ h)
theorem tabC_at (p : Value) (i : Nat) (hi : i < 2048) : (tabC p)[1 + i]? = some (.int .i64 0) := by
  unfold tabC
  rw [List.getElem?_toArray, Nat.add_comm, List.getElem?_cons_succ, List.getElem?_replicate, if_pos hi]
theorem tabAt_new {w : World} {pb : Nat} {W H V : Int} {bl : Nat → Bool} (g : GridAt w pb W H V bl) (f : Free w pb) (s : StepsAt w) (n1 : 0 ≠ pb) : TabAt (w.alloc (.cells (tabC (.pointer (some ⟨pb, 0, none⟩))) 58)) w.heap.size pb W H V bl (fun _ _ => 0) := by
  have hp : pb < w.heap.size := World.block_lt_of_cell? w _ g.c0
  have hB : Below w.heap.size w (w.alloc (.cells (tabC (.pointer (some ⟨pb, 0, none⟩))) 58)) := (Below.refl _ _).alloc (Nat.le_refl _) _
  refine ⟨?_, fun c d hc hd => ?_, free_alloc w _ _ _ (Nat.le_refl _), g.below hB hp, fun o => (hB.frozen (p := ⟨pb, o, none⟩) hp).trans (f o), s.below hB s.pos, by omega, by have := s.pos; omega, n1⟩
  · rw [World.cell?_alloc_new]; unfold tabC; rw [List.getElem?_toArray, List.getElem?_cons_zero]
  · rw [World.cell?_alloc_new, Nat.add_assoc]; exact tabC_at _ (c * 8 + d) (by omega)

/-- a table that was made anew -/
def Tabled (w w' : World) (e : Ending) (W H V : Int) (bl : Nat → Bool) : Prop :=
  ∃ tb pb, e = .returned (.pointer (some ⟨tb, 0, none⟩)) ∧ TabOk w' tb pb W H V bl ∧ w.heap.size ≤ tb ∧ w.heap.size ≤ pb ∧ Below w.heap.size w w'

end Go.Proofs.YtddbmkgmmhppnacDoor
