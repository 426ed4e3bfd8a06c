/-
  A grid's copy; the closed fact 'grounds'.
-/
import Derived.Test.YtfhicijgpdpfpaaDoorRMoves
import Derived.Deep.MidRow
namespace Go.Proofs.YtfhicijgpdpfpaaDoor
open Go.RowKit

theorem run_alloc65 (w : World) : (Instr.alloc 90 true (.tuple #[])).run Tryd.prog w = .ok (.pointer (some ⟨w.heap.size, 0, none⟩)) (w.alloc (.cells (gridC 0 0) 90)) := by kernel_rfl

theorem wpList_alloc65 {ops : Array Oper} {rest : List Oper} {o : Oper} {a : Act} {w : World} {Q : Exit → Act → World → Prop} (hgd : o.guard = none) (ho : o.op = .alloc 90)
    (h : wpList Tryd.prog ops Q rest (a.put o.dst (.pointer (some ⟨w.heap.size, 0, none⟩))) (w.alloc (.cells (gridC 0 0) 90))) : wpList Tryd.prog ops Q (o :: rest) a w :=
  wpList_plain hgd fun _ hK => by
    unfold Oper.wp execOp
    simp only [ho, Sem.run_bind, run_alloc65 w, Result.andThen_ok]
    exact hK _ _ h

/-- a grid's cells as a list -/
def gridL (W H V : Int) (bl : Nat → Bool) : List Value := [.int .i64 W, .int .i64 H, .int .i64 V] ++ (List.range 256).map fun i => Value.bool (bl i)
theorem gridL_len (W H V : Int) (bl : Nat → Bool) : (gridL W H V bl).length = 259 := by unfold gridL; simp
theorem gridL_at (W H V : Int) (bl : Nat → Bool) (i : Nat) (hi : i < 256) : (gridL W H V bl)[3 + i]? = some (.bool (bl i)) := by
  unfold gridL
  rw [List.getElem?_append_right (by simp)]
  simp [hi]
theorem gridL_one (W H V : Int) (bl : Nat → Bool) : ∀ v ∈ gridL W H V bl, v.oneCell' = true := by
  intro v hv
  unfold gridL at hv
  simp only [List.mem_append, List.mem_cons, List.mem_map, List.not_mem_nil, or_false] at hv
  rcases hv with (rfl | rfl | rfl) | ⟨i, _, rfl⟩ <;> rfl
theorem GridAt.range {w : World} {b : Nat} {W H V : Int} {bl : Nat → Bool} (g : GridAt w b W H V bl) : w.rangeAt b 0 (gridL W H V bl) := by
  intro j v hj
  rw [Nat.zero_add]
  have hlt : j < 259 := by
    have := (List.getElem?_eq_some_iff.1 hj).1
    rw [gridL_len] at this
    exact this
  by_cases h : j < 3
  · have hc : j = 0 ∨ j = 1 ∨ j = 2 := by omega
    unfold gridL at hj
    rw [List.getElem?_append_left (by simpa using h)] at hj
    rcases hc with rfl | rfl | rfl
    · simp at hj; rw [← hj]; exact g.c0
    · simp at hj; rw [← hj]; exact g.c1
    · simp at hj; rw [← hj]; exact g.c2
  · obtain ⟨i, rfl⟩ : ∃ i, j = 3 + i := ⟨j - 3, by omega⟩
    rw [gridL_at _ _ _ _ i (by omega)] at hj
    have : v = .bool (bl i) := (Option.some.inj hj).symm
    rw [this]
    exact g.cs i (by omega)
theorem gridAt_range {w : World} {b : Nat} {W H V : Int} {bl : Nat → Bool} (h : w.rangeAt b 0 (gridL W H V bl)) (w1 : 1 ≤ W) (w2 : W ≤ 16) (h1 : 1 ≤ H) (h2 : H ≤ 16) : GridAt w b W H V bl := by
  have at_ : ∀ j v, (gridL W H V bl)[j]? = some v → w.cell? ⟨b, j, none⟩ = some v := fun j v hj => by have := h j v hj; rw [Nat.zero_add] at this; exact this
  refine ⟨w1, w2, h1, h2, at_ 0 _ ?_, at_ 1 _ ?_, at_ 2 _ ?_, fun i hi => at_ (3 + i) _ (gridL_at W H V bl i hi)⟩
  · unfold gridL; rw [List.getElem?_append_left (by simp)]; rfl
  · unfold gridL; rw [List.getElem?_append_left (by simp)]; rfl
  · unfold gridL; rw [List.getElem?_append_left (by simp)]; rfl
theorem gridC_size (W H : Int) : (gridC W H).size = 259 := by unfold gridC; simp
theorem there_new (w : World) : (w.alloc (.cells (gridC 0 0) 90)).there w.heap.size 0 259 := by
  intro j hj
  rw [Nat.zero_add, World.cell?_alloc_new, Array.getElem?_eq_getElem (by rw [gridC_size]; exact hj)]
  exact ⟨rfl, free_alloc w _ _ _ (Nat.le_refl _) j⟩
theorem below_setCells {B : Nat} {a : World} (b : Nat) (hb : B ≤ b) : ∀ (vs : List Value) (o : Nat) {w : World}, Below B a w → Below B a (w.setCells b o vs)
  | [], _, _, h => h
  | v :: r, o, _, h => below_setCells b hb r (o + 1) (h.setCell (p := ⟨b, o, none⟩) hb v)
theorem lt_of_cellG {w : World} {b o : Nat} {v : Value} (h : w.cell? ⟨b, o, none⟩ = some v) : b < w.heap.size := by
  by_cases hb : b < w.heap.size
  · exact hb
  · unfold World.cell? at h
    rw [Array.getElem?_eq_none (by simpa using hb)] at h
    simp at h
theorem info65 : (Tryd.prog.info? 90).map (·.size) = some 259 := by kernel_rfl

set_option maxHeartbeats 400000 in
theorem copy_any {b : Nat} {W H V : Int} {bl : Nat → Bool} (w : World) (g : GridAt w b W H V bl) :
    Calls Tryd.prog 49 #[.pointer (some ⟨b, 0, none⟩)] w fun e w' => e = .returned (.pointer (some ⟨w.heap.size, 0, none⟩)) ∧ Below w.heap.size w w' ∧ w.heap.size < w'.heap.size ∧ GridAt w' w.heap.size W H V bl ∧ Free w' w.heap.size := by
  have hr := g.range
  have hl := gridL_len W H V bl
  have h1 := gridL_one W H V bl
  have w1 := g.w1
  have w2 := g.w2
  have h3 := g.h1
  have h4 := g.h2
  have ht := there_new w
  have hB : Below w.heap.size w ((w.alloc (.cells (gridC 0 0) 90)).setCells w.heap.size 0 (gridL W H V bl)) := below_setCells _ (Nat.le_refl _) _ _ ((Below.refl _ _).alloc (Nat.le_refl _) _)
  have hG : GridAt ((w.alloc (.cells (gridC 0 0) 90)).setCells w.heap.size 0 (gridL W H V bl)) w.heap.size W H V bl := gridAt_range (World.rangeAt_setCells_same _ _ _ _ (by rw [hl]; exact ht)) w1 w2 h3 h4
  have hF : Free ((w.alloc (.cells (gridC 0 0) 90)).setCells w.heap.size 0 (gridL W H V bl)) w.heap.size := fun o => by rw [World.frozen?_setCells]; exact free_alloc w _ _ _ (Nat.le_refl _) o
  have hZ : w.heap.size < ((w.alloc (.cells (gridC 0 0) 90)).setCells w.heap.size 0 (gridL W H V bl)).heap.size := lt_of_cellG hG.c0
  clear w1 w2 h3 h4 g
  generalize gridL W H V bl = cs at *
  go_enter Tryd.func49, Tryd.ntmps49
  go_wp2_with (first | (refine wpList_load_mid rfl 90 _ rfl b 0 rfl cs _ hr Tryd.underlying90 rfl (by rw [hl]; exact info65) ?_) | (refine wpList_alloc65 rfl rfl ?_) | (refine wpList_store_mid rfl 90 _ _ rfl w.heap.size 0 cs.toArray rfl rfl (by simpa [hl] using ht) (by simpa [hl] using info65) (all_oneCell_toArray h1) ?_))
  go_ret
  exact ⟨rfl, hB, hZ, hG, hF⟩

/-- two numbers in the block that was made last -/
theorem row_two (w : World) (a b : Nat) : OldRow (w.alloc (.cells #[.int .i64 (a : Int), .int .i64 (b : Int)] 3)) (some ⟨w.heap.size, 0, none⟩) 2 (fun i => (([a, b].getD i 0 : Nat) : Int)) := fun i hi => by
  refine ⟨_, _, rfl, by simp, ?_⟩
  rw [Nat.zero_add, World.cell?_alloc_new]
  have hc : i = 0 ∨ i = 1 := by omega
  rcases hc with rfl | rfl <;> rfl

end Go.Proofs.YtfhicijgpdpfpaaDoor
