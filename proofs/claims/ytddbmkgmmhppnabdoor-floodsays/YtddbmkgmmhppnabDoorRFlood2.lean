/-
  The reference's flood: the walk.
-/
import Derived.Test.YtddbmkgmmhppnabDoorRFlood
namespace Go.Proofs.YtddbmkgmmhppnabDoor
open Go.RowKit Go.Maps

/-- what the reference's flood answers -/
def RFlooded (w w' : World) (e : Ending) (W H : Int) (bl : Nat → Bool) (o : Int) : Prop :=
  ∃ F, e = .returned (.tuple #[.agg (costL F).toArray, .agg (isL F).toArray]) ∧ Best (Edge W H bl) o F ∧ Below w.heap.size w w'

theorem new_there (w : World) (l : List Value) (t : TypeId) (n : Nat) (hl : l.length = n) : (w.alloc (.cells l.toArray t)).there w.heap.size 0 n := by
  intro j hj
  rw [Nat.zero_add, World.cell?_alloc_new, List.getElem?_toArray, List.getElem?_eq_getElem (by omega)]
  exact ⟨rfl, free_alloc w _ _ _ (Nat.le_refl _) j⟩

/-- the world ahead of the loop -/
theorem fst_start {W H : Int} (w : World) (c : Nat) (hr : inB W H c = true) (h256 : W * H ≤ 256) :
    FSt w ((((((w.alloc (.cells zC 54)).alloc (.cells zB 55)).alloc (.cells zC 54)).alloc (.cells zB 55)).setCell ⟨w.heap.size + 1 + 1 + 1, c, none⟩ (.bool true)).alloc (.cells #[.int .i64 (c : Int)] 3)) (.slice (some ⟨w.heap.size + 1 + 1 + 1 + 1, 0, none⟩) 1 1) [c] W H (putH (fun _ => none) c 0 0) := by
  have hc : 0 ≤ (c : Int) ∧ (c : Int) < W * H := of_decide_eq_true hr
  have t0 : (w.alloc (.cells zC 54)).there w.heap.size 0 512 := new_there w (List.replicate 512 (Value.int .i64 0)) 54 512 List.length_replicate
  have t1 : ((w.alloc (.cells zC 54)).alloc (.cells zB 55)).there (w.heap.size + 1) 0 256 := by
    have := new_there (w.alloc (.cells zC 54)) (List.replicate 256 (Value.bool false)) 55 256 List.length_replicate
    rw [show (w.alloc (.cells zC 54)).heap.size = w.heap.size + 1 by simp] at this
    exact this
  have s1 : (w.alloc (.cells zC 54)).heap.size = w.heap.size + 1 := by simp
  have s2 : ((w.alloc (.cells zC 54)).alloc (.cells zB 55)).heap.size = w.heap.size + 2 := by simp
  have B1 : Below w.heap.size w (w.alloc (.cells zC 54)) := (Below.refl _ _).alloc (Nat.le_refl _) _
  have B2 : Below (w.alloc (.cells zC 54)).heap.size (w.alloc (.cells zC 54)) ((w.alloc (.cells zC 54)).alloc (.cells zB 55)) := (Below.refl _ _).alloc (Nat.le_refl _) _
  have B12 := B1.trans (B2.mono (by rw [s1]; omega))
  have t0' := there_keep t0 (by rw [s1]; omega) (Keep.of_below (F := fun _ => False) B2) id
  generalize (w.alloc (.cells zC 54)).alloc (.cells zB 55) = w2 at *
  have L0 := LabAt.new w2
  rw [s2] at L0
  have s4 : ((w2.alloc (.cells zC 54)).alloc (.cells zB 55)).heap.size = w.heap.size + 4 := by simp [s2]
  have B3 : Below w2.heap.size w2 ((w2.alloc (.cells zC 54)).alloc (.cells zB 55)) := ((Below.refl _ _).alloc (Nat.le_refl _) _).alloc (by simp) _
  have B13 := B12.trans (B3.mono (by rw [s2]; omega))
  have t0'' := there_keep t0' (by rw [s2]; omega) (Keep.of_below (F := fun _ => False) B3) id
  have t1'' := there_keep t1 (by rw [s2]; omega) (Keep.of_below (F := fun _ => False) B3) id
  generalize (w2.alloc (.cells zC 54)).alloc (.cells zB 55) = w4 at *
  have L1 := L0.first c (by omega)
  have K : Keep (fun k => k = w.heap.size + 2 + 1) w4 (w4.setCell ⟨w.heap.size + 2 + 1, c, none⟩ (.bool true)) := (Keep.refl (fun k => k = w.heap.size + 2 + 1) w4).setCell (p := ⟨w.heap.size + 2 + 1, c, none⟩) (fun _ => rfl) _
  have s5 : (w4.setCell ⟨w.heap.size + 2 + 1, c, none⟩ (.bool true)).heap.size = w.heap.size + 4 := by rw [← s4]; simp
  have B14 := B13.trans (K.to_below (by rw [s4]; omega) (fun k hk => by omega))
  have u0 := there_keep t0'' (by rw [s4]; omega) K (by omega)
  have u1 := there_keep t1'' (by rw [s4]; omega) K (by omega)
  show FSt w ((w4.setCell ⟨w.heap.size + 2 + 1, c, none⟩ (.bool true)).alloc (.cells #[.int .i64 (c : Int)] 3)) (.slice (some ⟨w.heap.size + 4, 0, none⟩) 1 1) [c] W H (putH (fun _ => none) c 0 0)
  generalize w4.setCell ⟨w.heap.size + 2 + 1, c, none⟩ (.bool true) = w5 at *
  have own := World.ownsRow_lit (base := w.heap.size + 4) (e := 3) (size := 1) w5 #[.int .i64 (c : Int)] 1 (by rw [s5]; omega) (by unfold maxLen; omega) rfl
  rw [s5] at own
  have B5 : Below w5.heap.size w5 (w5.alloc (.cells #[.int .i64 (c : Int)] 3)) := (Below.refl _ _).alloc (Nat.le_refl _) _
  refine ⟨own, L1.below B5, there_keep u0 (by rw [s5]; omega) (Keep.of_below (F := fun _ => False) B5) id, there_keep u1 (by rw [s5]; omega) (Keep.of_below (F := fun _ => False) B5) id, B14.trans (B5.mono (by rw [s5]; omega)), fun j hj => ?_, ?_⟩
  · have : j = 0 := by simp at hj; omega
    subst this
    exact ⟨hr, by show (putH _ (c : Int) 0 0 (c : Int)).isSome = true; rw [putH_same]; rfl⟩
  · have := pot_start (c : Int) (W * H).toNat (by omega) (by omega) (by omega)
    show ((1 : Nat) : Int) + _ ≤ _
    omega
end Go.Proofs.YtddbmkgmmhppnabDoor
