/-
  Who may go may come back: the plain mathematics of moves on a grid; no Go in sight.
-/
import Derived.Test.YtfhicijgpdpfpaaDoorMoves
namespace Go.Proofs.YtfhicijgpdpfpaaDoor

theorem open_in {W H x y : Int} {bl : Nat → Bool} (h : openB W H bl x y = true) : 0 ≤ x ∧ x < W ∧ 0 ≤ y ∧ y < H := by
  unfold openB at h
  rw [Bool.and_eq_true] at h
  exact of_decide_eq_true h.1

theorem mem_mvs {W H x y : Int} {bl : Nat → Bool} {k d : Nat} : d ∈ mvs W H bl x y k ↔ d < k ∧ mayB W H bl x y d = true := by
  unfold mvs; rw [List.mem_filter, List.mem_range]

theorem getD_at (l : List Nat) (i : Nat) (h : i < l.length) : l.getD i 0 = l[i] := by
  rw [List.getD_eq_getElem?_getD, List.getElem?_eq_getElem h]; rfl

/-- the direction back -/
def opp (d : Nat) : Nat := (d + 4) % 8
theorem opp_lt (d : Nat) : opp d < 8 := Nat.mod_lt _ (by decide)
theorem opp_step (d : Nat) (h : d < 8) : stepX (opp d) = -stepX d ∧ stepY (opp d) = -stepY d := by
  have hks : d = 0 ∨ d = 1 ∨ d = 2 ∨ d = 3 ∨ d = 4 ∨ d = 5 ∨ d = 6 ∨ d = 7 := by omega
  rcases hks with rfl | rfl | rfl | rfl | rfl | rfl | rfl | rfl <;> decide
theorem opp_four (d : Nat) (h : d < 8) : ((opp d : Int) - (d : Int)).tmod 4 = 0 := by
  have hks : d = 0 ∨ d = 1 ∨ d = 2 ∨ d = 3 ∨ d = 4 ∨ d = 5 ∨ d = 6 ∨ d = 7 := by omega
  rcases hks with rfl | rfl | rfl | rfl | rfl | rfl | rfl | rfl <;> decide

theorem may_parts {W H x y : Int} {bl : Nat → Bool} {d : Nat} (h : mayB W H bl x y d = true) :
    openB W H bl x y = true ∧ openB W H bl (x + stepX d) (y + stepY d) = true ∧ openB W H bl (x + stepX d) y = true ∧ openB W H bl x (y + stepY d) = true := by
  unfold mayB at h
  simp only [Bool.and_eq_true] at h
  exact ⟨h.1.1.1, h.1.1.2, h.1.2, h.2⟩

theorem may_back {W H x y : Int} {bl : Nat → Bool} {d : Nat} (hd : d < 8) (h : mayB W H bl x y d = true) : mayB W H bl (x + stepX d) (y + stepY d) (opp d) = true := by
  obtain ⟨a, b, c, e⟩ := may_parts h
  obtain ⟨o1, o2⟩ := opp_step d hd
  unfold mayB
  rw [o1, o2, show x + stepX d + -stepX d = x from by omega, show y + stepY d + -stepY d = y from by omega, a, b, c, e]
  rfl

theorem place_to {W H x y : Int} (w1 : 1 ≤ W) (x1 : 0 ≤ x) (x2 : x < W) (y1 : 0 ≤ y) (y2 : y < H) : inB W H (y * W + x) = true ∧ (y * W + x) % W = x ∧ (y * W + x) / W = y := by
  refine ⟨decide_eq_true ⟨?_, ?_⟩, ?_, ?_⟩
  · have := Int.mul_nonneg y1 (show 0 ≤ W by omega); omega
  · have := Int.mul_le_mul_of_nonneg_right (show y + 1 ≤ H by omega) (show 0 ≤ W by omega)
    rw [Int.add_mul, Int.one_mul, Int.mul_comm H W] at this
    omega
  · rw [Int.add_comm, Int.add_mul_emod_self_right]; exact Int.emod_eq_of_lt x1 x2
  · rw [Int.add_comm, Int.add_mul_ediv_right _ _ (by omega), Int.ediv_eq_zero_of_lt x1 x2]; omega

theorem cell_eq (W c : Int) : c / W * W + c % W = c := by
  have := Int.mul_ediv_add_emod c W
  rw [Int.mul_comm] at this
  exact this

/-- one step from a cell: it is a cell, and there is a way back -/
theorem back_facts {W H c : Int} {bl : Nat → Bool} {d : Nat} (w1 : 1 ≤ W) (hd : d < 8) (h : mayB W H bl (c % W) (c / W) d = true) :
    inB W H (c + (stepY d * W + stepX d)) = true ∧
    ∃ j, j < (mvs W H bl ((c + (stepY d * W + stepX d)) % W) ((c + (stepY d * W + stepX d)) / W) 8).length ∧
      (mvs W H bl ((c + (stepY d * W + stepX d)) % W) ((c + (stepY d * W + stepX d)) / W) 8).getD j 0 = opp d := by
  have hb := may_back hd h
  obtain ⟨_, o2, _, _⟩ := may_parts h
  obtain ⟨a1, a2, a3, a4⟩ := open_in o2
  have e : c + (stepY d * W + stepX d) = (c / W + stepY d) * W + (c % W + stepX d) := by
    have := cell_eq W c
    rw [Int.add_mul]
    omega
  obtain ⟨p1, p2, p3⟩ := place_to (H := H) w1 a1 a2 a3 a4
  rw [e, p2, p3]
  refine ⟨p1, ?_⟩
  have hm : opp d ∈ mvs W H bl (c % W + stepX d) (c / W + stepY d) 8 := mem_mvs.mpr ⟨opp_lt d, hb⟩
  obtain ⟨j, hj, he⟩ := List.mem_iff_getElem.mp hm
  exact ⟨j, hj, by rw [getD_at _ _ hj]; exact he⟩

theorem back_home {W c : Int} {d : Nat} (hd : d < 8) : c + (stepY d * W + stepX d) + (stepY (opp d) * W + stepX (opp d)) = c := by
  obtain ⟨o1, o2⟩ := opp_step d hd
  rw [o1, o2, Int.neg_mul]
  omega

theorem mvs_sorted (W H x y : Int) (bl : Nat → Bool) (k : Nat) : (mvs W H bl x y k).Pairwise (· < ·) :=
  List.Pairwise.filter _ List.pairwise_lt_range

theorem mvs_rise {W H x y : Int} {bl : Nat → Bool} {k i : Nat} (h0 : 0 < i) (hi : i < (mvs W H bl x y k).length) : (mvs W H bl x y k).getD (i - 1) 0 < (mvs W H bl x y k).getD i 0 := by
  rw [getD_at _ _ hi, getD_at _ _ (by omega)]
  exact List.pairwise_iff_getElem.mp (mvs_sorted W H x y bl k) (i - 1) i (by omega) hi (by omega)

theorem mvs_at {W H x y : Int} {bl : Nat → Bool} {k i : Nat} (hi : i < (mvs W H bl x y k).length) : (mvs W H bl x y k).getD i 0 < k ∧ mayB W H bl x y ((mvs W H bl x y k).getD i 0) = true := by
  rw [getD_at _ _ hi]
  exact mem_mvs.mp (List.getElem_mem hi)
end Go.Proofs.YtfhicijgpdpfpaaDoor
