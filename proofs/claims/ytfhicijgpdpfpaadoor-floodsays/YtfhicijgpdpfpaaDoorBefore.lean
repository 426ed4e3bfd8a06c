/-
  Which of two items is before the other.
-/
import Derived.Test.YtfhicijgpdpfpaaDoorRep
import Derived.Test.YtfhicijgpdpfpaaDoorAid
namespace Go.Proofs.YtfhicijgpdpfpaaDoor
open Go.RowKit

/-- is x popped ahead of y? -/
def befB (x y : Item) : Bool := decide (x.v < y.v) || (decide (x.v = y.v) && decide (x.id < y.id))
theorem befB_iff (x y : Item) : befB x y = true ↔ bef x y := by
  unfold befB bef
  simp
theorem befB_true {x y : Item} (h : bef x y) : befB x y = true := (befB_iff x y).mpr h
theorem befB_false {x y : Item} (h : ¬ bef x y) : befB x y = false := by
  cases e : befB x y with
  | false => rfl
  | true => exact absurd ((befB_iff x y).mp e) h
theorem of_befB {x y : Item} (h : befB x y = true) : bef x y := (befB_iff x y).mp h
theorem of_befB_false {x y : Item} (h : befB x y = false) : ¬ bef x y := fun k => by rw [befB_true k] at h; cases h

set_option maxHeartbeats 400000 in
theorem up_any (i : Nat) (w : World) (h : 0 < i) (h2 : i ≤ 1000000) : Calls Tryd.prog 101 #[.int .i64 i] w fun e w' => e = .returned (.int .i64 (upN i)) ∧ w' = w := by
  have e : ((upN i : Nat) : Int) = ((i : Int) - 1) / 2 := by unfold upN; omega
  have h3 : (1 : Int) ≤ (i : Int) := by omega
  have h4 : (i : Int) ≤ 1000000 := by omega
  rw [e]
  go_enter Tryd.func101, Tryd.ntmps101
  go_wp2
  go_ret
  exact ⟨rfl, rfl⟩

set_option maxHeartbeats 1000000 in
theorem before_any {b mb g cap n m : Nat} {it : Nat → Item} {f : Int → Option Value} (i j : Nat) (w : World) (R : Rep w b mb (.slice (some ⟨g, 0, none⟩) n cap) n it f m) (hi : i < n) (hj : j < n) (ki : okC (it i).s (it i).d) (kj : okC (it j).s (it j).d) :
    Calls Tryd.prog 100 #[.pointer (some ⟨b, 0, none⟩), .int .i64 i, .int .i64 j] w fun e w' => e = .returned (.bool (befB (it i) (it j))) ∧ Below w.heap.size w w' := by
  obtain ⟨hb, hmb, hbm, hgs⟩ := R.blocks
  obtain ⟨hg, hgb, hgm⟩ := hgs g rfl
  obtain ⟨c0, c1, f0, row, map, nb⟩ := R
  obtain ⟨q1, q2, q3⟩ := row.cells hi
  obtain ⟨p1, p2, p3⟩ := row.cells hj
  have h1 : (i : Int) < (n : Int) := by omega
  have h2 : (j : Int) < (n : Int) := by omega
  have hc := cmpC_val' (it i).s (it i).d (it j).s (it j).d ki kj
  have hcase : (cmpC (it i).s (it i).d (it j).s (it j).d = -1 ∧ befB (it i) (it j) = true) ∨ (cmpC (it i).s (it i).d (it j).s (it j).d = 1 ∧ befB (it i) (it j) = false) ∨
      (cmpC (it i).s (it i).d (it j).s (it j).d = 0 ∧ befB (it i) (it j) = decide ((it i).id < (it j).id)) := by
    have hc2 : cmpC (it i).s (it i).d (it j).s (it j).d = if (it i).v < (it j).v then -1 else if (it j).v < (it i).v then 1 else 0 := hc
    rw [hc2]
    by_cases e1 : (it i).v < (it j).v
    · left; exact ⟨if_pos e1, befB_true (Or.inl e1)⟩
    · by_cases e2 : (it j).v < (it i).v
      · right; left; exact ⟨by rw [if_neg e1, if_pos e2], befB_false (by unfold bef; omega)⟩
      · right; right
        refine ⟨by rw [if_neg e1, if_neg e2], ?_⟩
        have e3 : (it i).v = (it j).v := by omega
        unfold befB
        simp [e3]
  clear map row nb hc hgs
  generalize (it i).id = ia at *
  generalize (it i).s = sa at *
  generalize (it i).d = da at *
  generalize (it j).id = ib at *
  generalize (it j).s = sb at *
  generalize (it j).d = db at *
  rcases hcase with ⟨hr, hB⟩ | ⟨hr, hB⟩ | ⟨hr, hB⟩
  all_goals
    rw [hB]
    clear hB
    go_enter Tryd.func100, Tryd.ntmps100
    go_wp2
    go_region
    all_goals
      go_wp2_with (go_at_call 26; refine (compare_v hr _ ki kj).mono ?_; rintro e w' ⟨rfl, hb1⟩; obtain ⟨hq1, hq2⟩ := bcell hb1)
      go_ret
      exact ⟨rfl, Below.trans ((((Below.refl _ _).drew).alloc (Nat.le_refl _) _).alloc (by simp) _) (hb1.mono (by simp; omega))⟩

end Go.Proofs.YtfhicijgpdpfpaaDoor
