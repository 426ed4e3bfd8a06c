/-
  Texts laid together: CostB, Before, Swap.
-/
import Derived.Test.YtmnpplkjhnoglaaGreatDoorP6
/-
  Costs of the program: which of two is less.
-/
namespace Go.Proofs.YtmnpplkjhnoglaaGreatDoor
open Go.RowKit

set_option maxHeartbeats 400000 in
theorem sqs_any (n : Int) (w : World) (h1 : -8388608 ≤ n) (h2 : n ≤ 8388608) :
    Calls Tryz.prog 157 #[.int .i64 n] w fun e w' => e = .returned (.int .i64 (sqs n)) ∧ w' = w := by
  obtain ⟨b1, b2⟩ := mul_self_bd n h1 h2
  have e1 : -n * n = -(n * n) := Int.neg_mul n n
  have b3 : -70368744177664 ≤ -n * n := by omega
  have b4 : -n * n ≤ 0 := by omega
  clear e1
  by_cases h : n < 0
  · have e : sqs n = -n * n := by unfold sqs; rw [if_pos h]
    rw [e]; clear e
    go_enter Tryz.func157, Tryz.ntmps157
    go_wp2
    go_ret
    exact ⟨rfl, rfl⟩
  · have e : sqs n = n * n := by unfold sqs; rw [if_neg h]
    rw [e]; clear e
    go_enter Tryz.func157, Tryz.ntmps157
    go_wp2
    go_ret
    exact ⟨rfl, rfl⟩

set_option maxHeartbeats 400000 in
theorem isnan_any (n : Int) (w : World) :
    Calls Tryz.prog 170 #[.int .i64 n] w fun e w' => e = .returned (.bool false) ∧ w' = w := by
  go_enter Tryz.func170, Tryz.ntmps170
  go_wp2
  go_ret
  exact ⟨rfl, rfl⟩

set_option maxHeartbeats 400000 in
theorem cmpI_any (a b : Int) (w : World) :
    Calls Tryz.prog 156 #[.int .i64 a, .int .i64 b] w fun e w' => e = .returned (.int .i64 (cmpI a b)) ∧ w' = w := by
  by_cases h : a < b
  · have e : cmpI a b = -1 := by unfold cmpI; rw [if_pos h]
    rw [e]; clear e
    go_enter Tryz.func156, Tryz.ntmps156
    go_wp2_with (go_at_call 170; refine (isnan_any _ _).mono ?_; rintro e w' ⟨rfl, rfl⟩)
    go_ret
    exact ⟨rfl, rfl⟩
  · by_cases h2 : b < a
    · have e : cmpI a b = 1 := by unfold cmpI; rw [if_neg h, if_pos h2]
      rw [e]; clear e
      go_enter Tryz.func156, Tryz.ntmps156
      go_wp2_with (go_at_call 170; refine (isnan_any _ _).mono ?_; rintro e w' ⟨rfl, rfl⟩)
      go_ret
      exact ⟨rfl, rfl⟩
    · have e : cmpI a b = 0 := by unfold cmpI; rw [if_neg h, if_neg h2]
      rw [e]; clear e
      go_enter Tryz.func156, Tryz.ntmps156
      go_wp2_with (go_at_call 170; refine (isnan_any _ _).mono ?_; rintro e w' ⟨rfl, rfl⟩)
      go_ret
      exact ⟨rfl, rfl⟩

set_option maxHeartbeats 400000 in
theorem compare_any (s d t u : Int) (w : World) (h : okC s d) (k : okC t u) :
    Calls Tryz.prog 132 #[.agg #[.int .i64 s, .int .i64 d], .agg #[.int .i64 t, .int .i64 u]] w fun e w' => e = .returned (.int .i64 (cmpC s d t u)) ∧ Below w.heap.size w w' := by
  obtain ⟨h1, h2, h3, h4⟩ := h
  obtain ⟨k1, k2, k3, k4⟩ := k
  have b := sqs_bd (u - d) (by omega) (by omega)
  go_enter Tryz.func132, Tryz.ntmps132
  go_wp2_with (first | (go_at_call 157; refine (sqs_any _ _ ?_ ?_).mono ?_; (omega); (omega); rintro e w' ⟨rfl, rfl⟩) | (go_at_call 156; refine (cmpI_any _ _ _).mono ?_; rintro e w' ⟨rfl, rfl⟩))
  go_ret
  exact ⟨rfl, ((Below.refl _ _).alloc (Nat.le_refl _) _).alloc (by simp) _⟩

set_option maxHeartbeats 400000 in
theorem less_any (s d t u : Int) (w : World) (h : okC s d) (k : okC t u) :
    Calls Tryz.prog 107 #[.agg #[.int .i64 s, .int .i64 d], .agg #[.int .i64 t, .int .i64 u]] w fun e w' => e = .returned (.bool (decide (cmpC s d t u < 0))) ∧ Below w.heap.size w w' := by
  go_enter Tryz.func107, Tryz.ntmps107
  go_wp2_with (go_at_call 132; refine (compare_any s d t u _ h k).mono ?_; rintro e w' ⟨rfl, hb⟩)
  go_ret
  exact ⟨rfl, ((Below.refl _ _).alloc (Nat.le_refl _) _).alloc (by simp) _ |>.trans (hb.mono (by simp; omega))⟩

theorem less_v {s d t u : Int} {r : Bool} (hr : ltB s d t u = r) (w : World) (h : okC s d) (k : okC t u) :
    Calls Tryz.prog 107 #[.agg #[.int .i64 s, .int .i64 d], .agg #[.int .i64 t, .int .i64 u]] w fun e w' => e = .returned (.bool r) ∧ Below w.heap.size w w' := hr ▸ less_any s d t u w h k
theorem compare_v {s d t u r : Int} (hr : cmpC s d t u = r) (w : World) (h : okC s d) (k : okC t u) :
    Calls Tryz.prog 132 #[.agg #[.int .i64 s, .int .i64 d], .agg #[.int .i64 t, .int .i64 u]] w fun e w' => e = .returned (.int .i64 r) ∧ Below w.heap.size w w' := hr ▸ compare_any s d t u w h k

end Go.Proofs.YtmnpplkjhnoglaaGreatDoor
/-
  Which of two items is before the other.
-/
namespace Go.Proofs.YtmnpplkjhnoglaaGreatDoor
open Go.RowKit

/-- is x popped ahead of y? -/
def befB (x y : Item) : Bool := decide (x.v < y.v) || (decide (x.v = y.v) && decide (x.id < y.id))
theorem befB_iff (x y : Item) : befB x y = true ↔ bef x y := by
  unfold befB bef
  simp
theorem befB_true {x y : Item} (h : bef x y) : befB x y = true := (befB_iff x y).mpr h
theorem befB_false {x y : Item} (h : ¬ bef x y) : befB x y = false := by
  cases e : befB x y with
  | false => rfl
  | true => exact absurd ((befB_iff x y).mp e) h
theorem of_befB {x y : Item} (h : befB x y = true) : bef x y := (befB_iff x y).mp h
theorem of_befB_false {x y : Item} (h : befB x y = false) : ¬ bef x y := fun k => by rw [befB_true k] at h; cases h

set_option maxHeartbeats 400000 in
theorem up_any (i : Nat) (w : World) (h : 0 < i) (h2 : i ≤ 1000000) : Calls Tryz.prog 169 #[.int .i64 i] w fun e w' => e = .returned (.int .i64 (upN i)) ∧ w' = w := by
  have e : ((upN i : Nat) : Int) = ((i : Int) - 1) / 2 := by unfold upN; omega
  have h3 : (1 : Int) ≤ (i : Int) := by omega
  have h4 : (i : Int) ≤ 1000000 := by omega
  rw [e]
  go_enter Tryz.func169, Tryz.ntmps169
  go_wp2
  go_ret
  exact ⟨rfl, rfl⟩

set_option maxHeartbeats 1000000 in
theorem before_any {b mb g cap n m : Nat} {it : Nat → Item} {f : Int → Option Value} (i j : Nat) (w : World) (R : Rep w b mb (.slice (some ⟨g, 0, none⟩) n cap) n it f m) (hi : i < n) (hj : j < n) (ki : okC (it i).s (it i).d) (kj : okC (it j).s (it j).d) :
    Calls Tryz.prog 155 #[.pointer (some ⟨b, 0, none⟩), .int .i64 i, .int .i64 j] w fun e w' => e = .returned (.bool (befB (it i) (it j))) ∧ Below w.heap.size w w' := by
  obtain ⟨hb, hmb, hbm, hgs⟩ := R.blocks
  obtain ⟨hg, hgb, hgm⟩ := hgs g rfl
  obtain ⟨c0, c1, f0, row, map, nb⟩ := R
  obtain ⟨q1, q2, q3⟩ := row.cells hi
  obtain ⟨p1, p2, p3⟩ := row.cells hj
  have h1 : (i : Int) < (n : Int) := by omega
  have h2 : (j : Int) < (n : Int) := by omega
  have hc := cmpC_val' (it i).s (it i).d (it j).s (it j).d ki kj
  have hcase : (cmpC (it i).s (it i).d (it j).s (it j).d = -1 ∧ befB (it i) (it j) = true) ∨ (cmpC (it i).s (it i).d (it j).s (it j).d = 1 ∧ befB (it i) (it j) = false) ∨
      (cmpC (it i).s (it i).d (it j).s (it j).d = 0 ∧ befB (it i) (it j) = decide ((it i).id < (it j).id)) := by
    have hc2 : cmpC (it i).s (it i).d (it j).s (it j).d = if (it i).v < (it j).v then -1 else if (it j).v < (it i).v then 1 else 0 := hc
    rw [hc2]
    by_cases e1 : (it i).v < (it j).v
    · left; exact ⟨if_pos e1, befB_true (Or.inl e1)⟩
    · by_cases e2 : (it j).v < (it i).v
      · right; left; exact ⟨by rw [if_neg e1, if_pos e2], befB_false (by unfold bef; omega)⟩
      · right; right
        refine ⟨by rw [if_neg e1, if_neg e2], ?_⟩
        have e3 : (it i).v = (it j).v := by omega
        unfold befB
        simp [e3]
  clear map row nb hc hgs
  generalize (it i).id = ia at *
  generalize (it i).s = sa at *
  generalize (it i).d = da at *
  generalize (it j).id = ib at *
  generalize (it j).s = sb at *
  generalize (it j).d = db at *
  rcases hcase with ⟨hr, hB⟩ | ⟨hr, hB⟩ | ⟨hr, hB⟩
  all_goals
    rw [hB]
    clear hB
    go_enter Tryz.func155, Tryz.ntmps155
    go_wp2
    go_region
    all_goals
      go_wp2_with (go_at_call 132; refine (compare_v hr _ ki kj).mono ?_; rintro e w' ⟨rfl, hb1⟩; obtain ⟨hq1, hq2⟩ := bcell hb1)
      go_ret
      exact ⟨rfl, Below.trans ((((Below.refl _ _).drew).alloc (Nat.le_refl _) _).alloc (by simp) _) (hb1.mono (by simp; omega))⟩

end Go.Proofs.YtmnpplkjhnoglaaGreatDoor
/-
  What changing two items' places does.
-/
namespace Go.Proofs.YtmnpplkjhnoglaaGreatDoor
open Go.RowKit

theorem Keep.two {F : Nat → Prop} {w w' : World} (h : Keep F w w') (n : Nat) (hn : n + 1 + 1 ≤ w.heap.size) (hF : ∀ k, n ≤ k → ¬ F k) :
    (∀ o, w'.cell? ⟨n, o, none⟩ = w.cell? ⟨n, o, none⟩) ∧ (∀ o, w'.cell? ⟨n + 1, o, none⟩ = w.cell? ⟨n + 1, o, none⟩) :=
  ⟨fun o => h.cell (p := ⟨n, o, none⟩) (by show n < _; omega) (hF n (by omega)), fun o => h.cell (p := ⟨n + 1, o, none⟩) (by show n + 1 < _; omega) (hF (n + 1) (by omega))⟩

set_option maxHeartbeats 1000000 in
theorem swap_any {b mb g cap n m : Nat} {it : Nat → Item} {f : Int → Option Value} (i j : Nat) (w : World) (R : Rep w b mb (.slice (some ⟨g, 0, none⟩) n cap) n it f m) (hi : i < n) (hj : j < n) (hm : m ≤ 1000000)
    (ki : (Lit.int .i64 (it i).id).wf = true) (kj : (Lit.int .i64 (it j).id).wf = true) (fi : (f (it i).id).isSome = true) (fj : (f (it j).id).isSome = true) :
    Calls Tryz.prog 131 #[.pointer (some ⟨b, 0, none⟩), .int .i64 i, .int .i64 j] w fun e w' => e = .returned (.tuple #[]) ∧ Rep w' b mb (.slice (some ⟨g, 0, none⟩) n cap) n (swI it i j) (putF (putF f (it j).id (.int .i64 i)) (it i).id (.int .i64 j)) m ∧ Keep (fun k => k = g ∨ k = mb) w w' := by
  obtain ⟨hb, hmb, hbm, hgs⟩ := R.blocks
  obtain ⟨hg, hgb, hgm⟩ := hgs g rfl
  have R0 := R
  obtain ⟨c0, c1, f0, row, map, nb⟩ := R
  obtain ⟨q1, q2, q3⟩ := row.cells hi
  obtain ⟨p1, p2, p3⟩ := row.cells hj
  have h1 : (i : Int) < (n : Int) := by omega
  have h2 : (j : Int) < (n : Int) := by omega
  have hs := swI_upd it i j
  rw [hs]
  have e1 : (if (f (it j).id).isSome then m else m + 1) = m := if_pos fj
  have fi2 : (putF f (it j).id (.int .i64 i) (it i).id).isSome = true := by
    unfold putF; split
    · rfl
    · exact fi
  have e2 : (if (putF f (it j).id (.int .i64 i) (it i).id).isSome then m else m + 1) = m := if_pos fi2
  have P1 := fun w R => put_any (b := b) (mb := mb) (g := g) (cap := cap) (n := n) (m := m) (it := it) (f := f) i (it j).id (it j).s (it j).d w R hi hm kj
  have P2 := fun w R => put_any (b := b) (mb := mb) (g := g) (cap := cap) (n := n) (m := m) (it := updI it i (it j)) (f := putF f (it j).id (.int .i64 i)) j (it i).id (it i).s (it i).d w R hj hm ki
  rw [e1] at P1
  rw [e2] at P2
  have hR : ∀ w', Below w.heap.size w w' → Rep w' b mb (.slice (some ⟨g, 0, none⟩) n cap) n it f m := fun w' h => R0.below h
  clear map row nb hgs fi fj fi2 e1 e2 hs R0
  have eta1 : updI it i ⟨(it j).id, (it j).s, (it j).d⟩ = updI it i (it j) := rfl
  have eta2 : updI (updI it i (it j)) j ⟨(it i).id, (it i).s, (it i).d⟩ = updI (updI it i (it j)) j (it i) := rfl
  rw [eta1] at P1
  rw [eta2] at P2
  generalize updI (updI it i (it j)) j (it i) = it2 at *
  generalize updI it i (it j) = it1 at *
  generalize (it i).id = ia at *
  generalize (it i).s = sa at *
  generalize (it i).d = da at *
  generalize (it j).id = ib at *
  generalize (it j).s = sb at *
  generalize (it j).d = db at *
  generalize putF (putF f ib (.int .i64 i)) ia (.int .i64 j) = f2 at *
  generalize putF f ib (.int .i64 i) = f1 at *
  go_enter Tryz.func131, Tryz.ntmps131
  go_wp2
  go_region
  all_goals
    go_wp2_with (go_at_call 104; fail)
    have HB : Below w.heap.size w (((w.alloc (.cells #[.int .i64 ia, .int .i64 sa, .int .i64 da] 167)).alloc (.cells #[.int .i64 ib, .int .i64 sb, .int .i64 db] 167)).drew) := (((Below.refl _ _).alloc (Nat.le_refl _) _).alloc (by simp) _).drew
    have HB2 : Below w.heap.size w (((w.alloc (.cells #[.int .i64 ib, .int .i64 sb, .int .i64 db] 167)).alloc (.cells #[.int .i64 ia, .int .i64 sa, .int .i64 da] 167)).drew) := (((Below.refl _ _).alloc (Nat.le_refl _) _).alloc (by simp) _).drew
    refine (P1 _ (hR _ (by first | exact HB | exact HB2))).mono ?_
    rintro e w1 ⟨rfl, R1, K1⟩
    obtain ⟨k1, k2⟩ := K1.two w.heap.size (by simp) (fun k hk => by omega)
    have KA := (Keep.of_below (F := fun k => k = g ∨ k = mb) (show Below w.heap.size w _ by first | exact HB | exact HB2)).trans K1 (fun _ _ h => h)
    clear K1 HB HB2 hR P1
    go_wp2_with (go_at_call 104; fail)
    refine (P2 _ R1).mono ?_
    rintro e w2 ⟨rfl, R2, K2⟩
    have KB := KA.trans K2 (fun _ _ h => h)
    clear KA K2 R1 P2 k1 k2
    go_wp2
    go_end0
    exact ⟨rfl, R2, KB⟩
end Go.Proofs.YtmnpplkjhnoglaaGreatDoor
