/-
  The walk of 'TopCost': it returns true for every three costs.
-/
import Derived.Test.YtmlcollooomioaaCost
namespace Go.Proofs.Ytmlcollooomioaa
open Go.RowKit

theorem hb0 (w : World) (A B C : Obj) : Below w.heap.size w (((w.alloc A).alloc B).alloc C) :=
  (((Below.refl _ _).alloc (Nat.le_refl _) _).alloc (by simp) _).alloc (by simp; omega) _

set_option maxHeartbeats 2000000 in
theorem topCost_ok (s d t u p q : Int) (w : World) (ha : inC s d) (hb : inC t u) (hc : inC p q)
    (hcs : (ltB s d t u = true ∧ ltB t u s d = false ∧ cmpC s d t u = -1 ∧ cmpC t u s d = 1 ∧ cmpC (s + p) (d + q) (t + p) (u + q) = -1 ∧ (¬ s = t ∨ (s = t ∧ ¬ d = u)) ∧ ((ltB t u p q = true ∧ ltB s d p q = true) ∨ ltB t u p q = false))
      ∨ (ltB s d t u = false ∧ cmpC s d t u = 1 ∧ cmpC t u s d = -1 ∧ cmpC (s + p) (d + q) (t + p) (u + q) = 1 ∧ (¬ s = t ∨ (s = t ∧ ¬ d = u)))
      ∨ (s = t ∧ d = u ∧ ltB s d s d = false ∧ cmpC s d s d = 0 ∧ cmpC (s + p) (d + q) (s + p) (d + q) = 0)) :
    Calls Try.prog 4 #[.agg #[.int .i64 s, .int .i64 d], .agg #[.int .i64 t, .int .i64 u], .agg #[.int .i64 p, .int .i64 q]] w fun e w' => e = .returned (.bool true) ∧ Below w.heap.size w w' := by
  have oa := inC_ok ha
  have ob := inC_ok hb
  have oc := inC_ok hc
  have o1 : okC (s + p) (d + q) := by unfold inC at ha hc; unfold okC; omega
  have o2 : okC (t + p) (u + q) := by unfold inC at hb hc; unfold okC; omega
  have l0 : ltB 1 0 0 1 = true := by decide
  have k1 : okC 1 0 := by unfold okC; omega
  have k2 : okC 0 1 := by unfold okC; omega
  rcases hcs with ⟨hab, hba, kab, kba, ksum, hne | ⟨heq, hne⟩, ⟨hbc, hac⟩ | hbc⟩ | ⟨hab, kab, kba, ksum, hne | ⟨heq, hne⟩⟩ | ⟨heq, heq2, hab, kab, ksum⟩
  all_goals try subst heq
  all_goals try subst heq2
  all_goals
    go_enter Try.func4, Try.ntmps4
    go_wp2_with (first | (go_at_call 12; refine (less_v l0 _ k1 k2).mono ?_; rintro e w1 ⟨rfl, hb1⟩; have hz1 := hb1.size; simp at hz1; have HB := (hb0 _ _ _ _).trans (hb1.mono (by simp; omega)); obtain ⟨c1a, c1b, c1c⟩ := bcell3 hb1 w.heap.size (by simp)) | (go_at_call 8; refine (check_ok _ _ _ ?_).mono ?_; assumption; rintro e w4 ⟨rfl, hb4⟩; have hz4 := hb4.size; have HB := HB.trans (hb4.mono (by omega)); obtain ⟨c4a, c4b, c4c⟩ := bcell3 hb4 w.heap.size (by omega)))
    obtain ⟨S1, S2, S3, hne⟩ := scell3 w4 w.heap.size (by omega)
    refine wp_region_since (by kernel_rfl) (by kernel_rfl) ?_
    repeat (go_big_quiet_step (first | (go_at_call 12; exact Calls.since_of (less_v (by assumption) _ (by assumption) (by assumption))) | (go_at_call 11; exact Calls.since_of (compare_v (by assumption) _ (by assumption) (by assumption)))))
    refine wpQuiet_nil ?_
    rintro _ ⟨x, rfl⟩
    have hzx := x.h.size
    have HB := HB.trans (x.h.mono (by omega))
    go_wp2_with (go_at_call 12; refine (less_v (by assumption) _ (by assumption) (by assumption)).mono ?_; rintro e w5 ⟨rfl, hb5⟩; have hz5 := hb5.size; have HB := HB.trans (hb5.mono (by omega)); obtain ⟨c5a, c5b, c5c⟩ := bcell3 hb5 w.heap.size (by omega))
    obtain ⟨S4, S5, S6, hne2⟩ := scell3 w5 w.heap.size (by omega)
    refine wp_region_since (by kernel_rfl) (by kernel_rfl) ?_
    repeat (go_big_quiet_step (first | (go_at_call 13; exact Calls.since_of (add_any _ _ _ _ _ (by assumption) (by assumption))) | (go_at_call 11; exact Calls.since_of (compare_v (by assumption) _ (by assumption) (by assumption)))))
    refine wpQuiet_nil ?_
    rintro _ ⟨y, rfl⟩
    go_wp2
    go_ret
    exact ⟨rfl, HB.trans (y.h.mono (by omega))⟩
end Go.Proofs.Ytmlcollooomioaa
