/-
  What each function of package cost and of its reference does to the world, for every cost within bounds.
-/
import Derived.Test.YtfhicijgpdpfpaaDoorRows
import Derived.Test.YtfhicijgpdpfpaaDoorMath
import Derived.Test.YtfhicijgpdpfpaaDoorAid
namespace Go.Proofs.YtfhicijgpdpfpaaDoor
open Go.RowKit

set_option maxHeartbeats 400000 in
theorem sqs_any (n : Int) (w : World) (h1 : -2097152 ≤ n) (h2 : n ≤ 2097152) :
    Calls Tryd.prog 61 #[.int .i64 n] w fun e w' => e = .returned (.int .i64 (sqs n)) ∧ w' = w := by
  obtain ⟨b1, b2⟩ := mul_self_bd n h1 h2
  have e1 : -n * n = -(n * n) := Int.neg_mul n n
  have b3 : -4398046511104 ≤ -n * n := by omega
  have b4 : -n * n ≤ 0 := by omega
  clear e1
  by_cases h : n < 0
  · have e : sqs n = -n * n := by unfold sqs; rw [if_pos h]
    rw [e]; clear e
    go_enter Tryd.func61, Tryd.ntmps61
    go_wp2
    go_ret
    exact ⟨rfl, rfl⟩
  · have e : sqs n = n * n := by unfold sqs; rw [if_neg h]
    rw [e]; clear e
    go_enter Tryd.func61, Tryd.ntmps61
    go_wp2
    go_ret
    exact ⟨rfl, rfl⟩

set_option maxHeartbeats 400000 in
theorem isnan_any (n : Int) (w : World) :
    Calls Tryd.prog 85 #[.int .i64 n] w fun e w' => e = .returned (.bool false) ∧ w' = w := by
  go_enter Tryd.func85, Tryd.ntmps85
  go_wp2
  go_ret
  exact ⟨rfl, rfl⟩

set_option maxHeartbeats 400000 in
theorem cmpI_any (a b : Int) (w : World) :
    Calls Tryd.prog 60 #[.int .i64 a, .int .i64 b] w fun e w' => e = .returned (.int .i64 (cmpI a b)) ∧ w' = w := by
  by_cases h : a < b
  · have e : cmpI a b = -1 := by unfold cmpI; rw [if_pos h]
    rw [e]; clear e
    go_enter Tryd.func60, Tryd.ntmps60
    go_wp2_with (go_at_call 85; refine (isnan_any _ _).mono ?_; rintro e w' ⟨rfl, rfl⟩)
    go_ret
    exact ⟨rfl, rfl⟩
  · by_cases h2 : b < a
    · have e : cmpI a b = 1 := by unfold cmpI; rw [if_neg h, if_pos h2]
      rw [e]; clear e
      go_enter Tryd.func60, Tryd.ntmps60
      go_wp2_with (go_at_call 85; refine (isnan_any _ _).mono ?_; rintro e w' ⟨rfl, rfl⟩)
      go_ret
      exact ⟨rfl, rfl⟩
    · have e : cmpI a b = 0 := by unfold cmpI; rw [if_neg h, if_neg h2]
      rw [e]; clear e
      go_enter Tryd.func60, Tryd.ntmps60
      go_wp2_with (go_at_call 85; refine (isnan_any _ _).mono ?_; rintro e w' ⟨rfl, rfl⟩)
      go_ret
      exact ⟨rfl, rfl⟩

/-- a cost that may be handed to Compare -/
def okC (s d : Int) : Prop := 0 ≤ s ∧ s ≤ 2097152 ∧ 0 ≤ d ∧ d ≤ 2097152

set_option maxHeartbeats 400000 in
theorem compare_any (s d t u : Int) (w : World) (h : okC s d) (k : okC t u) :
    Calls Tryd.prog 26 #[.agg #[.int .i64 s, .int .i64 d], .agg #[.int .i64 t, .int .i64 u]] w fun e w' => e = .returned (.int .i64 (cmpC s d t u)) ∧ Below w.heap.size w w' := by
  obtain ⟨h1, h2, h3, h4⟩ := h
  obtain ⟨k1, k2, k3, k4⟩ := k
  have b := sqs_bd (u - d) (by omega) (by omega)
  go_enter Tryd.func26, Tryd.ntmps26
  go_wp2_with (first | (go_at_call 61; refine (sqs_any _ _ ?_ ?_).mono ?_; (omega); (omega); rintro e w' ⟨rfl, rfl⟩) | (go_at_call 60; refine (cmpI_any _ _ _).mono ?_; rintro e w' ⟨rfl, rfl⟩))
  go_ret
  exact ⟨rfl, ((Below.refl _ _).alloc (Nat.le_refl _) _).alloc (by simp) _⟩

set_option maxHeartbeats 400000 in
theorem less_any (s d t u : Int) (w : World) (h : okC s d) (k : okC t u) :
    Calls Tryd.prog 92 #[.agg #[.int .i64 s, .int .i64 d], .agg #[.int .i64 t, .int .i64 u]] w fun e w' => e = .returned (.bool (decide (cmpC s d t u < 0))) ∧ Below w.heap.size w w' := by
  go_enter Tryd.func92, Tryd.ntmps92
  go_wp2_with (go_at_call 26; refine (compare_any s d t u _ h k).mono ?_; rintro e w' ⟨rfl, hb⟩)
  go_ret
  exact ⟨rfl, ((Below.refl _ _).alloc (Nat.le_refl _) _).alloc (by simp) _ |>.trans (hb.mono (by simp; omega))⟩

set_option maxHeartbeats 400000 in
theorem add_any (s d t u : Int) (w : World) (h : okC s d) (k : okC t u) :
    Calls Tryd.prog 27 #[.agg #[.int .i64 s, .int .i64 d], .agg #[.int .i64 t, .int .i64 u]] w fun e w' => e = .returned (.agg #[.int .i64 (s + t), .int .i64 (d + u)]) ∧ Below w.heap.size w w' := by
  obtain ⟨h1, h2, h3, h4⟩ := h
  obtain ⟨k1, k2, k3, k4⟩ := k
  go_enter Tryd.func27, Tryd.ntmps27
  go_wp2
  exact bodyPost_ret (v := .agg #[.int .i64 (s + t), .int .i64 (d + u)]) (by simp [results, Tryd.results27, go_sem]) rfl ⟨rfl, ((((Below.refl _ _).alloc (Nat.le_refl _) _).alloc (by simp) _).alloc (by simp; omega) _)⟩

theorem cmpC_val' (s d t u : Int) (h : okC s d) (k : okC t u) : cmpC s d t u = cmpI (val s d) (val t u) := by
  obtain ⟨h1, h2, h3, h4⟩ := h
  obtain ⟨k1, k2, k3, k4⟩ := k
  exact cmpC_val s d t u (by omega) (by omega)

/-- 'Check' finds nothing wrong -/
def inC (s d : Int) : Prop := 0 ≤ s ∧ s ≤ 1048576 ∧ 0 ≤ d ∧ d ≤ 1048576
def inC_dec (s d : Int) : Decidable (inC s d) := by unfold inC; infer_instance

def ltB (s d t u : Int) : Bool := decide (cmpC s d t u < 0)
theorem less_B (s d t u : Int) (w : World) (h : okC s d) (k : okC t u) :
    Calls Tryd.prog 92 #[.agg #[.int .i64 s, .int .i64 d], .agg #[.int .i64 t, .int .i64 u]] w fun e w' => e = .returned (.bool (ltB s d t u)) ∧ Below w.heap.size w w' := less_any s d t u w h k

theorem less_v {s d t u : Int} {r : Bool} (hr : ltB s d t u = r) (w : World) (h : okC s d) (k : okC t u) :
    Calls Tryd.prog 92 #[.agg #[.int .i64 s, .int .i64 d], .agg #[.int .i64 t, .int .i64 u]] w fun e w' => e = .returned (.bool r) ∧ Below w.heap.size w w' := hr ▸ less_any s d t u w h k
theorem compare_v {s d t u r : Int} (hr : cmpC s d t u = r) (w : World) (h : okC s d) (k : okC t u) :
    Calls Tryd.prog 26 #[.agg #[.int .i64 s, .int .i64 d], .agg #[.int .i64 t, .int .i64 u]] w fun e w' => e = .returned (.int .i64 r) ∧ Below w.heap.size w w' := hr ▸ compare_any s d t u w h k

theorem inC_ok {s d : Int} (h : inC s d) : okC s d := by
  unfold inC at h; unfold okC; omega
end Go.Proofs.YtfhicijgpdpfpaaDoor
