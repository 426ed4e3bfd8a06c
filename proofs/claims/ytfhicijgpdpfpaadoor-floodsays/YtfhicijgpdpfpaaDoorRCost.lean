/-
  What the reference's functions about costs do, and 'same', 'costs'.
-/
import Derived.Test.YtfhicijgpdpfpaaDoorOct
namespace Go.Proofs.YtfhicijgpdpfpaaDoor
open Go.RowKit

/-- the fault's number -/
def flt (s d : Int) : Int := @ite Int (inC s d) (inC_dec s d) 0 1

set_option maxHeartbeats 400000 in
theorem plus_any (s d t u : Int) (w : World) (h : okC s d) (k : okC t u) :
    Calls Tryd.prog 42 #[.agg #[.int .i64 s, .int .i64 d], .agg #[.int .i64 t, .int .i64 u]] w fun e w' => e = .returned (.agg #[.int .i64 (s + t), .int .i64 (d + u)]) ∧ Below w.heap.size w w' := by
  obtain ⟨h1, h2, h3, h4⟩ := h
  obtain ⟨k1, k2, k3, k4⟩ := k
  go_enter Tryd.func42, Tryd.ntmps42
  go_wp2
  exact bodyPost_ret (v := .agg #[.int .i64 (s + t), .int .i64 (d + u)]) (by simp [results, Tryd.results42, go_sem]) rfl ⟨rfl, ((((Below.refl _ _).alloc (Nat.le_refl _) _).alloc (by simp) _).alloc (by simp; omega) _)⟩

theorem neg_sq (x : Int) : -x * -x = x * x := by rw [Int.neg_mul, Int.mul_neg, Int.neg_neg]
theorem irr_pos (x y : Int) (hx : 0 ≤ x) (hy : 0 ≤ y) (hq : y < 38613965) (h : x * x = 2 * (y * y)) : x = 0 := by
  have a := pos_lt x y hx hy hq
  have b := pos_gt x y hx hy hq
  have e : 38613965 * x = 54608393 * y := by
    rcases Int.lt_trichotomy (38613965 * x) (54608393 * y) with k | k | k
    · have := a.mpr k; omega
    · exact k
    · have := b.mpr k; omega
  exact (no_mid x y e (Int.lt_of_lt_of_le (by decide) hy) hq).1
theorem irr (x y : Int) (h1 : -38613965 < y) (h2 : y < 38613965) (h : x * x = 2 * (y * y)) : x = 0 := by
  by_cases hx : 0 ≤ x <;> by_cases hy : 0 ≤ y
  · exact irr_pos x y hx hy h2 h
  · exact irr_pos x (-y) hx (by omega) (by omega) (by rw [neg_sq]; exact h)
  · have := irr_pos (-x) y (by omega) hy h2 (by rw [neg_sq]; exact h)
    omega
  · have := irr_pos (-x) (-y) (by omega) (by omega) (by omega) (by rw [neg_sq, neg_sq]; exact h)
    omega
theorem sq_pos (x : Int) : x = 0 ∨ 0 < x * x := by
  by_cases h : x = 0
  · left; exact h
  · right
    have := mul_self_nonneg x
    by_cases g : x * x = 0
    · exact absurd (sq_zero x g) h
    · omega
/-- what decides: the differences' signs and squares -/
theorem cmpC_of (s d t u r : Int) (h1 : -38613965 < d - u) (h2 : d - u < 38613965)
    (H : ∀ X Y : Int, (s - t = 0 ∨ 0 < X) → (d - u = 0 ∨ 0 < Y) → (s - t = 0 → X = 0) → (d - u = 0 → Y = 0) → (X = 2 * Y → s - t = 0) → X = (s - t) * (s - t) → Y = (d - u) * (d - u) →
      ∀ A B : Int, (s - t < 0 → A = -X) → (¬ s - t < 0 → A = X) → (d - u > 0 → B = -Y) → (¬ d - u > 0 → B = Y) → (r = -1 ∧ A < 2 * B) ∨ (r = 0 ∧ A = 2 * B) ∨ (r = 1 ∧ 2 * B < A)) :
    cmpC s d t u = r := by
  have h := H _ _ (sq_pos (s - t)) (sq_pos (d - u)) (fun e => by rw [e]; rfl) (fun e => by rw [e]; rfl) (irr (s - t) (d - u) h1 h2) rfl rfl (if s - t < 0 then -((s - t) * (s - t)) else (s - t) * (s - t)) (if d - u > 0 then -((d - u) * (d - u)) else (d - u) * (d - u)) (fun e => by rw [if_pos e]) (fun e => by rw [if_neg e]) (fun e => by rw [if_pos e]) (fun e => by rw [if_neg e])
  have e1 : sqs (s - t) = if s - t < 0 then -((s - t) * (s - t)) else (s - t) * (s - t) := by unfold sqs; rw [Int.neg_mul]
  have e2 : sqs (u - d) = if d - u > 0 then -((d - u) * (d - u)) else (d - u) * (d - u) := by
    have n : u - d = -(d - u) := by omega
    rw [n, sqs_neg]
    unfold sqs
    rw [Int.neg_mul]
    by_cases c : d - u < 0
    · rw [if_pos c, if_neg (by omega), Int.neg_neg]
    · rw [if_neg c]
      by_cases c2 : d - u > 0
      · rw [if_pos c2]
      · rw [if_neg c2]
        have : d - u = 0 := by omega
        rw [this]; rfl
  unfold cmpC cmpI
  rw [e1, e2]
  rcases h with ⟨rfl, h⟩ | ⟨rfl, h⟩ | ⟨rfl, h⟩
  · rw [if_pos h]
  · rw [h, if_neg (by omega)]; simp
  · rw [if_neg (by omega), if_pos h]

theorem ret_int {k : IntKind} {a b : Int} (h : a = b) : Ending.returned (.int k a) = .returned (.int k b) := by rw [h]

set_option maxHeartbeats 1000000 in
theorem rcmp_any (s d t u : Int) (w : World) (h : okC s d) (k : okC t u) :
    Calls Tryd.prog 52 #[.agg #[.int .i64 s, .int .i64 d], .agg #[.int .i64 t, .int .i64 u]] w fun e w' => e = .returned (.int .i64 (cmpC s d t u)) ∧ Below w.heap.size w w' := by
  obtain ⟨h1, h2, h3, h4⟩ := h
  obtain ⟨k1, k2, k3, k4⟩ := k
  have hB : Below w.heap.size w ((w.alloc (.cells #[.int .i64 s, .int .i64 d] 31)).alloc (.cells #[.int .i64 t, .int .i64 u] 31)) := ((Below.refl _ _).alloc (Nat.le_refl _) _).alloc (by simp) _
  have bx := mul_self_bd (s - t) (by omega) (by omega)
  have by_ := mul_self_bd (d - u) (by omega) (by omega)
  have e2 : 2 * (d - u) * (d - u) = 2 * ((d - u) * (d - u)) := Int.mul_assoc _ _ _
  have by2 : 0 ≤ 2 * (d - u) * (d - u) ∧ 2 * (d - u) * (d - u) ≤ 8796093022208 := by rw [e2]; omega
  go_enter Tryd.func52, Tryd.ntmps52
  go_wp2
  all_goals
    go_ret
    refine ⟨ret_int (Eq.symm (cmpC_of s d t u _ (by omega) (by omega) ?_)), hB⟩
    clear hB bx by_ e2 by2
    intro X Y p1 p2 p3 p4 p5 eX eY A B q1 q2 q3 q4
    simp only [← eX, ← eY, beq_iff_eq, beq_eq_false_iff_ne, ne_eq, decide_eq_decide, true_and] at *
    clear eX eY
    omega
end Go.Proofs.YtfhicijgpdpfpaaDoor
