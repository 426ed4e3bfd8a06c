/-
  Texts laid together: Cost, Oct.
-/
import Derived.Test.YtmnpplkjhnoglaaGreatDoorP3
import Derived.Test.YtmnpplkjhnoglaaGreatDoorRows
/-
  What each function of package cost and of its reference does to the world, for every cost within bounds.
-/
namespace Go.Proofs.YtmnpplkjhnoglaaGreatDoor
open Go.RowKit

/-- a cost that may be handed to Compare -/
def okC (s d : Int) : Prop := 0 ≤ s ∧ s ≤ 8388608 ∧ 0 ≤ d ∧ d ≤ 8388608

set_option maxHeartbeats 400000 in
theorem add_any (s d t u : Int) (w : World) (h : okC s d) (k : okC t u) :
    Calls Tryz.prog 106 #[.agg #[.int .i64 s, .int .i64 d], .agg #[.int .i64 t, .int .i64 u]] w fun e w' => e = .returned (.agg #[.int .i64 (s + t), .int .i64 (d + u)]) ∧ Below w.heap.size w w' := by
  obtain ⟨h1, h2, h3, h4⟩ := h
  obtain ⟨k1, k2, k3, k4⟩ := k
  go_enter Tryz.func106, Tryz.ntmps106
  go_wp2
  exact bodyPost_ret (v := .agg #[.int .i64 (s + t), .int .i64 (d + u)]) (by simp [results, Tryz.results106, go_sem]) rfl ⟨rfl, ((((Below.refl _ _).alloc (Nat.le_refl _) _).alloc (by simp) _).alloc (by simp; omega) _)⟩

theorem cmpC_val' (s d t u : Int) (h : okC s d) (k : okC t u) : cmpC s d t u = cmpI (val s d) (val t u) := by
  obtain ⟨h1, h2, h3, h4⟩ := h
  obtain ⟨k1, k2, k3, k4⟩ := k
  exact cmpC_val s d t u (by omega) (by omega)

/-- 'Check' finds nothing wrong -/
def inC (s d : Int) : Prop := 0 ≤ s ∧ s ≤ 1048576 ∧ 0 ≤ d ∧ d ≤ 1048576
def inC_dec (s d : Int) : Decidable (inC s d) := by unfold inC; infer_instance

def ltB (s d t u : Int) : Bool := decide (cmpC s d t u < 0)
theorem inC_ok {s d : Int} (h : inC s d) : okC s d := by
  unfold inC at h; unfold okC; omega
end Go.Proofs.YtmnpplkjhnoglaaGreatDoor
/-
  What the functions about places do: distances, and the cost between two places if nothing is in the way.
-/
namespace Go.Proofs.YtmnpplkjhnoglaaGreatDoor
open Go.RowKit

/-- how far two numbers are apart -/
def dst (a b : Int) : Int := if a < b then b - a else a - b
/-- the lesser one -/
def les (a b : Int) : Int := if a < b then a else b
/-- near the beginning -/
def nearB (a : Int) : Prop := -1048576 ≤ a ∧ a ≤ 1048576

theorem dst_bd (a b : Int) (h : nearB a) (k : nearB b) : 0 ≤ dst a b ∧ dst a b ≤ 2097152 := by
  unfold nearB at h k; unfold dst; split <;> omega

set_option maxHeartbeats 400000 in
theorem dst_any (a b : Int) (w : World) (h : nearB a) (k : nearB b) :
    Calls Tryz.prog 159 #[.int .i64 a, .int .i64 b] w fun e w' => e = .returned (.int .i64 (dst a b)) ∧ w' = w := by
  obtain ⟨h1, h2⟩ := h
  obtain ⟨h3, h4⟩ := k
  by_cases h : a < b
  · have e : dst a b = b - a := by unfold dst; rw [if_pos h]
    rw [e]; clear e
    go_enter Tryz.func159, Tryz.ntmps159
    go_wp2
    go_ret
    exact ⟨rfl, rfl⟩
  · have e : dst a b = a - b := by unfold dst; rw [if_neg h]
    rw [e]; clear e
    by_cases g : b < a
    · clear h
      go_enter Tryz.func159, Tryz.ntmps159
      go_wp2
      go_ret
      exact ⟨rfl, rfl⟩
    · have : a = b := by omega
      subst this
      rw [Int.sub_self]
      go_enter Tryz.func159, Tryz.ntmps159
      go_wp2
      go_ret
      exact ⟨rfl, rfl⟩

theorem dst_v {a b r : Int} (hr : dst a b = r) (w : World) (h : nearB a) (k : nearB b) :
    Calls Tryz.prog 159 #[.int .i64 a, .int .i64 b] w fun e w' => e = .returned (.int .i64 r) ∧ w' = w := hr ▸ dst_any a b w h k

set_option maxHeartbeats 400000 in
theorem oct_any (x y t u : Int) (w : World) (hx : nearB x) (hy : nearB y) (ht : nearB t) (hu : nearB u) :
    Calls Tryz.prog 134 #[.int .i64 x, .int .i64 y, .int .i64 t, .int .i64 u] w fun e w' => e = .returned (.agg #[.int .i64 (dst (dst x t) (dst y u)), .int .i64 (les (dst x t) (dst y u))]) ∧ Below w.heap.size w w' := by
  have b1 := dst_bd x t hx ht
  have b2 := dst_bd y u hy hu
  by_cases h : dst x t < dst y u
  · have e1 : dst (dst x t) (dst y u) = dst y u - dst x t := by unfold dst at *; rw [if_pos h]
    have e2 : les (dst x t) (dst y u) = dst x t := by unfold les; rw [if_pos h]
    rw [e1, e2]; clear e1 e2
    generalize hA : dst x t = A at *
    generalize hB : dst y u = B at *
    go_enter Tryz.func134, Tryz.ntmps134
    go_wp2_with (go_at_call 159; refine (dst_any _ _ _ ?_ ?_).mono ?_; assumption; assumption; rintro e w' ⟨rfl, rfl⟩)
    exact bodyPost_ret (v := .agg #[.int .i64 (B - A), .int .i64 A]) (by simp [results, Tryz.results134, go_sem]) rfl ⟨rfl, (Below.refl _ _).alloc (Nat.le_refl _) _⟩
  · have e1 : dst (dst x t) (dst y u) = dst x t - dst y u := by unfold dst at *; rw [if_neg h]
    have e2 : les (dst x t) (dst y u) = dst y u := by unfold les; rw [if_neg h]
    rw [e1, e2]; clear e1 e2
    generalize hA : dst x t = A at *
    generalize hB : dst y u = B at *
    by_cases g : B < A
    · clear h
      go_enter Tryz.func134, Tryz.ntmps134
      go_wp2_with (go_at_call 159; refine (dst_v (by assumption) _ (by assumption) (by assumption)).mono ?_; rintro e w' ⟨rfl, rfl⟩)
      exact bodyPost_ret (v := .agg #[.int .i64 (A - B), .int .i64 B]) (by simp [results, Tryz.results134, go_sem]) rfl ⟨rfl, (Below.refl _ _).alloc (Nat.le_refl _) _⟩
    · have : A = B := by omega
      subst this
      rw [Int.sub_self]
      go_enter Tryz.func134, Tryz.ntmps134
      go_wp2_with (go_at_call 159; refine (dst_v (by assumption) _ (by assumption) (by assumption)).mono ?_; rintro e w' ⟨rfl, rfl⟩)
      exact bodyPost_ret (v := .agg #[.int .i64 0, .int .i64 A]) (by simp [results, Tryz.results134, go_sem]) rfl ⟨rfl, (Below.refl _ _).alloc (Nat.le_refl _) _⟩

set_option maxHeartbeats 400000 in
theorem abs_any (n : Int) (w : World) (h1 : -2097152 ≤ n) (h2 : n ≤ 2097152) :
    Calls Tryz.prog 74 #[.int .i64 n] w fun e w' => e = .returned (.int .i64 (if n < 0 then -n else n)) ∧ w' = w := by
  by_cases h : n < 0
  · rw [if_pos h]
    go_enter Tryz.func74, Tryz.ntmps74
    go_wp2
    go_ret
    exact ⟨rfl, rfl⟩
  · rw [if_neg h]
    go_enter Tryz.func74, Tryz.ntmps74
    go_wp2
    go_ret
    exact ⟨rfl, rfl⟩

theorem abs_dst (a b : Int) : (if a - b < 0 then -(a - b) else a - b) = dst a b := by
  unfold dst; split <;> split <;> omega

theorem abs_v (a b : Int) (w : World) (h : nearB a) (k : nearB b) :
    Calls Tryz.prog 74 #[.int .i64 (a - b)] w fun e w' => e = .returned (.int .i64 (dst a b)) ∧ w' = w := by
  rw [← abs_dst]
  unfold nearB at h k
  exact abs_any (a - b) w (by omega) (by omega)

set_option maxHeartbeats 400000 in
theorem rOct_any (x y t u : Int) (w : World) (hx : nearB x) (hy : nearB y) (ht : nearB t) (hu : nearB u) :
    Calls Tryz.prog 33 #[.int .i64 x, .int .i64 y, .int .i64 t, .int .i64 u] w fun e w' => e = .returned (.agg #[.int .i64 (dst (dst x t) (dst y u)), .int .i64 (les (dst x t) (dst y u))]) ∧ Below w.heap.size w w' := by
  have b1 := dst_bd x t hx ht
  have b2 := dst_bd y u hy hu
  have ix := hx
  have iy := hy
  have it := ht
  have iu := hu
  unfold nearB at ix iy it iu
  by_cases h : dst x t < dst y u
  · have e1 : dst (dst x t) (dst y u) = dst y u - dst x t := by unfold dst at *; rw [if_pos h]
    have e2 : les (dst x t) (dst y u) = dst x t := by unfold les; rw [if_pos h]
    rw [e1, e2]; clear e1 e2
    generalize hA : dst x t = A at *
    generalize hB : dst y u = B at *
    go_enter Tryz.func33, Tryz.ntmps33
    go_wp2_with (go_at_call 74; refine (abs_v _ _ _ ?_ ?_).mono ?_; assumption; assumption; rintro e w' ⟨rfl, rfl⟩)
    exact bodyPost_ret (v := .agg #[.int .i64 (B - A), .int .i64 A]) (by simp [results, Tryz.results33, go_sem]) rfl ⟨rfl, (Below.refl _ _).alloc (Nat.le_refl _) _⟩
  · have e1 : dst (dst x t) (dst y u) = dst x t - dst y u := by unfold dst at *; rw [if_neg h]
    have e2 : les (dst x t) (dst y u) = dst y u := by unfold les; rw [if_neg h]
    rw [e1, e2]; clear e1 e2
    generalize hA : dst x t = A at *
    generalize hB : dst y u = B at *
    go_enter Tryz.func33, Tryz.ntmps33
    go_wp2_with (go_at_call 74; refine (abs_v _ _ _ ?_ ?_).mono ?_; assumption; assumption; rintro e w' ⟨rfl, rfl⟩)
    exact bodyPost_ret (v := .agg #[.int .i64 (A - B), .int .i64 B]) (by simp [results, Tryz.results33, go_sem]) rfl ⟨rfl, (Below.refl _ _).alloc (Nat.le_refl _) _⟩
end Go.Proofs.YtmnpplkjhnoglaaGreatDoor
