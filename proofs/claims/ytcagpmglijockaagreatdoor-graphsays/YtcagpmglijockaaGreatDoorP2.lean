/-
  Texts laid together: Cost, Oct, Small, Grid, Moves.
-/
import Derived.Test.YtcagpmglijockaaGreatDoorP1
import Derived.Test.YtcagpmglijockaaGreatDoorRows
/-
  What each function of package cost and of its reference does to the world, for every cost within bounds.
-/
namespace Go.Proofs.YtcagpmglijockaaGreatDoor
open Go.RowKit

/-- a cost that may be handed to Compare -/
def okC (s d : Int) : Prop := 0 ≤ s ∧ s ≤ 2097152 ∧ 0 ≤ d ∧ d ≤ 2097152

set_option maxHeartbeats 400000 in
theorem add_any (s d t u : Int) (w : World) (h : okC s d) (k : okC t u) :
    Calls Tryz.prog 103 #[.agg #[.int .i64 s, .int .i64 d], .agg #[.int .i64 t, .int .i64 u]] w fun e w' => e = .returned (.agg #[.int .i64 (s + t), .int .i64 (d + u)]) ∧ Below w.heap.size w w' := by
  obtain ⟨h1, h2, h3, h4⟩ := h
  obtain ⟨k1, k2, k3, k4⟩ := k
  go_enter Tryz.func103, Tryz.ntmps103
  go_wp2
  exact bodyPost_ret (v := .agg #[.int .i64 (s + t), .int .i64 (d + u)]) (by simp [results, Tryz.results103, go_sem]) rfl ⟨rfl, ((((Below.refl _ _).alloc (Nat.le_refl _) _).alloc (by simp) _).alloc (by simp; omega) _)⟩

theorem cmpC_val' (s d t u : Int) (h : okC s d) (k : okC t u) : cmpC s d t u = cmpI (val s d) (val t u) := by
  obtain ⟨h1, h2, h3, h4⟩ := h
  obtain ⟨k1, k2, k3, k4⟩ := k
  exact cmpC_val s d t u (by omega) (by omega)

/-- 'Check' finds nothing wrong -/
def inC (s d : Int) : Prop := 0 ≤ s ∧ s ≤ 1048576 ∧ 0 ≤ d ∧ d ≤ 1048576
def inC_dec (s d : Int) : Decidable (inC s d) := by unfold inC; infer_instance

def ltB (s d t u : Int) : Bool := decide (cmpC s d t u < 0)
theorem inC_ok {s d : Int} (h : inC s d) : okC s d := by
  unfold inC at h; unfold okC; omega
end Go.Proofs.YtcagpmglijockaaGreatDoor
/-
  What the functions about places do: distances, and the cost between two places if nothing is in the way.
-/
namespace Go.Proofs.YtcagpmglijockaaGreatDoor
open Go.RowKit

/-- how far two numbers are apart -/
def dst (a b : Int) : Int := if a < b then b - a else a - b
/-- the lesser one -/
def les (a b : Int) : Int := if a < b then a else b
/-- near the beginning -/
def nearB (a : Int) : Prop := -1048576 ≤ a ∧ a ≤ 1048576

theorem dst_bd (a b : Int) (h : nearB a) (k : nearB b) : 0 ≤ dst a b ∧ dst a b ≤ 2097152 := by
  unfold nearB at h k; unfold dst; split <;> omega

set_option maxHeartbeats 400000 in
theorem dst_any (a b : Int) (w : World) (h : nearB a) (k : nearB b) :
    Calls Tryz.prog 92 #[.int .i64 a, .int .i64 b] w fun e w' => e = .returned (.int .i64 (dst a b)) ∧ w' = w := by
  obtain ⟨h1, h2⟩ := h
  obtain ⟨h3, h4⟩ := k
  by_cases h : a < b
  · have e : dst a b = b - a := by unfold dst; rw [if_pos h]
    rw [e]; clear e
    go_enter Tryz.func92, Tryz.ntmps92
    go_wp2
    go_ret
    exact ⟨rfl, rfl⟩
  · have e : dst a b = a - b := by unfold dst; rw [if_neg h]
    rw [e]; clear e
    by_cases g : b < a
    · clear h
      go_enter Tryz.func92, Tryz.ntmps92
      go_wp2
      go_ret
      exact ⟨rfl, rfl⟩
    · have : a = b := by omega
      subst this
      rw [Int.sub_self]
      go_enter Tryz.func92, Tryz.ntmps92
      go_wp2
      go_ret
      exact ⟨rfl, rfl⟩

theorem dst_v {a b r : Int} (hr : dst a b = r) (w : World) (h : nearB a) (k : nearB b) :
    Calls Tryz.prog 92 #[.int .i64 a, .int .i64 b] w fun e w' => e = .returned (.int .i64 r) ∧ w' = w := hr ▸ dst_any a b w h k

set_option maxHeartbeats 400000 in
theorem oct_any (x y t u : Int) (w : World) (hx : nearB x) (hy : nearB y) (ht : nearB t) (hu : nearB u) :
    Calls Tryz.prog 76 #[.int .i64 x, .int .i64 y, .int .i64 t, .int .i64 u] w fun e w' => e = .returned (.agg #[.int .i64 (dst (dst x t) (dst y u)), .int .i64 (les (dst x t) (dst y u))]) ∧ Below w.heap.size w w' := by
  have b1 := dst_bd x t hx ht
  have b2 := dst_bd y u hy hu
  by_cases h : dst x t < dst y u
  · have e1 : dst (dst x t) (dst y u) = dst y u - dst x t := by unfold dst at *; rw [if_pos h]
    have e2 : les (dst x t) (dst y u) = dst x t := by unfold les; rw [if_pos h]
    rw [e1, e2]; clear e1 e2
    generalize hA : dst x t = A at *
    generalize hB : dst y u = B at *
    go_enter Tryz.func76, Tryz.ntmps76
    go_wp2_with (go_at_call 92; refine (dst_any _ _ _ ?_ ?_).mono ?_; assumption; assumption; rintro e w' ⟨rfl, rfl⟩)
    exact bodyPost_ret (v := .agg #[.int .i64 (B - A), .int .i64 A]) (by simp [results, Tryz.results76, go_sem]) rfl ⟨rfl, (Below.refl _ _).alloc (Nat.le_refl _) _⟩
  · have e1 : dst (dst x t) (dst y u) = dst x t - dst y u := by unfold dst at *; rw [if_neg h]
    have e2 : les (dst x t) (dst y u) = dst y u := by unfold les; rw [if_neg h]
    rw [e1, e2]; clear e1 e2
    generalize hA : dst x t = A at *
    generalize hB : dst y u = B at *
    by_cases g : B < A
    · clear h
      go_enter Tryz.func76, Tryz.ntmps76
      go_wp2_with (go_at_call 92; refine (dst_v (by assumption) _ (by assumption) (by assumption)).mono ?_; rintro e w' ⟨rfl, rfl⟩)
      exact bodyPost_ret (v := .agg #[.int .i64 (A - B), .int .i64 B]) (by simp [results, Tryz.results76, go_sem]) rfl ⟨rfl, (Below.refl _ _).alloc (Nat.le_refl _) _⟩
    · have : A = B := by omega
      subst this
      rw [Int.sub_self]
      go_enter Tryz.func76, Tryz.ntmps76
      go_wp2_with (go_at_call 92; refine (dst_v (by assumption) _ (by assumption) (by assumption)).mono ?_; rintro e w' ⟨rfl, rfl⟩)
      exact bodyPost_ret (v := .agg #[.int .i64 0, .int .i64 A]) (by simp [results, Tryz.results76, go_sem]) rfl ⟨rfl, (Below.refl _ _).alloc (Nat.le_refl _) _⟩

set_option maxHeartbeats 400000 in
theorem abs_any (n : Int) (w : World) (h1 : -2097152 ≤ n) (h2 : n ≤ 2097152) :
    Calls Tryz.prog 93 #[.int .i64 n] w fun e w' => e = .returned (.int .i64 (if n < 0 then -n else n)) ∧ w' = w := by
  by_cases h : n < 0
  · rw [if_pos h]
    go_enter Tryz.func93, Tryz.ntmps93
    go_wp2
    go_ret
    exact ⟨rfl, rfl⟩
  · rw [if_neg h]
    go_enter Tryz.func93, Tryz.ntmps93
    go_wp2
    go_ret
    exact ⟨rfl, rfl⟩

theorem abs_dst (a b : Int) : (if a - b < 0 then -(a - b) else a - b) = dst a b := by
  unfold dst; split <;> split <;> omega

theorem abs_v (a b : Int) (w : World) (h : nearB a) (k : nearB b) :
    Calls Tryz.prog 93 #[.int .i64 (a - b)] w fun e w' => e = .returned (.int .i64 (dst a b)) ∧ w' = w := by
  rw [← abs_dst]
  unfold nearB at h k
  exact abs_any (a - b) w (by omega) (by omega)

set_option maxHeartbeats 400000 in
theorem rOct_any (x y t u : Int) (w : World) (hx : nearB x) (hy : nearB y) (ht : nearB t) (hu : nearB u) :
    Calls Tryz.prog 79 #[.int .i64 x, .int .i64 y, .int .i64 t, .int .i64 u] w fun e w' => e = .returned (.agg #[.int .i64 (dst (dst x t) (dst y u)), .int .i64 (les (dst x t) (dst y u))]) ∧ Below w.heap.size w w' := by
  have b1 := dst_bd x t hx ht
  have b2 := dst_bd y u hy hu
  have ix := hx
  have iy := hy
  have it := ht
  have iu := hu
  unfold nearB at ix iy it iu
  by_cases h : dst x t < dst y u
  · have e1 : dst (dst x t) (dst y u) = dst y u - dst x t := by unfold dst at *; rw [if_pos h]
    have e2 : les (dst x t) (dst y u) = dst x t := by unfold les; rw [if_pos h]
    rw [e1, e2]; clear e1 e2
    generalize hA : dst x t = A at *
    generalize hB : dst y u = B at *
    go_enter Tryz.func79, Tryz.ntmps79
    go_wp2_with (go_at_call 93; refine (abs_v _ _ _ ?_ ?_).mono ?_; assumption; assumption; rintro e w' ⟨rfl, rfl⟩)
    exact bodyPost_ret (v := .agg #[.int .i64 (B - A), .int .i64 A]) (by simp [results, Tryz.results79, go_sem]) rfl ⟨rfl, (Below.refl _ _).alloc (Nat.le_refl _) _⟩
  · have e1 : dst (dst x t) (dst y u) = dst x t - dst y u := by unfold dst at *; rw [if_neg h]
    have e2 : les (dst x t) (dst y u) = dst y u := by unfold les; rw [if_neg h]
    rw [e1, e2]; clear e1 e2
    generalize hA : dst x t = A at *
    generalize hB : dst y u = B at *
    go_enter Tryz.func79, Tryz.ntmps79
    go_wp2_with (go_at_call 93; refine (abs_v _ _ _ ?_ ?_).mono ?_; assumption; assumption; rintro e w' ⟨rfl, rfl⟩)
    exact bodyPost_ret (v := .agg #[.int .i64 (A - B), .int .i64 B]) (by simp [results, Tryz.results79, go_sem]) rfl ⟨rfl, (Below.refl _ _).alloc (Nat.le_refl _) _⟩
end Go.Proofs.YtcagpmglijockaaGreatDoor
/-
  Small functions of the laws: 'same', 'SameNumbers'.
-/
namespace Go.Proofs.YtcagpmglijockaaGreatDoor
open Go.RowKit

theorem as23 (v : Value) (w : World) : (Instr.typeAssert (.iface 75 v) 38 75 true).run Tryz.prog w = .ok (.tuple #[v, .bool true]) w := by kernel_rfl

set_option maxHeartbeats 400000 in
theorem same_nil (w : World) :
    Calls Tryz.prog 10 #[.nilIface, .int .i64 0] w fun e w' => e = .returned (.bool true) ∧ w' = w := by
  go_enter Tryz.func10, Tryz.ntmps10
  go_wp2
  go_ret
  exact ⟨rfl, rfl⟩

set_option maxHeartbeats 400000 in
theorem same_err (n : Int) (w : World) (h : 0 < n) :
    Calls Tryz.prog 10 #[.iface 75 (.int .i64 n), .int .i64 n] w fun e w' => e = .returned (.bool true) ∧ w' = w := by
  have g := as23
  go_enter Tryz.func10, Tryz.ntmps10
  go_wp2
  go_ret
  exact ⟨rfl, rfl⟩

/-- a row of numbers, as a slice's value reads in a world -/
def RowIs (w : World) (A : Option Addr) (n : Nat) (xs : Nat → Int) : Prop := ∀ i, i < n → ∃ b o, A = some ⟨b, o, none⟩ ∧ w.cell? ⟨b, o + i, none⟩ = some (.int .i64 (xs i))

set_option maxHeartbeats 400000 in
theorem sameNumbers_zero (A B : Option Addr) (ca cb : Nat) (w : World) :
    Calls Tryz.prog 21 #[.slice A 0 ca, .slice B 0 cb] w fun e w' => e = .returned (.bool true) ∧ ∃ m, w' = w.drewN m := by
  go_enter Tryz.func21, Tryz.ntmps21
  go_wp2
  go_loop [5] (fun i => i = .int .i64 0) (fun _ => 0)
  case atStart => rfl
  case round =>
    subst hrel
    go_wp2
    go_ret
    exact ⟨rfl, 0, rfl⟩

set_option maxHeartbeats 400000 in
theorem sameNumbers_pos (b o b2 o2 n ca cb : Nat) (xs : Nat → Int) (w : World) (hn : n ≤ 1000000)
    (hA : ∀ i, i < n → w.cell? ⟨b, o + i, none⟩ = some (.int .i64 (xs i))) (hB : ∀ i, i < n → w.cell? ⟨b2, o2 + i, none⟩ = some (.int .i64 (xs i))) :
    Calls Tryz.prog 21 #[.slice (some ⟨b, o, none⟩) n ca, .slice (some ⟨b2, o2, none⟩) n cb] w fun e w' => e = .returned (.bool true) ∧ ∃ m, w' = w.drewN m := by
  go_enter Tryz.func21, Tryz.ntmps21
  go_wp2
  go_loopw [5] (fun i w' => ∃ k m : Nat, k ≤ n ∧ i = .int .i64 k ∧ w' = w.drewN m) (fun i _ => n - (intOf i).toNat)
  case atStart => exact ⟨0, 0, by omega, rfl, rfl⟩
  case round =>
    obtain ⟨k, m, hk, rfl, rfl⟩ := hrel
    by_cases hlt : k < n
    · have h1 := hA k hlt
      have h2 := hB k hlt
      have hi : (0 : Int) ≤ (k : Int) := by omega
      have hj : (k : Int) < (n : Int) := by omega
      clear hA hB
      go_wp2
      go_quiet (fail)
      go_wp2
      go_roundw
      case rel => exact ⟨k + 1, _, by omega, by go_num, rfl⟩
      case measure => simp [intOf]; omega
    · have : k = n := by omega
      subst this
      go_wp2
      go_ret
      exact ⟨rfl, m, rfl⟩
end Go.Proofs.YtcagpmglijockaaGreatDoor
/-
  What the reading methods of a grid do: its size, its cells, what is open.
-/
namespace Go.Proofs.YtcagpmglijockaaGreatDoor
open Go.RowKit

/-- a grid lies in block b: so wide, so high, so many changes, these cells blocked -/
structure GridAt (w : World) (b : Nat) (W H V : Int) (bl : Nat → Bool) : Prop where
  w1 : 1 ≤ W
  w2 : W ≤ 16
  h1 : 1 ≤ H
  h2 : H ≤ 16
  c0 : w.cell? ⟨b, 0, none⟩ = some (.int .i64 W)
  c1 : w.cell? ⟨b, 1, none⟩ = some (.int .i64 H)
  c2 : w.cell? ⟨b, 2, none⟩ = some (.int .i64 V)
  cs : ∀ i, i < 256 → w.cell? ⟨b, 3 + i, none⟩ = some (.bool (bl i))

theorem wh_bd {W H : Int} (w1 : 1 ≤ W) (w2 : W ≤ 16) (h1 : 1 ≤ H) (h2 : H ≤ 16) : 1 ≤ W * H ∧ W * H ≤ 256 := by
  have a := Int.mul_le_mul w1 h1 (by omega) (by omega)
  have b := Int.mul_le_mul w2 h2 (by omega) (by omega)
  omega

set_option maxHeartbeats 400000 in
theorem cells_any {b : Nat} {W H V : Int} {bl : Nat → Bool} (w : World) (g : GridAt w b W H V bl) :
    Calls Tryz.prog 34 #[.pointer (some ⟨b, 0, none⟩)] w fun e w' => e = .returned (.int .i64 (W * H)) ∧ ∃ m, w' = w.drewN m := by
  obtain ⟨w1, w2, h1, h2, c0, c1, c2, cs⟩ := g
  obtain ⟨k1, k2⟩ := wh_bd w1 w2 h1 h2
  go_enter Tryz.func34, Tryz.ntmps34
  go_wp2
  go_quiet (fail)
  go_wp2
  go_ret
  exact ⟨rfl, _, rfl⟩

/-- is it a cell? -/
def inB (W H c : Int) : Bool := decide (0 ≤ c ∧ c < W * H)

set_option maxHeartbeats 400000 in
theorem hasCell_any {b : Nat} {W H V : Int} {bl : Nat → Bool} (c : Int) (w : World) (g : GridAt w b W H V bl) :
    Calls Tryz.prog 30 #[.pointer (some ⟨b, 0, none⟩), .int .i64 c] w fun e w' => e = .returned (.bool (inB W H c)) ∧ ∃ m, w' = w.drewN m := by
  by_cases h : 0 ≤ c
  · by_cases k : c < W * H
    · rw [show inB W H c = true from decide_eq_true ⟨h, k⟩]
      go_enter Tryz.func30, Tryz.ntmps30
      go_wp2_with (go_at_call 34; refine (cells_any _ g).mono ?_; rintro e w' ⟨rfl, m, rfl⟩)
      go_ret
      exact ⟨rfl, _, rfl⟩
    · rw [show inB W H c = false from decide_eq_false fun q => k q.2]
      have hd : decide (c < W * H) = false := decide_eq_false k
      go_enter Tryz.func30, Tryz.ntmps30
      go_wp2_with (go_at_call 34; refine (cells_any _ g).mono ?_; rintro e w' ⟨rfl, m, rfl⟩)
      go_ret
      exact ⟨rfl, _, rfl⟩
  · rw [show inB W H c = false from decide_eq_false fun q => h q.1]
    go_enter Tryz.func30, Tryz.ntmps30
    go_wp2
    go_ret
    exact ⟨rfl, 0, rfl⟩

/-- is there a cell? -/
def atB (W H x y : Int) : Bool := decide (0 ≤ x ∧ x < W ∧ 0 ≤ y ∧ y < H)

set_option maxHeartbeats 1000000 in
theorem hasPlace_any {b : Nat} {W H V : Int} {bl : Nat → Bool} (x y : Int) (w : World) (g : GridAt w b W H V bl) :
    Calls Tryz.prog 71 #[.pointer (some ⟨b, 0, none⟩), .int .i64 x, .int .i64 y] w fun e w' => e = .returned (.bool (atB W H x y)) ∧ w' = w := by
  obtain ⟨w1, w2, h1, h2, c0, c1, c2, cs⟩ := g
  have hc : (0 ≤ x ∧ x < W ∧ 0 ≤ y ∧ y < H) ∨ (¬ 0 ≤ x) ∨ (0 ≤ x ∧ ¬ x < W) ∨ (0 ≤ x ∧ x < W ∧ ¬ 0 ≤ y) ∨ (0 ≤ x ∧ x < W ∧ 0 ≤ y ∧ ¬ y < H) := by omega
  rcases hc with h | h | h | h | h
  · rw [show atB W H x y = true from decide_eq_true h]
    obtain ⟨q1, q2, q3, q4⟩ := h
    go_enter Tryz.func71, Tryz.ntmps71
    go_wp2
    go_ret
    exact ⟨rfl, rfl⟩
  all_goals
    rw [show atB W H x y = false from decide_eq_false (by omega)]
    go_enter Tryz.func71, Tryz.ntmps71
    go_wp2
    go_ret
    exact ⟨rfl, rfl⟩

theorem yw_bd {W y : Int} (w1 : 1 ≤ W) (w2 : W ≤ 16) (y1 : -100 ≤ y) (y2 : y ≤ 100) : -1600 ≤ y * W ∧ y * W ≤ 1600 := by
  rcases Int.le_total 0 y with h | h
  · have a := Int.mul_nonneg h (show 0 ≤ W by omega)
    have b := Int.mul_le_mul y2 w2 (by omega) (by omega)
    omega
  · have a := Int.mul_nonneg (show 0 ≤ -y by omega) (show 0 ≤ W by omega)
    have b := Int.mul_le_mul (show -y ≤ 100 by omega) w2 (by omega) (by omega)
    rw [Int.neg_mul] at a b
    omega

set_option maxHeartbeats 400000 in
theorem number_any {b : Nat} {W H V : Int} {bl : Nat → Bool} (x y : Int) (w : World) (g : GridAt w b W H V bl) (x1 : -100 ≤ x) (x2 : x ≤ 100) (y1 : -100 ≤ y) (y2 : y ≤ 100) :
    Calls Tryz.prog 69 #[.pointer (some ⟨b, 0, none⟩), .int .i64 x, .int .i64 y] w fun e w' => e = .returned (.int .i64 (y * W + x)) ∧ w' = w := by
  obtain ⟨w1, w2, h1, h2, c0, c1, c2, cs⟩ := g
  obtain ⟨k1, k2⟩ := yw_bd w1 w2 y1 y2
  go_enter Tryz.func69, Tryz.ntmps69
  go_wp2
  go_ret
  exact ⟨rfl, rfl⟩

/-- is it free there? -/
def openB (W H : Int) (bl : Nat → Bool) (x y : Int) : Bool := atB W H x y && !bl (y * W + x).toNat

theorem idx_bd {W H x y : Int} (w1 : 1 ≤ W) (w2 : W ≤ 16) (h1 : 1 ≤ H) (h2 : H ≤ 16) (x1 : 0 ≤ x) (x2 : x < W) (y1 : 0 ≤ y) (y2 : y < H) : 0 ≤ y * W + x ∧ y * W + x < W * H ∧ y * W + x < 256 := by
  have k := wh_bd w1 w2 h1 h2
  have a := Int.mul_nonneg y1 (show 0 ≤ W by omega)
  have b : y * W + W ≤ H * W := by
    have := Int.mul_le_mul_of_nonneg_right (show y + 1 ≤ H by omega) (show 0 ≤ W by omega)
    rw [Int.add_mul, Int.one_mul] at this
    exact this
  rw [Int.mul_comm H W] at b
  omega

set_option maxHeartbeats 400000 in
theorem open_any {b : Nat} {W H V : Int} {bl : Nat → Bool} (x y : Int) (w : World) (g : GridAt w b W H V bl) :
    Calls Tryz.prog 51 #[.pointer (some ⟨b, 0, none⟩), .int .i64 x, .int .i64 y] w fun e w' => e = .returned (.bool (openB W H bl x y)) ∧ ∃ m, w' = w.drewN m := by
  by_cases h : 0 ≤ x ∧ x < W ∧ 0 ≤ y ∧ y < H
  · have ha : atB W H x y = true := decide_eq_true h
    have e : openB W H bl x y = !bl (y * W + x).toNat := by unfold openB; rw [ha]; rfl
    rw [e]; clear e
    obtain ⟨x1, x2, y1, y2⟩ := h
    obtain ⟨i1, i2, i3⟩ := idx_bd g.w1 g.w2 g.h1 g.h2 x1 x2 y1 y2
    have gw1 := g.w1
    have gw2 := g.w2
    have gh2 := g.h2
    have hp : ∀ w : World, GridAt w b W H V bl → Calls Tryz.prog 71 #[.pointer (some ⟨b, 0, none⟩), .int .i64 x, .int .i64 y] w fun e w' => e = .returned (.bool true) ∧ w' = w := fun w g => ha ▸ hasPlace_any x y w g
    have hc := g.cs (y * W + x).toNat (by omega)
    obtain ⟨n, hn⟩ : ∃ n : Nat, y * W + x = n := ⟨(y * W + x).toNat, by omega⟩
    have gd : ∀ m, GridAt (w.drewN m) b W H V bl := fun m => ⟨g.w1, g.w2, g.h1, g.h2, g.c0, g.c1, g.c2, g.cs⟩
    have hnum : ∀ w : World, GridAt w b W H V bl → Calls Tryz.prog 69 #[.pointer (some ⟨b, 0, none⟩), .int .i64 x, .int .i64 y] w fun e w' => e = .returned (.int .i64 n) ∧ w' = w := fun w g => hn ▸ number_any x y w g (by omega) (by omega) (by omega) (by omega)
    rw [hn] at hc i1 i3 ⊢
    simp only [Int.toNat_natCast] at hc ⊢
    have j3 : (n : Int) < 256 := i3
    clear hn i2 ha
    go_enter Tryz.func51, Tryz.ntmps51
    go_wp2
    go_quiet (first | (go_at_call 71; exact Calls.quiet_of_same (hp _ (gd _))) | (go_at_call 69; exact Calls.quiet_of_same (hnum _ (gd _))))
    go_wp2
    go_ret
    exact ⟨rfl, _, rfl⟩
  · have ha : atB W H x y = false := decide_eq_false h
    have e : openB W H bl x y = false := by unfold openB; rw [ha]; rfl
    rw [e]; clear e
    have hp : ∀ w : World, GridAt w b W H V bl → Calls Tryz.prog 71 #[.pointer (some ⟨b, 0, none⟩), .int .i64 x, .int .i64 y] w fun e w' => e = .returned (.bool false) ∧ w' = w := fun w g => ha ▸ hasPlace_any x y w g
    have gd : ∀ m, GridAt (w.drewN m) b W H V bl := fun m => ⟨g.w1, g.w2, g.h1, g.h2, g.c0, g.c1, g.c2, g.cs⟩
    clear ha h
    go_enter Tryz.func51, Tryz.ntmps51
    go_wp2
    go_quiet ((go_at_call 71; exact Calls.quiet_of_same (hp _ (gd _))))
    go_wp2
    go_ret
    exact ⟨rfl, _, rfl⟩

/-- by how much x and y change -/
def stepX (d : Nat) : Int := [0, 1, 1, 1, 0, -1, -1, -1].getD d 0
def stepY (d : Nat) : Int := [-1, -1, 0, 1, 1, 1, 0, -1].getD d 0
/-- the table lies there -/
def StepsAt (w : World) : Prop := ∀ i, i < 8 → w.cell? ⟨0, 2 * i, none⟩ = some (.int .i64 (stepX i)) ∧ w.cell? ⟨0, 2 * i + 1, none⟩ = some (.int .i64 (stepY i))

set_option maxHeartbeats 1000000 in
theorem step_any (d : Nat) (w : World) (h : StepsAt w) (hd : d < 8) :
    Calls Tryz.prog 68 #[.int .i64 d] w fun e w' => e = .returned (.tuple #[.int .i64 (stepX d), .int .i64 (stepY d)]) ∧ ∃ m, w' = w.drewN m := by
  obtain ⟨a, b⟩ := h d hd
  have b0 : bits BinOp.and IntKind.i64 0 7 = 0 := by decide
  have b1 : bits BinOp.and IntKind.i64 1 7 = 1 := by decide
  have b2 : bits BinOp.and IntKind.i64 2 7 = 2 := by decide
  have b3 : bits BinOp.and IntKind.i64 3 7 = 3 := by decide
  have b4 : bits BinOp.and IntKind.i64 4 7 = 4 := by decide
  have b5 : bits BinOp.and IntKind.i64 5 7 = 5 := by decide
  have b6 : bits BinOp.and IntKind.i64 6 7 = 6 := by decide
  have b7 : bits BinOp.and IntKind.i64 7 7 = 7 := by decide
  have hks : d = 0 ∨ d = 1 ∨ d = 2 ∨ d = 3 ∨ d = 4 ∨ d = 5 ∨ d = 6 ∨ d = 7 := by omega
  clear h
  rcases hks with rfl | rfl | rfl | rfl | rfl | rfl | rfl | rfl
  all_goals
    simp [stepX, stepY] at a b
    go_enter Tryz.func68, Tryz.ntmps68
    go_wp2
    go_quiet (fail)
    go_wp2
    go_ret2
    exact ⟨rfl, _, rfl⟩
end Go.Proofs.YtcagpmglijockaaGreatDoor
/-
  What a grid's methods about moves do.
-/
namespace Go.Proofs.YtcagpmglijockaaGreatDoor
open Go.RowKit

theorem GridAt.drewN {w : World} {b : Nat} {W H V : Int} {bl : Nat → Bool} (g : GridAt w b W H V bl) (m : Nat) : GridAt (w.drewN m) b W H V bl := ⟨g.w1, g.w2, g.h1, g.h2, g.c0, g.c1, g.c2, g.cs⟩
theorem StepsAt.drewN {w : World} (h : StepsAt w) (m : Nat) : StepsAt (w.drewN m) := h

/-- may one go? -/
def mayB (W H : Int) (bl : Nat → Bool) (x y : Int) (d : Nat) : Bool := openB W H bl x y && openB W H bl (x + stepX d) (y + stepY d) && openB W H bl (x + stepX d) y && openB W H bl x (y + stepY d)

theorem step_bd (d : Nat) : -1 ≤ stepX d ∧ stepX d ≤ 1 ∧ -1 ≤ stepY d ∧ stepY d ≤ 1 := by
  by_cases h : d < 8
  · have hks : d = 0 ∨ d = 1 ∨ d = 2 ∨ d = 3 ∨ d = 4 ∨ d = 5 ∨ d = 6 ∨ d = 7 := by omega
    rcases hks with rfl | rfl | rfl | rfl | rfl | rfl | rfl | rfl <;> decide
  · have e1 : stepX d = 0 := by unfold stepX; rw [List.getD_eq_getElem?_getD, List.getElem?_eq_none (by simp; omega)]; rfl
    have e2 : stepY d = 0 := by unfold stepY; rw [List.getD_eq_getElem?_getD, List.getElem?_eq_none (by simp; omega)]; rfl
    omega

theorem open_v {b : Nat} {W H V : Int} {bl : Nat → Bool} {x y : Int} {r : Bool} (hr : openB W H bl x y = r) (w : World) (g : GridAt w b W H V bl) :
    Calls Tryz.prog 51 #[.pointer (some ⟨b, 0, none⟩), .int .i64 x, .int .i64 y] w fun e w' => e = .returned (.bool r) ∧ ∃ m, w' = w.drewN m := hr ▸ open_any x y w g

set_option maxHeartbeats 1000000 in
theorem may_any {b : Nat} {W H V : Int} {bl : Nat → Bool} (x y : Int) (d : Nat) (w : World) (g : GridAt w b W H V bl) (s : StepsAt w) (hd : d < 8) (x1 : -100 ≤ x) (x2 : x ≤ 100) (y1 : -100 ≤ y) (y2 : y ≤ 100) :
    Calls Tryz.prog 53 #[.pointer (some ⟨b, 0, none⟩), .int .i64 x, .int .i64 y, .int .i64 d] w fun e w' => e = .returned (.bool (mayB W H bl x y d)) ∧ ∃ m, w' = w.drewN m := by
  obtain ⟨s1, s2, s3, s4⟩ := step_bd d
  have hs := fun w h => step_any d w h hd
  have hm : mayB W H bl x y d = (openB W H bl x y && openB W H bl (x + stepX d) (y + stepY d) && openB W H bl (x + stepX d) y && openB W H bl x (y + stepY d)) := rfl
  generalize stepX d = dx at *
  generalize stepY d = dy at *
  cases hA : openB W H bl x y with
  | false =>
    rw [hm, hA]
    simp only [Bool.false_and]
    clear hm
    go_enter Tryz.func53, Tryz.ntmps53
    go_wp2_with (first | (go_at_call 68; refine (hs _ s).mono ?_; rintro e w' ⟨rfl, m, rfl⟩) | (go_at_call 51; refine (open_v (by assumption) _ (g.drewN _)).mono ?_; rintro e w' ⟨rfl, m, rfl⟩))
    go_ret
    exact ⟨rfl, _, rfl⟩
  | true =>
    cases hB : openB W H bl (x + dx) (y + dy) with
    | false =>
      rw [hm, hA, hB]
      simp only [Bool.true_and, Bool.false_and]
      clear hm
      go_enter Tryz.func53, Tryz.ntmps53
      go_wp2_with (first | (go_at_call 68; refine (hs _ s).mono ?_; rintro e w' ⟨rfl, m, rfl⟩) | (go_at_call 51; refine (open_v (by assumption) _ (g.drewN _)).mono ?_; rintro e w' ⟨rfl, m, rfl⟩))
      go_ret
      exact ⟨rfl, _, rfl⟩
    | true =>
      cases hC : openB W H bl (x + dx) y with
      | false =>
        rw [hm, hA, hB, hC]
        simp only [Bool.true_and, Bool.false_and]
        clear hm
        go_enter Tryz.func53, Tryz.ntmps53
        go_wp2_with (first | (go_at_call 68; refine (hs _ s).mono ?_; rintro e w' ⟨rfl, m, rfl⟩) | (go_at_call 51; refine (open_v (by assumption) _ (g.drewN _)).mono ?_; rintro e w' ⟨rfl, m, rfl⟩))
        go_ret
        exact ⟨rfl, _, rfl⟩
      | true =>
        cases hD : openB W H bl x (y + dy) with
        | false =>
          rw [hm, hA, hB, hC, hD]
          simp only [Bool.true_and]
          clear hm
          go_enter Tryz.func53, Tryz.ntmps53
          go_wp2_with (first | (go_at_call 68; refine (hs _ s).mono ?_; rintro e w' ⟨rfl, m, rfl⟩) | (go_at_call 51; refine (open_v (by assumption) _ (g.drewN _)).mono ?_; rintro e w' ⟨rfl, m, rfl⟩))
          go_ret
          exact ⟨rfl, _, rfl⟩
        | true =>
          rw [hm, hA, hB, hC, hD]
          simp only [Bool.true_and]
          clear hm
          go_enter Tryz.func53, Tryz.ntmps53
          go_wp2_with (first | (go_at_call 68; refine (hs _ s).mono ?_; rintro e w' ⟨rfl, m, rfl⟩) | (go_at_call 51; refine (open_v (by assumption) _ (g.drewN _)).mono ?_; rintro e w' ⟨rfl, m, rfl⟩))
          go_ret
          exact ⟨rfl, _, rfl⟩

theorem hasCell_v {b : Nat} {W H V c : Int} {bl : Nat → Bool} {r : Bool} (hr : inB W H c = r) (w : World) (g : GridAt w b W H V bl) :
    Calls Tryz.prog 30 #[.pointer (some ⟨b, 0, none⟩), .int .i64 c] w fun e w' => e = .returned (.bool r) ∧ ∃ m, w' = w.drewN m := hr ▸ hasCell_any c w g

set_option maxHeartbeats 1000000 in
theorem place_in {b : Nat} {W H V : Int} {bl : Nat → Bool} (c : Int) (w : World) (g : GridAt w b W H V bl) (hr : inB W H c = true) :
    Calls Tryz.prog 44 #[.pointer (some ⟨b, 0, none⟩), .int .i64 c] w fun e w' => e = .returned (.tuple #[.int .i64 (c % W), .int .i64 (c / W), .nilIface]) ∧ ∃ m, w' = w.drewN m := by
  have hc : 0 ≤ c ∧ c < W * H := of_decide_eq_true hr
  obtain ⟨k1, k2⟩ := wh_bd g.w1 g.w2 g.h1 g.h2
  have w1 := g.w1
  have w2 := g.w2
  have c0 := g.c0
  obtain ⟨q1, q2⟩ := hc
  go_enter Tryz.func44, Tryz.ntmps44
  go_wp2_with (go_at_call 30; refine (hasCell_v hr _ g).mono ?_; rintro e w' ⟨rfl, m, rfl⟩)
  go_quiet (fail)
  go_wp2
  go_ret3
  exact ⟨rfl, _, World.drewN_drewN _ _ _⟩

set_option maxHeartbeats 400000 in
theorem place_out {b : Nat} {W H V : Int} {bl : Nat → Bool} (c : Int) (w : World) (g : GridAt w b W H V bl) (hr : inB W H c = false) :
    Calls Tryz.prog 44 #[.pointer (some ⟨b, 0, none⟩), .int .i64 c] w fun e w' => e = .returned (.tuple #[.int .i64 0, .int .i64 0, .iface 75 (.int .i64 1)]) ∧ ∃ m, w' = w.drewN m := by
  go_enter Tryz.func44, Tryz.ntmps44
  go_wp2_with (go_at_call 30; refine (hasCell_v hr _ g).mono ?_; rintro e w' ⟨rfl, m, rfl⟩)
  go_ret3
  exact ⟨rfl, _, rfl⟩

set_option maxHeartbeats 400000 in
theorem to_any {b : Nat} {W H V : Int} {bl : Nat → Bool} (c : Int) (d : Nat) (w : World) (g : GridAt w b W H V bl) (s : StepsAt w) (hd : d < 8) (c1 : -1000 ≤ c) (c2 : c ≤ 1000) :
    Calls Tryz.prog 48 #[.pointer (some ⟨b, 0, none⟩), .int .i64 c, .int .i64 d] w fun e w' => e = .returned (.int .i64 (c + (stepY d * W + stepX d))) ∧ ∃ m, w' = w.drewN m := by
  obtain ⟨s1, s2, s3, s4⟩ := step_bd d
  obtain ⟨k1, k2⟩ := yw_bd g.w1 g.w2 (show -100 ≤ stepY d by omega) (by omega)
  have hs := fun w h => step_any d w h hd
  have hn := fun w g => number_any (b := b) (W := W) (H := H) (V := V) (bl := bl) (stepX d) (stepY d) w g (by omega) (by omega) (by omega) (by omega)
  generalize stepX d = dx at *
  generalize stepY d = dy at *
  go_enter Tryz.func48, Tryz.ntmps48
  go_wp2_with (first | (go_at_call 68; refine (hs _ s).mono ?_; rintro e w' ⟨rfl, m, rfl⟩) | (go_at_call 69; refine (hn _ (g.drewN _)).mono ?_; rintro e w' ⟨rfl, rfl⟩))
  go_ret
  exact ⟨rfl, _, rfl⟩

/-- the directions below k in which one may go -/
def mvs (W H : Int) (bl : Nat → Bool) (x y : Int) (k : Nat) : List Nat := (List.range k).filter (mayB W H bl x y)
theorem mvs_succ (W H : Int) (bl : Nat → Bool) (x y : Int) (k : Nat) : mvs W H bl x y (k + 1) = mvs W H bl x y k ++ (if mayB W H bl x y k then [k] else []) := by
  unfold mvs
  rw [List.range_succ, List.filter_append]
  cases h : mayB W H bl x y k <;> simp [h]
theorem mvs_len (W H : Int) (bl : Nat → Bool) (x y : Int) (k : Nat) : (mvs W H bl x y k).length ≤ k := by
  unfold mvs
  have := List.length_filter_le (mayB W H bl x y) (List.range k)
  simpa using this
/-- a list of numbers as values -/
abbrev vals (l : List Nat) : List Value := l.map fun d : Nat => Value.int .i64 (d : Int)

theorem may_v {b : Nat} {W H V x y : Int} {bl : Nat → Bool} {d : Nat} {r : Bool} (hr : mayB W H bl x y d = r) (w : World) (g : GridAt w b W H V bl) (s : StepsAt w) (hd : d < 8) (x1 : -100 ≤ x) (x2 : x ≤ 100) (y1 : -100 ≤ y) (y2 : y ≤ 100) :
    Calls Tryz.prog 53 #[.pointer (some ⟨b, 0, none⟩), .int .i64 x, .int .i64 y, .int .i64 d] w fun e w' => e = .returned (.bool r) ∧ ∃ m, w' = w.drewN m := hr ▸ may_any x y d w g s hd x1 x2 y1 y2

theorem GridAt.below {w w' : World} {b : Nat} {W H V : Int} {bl : Nat → Bool} {B : Nat} (g : GridAt w b W H V bl) (hb : Below B w w') (h : b < B) : GridAt w' b W H V bl :=
  ⟨g.w1, g.w2, g.h1, g.h2, (hb.cell (p := ⟨b, 0, none⟩) h).trans g.c0, (hb.cell (p := ⟨b, 1, none⟩) h).trans g.c1, (hb.cell (p := ⟨b, 2, none⟩) h).trans g.c2, fun i hi => (hb.cell (p := ⟨b, 3 + i, none⟩) h).trans (g.cs i hi)⟩
theorem StepsAt.below {w w' : World} {B : Nat} (s : StepsAt w) (hb : Below B w w') (h : 0 < B) : StepsAt w' :=
  fun i hi => ⟨(hb.cell (p := ⟨0, 2 * i, none⟩) h).trans (s i hi).1, (hb.cell (p := ⟨0, 2 * i + 1, none⟩) h).trans (s i hi).2⟩

theorem Tryz.info3 : (Tryz.prog.info? 3).map (fun i => (i.zero, i.size, i.bytes)) = some (some (.int .i64 0), 1, 8) := by kernel_rfl

set_option maxHeartbeats 1600000 in
set_option maxRecDepth 1000000 in
theorem moves_in {b : Nat} {W H V : Int} {bl : Nat → Bool} (c : Int) (w : World) (g : GridAt w b W H V bl) (s : StepsAt w) (hr : inB W H c = true) (hb : b < w.heap.size) :
    Calls Tryz.prog 46 #[.pointer (some ⟨b, 0, none⟩), .int .i64 c] w fun e w' => ∃ v, e = .returned (.tuple #[v, .nilIface]) ∧
      w'.ownsRow w.heap.size 3 1 v (mvs W H bl (c % W) (c / W) 8).length (vals (mvs W H bl (c % W) (c / W) 8)) ∧ Below w.heap.size w w' := by
  obtain ⟨i0, hi, hz0, hz1, hz2⟩ := info_parts Tryz.info3
  have hc : 0 ≤ c ∧ c < W * H := of_decide_eq_true hr
  obtain ⟨k1, k2⟩ := wh_bd g.w1 g.w2 g.h1 g.h2
  have x1 : 0 ≤ c % W := Int.emod_nonneg _ (by have := g.w1; omega)
  have x2 : c % W < W := Int.emod_lt_of_pos _ (by have := g.w1; omega)
  have y1 : 0 ≤ c / W := Int.ediv_nonneg hc.1 (by have := g.w1; omega)
  have y2 : c / W ≤ 256 := by
    have := Int.ediv_le_self W hc.1
    omega
  have y3 : c / W < H := Int.ediv_lt_of_lt_mul (by have := g.w1; omega) (by rw [Int.mul_comm]; exact hc.2)
  have hP := fun w g => place_in (b := b) (W := W) (H := H) (V := V) (bl := bl) c w g hr
  have gw := g.w2
  have gh := g.h2
  generalize c % W = x at *
  generalize c / W = y at *
  go_enter Tryz.func46, Tryz.ntmps46
  go_wp2_with (go_at_call 44; refine (hP _ g).mono ?_; rintro e w' ⟨rfl, m, rfl⟩)
  go_loopw [9, 21] (fun v i wr => ∃ k : Nat, k ≤ 8 ∧ i = .int .i64 k ∧ wr.ownsRow w.heap.size 3 1 v (mvs W H bl x y k).length (vals (mvs W H bl x y k)) ∧ Below w.heap.size w wr)
    (fun _ i _ => 8 - (intOf i).toNat)
  case atStart => exact ⟨0, Nat.zero_le _, rfl, World.ownsRow_nil _ _ _ _, below_drewN (Below.refl _ _) _⟩
  case round =>
    obtain ⟨k, hk, rfl, hown, hnx⟩ := hrel
    have hl := mvs_len W H bl x y k
    have gr := g.below hnx hb
    have sr := s.below hnx (by omega)
    have hsz := hnx.size
    by_cases hlt : k < 8
    · have hms := mvs_succ W H bl x y k
      cases hM : mayB W H bl x y k with
      | false =>
        rw [hM] at hms
        have h0 : mvs W H bl x y (k + 1) = mvs W H bl x y k := by simpa using hms
        have HS : Hid (mvs W H bl x y (k + 1) = mvs W H bl x y k) := h0
        clear h0
        clear hms
        go_wp2_with (go_at_call 53; refine (may_v hM _ gr sr hlt (by omega) (by omega) (by omega) (by omega)).mono ?_; rintro e w' ⟨rfl, m, rfl⟩)
        go_roundw
        case rel => exact ⟨k + 1, by omega, by go_num, by rw [HS.out]; exact hown, below_drewN hnx _⟩
        case measure => simp [intOf]; omega
      | true =>
        rw [hM] at hms
        have h0 : mvs W H bl x y (k + 1) = mvs W H bl x y k ++ [k] := by simpa using hms
        have HS : Hid (mvs W H bl x y (k + 1) = mvs W H bl x y k ++ [k]) := h0
        clear h0
        clear hms
        go_wp2_with (first | (go_at_call 53; refine (may_v hM _ gr sr hlt (by omega) (by omega) (by omega) (by omega)).mono ?_; rintro e w' ⟨rfl, m, rfl⟩) | (at_builtin; refine wpList_append_own _ rfl _ _ 22 rfl w.heap.size 3 i0 (.int .i64 0) 1 8 Tryz.underlying22 hi hz0 hz1 hz2 rfl (by decide) _ _ _ rfl (World.ownsRow.alloc hown _) ⟨wr.heap.size, 0, none⟩ 1 1 [.int .i64 k] rfl rfl ?c1 ?c2 ?c3 ?c4 ?c5 ?_))
        case c1 =>
          intro j u hj
          match j, hj with
          | 0, hj =>
            simp at hj; subst hj; simp only [Addr.add]
            exact World.cell?_alloc_at (w := wr.drewN m) #[.int .i64 k] 3 wr.heap.size 0 rfl
        case c2 => intro u hu; simp at hu; subst hu; rfl
        case c3 => unfold maxLen; omega
        case c4 => omega
        case c5 => simp; omega
        intro v' w1 hown' hgrow _
        have hbase := fun q hq => (hown.lt q hq).1
        have B1 : Below w.heap.size w w1 := ((below_drewN hnx m).alloc hsz _).grown hgrow (by simp; omega) hbase
        have O1 : w1.ownsRow w.heap.size 3 1 v' (mvs W H bl x y (k + 1)).length (vals (mvs W H bl x y (k + 1))) := by
          rw [HS.out]
          simpa [vals] using hown'
        clear hown' hgrow hown hnx gr sr
        go_wp2
        go_roundw
        case rel => exact ⟨k + 1, by omega, by go_num, O1, B1⟩
        case measure => simp [intOf]; omega
    · have : k = 8 := by omega
      subst this
      go_wp2
      go_ret2
      exact ⟨_, rfl, hown, hnx⟩

set_option maxHeartbeats 400000 in
theorem moves_out {b : Nat} {W H V : Int} {bl : Nat → Bool} (c : Int) (w : World) (g : GridAt w b W H V bl) (hr : inB W H c = false) :
    Calls Tryz.prog 46 #[.pointer (some ⟨b, 0, none⟩), .int .i64 c] w fun e w' => e = .returned (.tuple #[.slice none 0 0, .iface 75 (.int .i64 1)]) ∧ ∃ m, w' = w.drewN m := by
  go_enter Tryz.func46, Tryz.ntmps46
  go_wp2_with (go_at_call 44; refine (place_out c _ g hr).mono ?_; rintro e w' ⟨rfl, m, rfl⟩)
  go_ret2
  exact ⟨rfl, _, rfl⟩
end Go.Proofs.YtcagpmglijockaaGreatDoor
