/-
  What is wrong with a cell on which one is to be; the first look at a walk.
-/
import Derived.Test.YtfhicijgpdpfpaaDoorBtw
namespace Go.Proofs.YtfhicijgpdpfpaaDoor
open Go.RowKit

/-- what is wrong with a cell: 1: it is none; 4: it is blocked -/
def ffv (W H : Int) (bl : Nat → Bool) (c : Int) : Int := if inB W H c then (if bl c.toNat then 4 else 0) else 1
/-- an error by its number -/
def errV (n : Int) : Value := if n = 0 then .nilIface else .iface 78 (.int .i64 n)

set_option maxHeartbeats 400000 in
theorem ff_out {b : Nat} {W H V : Int} {bl : Nat → Bool} (c : Int) (w : World) (g : RefAt w b W H V bl) (hr : inB W H c = false) :
    Calls Tryd.prog 15 #[.pointer (some ⟨b, 0, none⟩), .int .i64 c] w fun e w' => e = .returned (.int .i64 1) ∧ Below w.heap.size w w' := by
  go_enter Tryd.func15, Tryd.ntmps15
  go_wp2_with (go_at_call 20; refine (ris_out c _ g hr).mono ?_; rintro e w' ⟨rfl, m, rfl⟩)
  go_ret
  exact ⟨rfl, below_drewN (Below.refl _ _) _⟩

set_option maxHeartbeats 400000 in
set_option maxRecDepth 1000000 in
theorem ff_in {b : Nat} {W H V : Int} {bl : Nat → Bool} (c : Nat) (w : World) (g : RefAt w b W H V bl) (hr : inB W H c = true) :
    Calls Tryd.prog 15 #[.pointer (some ⟨b, 0, none⟩), .int .i64 c] w fun e w' => e = .returned (.int .i64 (if bl c then 4 else 0)) ∧ Below w.heap.size w w' := by
  have hc : 0 ≤ (c : Int) ∧ (c : Int) < W * H := of_decide_eq_true hr
  obtain ⟨k1, k2⟩ := wh_bd g.w1 g.w2 g.h1 g.h2
  have hcell := g.cs c (by omega)
  have i1 : (c : Int) < 256 := by omega
  cases hb : bl c with
  | true =>
    rw [hb] at hcell
    go_enter Tryd.func15, Tryd.ntmps15
    go_wp2_with (go_at_call 20; refine (ris_in c _ g hr).mono ?_; rintro e w' ⟨rfl, m, rfl⟩)
    go_ret
    exact ⟨rfl, below_drewN (Below.refl _ _) _⟩
  | false =>
    rw [hb] at hcell
    go_enter Tryd.func15, Tryd.ntmps15
    go_wp2_with (go_at_call 20; refine (ris_in c _ g hr).mono ?_; rintro e w' ⟨rfl, m, rfl⟩)
    go_ret
    exact ⟨rfl, below_drewN (Below.refl _ _) _⟩

theorem ff_any {b : Nat} {W H V : Int} {bl : Nat → Bool} (c : Int) (w : World) (g : RefAt w b W H V bl) :
    Calls Tryd.prog 15 #[.pointer (some ⟨b, 0, none⟩), .int .i64 c] w fun e w' => e = .returned (.int .i64 (ffv W H bl c)) ∧ Below w.heap.size w w' := by
  cases hr : inB W H c with
  | false =>
    have e : ffv W H bl c = 1 := by unfold ffv; rw [hr]; rfl
    rw [e]; exact ff_out c w g hr
  | true =>
    have hc : 0 ≤ c ∧ c < W * H := of_decide_eq_true hr
    obtain ⟨n, rfl⟩ : ∃ n : Nat, c = n := ⟨c.toNat, by omega⟩
    have e : ffv W H bl n = if bl n then 4 else 0 := by unfold ffv; rw [hr]; rfl
    rw [e]; exact ff_in n w g hr

theorem check_any {b : Nat} {W H V : Int} {bl : Nat → Bool} (c : Int) (w : World) (g : GridAt w b W H V bl) :
    Calls Tryd.prog 45 #[.pointer (some ⟨b, 0, none⟩), .int .i64 c] w fun e w' => e = .returned (errV (ffv W H bl c)) ∧ Below w.heap.size w w' := by
  have q : ∀ {v : Value}, (Calls Tryd.prog 45 #[.pointer (some ⟨b, 0, none⟩), .int .i64 c] w fun e w' => e = .returned v ∧ ∃ m, w' = w.drewN m) → Calls Tryd.prog 45 #[.pointer (some ⟨b, 0, none⟩), .int .i64 c] w fun e w' => e = .returned v ∧ Below w.heap.size w w' := fun h => h.mono fun _ _ ⟨he, m, hm⟩ => ⟨he, by subst hm; exact below_drewN (Below.refl _ _) m⟩
  cases hr : inB W H c with
  | false =>
    have e : ffv W H bl c = 1 := by unfold ffv; rw [hr]; rfl
    rw [e]; exact q (check_out c w g hr)
  | true =>
    have hc : 0 ≤ c ∧ c < W * H := of_decide_eq_true hr
    obtain ⟨n, rfl⟩ : ∃ n : Nat, c = n := ⟨c.toNat, by omega⟩
    have e : ffv W H bl n = if bl n then 4 else 0 := by unfold ffv; rw [hr]; rfl
    rw [e]
    cases hb : bl n with
    | true => exact q (check_bl n w g hr hb)
    | false => exact q (check_ok n w g hr hb)
end Go.Proofs.YtfhicijgpdpfpaaDoor
