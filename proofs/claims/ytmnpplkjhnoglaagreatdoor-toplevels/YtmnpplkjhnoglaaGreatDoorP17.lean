/-
  Texts laid together: WalkF, NearM.
-/
import Derived.Test.YtmnpplkjhnoglaaGreatDoorP16
/-
  What is wrong with a cell on which one is to be; the first look at a walk.
-/
namespace Go.Proofs.YtmnpplkjhnoglaaGreatDoor
open Go.RowKit

/-- what is wrong with a cell: 1: it is none; 4: it is blocked -/
def ffv (W H : Int) (bl : Nat → Bool) (c : Int) : Int := if inB W H c then (if bl c.toNat then 4 else 0) else 1
/-- an error by its number -/
def errV (n : Int) : Value := if n = 0 then .nilIface else .iface 96 (.int .i64 n)

theorem check_any {b : Nat} {W H V : Int} {bl : Nat → Bool} (c : Int) (w : World) (g : GridAt w b W H V bl) :
    Calls Tryz.prog 75 #[.pointer (some ⟨b, 0, none⟩), .int .i64 c] w fun e w' => e = .returned (errV (ffv W H bl c)) ∧ Below w.heap.size w w' := by
  have q : ∀ {v : Value}, (Calls Tryz.prog 75 #[.pointer (some ⟨b, 0, none⟩), .int .i64 c] w fun e w' => e = .returned v ∧ ∃ m, w' = w.drewN m) → Calls Tryz.prog 75 #[.pointer (some ⟨b, 0, none⟩), .int .i64 c] w fun e w' => e = .returned v ∧ Below w.heap.size w w' := fun h => h.mono fun _ _ ⟨he, m, hm⟩ => ⟨he, by subst hm; exact below_drewN (Below.refl _ _) m⟩
  cases hr : inB W H c with
  | false =>
    have e : ffv W H bl c = 1 := by unfold ffv; rw [hr]; rfl
    rw [e]; exact q (check_out c w g hr)
  | true =>
    have hc : 0 ≤ c ∧ c < W * H := of_decide_eq_true hr
    obtain ⟨n, rfl⟩ : ∃ n : Nat, c = n := ⟨c.toNat, by omega⟩
    have e : ffv W H bl n = if bl n then 4 else 0 := by unfold ffv; rw [hr]; rfl
    rw [e]
    cases hb : bl n with
    | true => exact q (check_bl n w g hr hb)
    | false => exact q (check_ok n w g hr hb)
end Go.Proofs.YtmnpplkjhnoglaaGreatDoor
/-
  What is near, and the way: the mathematics of 'TopNear'.
-/
namespace Go.Proofs.YtmnpplkjhnoglaaGreatDoor
open Go.RowKit

variable {W H : Int} {bl : Nat → Bool}
theorem On.sym {a b k : Int} (h : On W H bl a b k) : On W H bl b a k := ⟨h.2, h.1⟩
theorem near_iff {a b : Int} {F : Int → Option (Int × Int)} (w1 : 1 ≤ W) (hS : octS W a b ≤ 1000) (hD : octD W a b ≤ 1000) (BA : Best (Edge W H bl) a F) : (∃ z, On W H bl a b z) ↔ F b = some (octS W a b, octD W a b) := by
  constructor
  · rintro ⟨z, h⟩
    exact best_oct w1 BA (h.ends w1 hS hD).2.2
  · intro h
    exact ⟨b, On.of_near w1 hS hD (BA.sound h)⟩
theorem On.near_a {a b k : Int} (w1 : 1 ≤ W) (hS : octS W a b ≤ 1000) (hD : octD W a b ≤ 1000) (kS : octS W a k ≤ 1000) (kD : octD W a k ≤ 1000) (h : On W H bl a b k) : ∃ z, On W H bl a k z :=
  ⟨k, On.of_near w1 kS kD (h.walks w1 hS hD).1⟩
theorem On.near_b {a b k : Int} (w1 : 1 ≤ W) (hS : octS W a b ≤ 1000) (hD : octD W a b ≤ 1000) (kS : octS W k b ≤ 1000) (kD : octD W k b ≤ 1000) (h : On W H bl a b k) : ∃ z, On W H bl k b z := by
  have := (h.walks w1 hS hD).2.1.back (Edge.back w1)
  rw [octS_comm W b k, octD_comm W b k] at this
  exact ⟨b, On.of_near w1 kS kD this⟩
theorem On.free {a b k : Int} (w1 : 1 ≤ W) (hS : octS W a b ≤ 1000) (hD : octD W a b ≤ 1000) (ha : bl a.toNat = false) (h : On W H bl a b k) : bl k.toNat = false := wk_free ha (h.walks w1 hS hD).1

theorem ffv_zero {c : Int} (h1 : inB W H c = true) (h2 : bl c.toNat = false) : ffv W H bl c = 0 := by unfold ffv; rw [h1, h2]; rfl

end Go.Proofs.YtmnpplkjhnoglaaGreatDoor
