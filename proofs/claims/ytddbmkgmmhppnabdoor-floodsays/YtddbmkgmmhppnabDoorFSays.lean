/-
  The walk of 'FloodSays': the ways out ahead of its loop, and what its loop keeps.
-/
import Derived.Test.YtddbmkgmmhppnabDoorRFlood3
import Derived.Test.YtddbmkgmmhppnabDoorFloods
namespace Go.Proofs.YtddbmkgmmhppnabDoor
open Go.RowKit

theorem errV_zero : errV 0 = .nilIface := rfl
theorem errV_pos {n : Int} (h : 0 < n) : errV n = .iface 90 (.int .i64 n) := by unfold errV; rw [if_neg (by omega)]
theorem same_ev (n : Int) (w : World) (h : 0 ≤ n) :
    Calls Tryd.prog 13 #[errV n, .int .i64 n] w fun e w' => e = .returned (.bool true) ∧ w' = w := by
  by_cases q : n = 0
  · subst q; rw [errV_zero]; exact same_nil w
  · rw [errV_pos (by omega)]; exact same_err n w (by omega)
theorem ffv_nonneg (W H : Int) (bl : Nat → Bool) (c : Int) : 0 ≤ ffv W H bl c := by
  unfold ffv; split
  · split <;> omega
  · omega
theorem wkS_pos {W H : Int} {bl : Nat → Bool} {xs : Nat → Int} : ∀ {n : Nat} {e : Int}, wkS W H bl xs n = .error e → 0 ≤ e
  | 0, _, h => by rw [wkS] at h; cases h
  | n + 1, e, h => by
    rw [wkS] at h
    cases hw : wkS W H bl xs n with
    | error e' => rw [hw] at h; cases h; exact wkS_pos hw
    | ok c =>
      rw [hw] at h
      simp only at h
      unfold wk1 at h
      split at h
      · split at h
        · cases h
        · split at h
          · cases h; decide
          · cases h
      · cases h; exact ffv_nonneg W H bl _
theorem wkV_pos (W H : Int) (bl : Nat → Bool) (xs : Nat → Int) (n : Nat) : 0 ≤ (wkV W H bl xs n).2 := by
  unfold wkV
  split
  · decide
  · split
    · rename_i e he; exact wkS_pos he
    · exact Int.le_refl 0
theorem walk_any {b n cap : Nat} {A : Option Addr} {W H V : Int} {bl : Nat → Bool} {xs : Nat → Int} (w : World) (g : GridAt w b W H V bl) (s : StepsAt w) (hb : b < w.heap.size) (hx : OldRow w A n xs) (hn : n ≤ 300) :
    Calls Tryd.prog 17 #[.pointer (some ⟨b, 0, none⟩), .slice A n cap] w fun e w' => e = .returned (.tuple #[.agg #[.int .i64 (wkV W H bl xs n).1.1, .int .i64 (wkV W H bl xs n).1.2], errV (wkV W H bl xs n).2]) ∧ Below w.heap.size w w' := by
  by_cases h0 : n = 0
  · subst h0
    exact walk_none w
  · exact walk_some w g s hb hx hn (by omega)

theorem boxedF (w : World) (W H : Int) (A : Option Addr) (n cap : Nat) {wa : World}
    (hb : Below (w.alloc (.cells #[.int .i64 W, .int .i64 H, .slice A n cap] 24)).heap.size (w.alloc (.cells #[.int .i64 W, .int .i64 H, .slice A n cap] 24)) wa) :
    wa.cell? ⟨w.heap.size, 0, none⟩ = some (.int .i64 W) ∧ wa.cell? ⟨w.heap.size, 1, none⟩ = some (.int .i64 H) ∧ wa.cell? ⟨w.heap.size, 2, none⟩ = some (.slice A n cap) := by
  have h : ∀ o, wa.cell? ⟨w.heap.size, o, none⟩ = #[Value.int .i64 W, .int .i64 H, .slice A n cap][o]? := fun o => by
    rw [hb.cell (p := ⟨w.heap.size, o, none⟩) (by simp), World.cell?_alloc_new]
  exact ⟨h 0, h 1, h 2⟩

set_option maxHeartbeats 1000000 in
set_option maxRecDepth 1000000 in
theorem floodSays_many (W H : Int) (A B : Option Addr) (n cap k cb : Nat) (c : Int) (w : World) (s : StepsAt w) (h0 : 0 < w.heap.size) (_hk : k ≤ maxLen) (hm : 300 < (k : Int)) :
    Calls Tryd.prog 5 #[.agg #[.int .i64 W, .int .i64 H, .slice A n cap], .int .i64 c, .slice B k cb] w fun e w' => e = .returned (.bool true) ∧ Below w.heap.size w w' := by
  unfold maxLen at _hk
  have hb : Below w.heap.size w (w.alloc (.cells #[.int .i64 W, .int .i64 H, .slice A n cap] 24)) := (Below.refl _ _).alloc (Nat.le_refl _) _
  have hs := s.below hb h0
  go_enter Tryd.func5, Tryd.ntmps5
  go_wp2_with (go_at_call 16; refine (floods_any _ hs).mono ?_; rintro e w1 ⟨rfl, hb1⟩)
  go_ret
  exact ⟨rfl, hb.trans (hb1.mono (by simp))⟩

set_option maxHeartbeats 1000000 in
set_option maxRecDepth 1000000 in
theorem floodSays_none (W H : Int) (A B : Option Addr) (n cap k cb : Nat) (c : Int) (w : World) (s : StepsAt w) (h0 : 0 < w.heap.size) (hk : ¬ 300 < (k : Int))
    (hL : ∀ w' : World, Calls Tryd.prog 8 #[.agg #[.int .i64 W, .int .i64 H, .slice A n cap]] w' fun e w'' => e = .returned (.tuple #[.pointer none, .pointer none, .bool false]) ∧ Below w'.heap.size w' w'') :
    Calls Tryd.prog 5 #[.agg #[.int .i64 W, .int .i64 H, .slice A n cap], .int .i64 c, .slice B k cb] w fun e w' => e = .returned (.bool true) ∧ Below w.heap.size w w' := by
  have hb : Below w.heap.size w (w.alloc (.cells #[.int .i64 W, .int .i64 H, .slice A n cap] 24)) := (Below.refl _ _).alloc (Nat.le_refl _) _
  have hs := s.below hb h0
  go_enter Tryd.func5, Tryd.ntmps5
  go_wp2_with (first | (go_at_call 16; refine (floods_any _ hs).mono ?_; rintro e w1 ⟨rfl, hb1⟩; obtain ⟨p0, p1, p2⟩ := boxedF w W H A n cap hb1) | (go_at_call 8; refine (hL _).mono ?_; rintro e w2 ⟨rfl, hb2⟩))
  go_ret
  exact ⟨rfl, (hb.trans (hb1.mono (by simp))).trans (hb2.mono (hb.trans (hb1.mono (by simp))).size)⟩

/-- what the loop keeps -/
structure FS (w : World) (fb gb cb M WB IB : Nat) (W H V : Int) (bl : Nat → Bool) (F : Int → Option (Int × Int)) : Prop where
  fl : FloodAt w fb gb cb W H V bl F (cnt F (W * H).toNat)
  ra : RefAt w M W H V bl
  lab : LabAt w WB IB F
theorem FS.below {w w' : World} {fb gb cb M WB IB : Nat} {W H V : Int} {bl : Nat → Bool} {F : Int → Option (Int × Int)} (h : FS w fb gb cb M WB IB W H V bl F) (hb : Below w.heap.size w w') : FS w' fb gb cb M WB IB W H V bl F :=
  ⟨h.fl.below hb, h.ra.below hb (World.block_lt_of_cell? w _ h.ra.c0), h.lab.below hb⟩
theorem FS.lt {w : World} {fb gb cb M WB IB : Nat} {W H V : Int} {bl : Nat → Bool} {F : Int → Option (Int × Int)} (h : FS w fb gb cb M WB IB W H V bl F) : M < w.heap.size := World.block_lt_of_cell? w _ h.ra.c0
end Go.Proofs.YtddbmkgmmhppnabDoor
