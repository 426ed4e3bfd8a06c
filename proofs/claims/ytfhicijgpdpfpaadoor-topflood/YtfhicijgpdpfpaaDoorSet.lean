/-
  What setting a cell does, in the program's grid and in the reference's.
-/
import Derived.Test.YtfhicijgpdpfpaaDoorNew
namespace Go.Proofs.YtfhicijgpdpfpaaDoor
open Go.RowKit

/-- none of a block's cells is frozen -/
def Free (w : World) (b : Nat) : Prop := ∀ o, w.frozen? ⟨b, o, none⟩ = false

set_option maxHeartbeats 400000 in
theorem set_out {b : Nat} {W H V : Int} {bl : Nat → Bool} (c : Int) (v : Bool) (w : World) (g : GridAt w b W H V bl) (hr : inB W H c = false) :
    Calls Tryd.prog 16 #[.pointer (some ⟨b, 0, none⟩), .int .i64 c, .bool v] w fun e w' => e = .returned (.tuple #[.bool false, .iface 78 (.int .i64 1)]) ∧ ∃ m, w' = w.drewN m := by
  go_enter Tryd.func16, Tryd.ntmps16
  go_wp2_with (go_at_call 51; refine (hasCell_v hr _ g).mono ?_; rintro e w' ⟨rfl, m, rfl⟩)
  go_ret2
  exact ⟨rfl, _, rfl⟩

set_option maxHeartbeats 400000 in
theorem set_same {b : Nat} {W H V : Int} {bl : Nat → Bool} (c : Nat) (v : Bool) (w : World) (g : GridAt w b W H V bl) (hr : inB W H c = true) (hv : bl c = v) :
    Calls Tryd.prog 16 #[.pointer (some ⟨b, 0, none⟩), .int .i64 c, .bool v] w fun e w' => e = .returned (.tuple #[.bool false, .nilIface]) ∧ ∃ m, w' = w.drewN m := by
  have hc : 0 ≤ (c : Int) ∧ (c : Int) < W * H := of_decide_eq_true hr
  obtain ⟨k1, k2⟩ := wh_bd g.w1 g.w2 g.h1 g.h2
  obtain ⟨q1, q2⟩ := hc
  have q3 : (c : Int) < 256 := by omega
  have h := g.cs c (by omega)
  rw [hv] at h
  go_enter Tryd.func16, Tryd.ntmps16
  go_wp2_with (go_at_call 51; refine (hasCell_v hr _ g).mono ?_; rintro e w' ⟨rfl, m, rfl⟩)
  go_ret2
  exact ⟨rfl, _, rfl⟩

theorem addr_ne {b o p : Nat} (h : o ≠ p) : (⟨b, o, none⟩ : Addr) ≠ ⟨b, p, none⟩ := by
  intro e; cases e; exact h rfl

theorem gridAt_set {w : World} {b : Nat} {W H V : Int} {bl : Nat → Bool} (g : GridAt w b W H V bl) (c : Nat) (hc : c < 256) (v : Bool) :
    GridAt ((w.setCell ⟨b, 3 + c, none⟩ (.bool v)).setCell ⟨b, 2, none⟩ (.int .i64 (V + 1))) b W H (V + 1) (upd bl c v) := by
  refine ⟨g.w1, g.w2, g.h1, g.h2, ?_, ?_, ?_, fun i hi => ?_⟩
  · rw [World.cell?_setCell_other _ _ _ _ (addr_ne (by omega)), World.cell?_setCell_other _ _ _ _ (addr_ne (by omega))]; exact g.c0
  · rw [World.cell?_setCell_other _ _ _ _ (addr_ne (by omega)), World.cell?_setCell_other _ _ _ _ (addr_ne (by omega))]; exact g.c1
  · refine World.cell?_setCell_same _ _ _ (u := .int .i64 V) ?_
    rw [World.cell?_setCell_other _ _ _ _ (addr_ne (by omega))]; exact g.c2
  · rw [World.cell?_setCell_other _ _ _ _ (addr_ne (by omega))]
    unfold upd
    by_cases e : i = c
    · subst e
      rw [if_pos rfl]
      exact World.cell?_setCell_same _ _ _ (g.cs i hi)
    · rw [if_neg e, World.cell?_setCell_other _ _ _ _ (addr_ne (by omega))]; exact g.cs i hi

set_option maxHeartbeats 400000 in
theorem set_new {b : Nat} {W H V : Int} {bl : Nat → Bool} (c : Nat) (v : Bool) (w : World) (g : GridAt w b W H V bl) (f : Free w b) (hr : inB W H c = true) (hv : bl c = !v) (v1 : 0 ≤ V) (v2 : V ≤ 1000000) :
    Calls Tryd.prog 16 #[.pointer (some ⟨b, 0, none⟩), .int .i64 c, .bool v] w fun e w' => e = .returned (.tuple #[.bool true, .nilIface]) ∧ Touch b w w' ∧ GridAt w' b W H (V + 1) (upd bl c v) ∧ Free w' b := by
  have hc : 0 ≤ (c : Int) ∧ (c : Int) < W * H := of_decide_eq_true hr
  obtain ⟨k1, k2⟩ := wh_bd g.w1 g.w2 g.h1 g.h2
  obtain ⟨q1, q2⟩ := hc
  have q3 : (c : Int) < 256 := by omega
  have h := g.cs c (by omega)
  have c2 := g.c2
  have f1 := f 2
  have f2 := f (3 + c)
  rw [hv] at h
  have hx : ((!v) == v) = false := by cases v <;> rfl
  have hG := fun m => gridAt_set (g.drewN m) c (by omega) v
  have hne : (⟨b, 3 + c, none⟩ : Addr) ≠ ⟨b, 2, none⟩ := addr_ne (by omega)
  have c3 : (w.setCell ⟨b, 3 + c, none⟩ (.bool v)).cell? ⟨b, 2, none⟩ = some (.int .i64 V) := by rw [World.cell?_setCell_other _ _ _ _ hne]; exact c2
  go_enter Tryd.func16, Tryd.ntmps16
  go_wp2_with (go_at_call 51; refine (hasCell_v hr _ g).mono ?_; rintro e w' ⟨rfl, m, rfl⟩)
  go_ret2
  exact ⟨rfl, (((Touch.refl b w).drewN m).setCell _ _).setCell _ _, hG m, fun o => by simpa using f o⟩

/-- the fault's number: is it a cell of the reference's grid? -/
def isB (W H c : Int) : Int := if inB W H c then 0 else 1

set_option maxHeartbeats 400000 in
theorem ris_in {b : Nat} {W H V : Int} {bl : Nat → Bool} (c : Int) (w : World) (g : RefAt w b W H V bl) (hr : inB W H c = true) :
    Calls Tryd.prog 20 #[.pointer (some ⟨b, 0, none⟩), .int .i64 c] w fun e w' => e = .returned (.int .i64 0) ∧ ∃ m, w' = w.drewN m := by
  have hc : 0 ≤ c ∧ c < W * H := of_decide_eq_true hr
  obtain ⟨k1, k2⟩ := wh_bd g.w1 g.w2 g.h1 g.h2
  obtain ⟨q1, q2⟩ := hc
  have c0 := g.c0
  have c1 := g.c1
  have hd : decide (c < 0) = false := decide_eq_false (by omega)
  have he : ¬ W * H ≤ c := by omega
  go_enter Tryd.func20, Tryd.ntmps20
  go_wp2
  go_quiet (fail)
  go_wp2
  go_ret
  exact ⟨rfl, _, rfl⟩

set_option maxHeartbeats 400000 in
theorem ris_out {b : Nat} {W H V : Int} {bl : Nat → Bool} (c : Int) (w : World) (g : RefAt w b W H V bl) (hr : inB W H c = false) :
    Calls Tryd.prog 20 #[.pointer (some ⟨b, 0, none⟩), .int .i64 c] w fun e w' => e = .returned (.int .i64 1) ∧ ∃ m, w' = w.drewN m := by
  have hc : ¬ (0 ≤ c ∧ c < W * H) := of_decide_eq_false hr
  obtain ⟨k1, k2⟩ := wh_bd g.w1 g.w2 g.h1 g.h2
  have c0 := g.c0
  have c1 := g.c1
  by_cases h : c < 0
  · have hd : decide (c < 0) = true := decide_eq_true h
    go_enter Tryd.func20, Tryd.ntmps20
    go_wp2
    go_quiet (fail)
    go_wp2
    go_ret
    exact ⟨rfl, _, rfl⟩
  · have hd : decide (c < 0) = false := decide_eq_false h
    have he : W * H ≤ c := by omega
    go_enter Tryd.func20, Tryd.ntmps20
    go_wp2
    go_quiet (fail)
    go_wp2
    go_ret
    exact ⟨rfl, _, rfl⟩

set_option maxHeartbeats 400000 in
theorem rset_out {b : Nat} {W H V : Int} {bl : Nat → Bool} (c : Int) (v : Bool) (w : World) (g : RefAt w b W H V bl) (hr : inB W H c = false) :
    Calls Tryd.prog 44 #[.pointer (some ⟨b, 0, none⟩), .int .i64 c, .bool v] w fun e w' => e = .returned (.tuple #[.bool false, .int .i64 1]) ∧ ∃ m, w' = w.drewN m := by
  go_enter Tryd.func44, Tryd.ntmps44
  go_wp2_with (go_at_call 20; refine (ris_out _ _ g hr).mono ?_; rintro e w' ⟨rfl, m, rfl⟩)
  go_ret2
  exact ⟨rfl, _, rfl⟩

set_option maxHeartbeats 400000 in
theorem rset_same {b : Nat} {W H V : Int} {bl : Nat → Bool} (c : Nat) (v : Bool) (w : World) (g : RefAt w b W H V bl) (hr : inB W H c = true) (hv : bl c = v) :
    Calls Tryd.prog 44 #[.pointer (some ⟨b, 0, none⟩), .int .i64 c, .bool v] w fun e w' => e = .returned (.tuple #[.bool false, .int .i64 0]) ∧ ∃ m, w' = w.drewN m := by
  have hc : 0 ≤ (c : Int) ∧ (c : Int) < W * H := of_decide_eq_true hr
  obtain ⟨k1, k2⟩ := wh_bd g.w1 g.w2 g.h1 g.h2
  obtain ⟨q1, q2⟩ := hc
  have q3 : (c : Int) < 256 := by omega
  have h := g.cs c (by omega)
  rw [hv] at h
  go_enter Tryd.func44, Tryd.ntmps44
  go_wp2_with (go_at_call 20; refine (ris_in _ _ g hr).mono ?_; rintro e w' ⟨rfl, m, rfl⟩)
  go_ret2
  exact ⟨rfl, _, rfl⟩

theorem refAt_set {w : World} {b : Nat} {W H V : Int} {bl : Nat → Bool} (g : RefAt w b W H V bl) (c : Nat) (hc : c < 256) (v : Bool) :
    RefAt ((w.setCell ⟨b, 2 + c, none⟩ (.bool v)).setCell ⟨b, 258, none⟩ (.int .i64 (V + 1))) b W H (V + 1) (upd bl c v) := by
  refine ⟨g.w1, g.w2, g.h1, g.h2, ?_, ?_, ?_, fun i hi => ?_⟩
  · rw [World.cell?_setCell_other _ _ _ _ (addr_ne (by omega)), World.cell?_setCell_other _ _ _ _ (addr_ne (by omega))]; exact g.c0
  · rw [World.cell?_setCell_other _ _ _ _ (addr_ne (by omega)), World.cell?_setCell_other _ _ _ _ (addr_ne (by omega))]; exact g.c1
  · refine World.cell?_setCell_same _ _ _ (u := .int .i64 V) ?_
    rw [World.cell?_setCell_other _ _ _ _ (addr_ne (by omega))]; exact g.c2
  · rw [World.cell?_setCell_other _ _ _ _ (addr_ne (by omega))]
    unfold upd
    by_cases e : i = c
    · subst e
      rw [if_pos rfl]
      exact World.cell?_setCell_same _ _ _ (g.cs i hi)
    · rw [if_neg e, World.cell?_setCell_other _ _ _ _ (addr_ne (by omega))]; exact g.cs i hi

set_option maxHeartbeats 400000 in
theorem rset_new {b : Nat} {W H V : Int} {bl : Nat → Bool} (c : Nat) (v : Bool) (w : World) (g : RefAt w b W H V bl) (f : Free w b) (hr : inB W H c = true) (hv : bl c = !v) (v1 : 0 ≤ V) (v2 : V ≤ 1000000) :
    Calls Tryd.prog 44 #[.pointer (some ⟨b, 0, none⟩), .int .i64 c, .bool v] w fun e w' => e = .returned (.tuple #[.bool true, .int .i64 0]) ∧ Touch b w w' ∧ RefAt w' b W H (V + 1) (upd bl c v) ∧ Free w' b := by
  have hc : 0 ≤ (c : Int) ∧ (c : Int) < W * H := of_decide_eq_true hr
  obtain ⟨k1, k2⟩ := wh_bd g.w1 g.w2 g.h1 g.h2
  obtain ⟨q1, q2⟩ := hc
  have q3 : (c : Int) < 256 := by omega
  have h := g.cs c (by omega)
  have c2 := g.c2
  have f1 := f 258
  have f2 := f (2 + c)
  rw [hv] at h
  have hx : ((!v) == v) = false := by cases v <;> rfl
  have hG := fun m => refAt_set (g.drewN m) c (by omega) v
  have hne : (⟨b, 2 + c, none⟩ : Addr) ≠ ⟨b, 258, none⟩ := addr_ne (by omega)
  have c3 : (w.setCell ⟨b, 2 + c, none⟩ (.bool v)).cell? ⟨b, 258, none⟩ = some (.int .i64 V) := by rw [World.cell?_setCell_other _ _ _ _ hne]; exact c2
  go_enter Tryd.func44, Tryd.ntmps44
  go_wp2_with (go_at_call 20; refine (ris_in _ _ g hr).mono ?_; rintro e w' ⟨rfl, m, rfl⟩)
  go_ret2
  exact ⟨rfl, (((Touch.refl b w).drewN m).setCell _ _).setCell _ _, hG m, fun o => by simpa using f o⟩
end Go.Proofs.YtfhicijgpdpfpaaDoor
