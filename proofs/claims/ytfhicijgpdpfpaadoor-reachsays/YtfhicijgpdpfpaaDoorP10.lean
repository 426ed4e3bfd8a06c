/-
  Texts laid together: Btw, WalkF, WalkP, RCost.
-/
import Derived.Test.YtfhicijgpdpfpaaDoorP9
import Derived.Deep.RegionHeld3
import Derived.Deep.RegionWith
/-
  Which direction leads from a cell to another one; by which one a cell was come to.
-/
namespace Go.Proofs.YtfhicijgpdpfpaaDoor
open Go.RowKit

set_option maxHeartbeats 1000000 in
theorem btw_fits {b C1 C2 C3 : Nat} {W H V f t r : Int} {bl : Nat → Bool} (d : Nat) (w : World) (g : GridAt w b W H V bl) (s : StepsAt w) (hd : d < 8) (h1 : -1000 ≤ f) (h2 : f ≤ 1000) (hr : f + (stepY d * W + stepX d) = r)
    (c1 : w.cell? ⟨C1, 0, none⟩ = some (.pointer (some ⟨b, 0, none⟩))) (c2 : w.cell? ⟨C2, 0, none⟩ = some (.int .i64 f)) (c3 : w.cell? ⟨C3, 0, none⟩ = some (.int .i64 t)) :
    Calls Tryd.prog 76 #[.int .i64 d, .pointer (some ⟨C1, 0, none⟩), .pointer (some ⟨C2, 0, none⟩), .pointer (some ⟨C3, 0, none⟩)] w fun e w' => e = .returned (.bool (r == t)) ∧ Below w.heap.size w w' := by
  go_enter Tryd.func76, Tryd.ntmps76
  go_wp2
  go_quiet ((go_at_call 25; exact Calls.quiet_of (to_v hr _ (g.drewN _) (s.drewN _) hd h1 h2)))
  go_wp2
  go_ret
  exact ⟨rfl, below_drewN (Below.refl _ _) _⟩

set_option maxHeartbeats 1000000 in
theorem between_any {b : Nat} {W H V x y : Int} {bl : Nat → Bool} (f : Nat) (t : Int) (hx : (f : Int) % W = x) (hy : (f : Int) / W = y) (w : World) (g : GridAt w b W H V bl) (s : StepsAt w) (hb : b < w.heap.size) (hr : inB W H f = true) :
    Calls Tryd.prog 46 #[.pointer (some ⟨b, 0, none⟩), .int .i64 f, .int .i64 t] w fun e w' => FoundAt w w' e (fun d => mayB W H bl x y d && ((f : Int) + (stepY d * W + stepX d) == t)) := by
  have hcc : 0 ≤ (f : Int) ∧ (f : Int) < W * H := of_decide_eq_true hr
  obtain ⟨k1, k2⟩ := wh_bd g.w1 g.w2 g.h1 g.h2
  have HB : Below w.heap.size w (((w.alloc (.cells #[.pointer (some ⟨b, 0, none⟩)] 26)).alloc (.cells #[.int .i64 (f : Int)] 3)).alloc (.cells #[.int .i64 t] 3)) := (((Below.refl _ _).alloc (Nat.le_refl _) _).alloc (by simp) _).alloc (by simp; omega) _
  have q1 : (((w.alloc (.cells #[.pointer (some ⟨b, 0, none⟩)] 26)).alloc (.cells #[.int .i64 (f : Int)] 3)).alloc (.cells #[.int .i64 t] 3)).cell? ⟨w.heap.size, 0, none⟩ = some (.pointer (some ⟨b, 0, none⟩)) := by
    rw [World.cell?_alloc_old _ _ _ (by simp; omega), World.cell?_alloc_old _ _ _ (by simp), World.cell?_alloc_new]; rfl
  have q2 : (((w.alloc (.cells #[.pointer (some ⟨b, 0, none⟩)] 26)).alloc (.cells #[.int .i64 (f : Int)] 3)).alloc (.cells #[.int .i64 t] 3)).cell? ⟨w.heap.size + 1, 0, none⟩ = some (.int .i64 (f : Int)) := by
    rw [World.cell?_alloc_old _ _ _ (by simp)]
    exact World.cell?_alloc_at #[.int .i64 (f : Int)] 3 (w.heap.size + 1) 0 (by simp)
  have q3 : (((w.alloc (.cells #[.pointer (some ⟨b, 0, none⟩)] 26)).alloc (.cells #[.int .i64 (f : Int)] 3)).alloc (.cells #[.int .i64 t] 3)).cell? ⟨w.heap.size + 1 + 1, 0, none⟩ = some (.int .i64 t) :=
    World.cell?_alloc_at #[.int .i64 t] 3 (w.heap.size + 1 + 1) 0 (by simp)
  go_enter Tryd.func46, Tryd.ntmps46
  go_wp2_with fail
  generalize ((w.alloc (.cells #[.pointer (some ⟨b, 0, none⟩)] 26)).alloc (.cells #[.int .i64 (f : Int)] 3)).alloc (.cells #[.int .i64 t] 3) = W0 at *
  have g0 := g.below HB hb
  have s0 := s.below HB s.pos
  have hz := HB.size
  refine (find_btw f hx hy (fun d => (f : Int) + (stepY d * W + stepX d) == t) W0 g0 s0 (by omega) hr (fun d hd _ w' hb' => ?_)).mono ?_
  · have k : ∀ {a : Addr} {v : Value}, W0.cell? a = some v → w'.cell? a = some v := fun {a v} h => (hb'.cell (World.block_lt_of_cell? W0 a h)).trans h
    exact btw_fits d w' (g0.below hb' (by omega)) (s0.below hb' s0.pos) hd (by omega) (by omega) rfl (k q1) (k q2) (k q3)
  · rintro e w5 ⟨r, ok, rfl, hF, hb5⟩
    go_wp2
    go_ret2
    exact ⟨r, ok, rfl, hF, HB.trans (hb5.mono hz)⟩
end Go.Proofs.YtfhicijgpdpfpaaDoor
/-
  What is wrong with a cell on which one is to be; the first look at a walk.
-/
namespace Go.Proofs.YtfhicijgpdpfpaaDoor
open Go.RowKit

/-- what is wrong with a cell: 1: it is none; 4: it is blocked -/
def ffv (W H : Int) (bl : Nat → Bool) (c : Int) : Int := if inB W H c then (if bl c.toNat then 4 else 0) else 1
/-- an error by its number -/
def errV (n : Int) : Value := if n = 0 then .nilIface else .iface 78 (.int .i64 n)

set_option maxHeartbeats 400000 in
theorem ff_out {b : Nat} {W H V : Int} {bl : Nat → Bool} (c : Int) (w : World) (g : RefAt w b W H V bl) (hr : inB W H c = false) :
    Calls Tryd.prog 15 #[.pointer (some ⟨b, 0, none⟩), .int .i64 c] w fun e w' => e = .returned (.int .i64 1) ∧ Below w.heap.size w w' := by
  go_enter Tryd.func15, Tryd.ntmps15
  go_wp2_with (go_at_call 20; refine (ris_out c _ g hr).mono ?_; rintro e w' ⟨rfl, m, rfl⟩)
  go_ret
  exact ⟨rfl, below_drewN (Below.refl _ _) _⟩

set_option maxHeartbeats 400000 in
set_option maxRecDepth 1000000 in
theorem ff_in {b : Nat} {W H V : Int} {bl : Nat → Bool} (c : Nat) (w : World) (g : RefAt w b W H V bl) (hr : inB W H c = true) :
    Calls Tryd.prog 15 #[.pointer (some ⟨b, 0, none⟩), .int .i64 c] w fun e w' => e = .returned (.int .i64 (if bl c then 4 else 0)) ∧ Below w.heap.size w w' := by
  have hc : 0 ≤ (c : Int) ∧ (c : Int) < W * H := of_decide_eq_true hr
  obtain ⟨k1, k2⟩ := wh_bd g.w1 g.w2 g.h1 g.h2
  have hcell := g.cs c (by omega)
  have i1 : (c : Int) < 256 := by omega
  cases hb : bl c with
  | true =>
    rw [hb] at hcell
    go_enter Tryd.func15, Tryd.ntmps15
    go_wp2_with (go_at_call 20; refine (ris_in c _ g hr).mono ?_; rintro e w' ⟨rfl, m, rfl⟩)
    go_ret
    exact ⟨rfl, below_drewN (Below.refl _ _) _⟩
  | false =>
    rw [hb] at hcell
    go_enter Tryd.func15, Tryd.ntmps15
    go_wp2_with (go_at_call 20; refine (ris_in c _ g hr).mono ?_; rintro e w' ⟨rfl, m, rfl⟩)
    go_ret
    exact ⟨rfl, below_drewN (Below.refl _ _) _⟩

theorem ff_any {b : Nat} {W H V : Int} {bl : Nat → Bool} (c : Int) (w : World) (g : RefAt w b W H V bl) :
    Calls Tryd.prog 15 #[.pointer (some ⟨b, 0, none⟩), .int .i64 c] w fun e w' => e = .returned (.int .i64 (ffv W H bl c)) ∧ Below w.heap.size w w' := by
  cases hr : inB W H c with
  | false =>
    have e : ffv W H bl c = 1 := by unfold ffv; rw [hr]; rfl
    rw [e]; exact ff_out c w g hr
  | true =>
    have hc : 0 ≤ c ∧ c < W * H := of_decide_eq_true hr
    obtain ⟨n, rfl⟩ : ∃ n : Nat, c = n := ⟨c.toNat, by omega⟩
    have e : ffv W H bl n = if bl n then 4 else 0 := by unfold ffv; rw [hr]; rfl
    rw [e]; exact ff_in n w g hr

theorem check_any {b : Nat} {W H V : Int} {bl : Nat → Bool} (c : Int) (w : World) (g : GridAt w b W H V bl) :
    Calls Tryd.prog 45 #[.pointer (some ⟨b, 0, none⟩), .int .i64 c] w fun e w' => e = .returned (errV (ffv W H bl c)) ∧ Below w.heap.size w w' := by
  have q : ∀ {v : Value}, (Calls Tryd.prog 45 #[.pointer (some ⟨b, 0, none⟩), .int .i64 c] w fun e w' => e = .returned v ∧ ∃ m, w' = w.drewN m) → Calls Tryd.prog 45 #[.pointer (some ⟨b, 0, none⟩), .int .i64 c] w fun e w' => e = .returned v ∧ Below w.heap.size w w' := fun h => h.mono fun _ _ ⟨he, m, hm⟩ => ⟨he, by subst hm; exact below_drewN (Below.refl _ _) m⟩
  cases hr : inB W H c with
  | false =>
    have e : ffv W H bl c = 1 := by unfold ffv; rw [hr]; rfl
    rw [e]; exact q (check_out c w g hr)
  | true =>
    have hc : 0 ≤ c ∧ c < W * H := of_decide_eq_true hr
    obtain ⟨n, rfl⟩ : ∃ n : Nat, c = n := ⟨c.toNat, by omega⟩
    have e : ffv W H bl n = if bl n then 4 else 0 := by unfold ffv; rw [hr]; rfl
    rw [e]
    cases hb : bl n with
    | true => exact q (check_bl n w g hr hb)
    | false => exact q (check_ok n w g hr hb)
end Go.Proofs.YtfhicijgpdpfpaaDoor
/-
  What a walk costs: the program's.
-/
namespace Go.Proofs.YtfhicijgpdpfpaaDoor
open Go.RowKit

/-- the direction from a cell to another one -/
def stepD (W H : Int) (bl : Nat → Bool) (a b : Int) : Option Nat := (List.range 8).find? (fun d => mayB W H bl (a % W) (a / W) d && (a + (stepY d * W + stepX d) == b))
/-- one look at a walk -/
def wk1 (W H : Int) (bl : Nat → Bool) (xs : Nat → Int) (i : Nat) (c : Int × Int) : Except Int (Int × Int) :=
  if ffv W H bl (xs i) = 0 then (if i = 0 then .ok c else match stepD W H bl (xs (i - 1)) (xs i) with | none => .error 7 | some k => .ok (c.1 + stS k, c.2 + stD k)) else .error (ffv W H bl (xs i))
/-- what the first ones of a walk cost, or what is wrong -/
def wkS (W H : Int) (bl : Nat → Bool) (xs : Nat → Int) : Nat → Except Int (Int × Int)
  | 0 => .ok (0, 0)
  | i + 1 => match wkS W H bl xs i with | .error e => .error e | .ok c => wk1 W H bl xs i c
/-- what a walk costs, and its fault -/
def wkV (W H : Int) (bl : Nat → Bool) (xs : Nat → Int) (n : Nat) : (Int × Int) × Int := if n = 0 then ((0, 0), 7) else match wkS W H bl xs n with | .error e => ((0, 0), e) | .ok c => (c, 0)

theorem wkS_stuck {W H : Int} {bl : Nat → Bool} {xs : Nat → Int} {i : Nat} {e : Int} (h : wkS W H bl xs i = .error e) : ∀ n, i ≤ n → wkS W H bl xs n = Except.error e := by
  intro n hn
  induction n with
  | zero => have : i = 0 := by omega
            subst this; exact h
  | succ n ih =>
    by_cases q : i = n + 1
    · subst q; exact h
    · rw [wkS, ih (by omega)]
theorem wkV_err {W H : Int} {bl : Nat → Bool} {xs : Nat → Int} {i n : Nat} {e : Int} (h : wkS W H bl xs i = .error e) (hn : i ≤ n) (h0 : 0 < n) : wkV W H bl xs n = ((0, 0), e) := by
  unfold wkV; rw [if_neg (by omega), wkS_stuck h n hn]
theorem wkV_ok {W H : Int} {bl : Nat → Bool} {xs : Nat → Int} {n : Nat} {c : Int × Int} (h : wkS W H bl xs n = .ok c) (h0 : 0 < n) : wkV W H bl xs n = (c, 0) := by
  unfold wkV; rw [if_neg (by omega), h]
theorem wkS_next {W H : Int} {bl : Nat → Bool} {xs : Nat → Int} {i : Nat} {c : Int × Int} (h : wkS W H bl xs i = .ok c) : wkS W H bl xs (i + 1) = wk1 W H bl xs i c := by
  rw [wkS, h]
theorem wkS_back {W H : Int} {bl : Nat → Bool} {xs : Nat → Int} {i : Nat} {c : Int × Int} (h : wkS W H bl xs (i + 1) = .ok c) : ∃ c0, wkS W H bl xs i = .ok c0 ∧ wk1 W H bl xs i c0 = .ok c := by
  rw [wkS] at h
  cases hw : wkS W H bl xs i with
  | error e => rw [hw] at h; cases h
  | ok c0 => rw [hw] at h; exact ⟨c0, rfl, h⟩
theorem wkS_bd {W H : Int} {bl : Nat → Bool} {xs : Nat → Int} : ∀ {i : Nat} {c : Int × Int}, wkS W H bl xs i = .ok c → 0 ≤ c.1 ∧ c.1 ≤ i ∧ 0 ≤ c.2 ∧ c.2 ≤ i := by
  intro i
  induction i with
  | zero => intro c h; rw [wkS] at h; cases h; decide
  | succ i ih =>
    intro c h
    obtain ⟨c0, h1, h2⟩ := wkS_back h
    have := ih h1
    unfold wk1 at h2
    by_cases a1 : ffv W H bl (xs i) = 0
    · rw [if_pos a1] at h2
      by_cases a2 : i = 0
      · rw [if_pos a2] at h2; cases h2; omega
      · rw [if_neg a2] at h2
        cases hs : stepD W H bl (xs (i - 1)) (xs i) with
        | none => rw [hs] at h2; cases h2
        | some k =>
          rw [hs] at h2; cases h2
          have := st_bd k
          simp only
          omega
    · rw [if_neg a1] at h2; cases h2
/-- all but the last one are cells -/
theorem wkS_in {W H : Int} {bl : Nat → Bool} {xs : Nat → Int} {i : Nat} {c : Int × Int} (h : wkS W H bl xs (i + 1) = .ok c) : inB W H (xs i) = true := by
  obtain ⟨c0, h1, h2⟩ := wkS_back h
  unfold wk1 at h2
  by_cases a1 : ffv W H bl (xs i) = 0
  · unfold ffv at a1
    by_cases a2 : inB W H (xs i) = true
    · exact a2
    · rw [if_neg a2] at a1; omega
  · rw [if_neg a1] at h2; cases h2
/-- what 'between' tells is the direction -/
theorem found_stepD {W H r t : Int} {bl : Nat → Bool} {ok : Bool} {f : Nat} (h : Found (fun d => mayB W H bl ((f : Int) % W) ((f : Int) / W) d && ((f : Int) + (stepY d * W + stepX d) == t)) r ok) :
    (ok = true ∧ ∃ k : Nat, k < 8 ∧ r = k ∧ stepD W H bl f t = some k) ∨ (ok = false ∧ stepD W H bl f t = none) := by
  rcases h with ⟨h1, d, hd, hr, hq, hno⟩ | ⟨h1, _, hno⟩
  · left
    refine ⟨h1, d, hd, hr, ?_⟩
    unfold stepD
    rw [List.find?_range_eq_some]
    exact ⟨hq, by simpa using hd, fun e he => by have := hno e he; simp only at this; rw [this]; rfl⟩
  · right
    refine ⟨h1, ?_⟩
    unfold stepD
    rw [List.find?_range_eq_none]
    intro e he
    have := hno e he
    simp only at this
    rw [this]; rfl

set_option maxHeartbeats 2000000 in
set_option maxRecDepth 1000000 in
theorem walk_none {b cap : Nat} {A : Option Addr} (w : World) :
    Calls Tryd.prog 11 #[.pointer (some ⟨b, 0, none⟩), .slice A 0 cap] w fun e w' => e = .returned (.tuple #[.agg #[.int .i64 0, .int .i64 0], errV 7]) ∧ Below w.heap.size w w' := by
  go_enter Tryd.func11, Tryd.ntmps11
  go_wp2
  exact bodyPost_ret (v := .tuple #[.agg #[.int .i64 0, .int .i64 0], .iface 78 (.int .i64 7)]) (by simp [results, Tryd.results11, go_sem]) rfl ⟨rfl, (Below.refl _ _).alloc (Nat.le_refl _) _⟩

/-- a cost in a block of one's own -/
structure Slot (w : World) (B : Nat) (s d : Int) : Prop where
  c0 : w.cell? ⟨B, 0, none⟩ = some (.int .i64 s)
  c1 : w.cell? ⟨B, 1, none⟩ = some (.int .i64 d)
  z0 : w.frozen? ⟨B, 0, none⟩ = false
  z1 : w.frozen? ⟨B, 1, none⟩ = false
theorem Slot.keep {F : Nat → Prop} {w w' : World} {B : Nat} {s d : Int} (h : Slot w B s d) (K : Keep F w w') (hn : ¬ F B) : Slot w' B s d := by
  have hB := World.block_lt_of_cell? w _ h.c0
  exact ⟨K.cellOf h.c0 hn, K.cellOf h.c1 hn, (K.frozen (p := ⟨B, 0, none⟩) hB hn).trans h.z0, (K.frozen (p := ⟨B, 1, none⟩) hB hn).trans h.z1⟩
theorem Slot.below {w w' : World} {B : Nat} {s d : Int} (h : Slot w B s d) (hb : Below w.heap.size w w') : Slot w' B s d := h.keep (F := fun _ => False) (Keep.of_below hb) id
theorem Slot.new (w : World) (s d : Int) : Slot (w.alloc (.cells #[.int .i64 s, .int .i64 d] 31)) w.heap.size s d :=
  ⟨World.cell?_alloc_at #[.int .i64 s, .int .i64 d] 31 w.heap.size 0 rfl, World.cell?_alloc_at #[.int .i64 s, .int .i64 d] 31 w.heap.size 1 rfl, free_alloc w #[.int .i64 s, .int .i64 d] 31 w.heap.size (Nat.le_refl _) 0, free_alloc w #[.int .i64 s, .int .i64 d] 31 w.heap.size (Nat.le_refl _) 1⟩

theorem setTwo (w : World) (B : Nat) (s d : Int) {x y : Value} (h0 : w.cell? ⟨B, 0, none⟩ = some x) (h1 : w.cell? ⟨B, 1, none⟩ = some y) :
    ((w.setCell ⟨B, 0, none⟩ (.int .i64 s)).setCell ⟨B, 1, none⟩ (.int .i64 d)).cell? ⟨B, 0, none⟩ = some (.int .i64 s) ∧ ((w.setCell ⟨B, 0, none⟩ (.int .i64 s)).setCell ⟨B, 1, none⟩ (.int .i64 d)).cell? ⟨B, 1, none⟩ = some (.int .i64 d) := by
  constructor
  · rw [World.cell?_setCell_other _ _ _ _ (by intro e; cases e)]; exact World.cell?_setCell_same _ _ _ h0
  · refine World.cell?_setCell_same _ _ _ (u := y) ?_
    rw [World.cell?_setCell_other _ _ _ _ (by intro e; cases e)]; exact h1

theorem Slot.set {w : World} {B : Nat} {x y : Int} (S : Slot w B x y) (s d : Int) : Slot ((w.setCell ⟨B, 0, none⟩ (.int .i64 s)).setCell ⟨B, 1, none⟩ (.int .i64 d)) B s d := by
  have r := setTwo w B s d S.c0 S.c1
  exact ⟨r.1, r.2, by simpa using S.z0, by simpa using S.z1⟩
theorem set_keep (w : World) (B : Nat) (s d : Int) : Keep (fun k => k = B) w ((w.setCell ⟨B, 0, none⟩ (.int .i64 s)).setCell ⟨B, 1, none⟩ (.int .i64 d)) :=
  ((Keep.refl (fun k => k = B) w).setCell (p := ⟨B, 0, none⟩) (fun _ => rfl) _).setCell (p := ⟨B, 1, none⟩) (fun _ => rfl) _

set_option maxHeartbeats 4000000 in
set_option maxRecDepth 1000000 in
theorem walk_some {b n cap : Nat} {A : Option Addr} {W H V : Int} {bl : Nat → Bool} {xs : Nat → Int} (w : World) (g : GridAt w b W H V bl) (s : StepsAt w) (hb : b < w.heap.size) (hx : OldRow w A n xs) (hn : n ≤ 300) (h0 : 0 < n) :
    Calls Tryd.prog 11 #[.pointer (some ⟨b, 0, none⟩), .slice A n cap] w fun e w' => e = .returned (.tuple #[.agg #[.int .i64 (wkV W H bl xs n).1.1, .int .i64 (wkV W H bl xs n).1.2], errV (wkV W H bl xs n).2]) ∧ Below w.heap.size w w' := by
  have l0 : ¬ (n : Int) = 0 := by omega
  have l0b : ((n : Int) == 0) = false := by simpa using l0
  have R0 : Slot ((w.alloc (.cells #[.int .i64 0, .int .i64 0] 31)).alloc (.cells #[.int .i64 0, .int .i64 0] 31)) w.heap.size 0 0 := (Slot.new w 0 0).below ((Below.refl _ _).alloc (Nat.le_refl _) _)
  have S0 : Slot ((w.alloc (.cells #[.int .i64 0, .int .i64 0] 31)).alloc (.cells #[.int .i64 0, .int .i64 0] 31)) (w.heap.size + 1) 0 0 := by
    have := Slot.new (w.alloc (.cells #[.int .i64 0, .int .i64 0] 31)) 0 0
    have e : (w.alloc (.cells #[.int .i64 0, .int .i64 0] 31)).heap.size = w.heap.size + 1 := by simp
    rw [e] at this
    exact this
  have HB0 : Below w.heap.size w ((w.alloc (.cells #[.int .i64 0, .int .i64 0] 31)).alloc (.cells #[.int .i64 0, .int .i64 0] 31)) := ((Below.refl _ _).alloc (Nat.le_refl _) _).alloc (by simp) _
  go_enter Tryd.func11, Tryd.ntmps11
  go_wp2
  go_loopg [19] n (fun gk iv wr => ∃ (i : Nat) (c : Int × Int), i ≤ n ∧ gk = n - i ∧ iv = .int .i64 i ∧ wkS W H bl xs i = .ok c ∧ Slot wr w.heap.size 0 0 ∧ Slot wr (w.heap.size + 1) c.1 c.2 ∧ Below w.heap.size w wr)
  case atStart => exact ⟨0, (0, 0), by omega, rfl, rfl, rfl, R0, S0, HB0⟩
  case round =>
    clear R0 S0 HB0
    obtain ⟨i, ⟨s1, d1⟩, hi, hgk, rfl, hw, R, S, HB⟩ := hrel
    have HG : Hid (gk = n - i) := hgk
    clear hgk
    have gr := g.below HB hb
    have sr := s.below HB s.pos
    have hbd := wkS_bd hw
    simp only at hbd S
    by_cases hlt : i < n
    · have hlt' : (i : Int) < (n : Int) := by omega
      obtain ⟨ba, oa, rfl, hba, hcell⟩ := hx i hlt
      have ci : wr.cell? ⟨ba, oa + i, none⟩ = some (.int .i64 (xs i)) := (HB.cell (p := ⟨ba, oa + i, none⟩) hba).trans hcell
      clear hcell
      have hck := check_any (xs i) wr gr
      by_cases hf : ffv W H bl (xs i) = 0
      · have ev : errV (ffv W H bl (xs i)) = .nilIface := by rw [hf]; rfl
        rw [ev] at hck
        by_cases hi0 : i = 0
        · subst hi0
          have ci' : wr.cell? ⟨ba, oa, none⟩ = some (.int .i64 (xs 0)) := ci
          have hnx : wkS W H bl xs (0 + 1) = .ok (s1, d1) := by rw [wkS_next hw]; unfold wk1; rw [if_pos hf, if_pos rfl]
          go_wp2_with (go_at_call 45; refine hck.mono ?_; rintro e w1 ⟨rfl, hb1⟩)
          go_roundg (n - (0 + 1))
          case measure => have := HG.out; omega
          case rel => exact ⟨0 + 1, (s1, d1), by omega, rfl, by go_num, hnx, R.below hb1, S.below hb1, HB.trans (hb1.mono HB.size)⟩
        · have hib : ((i : Int) == 0) = false := by simp; omega
          have hie : ¬ (i : Int) = 0 := by omega
          obtain ⟨c0, hw0, hw1⟩ := wkS_back (i := i - 1) (by rw [Nat.sub_add_cancel (by omega)]; exact hw)
          have hin : inB W H (xs (i - 1)) = true := wkS_in (i := i - 1) (by rw [Nat.sub_add_cancel (by omega)]; exact hw)
          have hc2 : 0 ≤ xs (i - 1) ∧ xs (i - 1) < W * H := of_decide_eq_true hin
          obtain ⟨ba', oa', e, hba', hcell'⟩ := hx (i - 1) (by omega)
          cases e
          have cp : wr.cell? ⟨ba, oa + (i - 1), none⟩ = some (.int .i64 (xs (i - 1))) := (HB.cell (p := ⟨ba, oa + (i - 1), none⟩) hba).trans hcell'
          have hti : ((i : Int) - 1).toNat = i - 1 := by omega
          have j1 : (0 : Int) ≤ (i : Int) - 1 := by omega
          have j2 : (i : Int) - 1 < (n : Int) := by omega
          obtain ⟨pn, hpn⟩ : ∃ pn : Nat, xs (i - 1) = pn := ⟨(xs (i - 1)).toNat, by omega⟩
          rw [hpn] at cp hin
          clear hcell' hw0 hw1 hc2
          go_wp2_with (go_at_call 45; refine hck.mono ?_; rintro e w1 ⟨rfl, hb1⟩; have cp := (hb1.cell (World.block_lt_of_cell? _ _ cp)).trans cp)
          refine (between_any pn (xs i) rfl rfl w1 (gr.below hb1 (Nat.lt_of_lt_of_le hb HB.size)) (sr.below hb1 sr.pos) (Nat.lt_of_lt_of_le (Nat.lt_of_lt_of_le hb HB.size) hb1.size) hin).mono ?_
          rintro e w2 ⟨r, ok, rfl, hFo, hb2⟩
          have hb12 : Below wr.heap.size wr w2 := hb1.trans (hb2.mono hb1.size)
          have R2 := R.below hb12
          have S2 := S.below hb12
          have HB2 := HB.trans (hb12.mono HB.size)
          have sr2 := s.below HB2 s.pos
          clear R S hb1 hb2 hck
          rcases found_stepD hFo with ⟨rfl, k, hk8, rfl, hsd⟩ | ⟨rfl, hsd⟩
          · have hnx : wkS W H bl xs (i + 1) = .ok (s1 + stS k, d1 + stD k) := by rw [wkS_next hw]; unfold wk1; rw [if_pos hf, if_neg hi0, hpn, hsd]
            have hst := st_bd k
            have hok1 : okC s1 d1 := by unfold okC; omega
            have hok2 : okC (stS k) (stD k) := by unfold okC; omega
            have hadd := fun w => add_any s1 d1 (stS k) (stD k) w hok1 hok2
            have hS3 : Below w.heap.size w w2.drew := ⟨HB2.os, HB2.tape, HB2.output, HB2.size, HB2.block⟩
            have R3 : Slot w2.drew w.heap.size 0 0 := ⟨R2.c0, R2.c1, R2.z0, R2.z1⟩
            have S3 : Slot w2.drew (w.heap.size + 1) s1 d1 := ⟨S2.c0, S2.c1, S2.z0, S2.z1⟩
            have sr3 : StepsAt w2.drew := sr2
            have x0 := S3.c0
            have x1 := S3.c1
            have x2 := S3.z0
            have x3 := S3.z1
            clear S2 R2 HB2 sr2 hFo hsd hw ci cp
            generalize s1 + stS k = A1 at *
            generalize d1 + stD k = A2 at *
            go_wp2
            go_region_with (first | (go_at_call 47; refine (stepCost_any k _ sr3 hk8).mono ?_; rintro e w4 ⟨rfl, hb4⟩; have R3 := R3.below hb4; have S3 := S3.below hb4; have hS3 := hS3.trans (hb4.mono hS3.size); have x0 := S3.c0; have x1 := S3.c1; have x2 := S3.z0; have x3 := S3.z1) | (go_at_call 27; refine (hadd _).mono ?_; rintro e w5 ⟨rfl, hb5⟩; have R3 := R3.below hb5; have S3 := S3.below hb5; have hS3 := hS3.trans (hb5.mono hS3.size); have x0 := S3.c0; have x1 := S3.c1; have x2 := S3.z0; have x3 := S3.z1))
            all_goals
              clear hadd x0 x1 x2 x3
              have S6 := S3.set A1 A2
              have R6 := R3.keep (set_keep _ (w.heap.size + 1) A1 A2) (by omega)
              have HB6 := (hS3.setCell (p := ⟨w.heap.size + 1, 0, none⟩) (Nat.le_succ _) (.int .i64 A1)).setCell (p := ⟨w.heap.size + 1, 1, none⟩) (Nat.le_succ _) (.int .i64 A2)
              clear S3 R3 hS3
              go_wp2
              go_roundg (n - (i + 1))
              case measure => have := HG.out; omega
              case rel => exact ⟨i + 1, (A1, A2), by omega, rfl, by go_num, hnx, R6, S6, HB6⟩
          · have hnx : wkS W H bl xs (i + 1) = .error 7 := by rw [wkS_next hw]; unfold wk1; rw [if_pos hf, if_neg hi0, hpn, hsd]
            have hV := wkV_err hnx (by omega) h0
            obtain ⟨x0, x1, x2, x3⟩ := R2
            go_wp2
            have r0 := setTwo w2 w.heap.size 0 0 (Slot.mk x0 x1 x2 x3).c0 (Slot.mk x0 x1 x2 x3).c1
            exact bodyPost_ret (v := .tuple #[.agg #[.int .i64 0, .int .i64 0], .iface 78 (.int .i64 7)]) (by simp [results, Tryd.results11, go_sem, r0.1, r0.2]) rfl ⟨by rw [hV]; rfl, (HB2.setCell (p := ⟨w.heap.size, 0, none⟩) (Nat.le_refl _) _).setCell (p := ⟨w.heap.size, 1, none⟩) (Nat.le_refl _) _⟩
      · have hnx : wkS W H bl xs (i + 1) = .error (ffv W H bl (xs i)) := by rw [wkS_next hw]; unfold wk1; rw [if_neg hf]
        have hV := wkV_err hnx (by omega) h0
        have ev : errV (ffv W H bl (xs i)) = .iface 78 (.int .i64 (ffv W H bl (xs i))) := by unfold errV; rw [if_neg hf]
        rw [ev] at hck
        generalize ffv W H bl (xs i) = fv0 at *
        go_wp2_with (go_at_call 45; refine hck.mono ?_; rintro e w1 ⟨rfl, hb1⟩; have R := R.below hb1; have HB := HB.trans (hb1.mono HB.size); obtain ⟨x0, x1, x2, x3⟩ := R)
        have r0 := setTwo w1 w.heap.size 0 0 (Slot.mk x0 x1 x2 x3).c0 (Slot.mk x0 x1 x2 x3).c1
        exact bodyPost_ret (v := .tuple #[.agg #[.int .i64 0, .int .i64 0], .iface 78 (.int .i64 fv0)]) (by simp [results, Tryd.results11, go_sem, r0.1, r0.2]) rfl ⟨by rw [hV, ev], (HB.setCell (p := ⟨w.heap.size, 0, none⟩) (Nat.le_refl _) _).setCell (p := ⟨w.heap.size, 1, none⟩) (Nat.le_refl _) _⟩
    · have : i = n := by omega
      subst this
      have hV := wkV_ok hw h0
      obtain ⟨y0, y1, y2, y3⟩ := R
      obtain ⟨x0, x1, x2, x3⟩ := S
      go_wp2
      have r0 := setTwo wr w.heap.size s1 d1 (Slot.mk y0 y1 y2 y3).c0 (Slot.mk y0 y1 y2 y3).c1
      exact bodyPost_ret (v := .tuple #[.agg #[.int .i64 s1, .int .i64 d1], .nilIface]) (by simp [results, Tryd.results11, go_sem, r0.1, r0.2]) rfl ⟨by rw [hV]; rfl, (HB.setCell (p := ⟨w.heap.size, 0, none⟩) (Nat.le_refl _) _).setCell (p := ⟨w.heap.size, 1, none⟩) (Nat.le_refl _) _⟩
end Go.Proofs.YtfhicijgpdpfpaaDoor
/-
  What the reference's functions about costs do, and 'same', 'costs'.
-/
namespace Go.Proofs.YtfhicijgpdpfpaaDoor
open Go.RowKit

/-- the fault's number -/
def flt (s d : Int) : Int := @ite Int (inC s d) (inC_dec s d) 0 1

set_option maxHeartbeats 400000 in
theorem plus_any (s d t u : Int) (w : World) (h : okC s d) (k : okC t u) :
    Calls Tryd.prog 42 #[.agg #[.int .i64 s, .int .i64 d], .agg #[.int .i64 t, .int .i64 u]] w fun e w' => e = .returned (.agg #[.int .i64 (s + t), .int .i64 (d + u)]) ∧ Below w.heap.size w w' := by
  obtain ⟨h1, h2, h3, h4⟩ := h
  obtain ⟨k1, k2, k3, k4⟩ := k
  go_enter Tryd.func42, Tryd.ntmps42
  go_wp2
  exact bodyPost_ret (v := .agg #[.int .i64 (s + t), .int .i64 (d + u)]) (by simp [results, Tryd.results42, go_sem]) rfl ⟨rfl, ((((Below.refl _ _).alloc (Nat.le_refl _) _).alloc (by simp) _).alloc (by simp; omega) _)⟩

theorem neg_sq (x : Int) : -x * -x = x * x := by rw [Int.neg_mul, Int.mul_neg, Int.neg_neg]
theorem irr_pos (x y : Int) (hx : 0 ≤ x) (hy : 0 ≤ y) (hq : y < 38613965) (h : x * x = 2 * (y * y)) : x = 0 := by
  have a := pos_lt x y hx hy hq
  have b := pos_gt x y hx hy hq
  have e : 38613965 * x = 54608393 * y := by
    rcases Int.lt_trichotomy (38613965 * x) (54608393 * y) with k | k | k
    · have := a.mpr k; omega
    · exact k
    · have := b.mpr k; omega
  exact (no_mid x y e (Int.lt_of_lt_of_le (by decide) hy) hq).1
theorem irr (x y : Int) (h1 : -38613965 < y) (h2 : y < 38613965) (h : x * x = 2 * (y * y)) : x = 0 := by
  by_cases hx : 0 ≤ x <;> by_cases hy : 0 ≤ y
  · exact irr_pos x y hx hy h2 h
  · exact irr_pos x (-y) hx (by omega) (by omega) (by rw [neg_sq]; exact h)
  · have := irr_pos (-x) y (by omega) hy h2 (by rw [neg_sq]; exact h)
    omega
  · have := irr_pos (-x) (-y) (by omega) (by omega) (by omega) (by rw [neg_sq, neg_sq]; exact h)
    omega
theorem sq_pos (x : Int) : x = 0 ∨ 0 < x * x := by
  by_cases h : x = 0
  · left; exact h
  · right
    have := mul_self_nonneg x
    by_cases g : x * x = 0
    · exact absurd (sq_zero x g) h
    · omega
/-- what decides: the differences' signs and squares -/
theorem cmpC_of (s d t u r : Int) (h1 : -38613965 < d - u) (h2 : d - u < 38613965)
    (H : ∀ X Y : Int, (s - t = 0 ∨ 0 < X) → (d - u = 0 ∨ 0 < Y) → (s - t = 0 → X = 0) → (d - u = 0 → Y = 0) → (X = 2 * Y → s - t = 0) → X = (s - t) * (s - t) → Y = (d - u) * (d - u) →
      ∀ A B : Int, (s - t < 0 → A = -X) → (¬ s - t < 0 → A = X) → (d - u > 0 → B = -Y) → (¬ d - u > 0 → B = Y) → (r = -1 ∧ A < 2 * B) ∨ (r = 0 ∧ A = 2 * B) ∨ (r = 1 ∧ 2 * B < A)) :
    cmpC s d t u = r := by
  have h := H _ _ (sq_pos (s - t)) (sq_pos (d - u)) (fun e => by rw [e]; rfl) (fun e => by rw [e]; rfl) (irr (s - t) (d - u) h1 h2) rfl rfl (if s - t < 0 then -((s - t) * (s - t)) else (s - t) * (s - t)) (if d - u > 0 then -((d - u) * (d - u)) else (d - u) * (d - u)) (fun e => by rw [if_pos e]) (fun e => by rw [if_neg e]) (fun e => by rw [if_pos e]) (fun e => by rw [if_neg e])
  have e1 : sqs (s - t) = if s - t < 0 then -((s - t) * (s - t)) else (s - t) * (s - t) := by unfold sqs; rw [Int.neg_mul]
  have e2 : sqs (u - d) = if d - u > 0 then -((d - u) * (d - u)) else (d - u) * (d - u) := by
    have n : u - d = -(d - u) := by omega
    rw [n, sqs_neg]
    unfold sqs
    rw [Int.neg_mul]
    by_cases c : d - u < 0
    · rw [if_pos c, if_neg (by omega), Int.neg_neg]
    · rw [if_neg c]
      by_cases c2 : d - u > 0
      · rw [if_pos c2]
      · rw [if_neg c2]
        have : d - u = 0 := by omega
        rw [this]; rfl
  unfold cmpC cmpI
  rw [e1, e2]
  rcases h with ⟨rfl, h⟩ | ⟨rfl, h⟩ | ⟨rfl, h⟩
  · rw [if_pos h]
  · rw [h, if_neg (by omega)]; simp
  · rw [if_neg (by omega), if_pos h]

theorem ret_int {k : IntKind} {a b : Int} (h : a = b) : Ending.returned (.int k a) = .returned (.int k b) := by rw [h]

set_option maxHeartbeats 1000000 in
theorem rcmp_any (s d t u : Int) (w : World) (h : okC s d) (k : okC t u) :
    Calls Tryd.prog 52 #[.agg #[.int .i64 s, .int .i64 d], .agg #[.int .i64 t, .int .i64 u]] w fun e w' => e = .returned (.int .i64 (cmpC s d t u)) ∧ Below w.heap.size w w' := by
  obtain ⟨h1, h2, h3, h4⟩ := h
  obtain ⟨k1, k2, k3, k4⟩ := k
  have hB : Below w.heap.size w ((w.alloc (.cells #[.int .i64 s, .int .i64 d] 31)).alloc (.cells #[.int .i64 t, .int .i64 u] 31)) := ((Below.refl _ _).alloc (Nat.le_refl _) _).alloc (by simp) _
  have bx := mul_self_bd (s - t) (by omega) (by omega)
  have by_ := mul_self_bd (d - u) (by omega) (by omega)
  have e2 : 2 * (d - u) * (d - u) = 2 * ((d - u) * (d - u)) := Int.mul_assoc _ _ _
  have by2 : 0 ≤ 2 * (d - u) * (d - u) ∧ 2 * (d - u) * (d - u) ≤ 8796093022208 := by rw [e2]; omega
  go_enter Tryd.func52, Tryd.ntmps52
  go_wp2
  all_goals
    go_ret
    refine ⟨ret_int (Eq.symm (cmpC_of s d t u _ (by omega) (by omega) ?_)), hB⟩
    clear hB bx by_ e2 by2
    intro X Y p1 p2 p3 p4 p5 eX eY A B q1 q2 q3 q4
    simp only [← eX, ← eY, beq_iff_eq, beq_eq_false_iff_ne, ne_eq, decide_eq_decide, true_and] at *
    clear eX eY
    omega
end Go.Proofs.YtfhicijgpdpfpaaDoor
