/-
  Lines through a place that has changed, counted anew; a cell of a table set; what a table answers.
-/
import Derived.Test.YtddbmkgmmhppnacDoorCount
namespace Go.Proofs.YtddbmkgmmhppnacDoor
open Go.RowKit

/-- what counting anew does -/
def ThrPost (w w' : World) (e : Ending) (tb pb : Nat) (W H V : Int) (bl : Nat → Bool) (d : Nat) (T : Nat → Nat → Nat) : Prop :=
  e = .returned (.tuple #[]) ∧ ∃ T', TabAt w' tb pb W H V bl T' ∧ Right W H bl T' d ∧ Turn W H bl d T T' ∧ Keep (fun k => k = tb) w w'

set_option maxHeartbeats 1000000 in
theorem through_any {tb pb : Nat} {W H V : Int} {bl : Nat → Bool} {v : Bool} {T : Nat → Nat → Nat} (x y : Int) (d : Nat) (w : World) (t : TabAt w tb pb W H V (upd bl (idx W x y) v) T) (hp : atB W H x y = true) (hR : Right W H bl T d) (hd : d < 8) :
    Calls Tryd.prog 24 #[.pointer (some ⟨tb, 0, none⟩), .int .i64 x, .int .i64 y, .int .i64 d] w fun e w' => ThrPost w w' e tb pb W H V (upd bl (idx W x y) v) d T := by
  obtain ⟨s1, s2, s3, s4⟩ := step_bd d
  have hs := fun w h => step_any d w h hd
  have w2' := t.ga.w2
  have h2' := t.ga.h2
  obtain ⟨i1, i2, i3, i4⟩ := at_iff.1 hp
  have c1 := count_any x y d w t hd (by omega) (by omega) (by omega) (by omega) (thr_a hd hp hR)
  by_cases hx : stepX d = 0
  · go_enter Tryd.func24, Tryd.ntmps24
    go_wp2_with (first | (go_at_call 23; refine c1.mono ?_; rintro e w1 ⟨rfl, T1, t1, C1, K1⟩) | (go_at_call 30; refine (hs _ t1.st).mono ?_; rintro e w2 ⟨rfl, m, rfl⟩))
    exact bodyPost_ret (v := .tuple #[]) (by simp [results, Tryd.results24, go_sem]) rfl ⟨rfl, T1, t1.drewN m, thr_straight hd hp hR C1 (Or.inl hx), C1.turn, K1.drewN m⟩
  · by_cases hy : stepY d = 0
    · go_enter Tryd.func24, Tryd.ntmps24
      go_wp2_with (first | (go_at_call 23; refine c1.mono ?_; rintro e w1 ⟨rfl, T1, t1, C1, K1⟩) | (go_at_call 30; refine (hs _ t1.st).mono ?_; rintro e w2 ⟨rfl, m, rfl⟩))
      exact bodyPost_ret (v := .tuple #[]) (by simp [results, Tryd.results24, go_sem]) rfl ⟨rfl, T1, t1.drewN m, thr_straight hd hp hR C1 (Or.inr hy), C1.turn, K1.drewN m⟩
    · have ex : (stepX d == 0) = false := by simpa using hx
      have ey : (stepY d == 0) = false := by simpa using hy
      go_enter Tryd.func24, Tryd.ntmps24
      go_wp2_with (first | (go_at_call 23; refine c1.mono ?_; rintro e w1 ⟨rfl, T1, t1, C1, K1⟩))
      refine (hs _ t1.st).mono ?_
      rintro e w2 ⟨rfl, m, rfl⟩
      have t2 := t1.drewN m
      have K2 := K1.drewN m
      clear t1 K1 c1
      generalize w1.drewN m = w2 at *
      have c2 := count_any (x - stepX d) y d w2 t2 hd (by omega) (by omega) (by omega) (by omega) (thr_b hd hp hR C1.turn hx hy)
      go_wp2_with fail
      refine c2.mono ?_
      rintro e w3 ⟨rfl, T2, t3, C2, K3⟩
      have c3 := count_any x (y - stepY d) d w3 t3 hd (by omega) (by omega) (by omega) (by omega) (thr_c hd hp hR (C1.turn.trans C2.turn) hx hy)
      clear c2
      go_wp2_with fail
      refine c3.mono ?_
      rintro e w4 ⟨rfl, T3, t4, C3, K4⟩
      clear c3
      go_wp2
      go_end0
      exact ⟨rfl, T3, t4, thr_diag hd hp hR C1 C2 C3 hx hy, (C1.turn.trans C2.turn).trans C3.turn, (K2.trans K3 (fun _ _ h => h)).trans K4 (fun _ _ h => h)⟩

/-- a table that is right -/
structure TabOk (w : World) (tb pb : Nat) (W H V : Int) (bl : Nat → Bool) : Prop where
  ok : ∃ T, TabAt w tb pb W H V bl T ∧ ∀ d, d < 8 → Right W H bl T d
theorem TabOk.keep {D : Nat → Prop} {w w' : World} {tb pb : Nat} {W H V : Int} {bl : Nat → Bool} (t : TabOk w tb pb W H V bl) (K : Keep D w w') (h1 : ¬ D tb) (h2 : ¬ D pb) (h3 : ¬ D 0) : TabOk w' tb pb W H V bl := by
  obtain ⟨T, a, b⟩ := t.ok
  exact ⟨T, a.keep K h1 h2 h3, b⟩
theorem TabOk.drewN {w : World} {tb pb : Nat} {W H V : Int} {bl : Nat → Bool} (t : TabOk w tb pb W H V bl) (m : Nat) : TabOk (w.drewN m) tb pb W H V bl := by
  obtain ⟨T, a, b⟩ := t.ok
  exact ⟨T, a.drewN m, b⟩
theorem TabOk.below {w w' : World} {tb pb : Nat} {W H V : Int} {bl : Nat → Bool} (t : TabOk w tb pb W H V bl) (hb : Below w.heap.size w w') : TabOk w' tb pb W H V bl :=
  t.keep (Keep.of_below (F := fun _ => False) hb) id id id

set_option maxHeartbeats 400000 in
theorem steps_out {tb pb : Nat} {W H V : Int} {bl : Nat → Bool} (c d : Int) (w : World) (t : TabOk w tb pb W H V bl) (hr : inB W H c = false) :
    Calls Tryd.prog 11 #[.pointer (some ⟨tb, 0, none⟩), .int .i64 c, .int .i64 d] w fun e w' => e = .returned (.tuple #[.int .i64 0, .iface 63 (.int .i64 1)]) ∧ ∃ m, w' = w.drewN m := by
  obtain ⟨T, t, _⟩ := t.ok
  have p0 := t.p0
  go_enter Tryd.func11, Tryd.ntmps11
  go_wp2_with (go_at_call 25; refine (free_out c _ t.ga hr).mono ?_; rintro e w' ⟨rfl, m, rfl⟩)
  go_ret2
  exact ⟨rfl, _, rfl⟩
set_option maxHeartbeats 400000 in
theorem steps_dir {tb pb : Nat} {W H V : Int} {bl : Nat → Bool} (c : Nat) (d : Int) (w : World) (t : TabOk w tb pb W H V bl) (hr : inB W H c = true) (hd : d < 0 ∨ 8 ≤ d) :
    Calls Tryd.prog 11 #[.pointer (some ⟨tb, 0, none⟩), .int .i64 c, .int .i64 d] w fun e w' => e = .returned (.tuple #[.int .i64 0, .iface 63 (.int .i64 1)]) ∧ ∃ m, w' = w.drewN m := by
  obtain ⟨T, t, _⟩ := t.ok
  have p0 := t.p0
  by_cases h : d < 0
  · go_enter Tryd.func11, Tryd.ntmps11
    go_wp2_with (go_at_call 25; refine (free_in c _ t.ga hr).mono ?_; rintro e w' ⟨rfl, m, rfl⟩)
    go_ret2
    exact ⟨rfl, _, rfl⟩
  · have h8 : 8 ≤ d := by omega
    clear hd
    go_enter Tryd.func11, Tryd.ntmps11
    go_wp2_with (go_at_call 25; refine (free_in c _ t.ga hr).mono ?_; rintro e w' ⟨rfl, m, rfl⟩)
    go_ret2
    exact ⟨rfl, _, rfl⟩
set_option maxHeartbeats 400000 in
set_option maxRecDepth 1000000 in
theorem steps_in {tb pb : Nat} {W H V : Int} {bl : Nat → Bool} (c d : Nat) (w : World) (t : TabOk w tb pb W H V bl) (hr : inB W H c = true) (hd : d < 8) :
    Calls Tryd.prog 11 #[.pointer (some ⟨tb, 0, none⟩), .int .i64 c, .int .i64 d] w fun e w' => e = .returned (.tuple #[.int .i64 (clr W H bl ((c : Int) % W) ((c : Int) / W) d : Nat), .nilIface]) ∧ ∃ m, w' = w.drewN m := by
  obtain ⟨T, t, hR⟩ := t.ok
  have p0 := t.p0
  obtain ⟨ha, hi⟩ := at_place t.ga.w1 hr
  have hc := hR d hd _ _ ha
  rw [show idx W ((c : Int) % W) ((c : Int) / W) = c from by omega] at hc
  obtain ⟨k1, k2⟩ := wh_bd t.ga.w1 t.ga.w2 t.ga.h1 t.ga.h2
  have hq : 0 ≤ (c : Int) ∧ (c : Int) < W * H := of_decide_eq_true hr
  have c256 : c < 256 := by omega
  have l1 := t.ts c d c256 hd
  rw [hc] at l1
  have c1 : (c : Int) < 256 := by omega
  have d1 : (d : Int) < 8 := by omega
  have d0 : ¬ (d : Int) < 0 := by omega
  have d2 : ¬ 8 ≤ (d : Int) := by omega
  clear hc hR hi ha hq
  generalize clr W H bl ((c : Int) % W) ((c : Int) / W) d = n at *
  go_enter Tryd.func11, Tryd.ntmps11
  go_wp2_with (go_at_call 25; refine (free_in c _ t.ga hr).mono ?_; rintro e w' ⟨rfl, m, rfl⟩)
  go_ret2
  exact ⟨rfl, _, rfl⟩
end Go.Proofs.YtddbmkgmmhppnacDoor
