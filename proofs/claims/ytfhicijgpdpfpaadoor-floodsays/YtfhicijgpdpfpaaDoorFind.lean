/-
  The first direction that fits.
-/
import Derived.Test.YtfhicijgpdpfpaaDoorFrom
import Derived.Test.YtfhicijgpdpfpaaDoorAsAid
import Derived.Deep.LoopGhost
import Derived.Deep.Light
namespace Go.Proofs.YtfhicijgpdpfpaaDoor
open Go.RowKit

/-- what 'find' tells: the first direction that may be gone and fits -/
def Found (q : Nat → Bool) (r : Int) (ok : Bool) : Prop := (ok = true ∧ ∃ d : Nat, d < 8 ∧ r = d ∧ q d = true ∧ ∀ e, e < d → q e = false) ∨ (ok = false ∧ r = 0 ∧ ∀ e, e < 8 → q e = false)
def FoundAt (w w' : World) (e : Ending) (q : Nat → Bool) : Prop := ∃ r ok, e = .returned (.tuple #[.int .i64 r, .bool ok]) ∧ Found q r ok ∧ Below w.heap.size w w'

theorem may_b {b : Nat} {W H V x y : Int} {bl : Nat → Bool} {d : Nat} {r : Bool} (hr : mayB W H bl x y d = r) (w : World) (g : GridAt w b W H V bl) (s : StepsAt w) (hd : d < 8) (x1 : -100 ≤ x) (x2 : x ≤ 100) (y1 : -100 ≤ y) (y2 : y ≤ 100) :
    Calls Tryd.prog 90 #[.pointer (some ⟨b, 0, none⟩), .int .i64 x, .int .i64 y, .int .i64 d] w fun e w' => e = .returned (.bool r) ∧ Below w.heap.size w w' :=
  (may_v hr w g s hd x1 x2 y1 y2).mono fun _ _ ⟨he, m, hm⟩ => ⟨he, by subst hm; exact below_drewN (Below.refl _ _) m⟩

set_option maxHeartbeats 1000000 in
set_option maxRecDepth 1000000 in
theorem find_btw {b : Nat} {c1 c2 c3 : Value} {W H V x y : Int} {bl : Nat → Bool} (c : Nat) (hx : (c : Int) % W = x) (hy : (c : Int) / W = y) (p : Nat → Bool) (w : World) (g : GridAt w b W H V bl) (s : StepsAt w) (hb : b < w.heap.size) (hr : inB W H c = true)
    (hP : ∀ d, d < 8 → mayB W H bl x y d = true → ∀ w', Below w.heap.size w w' → Calls Tryd.prog 76 #[.int .i64 (d : Int), c1, c2, c3] w' fun e w'' => e = .returned (.bool (p d)) ∧ Below w'.heap.size w' w'') :
    Calls Tryd.prog 75 #[.pointer (some ⟨b, 0, none⟩), .int .i64 c, .func (.func 76) #[] #[c1, c2, c3]] w fun e w' => FoundAt w w' e (fun d => mayB W H bl x y d && p d) := by
  have hcc : 0 ≤ (c : Int) ∧ (c : Int) < W * H := of_decide_eq_true hr
  have w1 := g.w1
  have w2 := g.w2
  have h1 := g.h1
  have h2 := g.h2
  obtain ⟨k1, k2⟩ := wh_bd w1 w2 h1 h2
  have m1 := Int.emod_nonneg (c : Int) (show W ≠ 0 by omega)
  have m3 := Int.emod_lt_of_pos (c : Int) (show 0 < W by omega)
  have d1 : 0 ≤ (c : Int) / W := Int.ediv_nonneg (by omega) (by omega)
  have d3 : (c : Int) / W < H := Int.ediv_lt_of_lt_mul (by omega) (by rw [Int.mul_comm]; exact hcc.2)
  have hpl := place_in (c : Int) _ g hr
  rw [hx] at m1 m3 hpl
  rw [hy] at d1 d3 hpl
  clear hx hy
  go_enter Tryd.func75, Tryd.ntmps75
  go_wp2_with (go_at_call 63; refine hpl.mono ?_; rintro e w' ⟨rfl, m, rfl⟩)
  have HB0 : Below w.heap.size w (w.drewN m) := below_drewN (Below.refl _ _) m
  generalize w.drewN m = w0 at *
  go_loopg [21] 8 (fun gk dv wr => ∃ d : Nat, d ≤ 8 ∧ gk = 8 - d ∧ dv = .int .i64 d ∧ Below w.heap.size w wr ∧ ∀ e, e < d → (mayB W H bl x y e && p e) = false)
  case atStart => exact ⟨0, by omega, rfl, rfl, HB0, fun e h => by omega⟩
  case round =>
    obtain ⟨d, hd8, hgd, rfl, HB, hno⟩ := hrel
    have HG : Hid (gk = 8 - d) := hgd
    have HN : Hid (∀ e, e < d → (mayB W H bl x y e && p e) = false) := hno
    clear hgd hno
    have gr := g.below HB hb
    have sr := s.below HB s.pos
    by_cases hlt : d < 8
    · have hlt' : (d : Int) < 8 := by omega
      cases hm : mayB W H bl x y d with
      | false =>
        go_wp2_with (go_at_call 90; refine (may_b hm _ gr sr hlt (by omega) (by omega) (by omega) (by omega)).mono ?_; rintro e w1 ⟨rfl, hb1⟩)
        go_roundg (8 - (d + 1))
        case measure => have := HG.out; omega
        case rel =>
          refine ⟨d + 1, by omega, rfl, by go_num, HB.trans (hb1.mono HB.size), fun e he => ?_⟩
          by_cases h : e = d
          · subst h; rw [hm]; rfl
          · exact HN.out e (by omega)
      | true =>
        have hp := hP d hlt hm
        go_wp2_with (go_at_call 90; refine (may_b hm _ gr sr hlt (by omega) (by omega) (by omega) (by omega)).mono ?_; rintro e w1 ⟨rfl, hb1⟩)
        refine (hp _ (HB.trans (hb1.mono HB.size))).mono ?_
        rintro e w2 ⟨rfl, hb2⟩
        have HB2 := (HB.trans (hb1.mono HB.size)).trans (hb2.mono (HB.trans (hb1.mono HB.size)).size)
        cases hpd : p d with
        | true =>
          go_wp2
          go_ret2
          refine ⟨_, _, rfl, Or.inl ⟨rfl, d, hlt, rfl, ?_, HN.out⟩, HB2⟩
          show (mayB W H bl x y d && p d) = true
          rw [hm, hpd]; rfl
        | false =>
          go_wp2
          go_roundg (8 - (d + 1))
          case measure => have := HG.out; omega
          case rel =>
            refine ⟨d + 1, by omega, rfl, by go_num, HB2, fun e he => ?_⟩
            by_cases h : e = d
            · subst h; rw [hm, hpd]; rfl
            · exact HN.out e (by omega)
    · have : d = 8 := by omega
      subst this
      go_wp2
      go_ret2
      exact ⟨_, _, rfl, Or.inr ⟨rfl, rfl, HN.out⟩, HB⟩

set_option maxHeartbeats 1000000 in
set_option maxRecDepth 1000000 in
theorem find_back {b : Nat} {c1 c2 : Value} {W H V x y : Int} {bl : Nat → Bool} (c : Nat) (hx : (c : Int) % W = x) (hy : (c : Int) / W = y) (p : Nat → Bool) (w : World) (g : GridAt w b W H V bl) (s : StepsAt w) (hb : b < w.heap.size) (hr : inB W H c = true)
    (hP : ∀ d, d < 8 → mayB W H bl x y d = true → ∀ w', Below w.heap.size w w' → Calls Tryd.prog 84 #[.int .i64 (d : Int), c1, c2] w' fun e w'' => e = .returned (.bool (p d)) ∧ Below w'.heap.size w' w'') :
    Calls Tryd.prog 75 #[.pointer (some ⟨b, 0, none⟩), .int .i64 c, .func (.func 84) #[] #[c1, c2]] w fun e w' => FoundAt w w' e (fun d => mayB W H bl x y d && p d) := by
  have hcc : 0 ≤ (c : Int) ∧ (c : Int) < W * H := of_decide_eq_true hr
  have w1 := g.w1
  have w2 := g.w2
  have h1 := g.h1
  have h2 := g.h2
  obtain ⟨k1, k2⟩ := wh_bd w1 w2 h1 h2
  have m1 := Int.emod_nonneg (c : Int) (show W ≠ 0 by omega)
  have m3 := Int.emod_lt_of_pos (c : Int) (show 0 < W by omega)
  have d1 : 0 ≤ (c : Int) / W := Int.ediv_nonneg (by omega) (by omega)
  have d3 : (c : Int) / W < H := Int.ediv_lt_of_lt_mul (by omega) (by rw [Int.mul_comm]; exact hcc.2)
  have hpl := place_in (c : Int) _ g hr
  rw [hx] at m1 m3 hpl
  rw [hy] at d1 d3 hpl
  clear hx hy
  go_enter Tryd.func75, Tryd.ntmps75
  go_wp2_with (go_at_call 63; refine hpl.mono ?_; rintro e w' ⟨rfl, m, rfl⟩)
  have HB0 : Below w.heap.size w (w.drewN m) := below_drewN (Below.refl _ _) m
  generalize w.drewN m = w0 at *
  go_loopg [21] 8 (fun gk dv wr => ∃ d : Nat, d ≤ 8 ∧ gk = 8 - d ∧ dv = .int .i64 d ∧ Below w.heap.size w wr ∧ ∀ e, e < d → (mayB W H bl x y e && p e) = false)
  case atStart => exact ⟨0, by omega, rfl, rfl, HB0, fun e h => by omega⟩
  case round =>
    obtain ⟨d, hd8, hgd, rfl, HB, hno⟩ := hrel
    have HG : Hid (gk = 8 - d) := hgd
    have HN : Hid (∀ e, e < d → (mayB W H bl x y e && p e) = false) := hno
    clear hgd hno
    have gr := g.below HB hb
    have sr := s.below HB s.pos
    by_cases hlt : d < 8
    · have hlt' : (d : Int) < 8 := by omega
      cases hm : mayB W H bl x y d with
      | false =>
        go_wp2_with (go_at_call 90; refine (may_b hm _ gr sr hlt (by omega) (by omega) (by omega) (by omega)).mono ?_; rintro e w1 ⟨rfl, hb1⟩)
        go_roundg (8 - (d + 1))
        case measure => have := HG.out; omega
        case rel =>
          refine ⟨d + 1, by omega, rfl, by go_num, HB.trans (hb1.mono HB.size), fun e he => ?_⟩
          by_cases h : e = d
          · subst h; rw [hm]; rfl
          · exact HN.out e (by omega)
      | true =>
        have hp := hP d hlt hm
        go_wp2_with (go_at_call 90; refine (may_b hm _ gr sr hlt (by omega) (by omega) (by omega) (by omega)).mono ?_; rintro e w1 ⟨rfl, hb1⟩)
        refine (hp _ (HB.trans (hb1.mono HB.size))).mono ?_
        rintro e w2 ⟨rfl, hb2⟩
        have HB2 := (HB.trans (hb1.mono HB.size)).trans (hb2.mono (HB.trans (hb1.mono HB.size)).size)
        cases hpd : p d with
        | true =>
          go_wp2
          go_ret2
          refine ⟨_, _, rfl, Or.inl ⟨rfl, d, hlt, rfl, ?_, HN.out⟩, HB2⟩
          show (mayB W H bl x y d && p d) = true
          rw [hm, hpd]; rfl
        | false =>
          go_wp2
          go_roundg (8 - (d + 1))
          case measure => have := HG.out; omega
          case rel =>
            refine ⟨d + 1, by omega, rfl, by go_num, HB2, fun e he => ?_⟩
            by_cases h : e = d
            · subst h; rw [hm, hpd]; rfl
            · exact HN.out e (by omega)
    · have : d = 8 := by omega
      subst this
      go_wp2
      go_ret2
      exact ⟨_, _, rfl, Or.inr ⟨rfl, rfl, HN.out⟩, HB⟩
end Go.Proofs.YtfhicijgpdpfpaaDoor
