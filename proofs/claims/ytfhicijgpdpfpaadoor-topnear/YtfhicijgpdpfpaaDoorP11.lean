/-
  Texts laid together: Corner, Find, Btw, WalkF.
-/
import Derived.Test.YtfhicijgpdpfpaaDoorP10
import Derived.Deep.LoopGhost
import Derived.Deep.Light
import Derived.Deep.RegionHeld3
/-
  Corners: what package corner says.
-/
namespace Go.Proofs.YtfhicijgpdpfpaaDoor
open Go.RowKit

/-- does a way turn here, round the cell in a direction? -/
def crB (W H : Int) (bl : Nat → Bool) (x y : Int) (k : Nat) : Bool := openB W H bl (x + stepX k) y && openB W H bl x (y + stepY k) && !openB W H bl (x + stepX k) (y + stepY k)
def turnB (W H : Int) (bl : Nat → Bool) (x y : Int) : Bool := (List.range 4).any fun j => crB W H bl x y (2 * j + 1)
/-- is a cell a corner? -/
def cornB (W H : Int) (bl : Nat → Bool) (c : Int) : Bool := openB W H bl (c % W) (c / W) && turnB W H bl (c % W) (c / W)

theorem turnB_false {W H x y : Int} {bl : Nat → Bool} (h : ∀ j, j < 4 → crB W H bl x y (2 * j + 1) = false) : turnB W H bl x y = false := by
  unfold turnB
  rw [List.any_eq_false]
  intro j hj
  rw [h j (List.mem_range.1 hj)]
  simp
theorem turnB_true {W H x y : Int} {bl : Nat → Bool} {j : Nat} (hj : j < 4) (h : crB W H bl x y (2 * j + 1) = true) : turnB W H bl x y = true :=
  List.any_eq_true.2 ⟨j, List.mem_range.2 hj, h⟩

set_option maxHeartbeats 1600000 in
theorem turns_any {b : Nat} {W H V : Int} {bl : Nat → Bool} (x y : Int) (w : World) (g : GridAt w b W H V bl) (s : StepsAt w) (x1 : -100 ≤ x) (x2 : x ≤ 100) (y1 : -100 ≤ y) (y2 : y ≤ 100) :
    Calls Tryd.prog 65 #[.pointer (some ⟨b, 0, none⟩), .int .i64 x, .int .i64 y] w fun e w' => e = .returned (.bool (turnB W H bl x y)) ∧ ∃ m, w' = w.drewN m := by
  go_enter Tryd.func65, Tryd.ntmps65
  go_wp2
  go_loopg [7] (4 : Nat) (fun gk dv wr => ∃ i : Nat, i ≤ 4 ∧ gk = 4 - i ∧ dv = .int .i64 ((2 * i + 1 : Nat) : Int) ∧ (∀ j, j < i → crB W H bl x y (2 * j + 1) = false) ∧ ∃ m, wr = w.drewN m)
  case atStart => exact ⟨0, Nat.zero_le _, rfl, rfl, fun j hj => absurd hj (by omega), 0, rfl⟩
  case round =>
    obtain ⟨i, hi, hgk, rfl, hall, m, rfl⟩ := hrel
    by_cases hlt : i < 4
    · have hd : 2 * i + 1 < 8 := by omega
      obtain ⟨s1, s2, s3, s4⟩ := step_bd (2 * i + 1)
      have hs := fun w h => step_any (2 * i + 1) w h hd
      have hcr : crB W H bl x y (2 * i + 1) = (openB W H bl (x + stepX (2 * i + 1)) y && openB W H bl x (y + stepY (2 * i + 1)) && !openB W H bl (x + stepX (2 * i + 1)) (y + stepY (2 * i + 1))) := rfl
      generalize stepX (2 * i + 1) = dx at *
      generalize stepY (2 * i + 1) = dy at *
      have go_on : crB W H bl x y (2 * i + 1) = false → Hid (∀ j, j < i + 1 → crB W H bl x y (2 * j + 1) = false) := fun h j hj => by
        by_cases e : j = i
        · rw [e]; exact h
        · exact hall j (by omega)
      clear hall
      cases hA : openB W H bl (x + dx) y with
      | false =>
        rw [hA] at hcr
        have HN := go_on (by rw [hcr]; rfl)
        clear hcr go_on
        go_wp2_with (first | (go_at_call 58; refine (hs _ (s.drewN _)).mono ?_; rintro e w' ⟨rfl, m, rfl⟩) | (go_at_call 64; refine (open_v (by assumption) _ (g.drewN _)).mono ?_; rintro e w' ⟨rfl, m, rfl⟩))
        go_roundg (4 - (i + 1))
        case measure => omega
        case rel => exact ⟨i + 1, by omega, rfl, by go_num, HN.out, _, rfl⟩
      | true =>
        cases hB : openB W H bl x (y + dy) with
        | false =>
          rw [hA, hB] at hcr
          have HN := go_on (by rw [hcr]; rfl)
          clear hcr go_on
          go_wp2_with (first | (go_at_call 58; refine (hs _ (s.drewN _)).mono ?_; rintro e w' ⟨rfl, m, rfl⟩) | (go_at_call 64; refine (open_v (by assumption) _ (g.drewN _)).mono ?_; rintro e w' ⟨rfl, m, rfl⟩))
          go_roundg (4 - (i + 1))
          case measure => omega
          case rel => exact ⟨i + 1, by omega, rfl, by go_num, HN.out, _, rfl⟩
        | true =>
          cases hC : openB W H bl (x + dx) (y + dy) with
          | true =>
            rw [hA, hB, hC] at hcr
            have HN := go_on (by rw [hcr]; rfl)
            clear hcr go_on
            go_wp2_with (first | (go_at_call 58; refine (hs _ (s.drewN _)).mono ?_; rintro e w' ⟨rfl, m, rfl⟩) | (go_at_call 64; refine (open_v (by assumption) _ (g.drewN _)).mono ?_; rintro e w' ⟨rfl, m, rfl⟩))
            go_roundg (4 - (i + 1))
            case measure => omega
            case rel => exact ⟨i + 1, by omega, rfl, by go_num, HN.out, _, rfl⟩
          | false =>
            rw [hA, hB, hC] at hcr
            have HT : Hid (turnB W H bl x y = true) := turnB_true hlt hcr
            clear hcr go_on
            go_wp2_with (first | (go_at_call 58; refine (hs _ (s.drewN _)).mono ?_; rintro e w' ⟨rfl, m, rfl⟩) | (go_at_call 64; refine (open_v (by assumption) _ (g.drewN _)).mono ?_; rintro e w' ⟨rfl, m, rfl⟩))
            go_ret
            exact ⟨by rw [HT.out]; rfl, _, rfl⟩
    · have : i = 4 := by omega
      subst this
      have HT : Hid (turnB W H bl x y = false) := turnB_false hall
      clear hall
      go_wp2
      go_ret
      exact ⟨by rw [HT.out]; rfl, _, rfl⟩

theorem turns_v {b : Nat} {W H V : Int} {bl : Nat → Bool} {x y : Int} {r : Bool} (hr : turnB W H bl x y = r) (w : World) (g : GridAt w b W H V bl) (s : StepsAt w) (x1 : -100 ≤ x) (x2 : x ≤ 100) (y1 : -100 ≤ y) (y2 : y ≤ 100) :
    Calls Tryd.prog 65 #[.pointer (some ⟨b, 0, none⟩), .int .i64 x, .int .i64 y] w fun e w' => e = .returned (.bool r) ∧ ∃ m, w' = w.drewN m := hr ▸ turns_any x y w g s x1 x2 y1 y2

theorem place_bd {W H c : Int} (w1 : 1 ≤ W) (hr : inB W H c = true) : 0 ≤ c % W ∧ c % W < W ∧ 0 ≤ c / W ∧ c / W < H := by
  have hc : 0 ≤ c ∧ c < W * H := of_decide_eq_true hr
  exact ⟨Int.emod_nonneg _ (by omega), Int.emod_lt_of_pos _ (by omega), Int.ediv_nonneg hc.1 (by omega), Int.ediv_lt_of_lt_mul (by omega) (by rw [Int.mul_comm]; exact hc.2)⟩

set_option maxHeartbeats 1000000 in
theorem is_in {b : Nat} {W H V : Int} {bl : Nat → Bool} (c : Int) (w : World) (g : GridAt w b W H V bl) (s : StepsAt w) (hr : inB W H c = true) :
    Calls Tryd.prog 30 #[.pointer (some ⟨b, 0, none⟩), .int .i64 c] w fun e w' => e = .returned (.tuple #[.bool (cornB W H bl c), .nilIface]) ∧ ∃ m, w' = w.drewN m := by
  obtain ⟨x1, x2, y1, y2⟩ := place_bd g.w1 hr
  have gw := g.w2
  have gh := g.h2
  have hP := fun w g => place_in (b := b) (W := W) (H := H) (V := V) (bl := bl) c w g hr
  have hm : cornB W H bl c = (openB W H bl (c % W) (c / W) && turnB W H bl (c % W) (c / W)) := rfl
  rw [hm]
  clear hm
  generalize c % W = x at *
  generalize c / W = y at *
  cases hA : openB W H bl x y with
  | false =>
    simp only [Bool.false_and]
    go_enter Tryd.func30, Tryd.ntmps30
    go_wp2_with (first | (go_at_call 63; refine (hP _ g).mono ?_; rintro e w' ⟨rfl, m, rfl⟩) | (go_at_call 64; refine (open_v (by assumption) _ (g.drewN _)).mono ?_; rintro e w' ⟨rfl, m, rfl⟩))
    go_ret2
    exact ⟨rfl, _, rfl⟩
  | true =>
    cases hB : turnB W H bl x y with
    | false =>
      simp only [Bool.and_false]
      go_enter Tryd.func30, Tryd.ntmps30
      go_wp2_with (first | (go_at_call 63; refine (hP _ g).mono ?_; rintro e w' ⟨rfl, m, rfl⟩) | (go_at_call 64; refine (open_v (by assumption) _ (g.drewN _)).mono ?_; rintro e w' ⟨rfl, m, rfl⟩) | (go_at_call 65; refine (turns_v (by assumption) _ (g.drewN _) (s.drewN _) (by omega) (by omega) (by omega) (by omega)).mono ?_; rintro e w' ⟨rfl, m, rfl⟩))
      go_ret2
      exact ⟨rfl, _, rfl⟩
    | true =>
      simp only [Bool.and_true]
      go_enter Tryd.func30, Tryd.ntmps30
      go_wp2_with (first | (go_at_call 63; refine (hP _ g).mono ?_; rintro e w' ⟨rfl, m, rfl⟩) | (go_at_call 64; refine (open_v (by assumption) _ (g.drewN _)).mono ?_; rintro e w' ⟨rfl, m, rfl⟩) | (go_at_call 65; refine (turns_v (by assumption) _ (g.drewN _) (s.drewN _) (by omega) (by omega) (by omega) (by omega)).mono ?_; rintro e w' ⟨rfl, m, rfl⟩))
      go_ret2
      exact ⟨rfl, _, rfl⟩

set_option maxHeartbeats 400000 in
theorem is_out {b : Nat} {W H V : Int} {bl : Nat → Bool} (c : Int) (w : World) (g : GridAt w b W H V bl) (hr : inB W H c = false) :
    Calls Tryd.prog 30 #[.pointer (some ⟨b, 0, none⟩), .int .i64 c] w fun e w' => e = .returned (.tuple #[.bool false, .iface 78 (.int .i64 1)]) ∧ ∃ m, w' = w.drewN m := by
  go_enter Tryd.func30, Tryd.ntmps30
  go_wp2_with (go_at_call 63; refine (place_out c _ g hr).mono ?_; rintro e w' ⟨rfl, m, rfl⟩)
  go_ret2
  exact ⟨rfl, _, rfl⟩

theorem is_v {b : Nat} {W H V : Int} {bl : Nat → Bool} {c : Int} {r : Bool} (hc : cornB W H bl c = r) (w : World) (g : GridAt w b W H V bl) (s : StepsAt w) (hr : inB W H c = true) :
    Calls Tryd.prog 30 #[.pointer (some ⟨b, 0, none⟩), .int .i64 c] w fun e w' => e = .returned (.tuple #[.bool r, .nilIface]) ∧ ∃ m, w' = w.drewN m := hc ▸ is_in c w g s hr

/-- the corners below k -/
def crs (W H : Int) (bl : Nat → Bool) (k : Nat) : List Nat := (List.range k).filter fun c => cornB W H bl (c : Nat)
theorem crs_succ (W H : Int) (bl : Nat → Bool) (k : Nat) : crs W H bl (k + 1) = crs W H bl k ++ (if cornB W H bl (k : Nat) then [k] else []) := by
  unfold crs
  rw [List.range_succ, List.filter_append]
  cases h : cornB W H bl (k : Nat) <;> simp [h]
theorem crs_len (W H : Int) (bl : Nat → Bool) (k : Nat) : (crs W H bl k).length ≤ k := by
  unfold crs
  have := List.length_filter_le (fun c : Nat => cornB W H bl (c : Nat)) (List.range k)
  simpa using this

set_option maxHeartbeats 1600000 in
set_option maxRecDepth 1000000 in
theorem all_any {b : Nat} {W H V : Int} {bl : Nat → Bool} (w : World) (g : GridAt w b W H V bl) (s : StepsAt w) (hb : b < w.heap.size) :
    Calls Tryd.prog 33 #[.pointer (some ⟨b, 0, none⟩)] w fun e w' => ∃ v, e = .returned v ∧
      w'.ownsRow w.heap.size 3 1 v (crs W H bl (W * H).toNat).length (vals (crs W H bl (W * H).toNat)) ∧ Below w.heap.size w w' := by
  obtain ⟨i0, hi, hz0, hz1, hz2⟩ := info_parts Tryd.info3
  obtain ⟨k1, k2⟩ := wh_bd g.w1 g.w2 g.h1 g.h2
  go_enter Tryd.func33, Tryd.ntmps33
  go_wp2_with (go_at_call 23; refine (cells_any _ g).mono ?_; rintro e w' ⟨rfl, m, rfl⟩)
  go_loopw [3, 9] (fun v i wr => ∃ k : Nat, (k : Int) ≤ W * H ∧ i = .int .i64 k ∧ wr.ownsRow w.heap.size 3 1 v (crs W H bl k).length (vals (crs W H bl k)) ∧ Below w.heap.size w wr)
    (fun _ i _ => 1000 - (intOf i).toNat)
  case atStart => exact ⟨0, by omega, rfl, World.ownsRow_nil _ _ _ _, below_drewN (Below.refl _ _) _⟩
  case round =>
    obtain ⟨k, hk, rfl, hown, hnx⟩ := hrel
    have hl := crs_len W H bl k
    have gr := g.below hnx hb
    have sr := s.below hnx (by omega)
    have hsz := hnx.size
    by_cases hlt : (k : Int) < W * H
    · have hms := crs_succ W H bl k
      have hin : inB W H (k : Nat) = true := decide_eq_true ⟨by omega, hlt⟩
      cases hM : cornB W H bl (k : Nat) with
      | false =>
        rw [hM] at hms
        have h0 : crs W H bl (k + 1) = crs W H bl k := by simpa using hms
        have HS : Hid (crs W H bl (k + 1) = crs W H bl k) := h0
        clear h0
        clear hms
        go_wp2_with (go_at_call 30; refine (is_v hM _ gr sr hin).mono ?_; rintro e w' ⟨rfl, m, rfl⟩)
        go_roundw
        case rel => exact ⟨k + 1, by omega, by go_num, by rw [HS.out]; exact hown, below_drewN hnx _⟩
        case measure => simp [intOf]; omega
      | true =>
        rw [hM] at hms
        have h0 : crs W H bl (k + 1) = crs W H bl k ++ [k] := by simpa using hms
        have HS : Hid (crs W H bl (k + 1) = crs W H bl k ++ [k]) := h0
        clear h0
        clear hms
        go_wp2_with (first | (go_at_call 30; refine (is_v hM _ gr sr hin).mono ?_; rintro e w' ⟨rfl, m, rfl⟩) | (at_builtin; refine wpList_append_own _ rfl _ _ 22 rfl w.heap.size 3 i0 (.int .i64 0) 1 8 Tryd.underlying22 hi hz0 hz1 hz2 rfl (by decide) _ _ _ rfl (World.ownsRow.alloc hown _) ⟨wr.heap.size, 0, none⟩ 1 1 [.int .i64 k] rfl rfl ?c1 ?c2 ?c3 ?c4 ?c5 ?_))
        case c1 =>
          intro j u hj
          match j, hj with
          | 0, hj =>
            simp at hj; subst hj; simp only [Addr.add]
            exact World.cell?_alloc_at (w := wr.drewN m) #[.int .i64 k] 3 wr.heap.size 0 rfl
        case c2 => intro u hu; simp at hu; subst hu; rfl
        case c3 => unfold maxLen; omega
        case c4 => omega
        case c5 => simp; omega
        intro v' w1 hown' hgrow _
        have hbase := fun q hq => (hown.lt q hq).1
        have B1 : Below w.heap.size w w1 := ((below_drewN hnx m).alloc hsz _).grown hgrow (by simp; omega) hbase
        have O1 : w1.ownsRow w.heap.size 3 1 v' (crs W H bl (k + 1)).length (vals (crs W H bl (k + 1))) := by
          rw [HS.out]
          simpa [vals] using hown'
        clear hown' hgrow hown hnx gr sr
        go_wp2
        go_roundw
        case rel => exact ⟨k + 1, by omega, by go_num, O1, B1⟩
        case measure => simp [intOf]; omega
    · have e : (W * H).toNat = k := by omega
      have HE : Hid ((W * H).toNat = k) := e
      clear e
      go_wp2
      go_ret
      exact ⟨_, rfl, by rw [HE.out]; exact hown, hnx⟩
end Go.Proofs.YtfhicijgpdpfpaaDoor
/-
  The first direction that fits.
-/
namespace Go.Proofs.YtfhicijgpdpfpaaDoor
open Go.RowKit

/-- what 'find' tells: the first direction that may be gone and fits -/
def Found (q : Nat → Bool) (r : Int) (ok : Bool) : Prop := (ok = true ∧ ∃ d : Nat, d < 8 ∧ r = d ∧ q d = true ∧ ∀ e, e < d → q e = false) ∨ (ok = false ∧ r = 0 ∧ ∀ e, e < 8 → q e = false)
def FoundAt (w w' : World) (e : Ending) (q : Nat → Bool) : Prop := ∃ r ok, e = .returned (.tuple #[.int .i64 r, .bool ok]) ∧ Found q r ok ∧ Below w.heap.size w w'

theorem may_b {b : Nat} {W H V x y : Int} {bl : Nat → Bool} {d : Nat} {r : Bool} (hr : mayB W H bl x y d = r) (w : World) (g : GridAt w b W H V bl) (s : StepsAt w) (hd : d < 8) (x1 : -100 ≤ x) (x2 : x ≤ 100) (y1 : -100 ≤ y) (y2 : y ≤ 100) :
    Calls Tryd.prog 90 #[.pointer (some ⟨b, 0, none⟩), .int .i64 x, .int .i64 y, .int .i64 d] w fun e w' => e = .returned (.bool r) ∧ Below w.heap.size w w' :=
  (may_v hr w g s hd x1 x2 y1 y2).mono fun _ _ ⟨he, m, hm⟩ => ⟨he, by subst hm; exact below_drewN (Below.refl _ _) m⟩

set_option maxHeartbeats 1000000 in
set_option maxRecDepth 1000000 in
theorem find_btw {b : Nat} {c1 c2 c3 : Value} {W H V x y : Int} {bl : Nat → Bool} (c : Nat) (hx : (c : Int) % W = x) (hy : (c : Int) / W = y) (p : Nat → Bool) (w : World) (g : GridAt w b W H V bl) (s : StepsAt w) (hb : b < w.heap.size) (hr : inB W H c = true)
    (hP : ∀ d, d < 8 → mayB W H bl x y d = true → ∀ w', Below w.heap.size w w' → Calls Tryd.prog 76 #[.int .i64 (d : Int), c1, c2, c3] w' fun e w'' => e = .returned (.bool (p d)) ∧ Below w'.heap.size w' w'') :
    Calls Tryd.prog 75 #[.pointer (some ⟨b, 0, none⟩), .int .i64 c, .func (.func 76) #[] #[c1, c2, c3]] w fun e w' => FoundAt w w' e (fun d => mayB W H bl x y d && p d) := by
  have hcc : 0 ≤ (c : Int) ∧ (c : Int) < W * H := of_decide_eq_true hr
  have w1 := g.w1
  have w2 := g.w2
  have h1 := g.h1
  have h2 := g.h2
  obtain ⟨k1, k2⟩ := wh_bd w1 w2 h1 h2
  have m1 := Int.emod_nonneg (c : Int) (show W ≠ 0 by omega)
  have m3 := Int.emod_lt_of_pos (c : Int) (show 0 < W by omega)
  have d1 : 0 ≤ (c : Int) / W := Int.ediv_nonneg (by omega) (by omega)
  have d3 : (c : Int) / W < H := Int.ediv_lt_of_lt_mul (by omega) (by rw [Int.mul_comm]; exact hcc.2)
  have hpl := place_in (c : Int) _ g hr
  rw [hx] at m1 m3 hpl
  rw [hy] at d1 d3 hpl
  clear hx hy
  go_enter Tryd.func75, Tryd.ntmps75
  go_wp2_with (go_at_call 63; refine hpl.mono ?_; rintro e w' ⟨rfl, m, rfl⟩)
  have HB0 : Below w.heap.size w (w.drewN m) := below_drewN (Below.refl _ _) m
  generalize w.drewN m = w0 at *
  go_loopg [21] 8 (fun gk dv wr => ∃ d : Nat, d ≤ 8 ∧ gk = 8 - d ∧ dv = .int .i64 d ∧ Below w.heap.size w wr ∧ ∀ e, e < d → (mayB W H bl x y e && p e) = false)
  case atStart => exact ⟨0, by omega, rfl, rfl, HB0, fun e h => by omega⟩
  case round =>
    obtain ⟨d, hd8, hgd, rfl, HB, hno⟩ := hrel
    have HG : Hid (gk = 8 - d) := hgd
    have HN : Hid (∀ e, e < d → (mayB W H bl x y e && p e) = false) := hno
    clear hgd hno
    have gr := g.below HB hb
    have sr := s.below HB s.pos
    by_cases hlt : d < 8
    · have hlt' : (d : Int) < 8 := by omega
      cases hm : mayB W H bl x y d with
      | false =>
        go_wp2_with (go_at_call 90; refine (may_b hm _ gr sr hlt (by omega) (by omega) (by omega) (by omega)).mono ?_; rintro e w1 ⟨rfl, hb1⟩)
        go_roundg (8 - (d + 1))
        case measure => have := HG.out; omega
        case rel =>
          refine ⟨d + 1, by omega, rfl, by go_num, HB.trans (hb1.mono HB.size), fun e he => ?_⟩
          by_cases h : e = d
          · subst h; rw [hm]; rfl
          · exact HN.out e (by omega)
      | true =>
        have hp := hP d hlt hm
        go_wp2_with (go_at_call 90; refine (may_b hm _ gr sr hlt (by omega) (by omega) (by omega) (by omega)).mono ?_; rintro e w1 ⟨rfl, hb1⟩)
        refine (hp _ (HB.trans (hb1.mono HB.size))).mono ?_
        rintro e w2 ⟨rfl, hb2⟩
        have HB2 := (HB.trans (hb1.mono HB.size)).trans (hb2.mono (HB.trans (hb1.mono HB.size)).size)
        cases hpd : p d with
        | true =>
          go_wp2
          go_ret2
          refine ⟨_, _, rfl, Or.inl ⟨rfl, d, hlt, rfl, ?_, HN.out⟩, HB2⟩
          show (mayB W H bl x y d && p d) = true
          rw [hm, hpd]; rfl
        | false =>
          go_wp2
          go_roundg (8 - (d + 1))
          case measure => have := HG.out; omega
          case rel =>
            refine ⟨d + 1, by omega, rfl, by go_num, HB2, fun e he => ?_⟩
            by_cases h : e = d
            · subst h; rw [hm, hpd]; rfl
            · exact HN.out e (by omega)
    · have : d = 8 := by omega
      subst this
      go_wp2
      go_ret2
      exact ⟨_, _, rfl, Or.inr ⟨rfl, rfl, HN.out⟩, HB⟩

set_option maxHeartbeats 1000000 in
set_option maxRecDepth 1000000 in
theorem find_back {b : Nat} {c1 c2 : Value} {W H V x y : Int} {bl : Nat → Bool} (c : Nat) (hx : (c : Int) % W = x) (hy : (c : Int) / W = y) (p : Nat → Bool) (w : World) (g : GridAt w b W H V bl) (s : StepsAt w) (hb : b < w.heap.size) (hr : inB W H c = true)
    (hP : ∀ d, d < 8 → mayB W H bl x y d = true → ∀ w', Below w.heap.size w w' → Calls Tryd.prog 84 #[.int .i64 (d : Int), c1, c2] w' fun e w'' => e = .returned (.bool (p d)) ∧ Below w'.heap.size w' w'') :
    Calls Tryd.prog 75 #[.pointer (some ⟨b, 0, none⟩), .int .i64 c, .func (.func 84) #[] #[c1, c2]] w fun e w' => FoundAt w w' e (fun d => mayB W H bl x y d && p d) := by
  have hcc : 0 ≤ (c : Int) ∧ (c : Int) < W * H := of_decide_eq_true hr
  have w1 := g.w1
  have w2 := g.w2
  have h1 := g.h1
  have h2 := g.h2
  obtain ⟨k1, k2⟩ := wh_bd w1 w2 h1 h2
  have m1 := Int.emod_nonneg (c : Int) (show W ≠ 0 by omega)
  have m3 := Int.emod_lt_of_pos (c : Int) (show 0 < W by omega)
  have d1 : 0 ≤ (c : Int) / W := Int.ediv_nonneg (by omega) (by omega)
  have d3 : (c : Int) / W < H := Int.ediv_lt_of_lt_mul (by omega) (by rw [Int.mul_comm]; exact hcc.2)
  have hpl := place_in (c : Int) _ g hr
  rw [hx] at m1 m3 hpl
  rw [hy] at d1 d3 hpl
  clear hx hy
  go_enter Tryd.func75, Tryd.ntmps75
  go_wp2_with (go_at_call 63; refine hpl.mono ?_; rintro e w' ⟨rfl, m, rfl⟩)
  have HB0 : Below w.heap.size w (w.drewN m) := below_drewN (Below.refl _ _) m
  generalize w.drewN m = w0 at *
  go_loopg [21] 8 (fun gk dv wr => ∃ d : Nat, d ≤ 8 ∧ gk = 8 - d ∧ dv = .int .i64 d ∧ Below w.heap.size w wr ∧ ∀ e, e < d → (mayB W H bl x y e && p e) = false)
  case atStart => exact ⟨0, by omega, rfl, rfl, HB0, fun e h => by omega⟩
  case round =>
    obtain ⟨d, hd8, hgd, rfl, HB, hno⟩ := hrel
    have HG : Hid (gk = 8 - d) := hgd
    have HN : Hid (∀ e, e < d → (mayB W H bl x y e && p e) = false) := hno
    clear hgd hno
    have gr := g.below HB hb
    have sr := s.below HB s.pos
    by_cases hlt : d < 8
    · have hlt' : (d : Int) < 8 := by omega
      cases hm : mayB W H bl x y d with
      | false =>
        go_wp2_with (go_at_call 90; refine (may_b hm _ gr sr hlt (by omega) (by omega) (by omega) (by omega)).mono ?_; rintro e w1 ⟨rfl, hb1⟩)
        go_roundg (8 - (d + 1))
        case measure => have := HG.out; omega
        case rel =>
          refine ⟨d + 1, by omega, rfl, by go_num, HB.trans (hb1.mono HB.size), fun e he => ?_⟩
          by_cases h : e = d
          · subst h; rw [hm]; rfl
          · exact HN.out e (by omega)
      | true =>
        have hp := hP d hlt hm
        go_wp2_with (go_at_call 90; refine (may_b hm _ gr sr hlt (by omega) (by omega) (by omega) (by omega)).mono ?_; rintro e w1 ⟨rfl, hb1⟩)
        refine (hp _ (HB.trans (hb1.mono HB.size))).mono ?_
        rintro e w2 ⟨rfl, hb2⟩
        have HB2 := (HB.trans (hb1.mono HB.size)).trans (hb2.mono (HB.trans (hb1.mono HB.size)).size)
        cases hpd : p d with
        | true =>
          go_wp2
          go_ret2
          refine ⟨_, _, rfl, Or.inl ⟨rfl, d, hlt, rfl, ?_, HN.out⟩, HB2⟩
          show (mayB W H bl x y d && p d) = true
          rw [hm, hpd]; rfl
        | false =>
          go_wp2
          go_roundg (8 - (d + 1))
          case measure => have := HG.out; omega
          case rel =>
            refine ⟨d + 1, by omega, rfl, by go_num, HB2, fun e he => ?_⟩
            by_cases h : e = d
            · subst h; rw [hm, hpd]; rfl
            · exact HN.out e (by omega)
    · have : d = 8 := by omega
      subst this
      go_wp2
      go_ret2
      exact ⟨_, _, rfl, Or.inr ⟨rfl, rfl, HN.out⟩, HB⟩
end Go.Proofs.YtfhicijgpdpfpaaDoor
/-
  Which direction leads from a cell to another one; by which one a cell was come to.
-/
namespace Go.Proofs.YtfhicijgpdpfpaaDoor
open Go.RowKit

set_option maxHeartbeats 1000000 in
theorem btw_fits {b C1 C2 C3 : Nat} {W H V f t r : Int} {bl : Nat → Bool} (d : Nat) (w : World) (g : GridAt w b W H V bl) (s : StepsAt w) (hd : d < 8) (h1 : -1000 ≤ f) (h2 : f ≤ 1000) (hr : f + (stepY d * W + stepX d) = r)
    (c1 : w.cell? ⟨C1, 0, none⟩ = some (.pointer (some ⟨b, 0, none⟩))) (c2 : w.cell? ⟨C2, 0, none⟩ = some (.int .i64 f)) (c3 : w.cell? ⟨C3, 0, none⟩ = some (.int .i64 t)) :
    Calls Tryd.prog 76 #[.int .i64 d, .pointer (some ⟨C1, 0, none⟩), .pointer (some ⟨C2, 0, none⟩), .pointer (some ⟨C3, 0, none⟩)] w fun e w' => e = .returned (.bool (r == t)) ∧ Below w.heap.size w w' := by
  go_enter Tryd.func76, Tryd.ntmps76
  go_wp2
  go_quiet ((go_at_call 25; exact Calls.quiet_of (to_v hr _ (g.drewN _) (s.drewN _) hd h1 h2)))
  go_wp2
  go_ret
  exact ⟨rfl, below_drewN (Below.refl _ _) _⟩

set_option maxHeartbeats 1000000 in
theorem between_any {b : Nat} {W H V x y : Int} {bl : Nat → Bool} (f : Nat) (t : Int) (hx : (f : Int) % W = x) (hy : (f : Int) / W = y) (w : World) (g : GridAt w b W H V bl) (s : StepsAt w) (hb : b < w.heap.size) (hr : inB W H f = true) :
    Calls Tryd.prog 46 #[.pointer (some ⟨b, 0, none⟩), .int .i64 f, .int .i64 t] w fun e w' => FoundAt w w' e (fun d => mayB W H bl x y d && ((f : Int) + (stepY d * W + stepX d) == t)) := by
  have hcc : 0 ≤ (f : Int) ∧ (f : Int) < W * H := of_decide_eq_true hr
  obtain ⟨k1, k2⟩ := wh_bd g.w1 g.w2 g.h1 g.h2
  have HB : Below w.heap.size w (((w.alloc (.cells #[.pointer (some ⟨b, 0, none⟩)] 26)).alloc (.cells #[.int .i64 (f : Int)] 3)).alloc (.cells #[.int .i64 t] 3)) := (((Below.refl _ _).alloc (Nat.le_refl _) _).alloc (by simp) _).alloc (by simp; omega) _
  have q1 : (((w.alloc (.cells #[.pointer (some ⟨b, 0, none⟩)] 26)).alloc (.cells #[.int .i64 (f : Int)] 3)).alloc (.cells #[.int .i64 t] 3)).cell? ⟨w.heap.size, 0, none⟩ = some (.pointer (some ⟨b, 0, none⟩)) := by
    rw [World.cell?_alloc_old _ _ _ (by simp; omega), World.cell?_alloc_old _ _ _ (by simp), World.cell?_alloc_new]; rfl
  have q2 : (((w.alloc (.cells #[.pointer (some ⟨b, 0, none⟩)] 26)).alloc (.cells #[.int .i64 (f : Int)] 3)).alloc (.cells #[.int .i64 t] 3)).cell? ⟨w.heap.size + 1, 0, none⟩ = some (.int .i64 (f : Int)) := by
    rw [World.cell?_alloc_old _ _ _ (by simp)]
    exact World.cell?_alloc_at #[.int .i64 (f : Int)] 3 (w.heap.size + 1) 0 (by simp)
  have q3 : (((w.alloc (.cells #[.pointer (some ⟨b, 0, none⟩)] 26)).alloc (.cells #[.int .i64 (f : Int)] 3)).alloc (.cells #[.int .i64 t] 3)).cell? ⟨w.heap.size + 1 + 1, 0, none⟩ = some (.int .i64 t) :=
    World.cell?_alloc_at #[.int .i64 t] 3 (w.heap.size + 1 + 1) 0 (by simp)
  go_enter Tryd.func46, Tryd.ntmps46
  go_wp2_with fail
  generalize ((w.alloc (.cells #[.pointer (some ⟨b, 0, none⟩)] 26)).alloc (.cells #[.int .i64 (f : Int)] 3)).alloc (.cells #[.int .i64 t] 3) = W0 at *
  have g0 := g.below HB hb
  have s0 := s.below HB s.pos
  have hz := HB.size
  refine (find_btw f hx hy (fun d => (f : Int) + (stepY d * W + stepX d) == t) W0 g0 s0 (by omega) hr (fun d hd _ w' hb' => ?_)).mono ?_
  · have k : ∀ {a : Addr} {v : Value}, W0.cell? a = some v → w'.cell? a = some v := fun {a v} h => (hb'.cell (World.block_lt_of_cell? W0 a h)).trans h
    exact btw_fits d w' (g0.below hb' (by omega)) (s0.below hb' s0.pos) hd (by omega) (by omega) rfl (k q1) (k q2) (k q3)
  · rintro e w5 ⟨r, ok, rfl, hF, hb5⟩
    go_wp2
    go_ret2
    exact ⟨r, ok, rfl, hF, HB.trans (hb5.mono hz)⟩
end Go.Proofs.YtfhicijgpdpfpaaDoor
/-
  What is wrong with a cell on which one is to be; the first look at a walk.
-/
namespace Go.Proofs.YtfhicijgpdpfpaaDoor
open Go.RowKit

/-- what is wrong with a cell: 1: it is none; 4: it is blocked -/
def ffv (W H : Int) (bl : Nat → Bool) (c : Int) : Int := if inB W H c then (if bl c.toNat then 4 else 0) else 1
/-- an error by its number -/
def errV (n : Int) : Value := if n = 0 then .nilIface else .iface 78 (.int .i64 n)

set_option maxHeartbeats 400000 in
theorem ff_out {b : Nat} {W H V : Int} {bl : Nat → Bool} (c : Int) (w : World) (g : RefAt w b W H V bl) (hr : inB W H c = false) :
    Calls Tryd.prog 15 #[.pointer (some ⟨b, 0, none⟩), .int .i64 c] w fun e w' => e = .returned (.int .i64 1) ∧ Below w.heap.size w w' := by
  go_enter Tryd.func15, Tryd.ntmps15
  go_wp2_with (go_at_call 20; refine (ris_out c _ g hr).mono ?_; rintro e w' ⟨rfl, m, rfl⟩)
  go_ret
  exact ⟨rfl, below_drewN (Below.refl _ _) _⟩

set_option maxHeartbeats 400000 in
set_option maxRecDepth 1000000 in
theorem ff_in {b : Nat} {W H V : Int} {bl : Nat → Bool} (c : Nat) (w : World) (g : RefAt w b W H V bl) (hr : inB W H c = true) :
    Calls Tryd.prog 15 #[.pointer (some ⟨b, 0, none⟩), .int .i64 c] w fun e w' => e = .returned (.int .i64 (if bl c then 4 else 0)) ∧ Below w.heap.size w w' := by
  have hc : 0 ≤ (c : Int) ∧ (c : Int) < W * H := of_decide_eq_true hr
  obtain ⟨k1, k2⟩ := wh_bd g.w1 g.w2 g.h1 g.h2
  have hcell := g.cs c (by omega)
  have i1 : (c : Int) < 256 := by omega
  cases hb : bl c with
  | true =>
    rw [hb] at hcell
    go_enter Tryd.func15, Tryd.ntmps15
    go_wp2_with (go_at_call 20; refine (ris_in c _ g hr).mono ?_; rintro e w' ⟨rfl, m, rfl⟩)
    go_ret
    exact ⟨rfl, below_drewN (Below.refl _ _) _⟩
  | false =>
    rw [hb] at hcell
    go_enter Tryd.func15, Tryd.ntmps15
    go_wp2_with (go_at_call 20; refine (ris_in c _ g hr).mono ?_; rintro e w' ⟨rfl, m, rfl⟩)
    go_ret
    exact ⟨rfl, below_drewN (Below.refl _ _) _⟩

theorem ff_any {b : Nat} {W H V : Int} {bl : Nat → Bool} (c : Int) (w : World) (g : RefAt w b W H V bl) :
    Calls Tryd.prog 15 #[.pointer (some ⟨b, 0, none⟩), .int .i64 c] w fun e w' => e = .returned (.int .i64 (ffv W H bl c)) ∧ Below w.heap.size w w' := by
  cases hr : inB W H c with
  | false =>
    have e : ffv W H bl c = 1 := by unfold ffv; rw [hr]; rfl
    rw [e]; exact ff_out c w g hr
  | true =>
    have hc : 0 ≤ c ∧ c < W * H := of_decide_eq_true hr
    obtain ⟨n, rfl⟩ : ∃ n : Nat, c = n := ⟨c.toNat, by omega⟩
    have e : ffv W H bl n = if bl n then 4 else 0 := by unfold ffv; rw [hr]; rfl
    rw [e]; exact ff_in n w g hr

theorem check_any {b : Nat} {W H V : Int} {bl : Nat → Bool} (c : Int) (w : World) (g : GridAt w b W H V bl) :
    Calls Tryd.prog 45 #[.pointer (some ⟨b, 0, none⟩), .int .i64 c] w fun e w' => e = .returned (errV (ffv W H bl c)) ∧ Below w.heap.size w w' := by
  have q : ∀ {v : Value}, (Calls Tryd.prog 45 #[.pointer (some ⟨b, 0, none⟩), .int .i64 c] w fun e w' => e = .returned v ∧ ∃ m, w' = w.drewN m) → Calls Tryd.prog 45 #[.pointer (some ⟨b, 0, none⟩), .int .i64 c] w fun e w' => e = .returned v ∧ Below w.heap.size w w' := fun h => h.mono fun _ _ ⟨he, m, hm⟩ => ⟨he, by subst hm; exact below_drewN (Below.refl _ _) m⟩
  cases hr : inB W H c with
  | false =>
    have e : ffv W H bl c = 1 := by unfold ffv; rw [hr]; rfl
    rw [e]; exact q (check_out c w g hr)
  | true =>
    have hc : 0 ≤ c ∧ c < W * H := of_decide_eq_true hr
    obtain ⟨n, rfl⟩ : ∃ n : Nat, c = n := ⟨c.toNat, by omega⟩
    have e : ffv W H bl n = if bl n then 4 else 0 := by unfold ffv; rw [hr]; rfl
    rw [e]
    cases hb : bl n with
    | true => exact q (check_bl n w g hr hb)
    | false => exact q (check_ok n w g hr hb)
end Go.Proofs.YtfhicijgpdpfpaaDoor
