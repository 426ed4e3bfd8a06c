/-
  Texts laid together: WayM, Corner.
-/
import Derived.Test.YtmnpplkjhnoglaaGreatDoorP12
import Derived.Deep.LoopGhost
/-
  Steps on ways that cost as if nothing were in the way: at each place at most one straight step and at most one diagonal step brings one nearer by what it costs.
-/
namespace Go.Proofs.YtmnpplkjhnoglaaGreatDoor

/-- a step from (x, y) that is not lost on the way to (u, v) -/
def Good (x y u v : Int) (k : Nat) : Prop :=
  dst (dst (x + stepX k) u) (dst (y + stepY k) v) + stS k = dst (dst x u) (dst y v) ∧ les (dst (x + stepX k) u) (dst (y + stepY k) v) + stD k = les (dst x u) (dst y v)

theorem dst_step (x u s : Int) (h : s = -1 ∨ s = 0 ∨ s = 1) : (s = 0 → dst (x + s) u = dst x u) ∧ dst x u - 1 ≤ dst (x + s) u ∧ (dst (x + s) u = dst x u - 1 → (s = 1 ∧ x < u) ∨ (s = -1 ∧ u < x)) := by
  unfold dst
  rcases h with rfl | rfl | rfl <;> refine ⟨fun _ => ?_, ?_, fun _ => ?_⟩ <;> (repeat' split at *) <;> omega
theorem two_less {X Y P Q : Int} (h1 : dst P Q + 0 = dst X Y) (h2 : les P Q + 1 = les X Y) : P + Q = X + Y - 2 := by
  unfold dst les at *
  (repeat' split at *) <;> omega
theorem one_less {X Y P Q : Int} (h1 : dst P Q + 1 = dst X Y) (h2 : les P Q + 0 = les X Y) : P + Q = X + Y - 1 ∧ (P = X - 1 → Y < X) ∧ (Q = Y - 1 → X < Y) := by
  unfold dst les at *
  (repeat' split at *) <;> omega
theorem step_unit (k : Nat) (h : k < 8) : (stepX k = -1 ∨ stepX k = 0 ∨ stepX k = 1) ∧ (stepY k = -1 ∨ stepY k = 0 ∨ stepY k = 1) ∧ (k % 2 = 0 → (stepX k = 0 ∧ stepY k ≠ 0) ∨ (stepY k = 0 ∧ stepX k ≠ 0)) ∧ (k % 2 = 0 → stS k = 1 ∧ stD k = 0) ∧ (k % 2 = 1 → stS k = 0 ∧ stD k = 1) := by
  rcases k8 h with rfl | rfl | rfl | rfl | rfl | rfl | rfl | rfl <;> decide

theorem good_dir {x y u v : Int} {k : Nat} (hk : k < 8) (g : Good x y u v k) :
    (k % 2 = 1 → ((stepX k = 1 ∧ x < u) ∨ (stepX k = -1 ∧ u < x)) ∧ ((stepY k = 1 ∧ y < v) ∨ (stepY k = -1 ∧ v < y))) ∧
    (k % 2 = 0 → (stepY k = 0 ∧ ((stepX k = 1 ∧ x < u) ∨ (stepX k = -1 ∧ u < x)) ∧ dst y v < dst x u) ∨ (stepX k = 0 ∧ ((stepY k = 1 ∧ y < v) ∨ (stepY k = -1 ∧ v < y)) ∧ dst x u < dst y v)) := by
  obtain ⟨g1, g2⟩ := g
  obtain ⟨u1, u2, u3, u4, u5⟩ := step_unit k hk
  obtain ⟨a1, a2, a3⟩ := dst_step x u (stepX k) u1
  obtain ⟨b1, b2, b3⟩ := dst_step y v (stepY k) u2
  constructor
  · intro hp
    rw [(u5 hp).1] at g1
    rw [(u5 hp).2] at g2
    have := two_less g1 g2
    exact ⟨a3 (by omega), b3 (by omega)⟩
  · intro hp
    rw [(u4 hp).1] at g1
    rw [(u4 hp).2] at g2
    obtain ⟨c1, c2, c3⟩ := one_less g1 g2
    rcases u3 hp with ⟨z, _⟩ | ⟨z, _⟩
    · have := a1 z
      exact Or.inr ⟨z, b3 (by omega), c3 (by omega)⟩
    · have := b1 z
      exact Or.inl ⟨z, a3 (by omega), c2 (by omega)⟩
/-- two that bring one nearer, both straight or both diagonal, are one -/
theorem good_one {x y u v : Int} {k j : Nat} (hk : k < 8) (hj : j < 8) (hp : k % 2 = j % 2) (g : Good x y u v k) (h : Good x y u v j) : k = j := by
  obtain ⟨a1, a2⟩ := good_dir hk g
  obtain ⟨b1, b2⟩ := good_dir hj h
  by_cases q : k % 2 = 1
  · obtain ⟨p1, p2⟩ := a1 q
    obtain ⟨q1, q2⟩ := b1 (by omega)
    have ex : stepX k = stepX j := by omega
    have ey : stepY k = stepY j := by omega
    rcases k8 hk with rfl | rfl | rfl | rfl | rfl | rfl | rfl | rfl <;> rcases k8 hj with rfl | rfl | rfl | rfl | rfl | rfl | rfl | rfl <;> first | rfl | (exfalso; revert ex ey; decide)
  · have p := a2 (by omega)
    have r := b2 (by omega)
    have ex : stepX k = stepX j := by omega
    have ey : stepY k = stepY j := by omega
    rcases k8 hk with rfl | rfl | rfl | rfl | rfl | rfl | rfl | rfl <;> rcases k8 hj with rfl | rfl | rfl | rfl | rfl | rfl | rfl | rfl <;> first | rfl | (exfalso; revert ex ey; decide)
end Go.Proofs.YtmnpplkjhnoglaaGreatDoor
/-
  Corners: what package corner says.
-/
namespace Go.Proofs.YtmnpplkjhnoglaaGreatDoor
open Go.RowKit

/-- does a way turn here, round the cell in a direction? -/
def crB (W H : Int) (bl : Nat → Bool) (x y : Int) (k : Nat) : Bool := openB W H bl (x + stepX k) y && openB W H bl x (y + stepY k) && !openB W H bl (x + stepX k) (y + stepY k)
def turnB (W H : Int) (bl : Nat → Bool) (x y : Int) : Bool := (List.range 4).any fun j => crB W H bl x y (2 * j + 1)
/-- is a cell a corner? -/
def cornB (W H : Int) (bl : Nat → Bool) (c : Int) : Bool := openB W H bl (c % W) (c / W) && turnB W H bl (c % W) (c / W)

theorem turnB_false {W H x y : Int} {bl : Nat → Bool} (h : ∀ j, j < 4 → crB W H bl x y (2 * j + 1) = false) : turnB W H bl x y = false := by
  unfold turnB
  rw [List.any_eq_false]
  intro j hj
  rw [h j (List.mem_range.1 hj)]
  simp
theorem turnB_true {W H x y : Int} {bl : Nat → Bool} {j : Nat} (hj : j < 4) (h : crB W H bl x y (2 * j + 1) = true) : turnB W H bl x y = true :=
  List.any_eq_true.2 ⟨j, List.mem_range.2 hj, h⟩

set_option maxHeartbeats 1600000 in
theorem turns_any {b : Nat} {W H V : Int} {bl : Nat → Bool} (x y : Int) (w : World) (g : GridAt w b W H V bl) (s : StepsAt w) (x1 : -100 ≤ x) (x2 : x ≤ 100) (y1 : -100 ≤ y) (y2 : y ≤ 100) :
    Calls Tryz.prog 118 #[.pointer (some ⟨b, 0, none⟩), .int .i64 x, .int .i64 y] w fun e w' => e = .returned (.bool (turnB W H bl x y)) ∧ ∃ m, w' = w.drewN m := by
  go_enter Tryz.func118, Tryz.ntmps118
  go_wp2
  go_loopg [7] (4 : Nat) (fun gk dv wr => ∃ i : Nat, i ≤ 4 ∧ gk = 4 - i ∧ dv = .int .i64 ((2 * i + 1 : Nat) : Int) ∧ (∀ j, j < i → crB W H bl x y (2 * j + 1) = false) ∧ ∃ m, wr = w.drewN m)
  case atStart => exact ⟨0, Nat.zero_le _, rfl, rfl, fun j hj => absurd hj (by omega), 0, rfl⟩
  case round =>
    obtain ⟨i, hi, hgk, rfl, hall, m, rfl⟩ := hrel
    by_cases hlt : i < 4
    · have hd : 2 * i + 1 < 8 := by omega
      obtain ⟨s1, s2, s3, s4⟩ := step_bd (2 * i + 1)
      have hs := fun w h => step_any (2 * i + 1) w h hd
      have hcr : crB W H bl x y (2 * i + 1) = (openB W H bl (x + stepX (2 * i + 1)) y && openB W H bl x (y + stepY (2 * i + 1)) && !openB W H bl (x + stepX (2 * i + 1)) (y + stepY (2 * i + 1))) := rfl
      generalize stepX (2 * i + 1) = dx at *
      generalize stepY (2 * i + 1) = dy at *
      have go_on : crB W H bl x y (2 * i + 1) = false → Hid (∀ j, j < i + 1 → crB W H bl x y (2 * j + 1) = false) := fun h j hj => by
        by_cases e : j = i
        · rw [e]; exact h
        · exact hall j (by omega)
      clear hall
      cases hA : openB W H bl (x + dx) y with
      | false =>
        rw [hA] at hcr
        have HN := go_on (by rw [hcr]; rfl)
        clear hcr go_on
        go_wp2_with (first | (go_at_call 139; refine (hs _ (s.drewN _)).mono ?_; rintro e w' ⟨rfl, m, rfl⟩) | (go_at_call 117; refine (open_v (by assumption) _ (g.drewN _)).mono ?_; rintro e w' ⟨rfl, m, rfl⟩))
        go_roundg (4 - (i + 1))
        case measure => omega
        case rel => exact ⟨i + 1, by omega, rfl, by go_num, HN.out, _, rfl⟩
      | true =>
        cases hB : openB W H bl x (y + dy) with
        | false =>
          rw [hA, hB] at hcr
          have HN := go_on (by rw [hcr]; rfl)
          clear hcr go_on
          go_wp2_with (first | (go_at_call 139; refine (hs _ (s.drewN _)).mono ?_; rintro e w' ⟨rfl, m, rfl⟩) | (go_at_call 117; refine (open_v (by assumption) _ (g.drewN _)).mono ?_; rintro e w' ⟨rfl, m, rfl⟩))
          go_roundg (4 - (i + 1))
          case measure => omega
          case rel => exact ⟨i + 1, by omega, rfl, by go_num, HN.out, _, rfl⟩
        | true =>
          cases hC : openB W H bl (x + dx) (y + dy) with
          | true =>
            rw [hA, hB, hC] at hcr
            have HN := go_on (by rw [hcr]; rfl)
            clear hcr go_on
            go_wp2_with (first | (go_at_call 139; refine (hs _ (s.drewN _)).mono ?_; rintro e w' ⟨rfl, m, rfl⟩) | (go_at_call 117; refine (open_v (by assumption) _ (g.drewN _)).mono ?_; rintro e w' ⟨rfl, m, rfl⟩))
            go_roundg (4 - (i + 1))
            case measure => omega
            case rel => exact ⟨i + 1, by omega, rfl, by go_num, HN.out, _, rfl⟩
          | false =>
            rw [hA, hB, hC] at hcr
            have HT : Hid (turnB W H bl x y = true) := turnB_true hlt hcr
            clear hcr go_on
            go_wp2_with (first | (go_at_call 139; refine (hs _ (s.drewN _)).mono ?_; rintro e w' ⟨rfl, m, rfl⟩) | (go_at_call 117; refine (open_v (by assumption) _ (g.drewN _)).mono ?_; rintro e w' ⟨rfl, m, rfl⟩))
            go_ret
            exact ⟨by rw [HT.out]; rfl, _, rfl⟩
    · have : i = 4 := by omega
      subst this
      have HT : Hid (turnB W H bl x y = false) := turnB_false hall
      clear hall
      go_wp2
      go_ret
      exact ⟨by rw [HT.out]; rfl, _, rfl⟩

theorem turns_v {b : Nat} {W H V : Int} {bl : Nat → Bool} {x y : Int} {r : Bool} (hr : turnB W H bl x y = r) (w : World) (g : GridAt w b W H V bl) (s : StepsAt w) (x1 : -100 ≤ x) (x2 : x ≤ 100) (y1 : -100 ≤ y) (y2 : y ≤ 100) :
    Calls Tryz.prog 118 #[.pointer (some ⟨b, 0, none⟩), .int .i64 x, .int .i64 y] w fun e w' => e = .returned (.bool r) ∧ ∃ m, w' = w.drewN m := hr ▸ turns_any x y w g s x1 x2 y1 y2

theorem place_bd {W H c : Int} (w1 : 1 ≤ W) (hr : inB W H c = true) : 0 ≤ c % W ∧ c % W < W ∧ 0 ≤ c / W ∧ c / W < H := by
  have hc : 0 ≤ c ∧ c < W * H := of_decide_eq_true hr
  exact ⟨Int.emod_nonneg _ (by omega), Int.emod_lt_of_pos _ (by omega), Int.ediv_nonneg hc.1 (by omega), Int.ediv_lt_of_lt_mul (by omega) (by rw [Int.mul_comm]; exact hc.2)⟩

set_option maxHeartbeats 1000000 in
theorem is_in {b : Nat} {W H V : Int} {bl : Nat → Bool} (c : Int) (w : World) (g : GridAt w b W H V bl) (s : StepsAt w) (hr : inB W H c = true) :
    Calls Tryz.prog 84 #[.pointer (some ⟨b, 0, none⟩), .int .i64 c] w fun e w' => e = .returned (.tuple #[.bool (cornB W H bl c), .nilIface]) ∧ ∃ m, w' = w.drewN m := by
  obtain ⟨x1, x2, y1, y2⟩ := place_bd g.w1 hr
  have gw := g.w2
  have gh := g.h2
  have hP := fun w g => place_in (b := b) (W := W) (H := H) (V := V) (bl := bl) c w g hr
  have hm : cornB W H bl c = (openB W H bl (c % W) (c / W) && turnB W H bl (c % W) (c / W)) := rfl
  rw [hm]
  clear hm
  generalize c % W = x at *
  generalize c / W = y at *
  cases hA : openB W H bl x y with
  | false =>
    simp only [Bool.false_and]
    go_enter Tryz.func84, Tryz.ntmps84
    go_wp2_with (first | (go_at_call 116; refine (hP _ g).mono ?_; rintro e w' ⟨rfl, m, rfl⟩) | (go_at_call 117; refine (open_v (by assumption) _ (g.drewN _)).mono ?_; rintro e w' ⟨rfl, m, rfl⟩))
    go_ret2
    exact ⟨rfl, _, rfl⟩
  | true =>
    cases hB : turnB W H bl x y with
    | false =>
      simp only [Bool.and_false]
      go_enter Tryz.func84, Tryz.ntmps84
      go_wp2_with (first | (go_at_call 116; refine (hP _ g).mono ?_; rintro e w' ⟨rfl, m, rfl⟩) | (go_at_call 117; refine (open_v (by assumption) _ (g.drewN _)).mono ?_; rintro e w' ⟨rfl, m, rfl⟩) | (go_at_call 118; refine (turns_v (by assumption) _ (g.drewN _) (s.drewN _) (by omega) (by omega) (by omega) (by omega)).mono ?_; rintro e w' ⟨rfl, m, rfl⟩))
      go_ret2
      exact ⟨rfl, _, rfl⟩
    | true =>
      simp only [Bool.and_true]
      go_enter Tryz.func84, Tryz.ntmps84
      go_wp2_with (first | (go_at_call 116; refine (hP _ g).mono ?_; rintro e w' ⟨rfl, m, rfl⟩) | (go_at_call 117; refine (open_v (by assumption) _ (g.drewN _)).mono ?_; rintro e w' ⟨rfl, m, rfl⟩) | (go_at_call 118; refine (turns_v (by assumption) _ (g.drewN _) (s.drewN _) (by omega) (by omega) (by omega) (by omega)).mono ?_; rintro e w' ⟨rfl, m, rfl⟩))
      go_ret2
      exact ⟨rfl, _, rfl⟩

set_option maxHeartbeats 400000 in
theorem is_out {b : Nat} {W H V : Int} {bl : Nat → Bool} (c : Int) (w : World) (g : GridAt w b W H V bl) (hr : inB W H c = false) :
    Calls Tryz.prog 84 #[.pointer (some ⟨b, 0, none⟩), .int .i64 c] w fun e w' => e = .returned (.tuple #[.bool false, .iface 96 (.int .i64 1)]) ∧ ∃ m, w' = w.drewN m := by
  go_enter Tryz.func84, Tryz.ntmps84
  go_wp2_with (go_at_call 116; refine (place_out c _ g hr).mono ?_; rintro e w' ⟨rfl, m, rfl⟩)
  go_ret2
  exact ⟨rfl, _, rfl⟩

theorem is_v {b : Nat} {W H V : Int} {bl : Nat → Bool} {c : Int} {r : Bool} (hc : cornB W H bl c = r) (w : World) (g : GridAt w b W H V bl) (s : StepsAt w) (hr : inB W H c = true) :
    Calls Tryz.prog 84 #[.pointer (some ⟨b, 0, none⟩), .int .i64 c] w fun e w' => e = .returned (.tuple #[.bool r, .nilIface]) ∧ ∃ m, w' = w.drewN m := hc ▸ is_in c w g s hr

/-- the corners below k -/
def crs (W H : Int) (bl : Nat → Bool) (k : Nat) : List Nat := (List.range k).filter fun c => cornB W H bl (c : Nat)
theorem crs_succ (W H : Int) (bl : Nat → Bool) (k : Nat) : crs W H bl (k + 1) = crs W H bl k ++ (if cornB W H bl (k : Nat) then [k] else []) := by
  unfold crs
  rw [List.range_succ, List.filter_append]
  cases h : cornB W H bl (k : Nat) <;> simp [h]
theorem crs_len (W H : Int) (bl : Nat → Bool) (k : Nat) : (crs W H bl k).length ≤ k := by
  unfold crs
  have := List.length_filter_le (fun c : Nat => cornB W H bl (c : Nat)) (List.range k)
  simpa using this

set_option maxHeartbeats 1600000 in
set_option maxRecDepth 1000000 in
theorem all_any {b : Nat} {W H V : Int} {bl : Nat → Bool} (w : World) (g : GridAt w b W H V bl) (s : StepsAt w) (hb : b < w.heap.size) :
    Calls Tryz.prog 45 #[.pointer (some ⟨b, 0, none⟩)] w fun e w' => ∃ v, e = .returned v ∧
      w'.ownsRow w.heap.size 3 1 v (crs W H bl (W * H).toNat).length (vals (crs W H bl (W * H).toNat)) ∧ Below w.heap.size w w' := by
  obtain ⟨i0, hi, hz0, hz1, hz2⟩ := info_parts Tryz.info3
  obtain ⟨k1, k2⟩ := wh_bd g.w1 g.w2 g.h1 g.h2
  go_enter Tryz.func45, Tryz.ntmps45
  go_wp2_with (go_at_call 83; refine (cells_any _ g).mono ?_; rintro e w' ⟨rfl, m, rfl⟩)
  go_loopw [3, 9] (fun v i wr => ∃ k : Nat, (k : Int) ≤ W * H ∧ i = .int .i64 k ∧ wr.ownsRow w.heap.size 3 1 v (crs W H bl k).length (vals (crs W H bl k)) ∧ Below w.heap.size w wr)
    (fun _ i _ => 1000 - (intOf i).toNat)
  case atStart => exact ⟨0, by omega, rfl, World.ownsRow_nil _ _ _ _, below_drewN (Below.refl _ _) _⟩
  case round =>
    obtain ⟨k, hk, rfl, hown, hnx⟩ := hrel
    have hl := crs_len W H bl k
    have gr := g.below hnx hb
    have sr := s.below hnx (by omega)
    have hsz := hnx.size
    by_cases hlt : (k : Int) < W * H
    · have hms := crs_succ W H bl k
      have hin : inB W H (k : Nat) = true := decide_eq_true ⟨by omega, hlt⟩
      cases hM : cornB W H bl (k : Nat) with
      | false =>
        rw [hM] at hms
        have h0 : crs W H bl (k + 1) = crs W H bl k := by simpa using hms
        have HS : Hid (crs W H bl (k + 1) = crs W H bl k) := h0
        clear h0
        clear hms
        go_wp2_with (go_at_call 84; refine (is_v hM _ gr sr hin).mono ?_; rintro e w' ⟨rfl, m, rfl⟩)
        go_roundw
        case rel => exact ⟨k + 1, by omega, by go_num, by rw [HS.out]; exact hown, below_drewN hnx _⟩
        case measure => simp [intOf]; omega
      | true =>
        rw [hM] at hms
        have h0 : crs W H bl (k + 1) = crs W H bl k ++ [k] := by simpa using hms
        have HS : Hid (crs W H bl (k + 1) = crs W H bl k ++ [k]) := h0
        clear h0
        clear hms
        go_wp2_with (first | (go_at_call 84; refine (is_v hM _ gr sr hin).mono ?_; rintro e w' ⟨rfl, m, rfl⟩) | (at_builtin; refine wpList_append_own _ rfl _ _ 22 rfl w.heap.size 3 i0 (.int .i64 0) 1 8 Tryz.underlying22 hi hz0 hz1 hz2 rfl (by decide) _ _ _ rfl (World.ownsRow.alloc hown _) ⟨wr.heap.size, 0, none⟩ 1 1 [.int .i64 k] rfl rfl ?c1 ?c2 ?c3 ?c4 ?c5 ?_))
        case c1 =>
          intro j u hj
          match j, hj with
          | 0, hj =>
            simp at hj; subst hj; simp only [Addr.add]
            exact World.cell?_alloc_at (w := wr.drewN m) #[.int .i64 k] 3 wr.heap.size 0 rfl
        case c2 => intro u hu; simp at hu; subst hu; rfl
        case c3 => unfold maxLen; omega
        case c4 => omega
        case c5 => simp; omega
        intro v' w1 hown' hgrow _
        have hbase := fun q hq => (hown.lt q hq).1
        have B1 : Below w.heap.size w w1 := ((below_drewN hnx m).alloc hsz _).grown hgrow (by simp; omega) hbase
        have O1 : w1.ownsRow w.heap.size 3 1 v' (crs W H bl (k + 1)).length (vals (crs W H bl (k + 1))) := by
          rw [HS.out]
          simpa [vals] using hown'
        clear hown' hgrow hown hnx gr sr
        go_wp2
        go_roundw
        case rel => exact ⟨k + 1, by omega, by go_num, O1, B1⟩
        case measure => simp [intOf]; omega
    · have e : (W * H).toNat = k := by omega
      have HE : Hid ((W * H).toNat = k) := e
      clear e
      go_wp2
      go_ret
      exact ⟨_, rfl, by rw [HE.out]; exact hown, hnx⟩
end Go.Proofs.YtmnpplkjhnoglaaGreatDoor
