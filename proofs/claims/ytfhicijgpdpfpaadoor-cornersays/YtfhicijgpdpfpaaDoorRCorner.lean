/-
  Corners: the reference's.
-/
import Derived.Test.YtfhicijgpdpfpaaDoorCorner
import Derived.Test.YtfhicijgpdpfpaaDoorRMoves
import Derived.Deep.LoopGhost
import Derived.Deep.Light
namespace Go.Proofs.YtfhicijgpdpfpaaDoor
open Go.RowKit

theorem drewN_two (w : World) (m k : Nat) : (w.drewN m).drewN k = w.drewN (m + k) := by simp
/-- does a way turn here, round the cell at these differences? -/
def rcB (W H : Int) (bl : Nat → Bool) (x y : Int) (i j : Nat) : Bool := !openB W H bl (x + (2 * (i : Int) - 1)) (y + (2 * (j : Int) - 1)) && (openB W H bl (x + (2 * (i : Int) - 1)) y && openB W H bl x (y + (2 * (j : Int) - 1)))
theorem rcB_cr (W H : Int) (bl : Nat → Bool) (x y : Int) : rcB W H bl x y 1 0 = crB W H bl x y 1 ∧ rcB W H bl x y 1 1 = crB W H bl x y 3 ∧ rcB W H bl x y 0 1 = crB W H bl x y 5 ∧ rcB W H bl x y 0 0 = crB W H bl x y 7 := by
  unfold rcB crB
  refine ⟨?_, ?_, ?_, ?_⟩ <;> exact Bool.and_comm _ _
theorem turn_of_rc {W H x y : Int} {bl : Nat → Bool} {i j : Nat} (hi : i < 2) (hj : j < 2) (h : rcB W H bl x y i j = true) : turnB W H bl x y = true := by
  obtain ⟨h1, h2, h3, h4⟩ := rcB_cr W H bl x y
  have : (i = 0 ∨ i = 1) ∧ (j = 0 ∨ j = 1) := by omega
  obtain ⟨rfl | rfl, rfl | rfl⟩ := this
  · exact turnB_true (j := 3) (by omega) (by rw [← h4]; exact h)
  · exact turnB_true (j := 2) (by omega) (by rw [← h3]; exact h)
  · exact turnB_true (j := 0) (by omega) (by rw [← h1]; exact h)
  · exact turnB_true (j := 1) (by omega) (by rw [← h2]; exact h)
theorem no_turn_of_rc {W H x y : Int} {bl : Nat → Bool} (h : ∀ i j, i < 2 → j < 2 → rcB W H bl x y i j = false) : turnB W H bl x y = false := by
  obtain ⟨h1, h2, h3, h4⟩ := rcB_cr W H bl x y
  refine turnB_false fun j hj => ?_
  have : j = 0 ∨ j = 1 ∨ j = 2 ∨ j = 3 := by omega
  rcases this with rfl | rfl | rfl | rfl
  · rw [← h1]; exact h 1 0 (by omega) (by omega)
  · rw [← h2]; exact h 1 1 (by omega) (by omega)
  · rw [← h3]; exact h 0 1 (by omega) (by omega)
  · rw [← h4]; exact h 0 0 (by omega) (by omega)

set_option maxHeartbeats 1600000 in
set_option maxRecDepth 1000000 in
theorem rcorner' {b : Nat} {W H V c x y : Int} {bl : Nat → Bool} {r : Bool} (w : World) (g : RefAt w b W H V bl) (hx : Int.tmod c W = x) (hy : Int.tdiv c W = y) (hr : (openB W H bl x y && turnB W H bl x y) = r) (x1 : 0 ≤ x) (x2 : x < 16) (y1 : 0 ≤ y) (y2 : y < 16) :
    Calls Tryd.prog 31 #[.pointer (some ⟨b, 0, none⟩), .int .i64 c] w fun e w' => e = .returned (.bool r) ∧ ∃ m, w' = w.drewN m := by
  have c0 := g.c0
  have gw1 := g.w1
  have hne : W ≠ 0 := by omega
  have hwy : IntKind.i64.wrap y = y := by unfold IntKind.wrap; simp [IntKind.bits, IntKind.signed]; omega
  cases hA : openB W H bl x y with
  | false =>
    rw [hA] at hr
    simp only [Bool.false_and] at hr
    subst hr
    go_enter Tryd.func31, Tryd.ntmps31
    go_wp2_with (go_at_call 66; refine (ropen_v (by assumption) _ g).mono ?_; rintro e w' ⟨rfl, m, rfl⟩)
    go_ret
    exact ⟨rfl, _, rfl⟩
  | true =>
    rw [hA] at hr
    simp only [Bool.true_and] at hr
    have HR : Hid (turnB W H bl x y = r) := hr
    clear hr
    go_enter Tryd.func31, Tryd.ntmps31
    go_wp2_with (go_at_call 66; refine (ropen_v (by assumption) _ g).mono ?_; rintro e w' ⟨rfl, m, rfl⟩)
    go_loopg [7] (2 : Nat) (fun gk dv wr => ∃ i : Nat, i ≤ 2 ∧ gk = 2 - i ∧ dv = .int .i64 (2 * (i : Int) - 1) ∧ Hid (∀ i' j', i' < i → j' < 2 → rcB W H bl x y i' j' = false) ∧ ∃ m, wr = w.drewN m)
    case atStart => exact ⟨0, Nat.zero_le _, rfl, rfl, fun i' _ hj => absurd hj (by omega), m, rfl⟩
    case round =>
      obtain ⟨i, hi, hgk, rfl, hall, m, rfl⟩ := hrel
      by_cases hlt : i < 2
      · have hlt2 : 2 * (i : Int) - 1 < 2 := by omega
        go_wp2
        go_loopg [8] (2 : Nat) (fun gk dv wr => ∃ j : Nat, j ≤ 2 ∧ gk = 2 - j ∧ dv = .int .i64 (2 * (j : Int) - 1) ∧ Hid (∀ j', j' < j → rcB W H bl x y i j' = false) ∧ ∃ m, wr = w.drewN m)
        case atStart => exact ⟨0, Nat.zero_le _, rfl, rfl, fun j' hj => absurd hj (by omega), m, rfl⟩
        case round =>
          obtain ⟨j, hj, hgj, rfl, hin, m2, rfl⟩ := hrel
          by_cases hlj : j < 2
          · have hlj2 : 2 * (j : Int) - 1 < 2 := by omega
            have hrc : rcB W H bl x y i j = (!openB W H bl (x + (2 * (i : Int) - 1)) (y + (2 * (j : Int) - 1)) && (openB W H bl (x + (2 * (i : Int) - 1)) y && openB W H bl x (y + (2 * (j : Int) - 1)))) := rfl
            have go_on : rcB W H bl x y i j = false → Hid (∀ j', j' < j + 1 → rcB W H bl x y i j' = false) := fun h j' hj' => by
              by_cases e : j' = j
              · rw [e]; exact h
              · exact hin.out j' (by omega)
            cases hP : openB W H bl (x + (2 * (i : Int) - 1)) (y + (2 * (j : Int) - 1)) with
            | true =>
              rw [hP] at hrc
              have HN := go_on (by rw [hrc]; rfl)
              clear hrc go_on
              cases hQ : openB W H bl (x + (2 * (i : Int) - 1)) y <;> cases hS : openB W H bl x (y + (2 * (j : Int) - 1))
              all_goals
                go_wp2_with (go_at_call 66; refine (ropen_v (by assumption) _ (g.drewN _)).mono ?_; rintro e w' ⟨rfl, m3, rfl⟩)
                go_roundg (2 - (j + 1))
              all_goals first | omega | exact ⟨j + 1, by omega, rfl, by go_num, HN, _, rfl⟩
            | false =>
              cases hQ : openB W H bl (x + (2 * (i : Int) - 1)) y <;> cases hS : openB W H bl x (y + (2 * (j : Int) - 1))
              case true.true =>
                rw [hP, hQ, hS] at hrc
                have HT : Hid (turnB W H bl x y = true) := turn_of_rc hlt hlj hrc
                clear hrc go_on
                go_wp2_with (go_at_call 66; refine (ropen_v (by assumption) _ (g.drewN _)).mono ?_; rintro e w' ⟨rfl, m3, rfl⟩)
                go_ret
                exact ⟨by rw [← HR.out, HT.out]; rfl, _, rfl⟩
              all_goals
                rw [hP, hQ, hS] at hrc
                have HN := go_on (by rw [hrc]; rfl)
                clear hrc go_on
                go_wp2_with (go_at_call 66; refine (ropen_v (by assumption) _ (g.drewN _)).mono ?_; rintro e w' ⟨rfl, m3, rfl⟩)
                go_roundg (2 - (j + 1))
              all_goals first | omega | exact ⟨j + 1, by omega, rfl, by go_num, HN, _, rfl⟩
          · have e : j = 2 := by omega
            subst e
            go_wp2
            go_roundg (2 - (i + 1))
            case measure => omega
            case rel =>
              refine ⟨i + 1, by omega, rfl, by go_num, fun i' j' hi' hj' => ?_, _, rfl⟩
              by_cases e : i' = i
              · rw [e]; exact hin.out j' hj'
              · exact hall.out i' j' (by omega) hj'
      · have e : i = 2 := by omega
        subst e
        have HT : Hid (turnB W H bl x y = false) := no_turn_of_rc hall.out
        go_wp2
        go_ret
        exact ⟨by rw [← HR.out, HT.out]; rfl, _, rfl⟩

theorem rcorner_v {b : Nat} {W H V : Int} {bl : Nat → Bool} {c : Int} {r : Bool} (hc : cornB W H bl c = r) (w : World) (g : RefAt w b W H V bl) (hr : inB W H c = true) :
    Calls Tryd.prog 31 #[.pointer (some ⟨b, 0, none⟩), .int .i64 c] w fun e w' => e = .returned (.bool r) ∧ ∃ m, w' = w.drewN m := by
  obtain ⟨x1, x2, y1, y2⟩ := place_bd g.w1 hr
  have hq : 0 ≤ c ∧ c < W * H := of_decide_eq_true hr
  have gw := g.w2
  have gh := g.h2
  exact rcorner' w g (Int.tmod_eq_emod_of_nonneg hq.1) (Int.tdiv_eq_ediv_of_nonneg hq.1) hc x1 (by omega) y1 (by omega)

set_option maxHeartbeats 1600000 in
set_option maxRecDepth 1000000 in
theorem rcorners_any {b : Nat} {W H V : Int} {bl : Nat → Bool} (w : World) (g : RefAt w b W H V bl) (hb : b < w.heap.size) :
    Calls Tryd.prog 34 #[.pointer (some ⟨b, 0, none⟩)] w fun e w' => ∃ v, e = .returned v ∧
      w'.ownsRow w.heap.size 3 1 v (crs W H bl (W * H).toNat).length (vals (crs W H bl (W * H).toNat)) ∧ Below w.heap.size w w' := by
  obtain ⟨i0, hi, hz0, hz1, hz2⟩ := info_parts Tryd.info3
  obtain ⟨k1, k2⟩ := wh_bd g.w1 g.w2 g.h1 g.h2
  go_enter Tryd.func34, Tryd.ntmps34
  go_wp2
  go_loopw [3, 4] (fun v i wr => ∃ k : Nat, (k : Int) ≤ W * H ∧ i = .int .i64 k ∧ wr.ownsRow w.heap.size 3 1 v (crs W H bl k).length (vals (crs W H bl k)) ∧ Below w.heap.size w wr)
    (fun _ i _ => 1000 - (intOf i).toNat)
  case atStart => exact ⟨0, by omega, rfl, World.ownsRow_nil _ _ _ _, Below.refl _ _⟩
  case round =>
    obtain ⟨k, hk, rfl, hown, hnx⟩ := hrel
    have hl := crs_len W H bl k
    have gr := g.below hnx hb
    have c0 := gr.c0
    have c1 := gr.c1
    have hsz := hnx.size
    by_cases hlt : (k : Int) < W * H
    · have hms := crs_succ W H bl k
      have hin : inB W H (k : Nat) = true := decide_eq_true ⟨by omega, hlt⟩
      cases hM : cornB W H bl (k : Nat) with
      | false =>
        rw [hM] at hms
        have h0 : crs W H bl (k + 1) = crs W H bl k := by simpa using hms
        have HS : Hid (crs W H bl (k + 1) = crs W H bl k) := h0
        clear h0 hms
        go_wp2
        go_quiet (fail)
        go_wp2_with (go_at_call 31; refine (rcorner_v hM _ (gr.drewN _) hin).mono ?_; rintro e w' ⟨rfl, m, rfl⟩)
        go_roundw
        case rel => exact ⟨k + 1, by omega, by go_num, by rw [HS.out]; exact hown, below_drewN hnx _⟩
        case measure => simp [intOf]; omega
      | true =>
        rw [hM] at hms
        have h0 : crs W H bl (k + 1) = crs W H bl k ++ [k] := by simpa using hms
        have HS : Hid (crs W H bl (k + 1) = crs W H bl k ++ [k]) := h0
        clear h0 hms
        go_wp2
        go_quiet (fail)
        go_wp2_with (first | (go_at_call 31; refine (rcorner_v hM _ (gr.drewN _) hin).mono ?_; rintro e w' ⟨rfl, m, hm'⟩; rw [drewN_two] at hm'; subst hm') | (at_builtin; refine wpList_append_own _ rfl _ _ 22 rfl w.heap.size 3 i0 (.int .i64 0) 1 8 Tryd.underlying22 hi hz0 hz1 hz2 rfl (by decide) _ _ _ rfl (World.ownsRow.alloc hown _) ⟨wr.heap.size, 0, none⟩ 1 1 [.int .i64 k] rfl rfl ?c1 ?c2 ?c3 ?c4 ?c5 ?_))
        case c1 =>
          intro j u hj
          match j, hj with
          | 0, hj =>
            simp at hj; subst hj; simp only [Addr.add]
            exact World.cell?_alloc_at (w := wr.drewN (nq + m)) #[.int .i64 k] 3 wr.heap.size 0 rfl
        case c2 => intro u hu; simp at hu; subst hu; rfl
        case c3 => unfold maxLen; omega
        case c4 => omega
        case c5 => simp; omega
        intro v' w1 hown' hgrow _
        have hbase := fun q hq => (hown.lt q hq).1
        have B1 : Below w.heap.size w w1 := ((below_drewN hnx (nq + m)).alloc hsz _).grown hgrow (by simp; omega) hbase
        have O1 : w1.ownsRow w.heap.size 3 1 v' (crs W H bl (k + 1)).length (vals (crs W H bl (k + 1))) := by
          rw [HS.out]
          simpa [vals] using hown'
        clear hown' hgrow hown hnx gr c0 c1
        go_wp2
        go_roundw
        case rel => exact ⟨k + 1, by omega, by go_num, O1, B1⟩
        case measure => simp [intOf]; omega
    · have e : (W * H).toNat = k := by omega
      have HE : Hid ((W * H).toNat = k) := e
      clear e
      go_wp2
      go_quiet (fail)
      go_wp2
      go_ret
      exact ⟨_, rfl, by rw [HE.out]; exact hown, below_drewN hnx _⟩
end Go.Proofs.YtfhicijgpdpfpaaDoor
