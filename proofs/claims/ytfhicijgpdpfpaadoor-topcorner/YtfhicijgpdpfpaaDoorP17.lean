/-
  Texts laid together: NearM, Labs, RCorner, CornerW.
-/
import Derived.Test.YtfhicijgpdpfpaaDoorP16
import Derived.Deep.LoopGhost
import Derived.Deep.Light
import Derived.Deep.RegionHeld3
/-
  What is near, and the way: the mathematics of 'TopNear'.
-/
namespace Go.Proofs.YtfhicijgpdpfpaaDoor
open Go.RowKit

variable {W H : Int} {bl : Nat → Bool}
theorem On.sym {a b k : Int} (h : On W H bl a b k) : On W H bl b a k := ⟨h.2, h.1⟩
theorem near_iff {a b : Int} {F : Int → Option (Int × Int)} (w1 : 1 ≤ W) (hS : octS W a b ≤ 1000) (hD : octD W a b ≤ 1000) (BA : Best (Edge W H bl) a F) : (∃ z, On W H bl a b z) ↔ F b = some (octS W a b, octD W a b) := by
  constructor
  · rintro ⟨z, h⟩
    exact best_oct w1 BA (h.ends w1 hS hD).2.2
  · intro h
    exact ⟨b, On.of_near w1 hS hD (BA.sound h)⟩
theorem On.near_a {a b k : Int} (w1 : 1 ≤ W) (hS : octS W a b ≤ 1000) (hD : octD W a b ≤ 1000) (kS : octS W a k ≤ 1000) (kD : octD W a k ≤ 1000) (h : On W H bl a b k) : ∃ z, On W H bl a k z :=
  ⟨k, On.of_near w1 kS kD (h.walks w1 hS hD).1⟩
theorem On.near_b {a b k : Int} (w1 : 1 ≤ W) (hS : octS W a b ≤ 1000) (hD : octD W a b ≤ 1000) (kS : octS W k b ≤ 1000) (kD : octD W k b ≤ 1000) (h : On W H bl a b k) : ∃ z, On W H bl k b z := by
  have := (h.walks w1 hS hD).2.1.back (Edge.back w1)
  rw [octS_comm W b k, octD_comm W b k] at this
  exact ⟨b, On.of_near w1 kS kD this⟩
theorem On.free {a b k : Int} (w1 : 1 ≤ W) (hS : octS W a b ≤ 1000) (hD : octD W a b ≤ 1000) (ha : bl a.toNat = false) (h : On W H bl a b k) : bl k.toNat = false := wk_free ha (h.walks w1 hS hD).1

theorem chn_at {P : Int → Int → Prop} {t : Int} : ∀ {l : List Nat} {a : Nat}, Chn P a (ints l) t → (∀ i, i < l.length → P (((a :: l).getD i 0 : Nat) : Int) (((a :: l).getD (i + 1) 0 : Nat) : Int)) ∧ (((a :: l).getD l.length 0 : Nat) : Int) = t
  | [], a, h => ⟨fun i hi => absurd hi (Nat.not_lt_zero i), h⟩
  | n :: l, a, ⟨h1, h2⟩ => by
    obtain ⟨q1, q2⟩ := chn_at h2
    refine ⟨fun i hi => ?_, q2⟩
    cases i with
    | zero => exact h1
    | succ i => exact q1 i (by simpa using hi)

theorem ffv_zero {c : Int} (h1 : inB W H c = true) (h2 : bl c.toNat = false) : ffv W H bl c = 0 := by unfold ffv; rw [h1, h2]; rfl

/-- a way's cells are on, and what it costs so far is what is no longer left -/
theorem way_cost {a : Nat} {t : Int} {l : List Nat} (w1 : 1 ≤ W) (hS : octS W a t ≤ 1000) (hD : octD W a t ≤ 1000) (ha : inB W H a = true) (hfa : bl a = false) (hon : On W H bl a t a) (h : Chn (WSt W H bl a t) a (ints l) t) :
    (∀ i, i < (a :: l).length → On W H bl a t (((a :: l).getD i 0 : Nat) : Int) ∧ inB W H (((a :: l).getD i 0 : Nat) : Int) = true) ∧ wkV W H bl (fun i => (((a :: l).getD i 0 : Nat) : Int)) (a :: l).length = ((octS W a t, octD W a t), 0) := by
  obtain ⟨c1, c2⟩ := chn_at h
  have key : ∀ i, i < (a :: l).length → On W H bl a t (((a :: l).getD i 0 : Nat) : Int) ∧ inB W H (((a :: l).getD i 0 : Nat) : Int) = true ∧ wkS W H bl (fun i => (((a :: l).getD i 0 : Nat) : Int)) (i + 1) = .ok (octS W a t - octS W (((a :: l).getD i 0 : Nat) : Int) t, octD W a t - octD W (((a :: l).getD i 0 : Nat) : Int) t) := by
    intro i
    induction i with
    | zero =>
      intro _
      refine ⟨hon, ha, ?_⟩
      have e : wkS W H bl (fun i => (((a :: l).getD i 0 : Nat) : Int)) 0 = .ok (0, 0) := rfl
      rw [wkS_next e]
      unfold wk1
      have hz : ffv W H bl (((a :: l).getD 0 0 : Nat) : Int) = 0 := ffv_zero ha hfa
      rw [if_pos hz, if_pos rfl]
      show Except.ok (0, 0) = Except.ok (octS W a t - octS W a t, octD W a t - octD W a t)
      rw [Int.sub_self, Int.sub_self]
    | succ i ih =>
      intro hi
      obtain ⟨h1, h2, h3⟩ := ih (by omega)
      obtain ⟨k, hk⟩ := c1 i (by simpa using hi)
      generalize hp : (((a :: l).getD i 0 : Nat) : Int) = p at *
      generalize hr : (((a :: l).getD (i + 1) 0 : Nat) : Int) = r at *
      have hrin := hk.1.1.in' w1
      refine ⟨hk.1.2.2, hrin, ?_⟩
      rw [wkS_next h3]
      unfold wk1
      have hz : ffv W H bl (((a :: l).getD (i + 1) 0 : Nat) : Int) = 0 := by
        rw [hr]
        exact ffv_zero hrin (hk.1.2.2.free w1 hS hD hfa)
      rw [if_pos hz, if_neg (Nat.succ_ne_zero i)]
      have hst : stepD W H bl (((a :: l).getD (i + 1 - 1) 0 : Nat) : Int) (((a :: l).getD (i + 1) 0 : Nat) : Int) = some k := by
        rw [Nat.add_sub_cancel, hp, hr]
        exact stepD_edge w1 hk.1.1
      rw [hst]
      obtain ⟨g1, g2⟩ := (good_iff w1 hk.1.1).1 hk.1.2.1
      show Except.ok (octS W a t - octS W p t + stS k, octD W a t - octD W p t + stD k) = _
      congr 2 <;> omega
  refine ⟨fun i hi => ⟨(key i hi).1, (key i hi).2.1⟩, ?_⟩
  have hl := (key l.length (by simp)).2.2
  rw [c2, octS_self, octD_self, Int.sub_zero, Int.sub_zero] at hl
  exact wkV_ok hl (by simp)
end Go.Proofs.YtfhicijgpdpfpaaDoor
/-
  What the reference's flood gives back, laid in memory.
-/
namespace Go.Proofs.YtfhicijgpdpfpaaDoor
open Go.RowKit

/-- the two arrays that come back, laid in memory -/
theorem lab_laid (w : World) (F : Int → Option (Int × Int)) :
    ((w.alloc (.cells zC 45)).alloc (.cells zB 46)).there w.heap.size 0 512 ∧ (((w.alloc (.cells zC 45)).alloc (.cells zB 46)).setCells w.heap.size 0 (costL F)).there (w.heap.size + 1) 0 256 ∧
      LabAt ((((w.alloc (.cells zC 45)).alloc (.cells zB 46)).setCells w.heap.size 0 (costL F)).setCells (w.heap.size + 1) 0 (isL F)) w.heap.size (w.heap.size + 1) F ∧
      Below w.heap.size w ((((w.alloc (.cells zC 45)).alloc (.cells zB 46)).setCells w.heap.size 0 (costL F)).setCells (w.heap.size + 1) 0 (isL F)) := by
  have L := LabAt.new w
  have hB : Below w.heap.size w ((w.alloc (.cells zC 45)).alloc (.cells zB 46)) := ((Below.refl _ _).alloc (Nat.le_refl _) _).alloc (by simp) _
  have t0 : ((w.alloc (.cells zC 45)).alloc (.cells zB 46)).there w.heap.size 0 512 := World.there_alloc (new_there w (List.replicate 512 (Value.int .i64 0)) 45 512 List.length_replicate) _
  have t1 : ((w.alloc (.cells zC 45)).alloc (.cells zB 46)).there (w.heap.size + 1) 0 256 := by
    have := new_there (w.alloc (.cells zC 45)) (List.replicate 256 (Value.bool false)) 46 256 List.length_replicate
    rw [show (w.alloc (.cells zC 45)).heap.size = w.heap.size + 1 by simp] at this
    exact this
  have t2 : (((w.alloc (.cells zC 45)).alloc (.cells zB 46)).setCells w.heap.size 0 (costL F)).there (w.heap.size + 1) 0 256 := World.there_setCells t1 _ _ _
  refine ⟨t0, t2, ?_, below_setCells _ (by omega) _ _ (below_setCells _ (Nat.le_refl _) _ _ hB)⟩
  refine labAt_range ?_ ?_ (fun o => ?_) (fun o => ?_) (by omega)
  · exact World.rangeAt_setCells_apart (World.rangeAt_setCells_same _ _ _ _ (by rw [costL_len]; exact t0)) _ _ _ (Or.inl (by omega))
  · exact World.rangeAt_setCells_same _ _ _ _ (by rw [isL_len]; exact t2)
  · rw [World.frozen?_setCells, World.frozen?_setCells]; exact L.zc o
  · rw [World.frozen?_setCells, World.frozen?_setCells]; exact L.zi o

theorem th_of {w : World} {b o n : Nat} {l : List Value} (hl : l.length = n) (h : w.there b o n) : w.there b o l.toArray.size := by rw [List.size_toArray, hl]; exact h
theorem in_of {P : Program} {t : TypeId} {n : Nat} {l : List Value} (hl : l.length = n) (h : (P.info? t).map (·.size) = some n) : (P.info? t).map (·.size) = some l.toArray.size := by rw [List.size_toArray, hl]; exact h


theorem lab_ok {E : Int → Nat → Int → Prop} {o : Int} {F : Int → Option (Int × Int)} (h : Best E o F) (a : Int) : okC (labS F a) (labD F a) := by
  unfold labS labD okC
  cases hF : F a with
  | none => simp
  | some c =>
    obtain ⟨s, d⟩ := c
    obtain ⟨h1, h2, h3⟩ := h.small hF
    have := val_small h1 h2 h3
    show 0 ≤ s ∧ s ≤ 2097152 ∧ 0 ≤ d ∧ d ≤ 2097152
    omega

/-- a corner's list -/
theorem crs_mem {W H : Int} {bl : Nat → Bool} {k c : Nat} : c ∈ crs W H bl k ↔ c < k ∧ cornB W H bl (c : Nat) = true := by
  unfold crs
  rw [List.mem_filter, List.mem_range]
theorem cornB_iff {W H : Int} {bl : Nat → Bool} {c : Int} : cornB W H bl c = true ↔ CornC W H bl c := by
  unfold cornB CornC Corn
  rw [Bool.and_eq_true]
  constructor
  · rintro ⟨h1, h2⟩
    refine ⟨h1, ?_⟩
    unfold turnB at h2
    obtain ⟨j, hj, h3⟩ := List.any_eq_true.1 h2
    have hj := List.mem_range.1 hj
    unfold crB at h3
    rw [Bool.and_eq_true, Bool.and_eq_true] at h3
    exact ⟨2 * j + 1, by omega, by omega, by simpa using h3.2, h3.1.1, h3.1.2⟩
  · rintro ⟨h1, k, k1, k2, k3, k4, k5⟩
    refine ⟨h1, ?_⟩
    obtain ⟨j, rfl⟩ : ∃ j, k = 2 * j + 1 := ⟨k / 2, by omega⟩
    refine turnB_true (j := j) (by omega) ?_
    unfold crB
    rw [k3, k4, k5]
    rfl
theorem cornC_in {W H : Int} {bl : Nat → Bool} {c : Int} (w1 : 1 ≤ W) (h : CornC W H bl c) : inB W H c = true := by
  obtain ⟨a1, a2, a3, a4⟩ := open_in h.1
  have e := cell_eq W c
  have h1 := Int.mul_nonneg a3 (show 0 ≤ W by omega)
  have h2 : c / W * W + W ≤ H * W := by
    have := Int.mul_le_mul_of_nonneg_right (show c / W + 1 ≤ H by omega) (show 0 ≤ W by omega)
    rw [Int.add_mul] at this
    omega
  have h3 : H * W = W * H := Int.mul_comm H W
  exact decide_eq_true ⟨by omega, by omega⟩
end Go.Proofs.YtfhicijgpdpfpaaDoor
/-
  Corners: the reference's.
-/
namespace Go.Proofs.YtfhicijgpdpfpaaDoor
open Go.RowKit

theorem drewN_two (w : World) (m k : Nat) : (w.drewN m).drewN k = w.drewN (m + k) := by simp
/-- does a way turn here, round the cell at these differences? -/
def rcB (W H : Int) (bl : Nat → Bool) (x y : Int) (i j : Nat) : Bool := !openB W H bl (x + (2 * (i : Int) - 1)) (y + (2 * (j : Int) - 1)) && (openB W H bl (x + (2 * (i : Int) - 1)) y && openB W H bl x (y + (2 * (j : Int) - 1)))
theorem rcB_cr (W H : Int) (bl : Nat → Bool) (x y : Int) : rcB W H bl x y 1 0 = crB W H bl x y 1 ∧ rcB W H bl x y 1 1 = crB W H bl x y 3 ∧ rcB W H bl x y 0 1 = crB W H bl x y 5 ∧ rcB W H bl x y 0 0 = crB W H bl x y 7 := by
  unfold rcB crB
  refine ⟨?_, ?_, ?_, ?_⟩ <;> exact Bool.and_comm _ _
theorem turn_of_rc {W H x y : Int} {bl : Nat → Bool} {i j : Nat} (hi : i < 2) (hj : j < 2) (h : rcB W H bl x y i j = true) : turnB W H bl x y = true := by
  obtain ⟨h1, h2, h3, h4⟩ := rcB_cr W H bl x y
  have : (i = 0 ∨ i = 1) ∧ (j = 0 ∨ j = 1) := by omega
  obtain ⟨rfl | rfl, rfl | rfl⟩ := this
  · exact turnB_true (j := 3) (by omega) (by rw [← h4]; exact h)
  · exact turnB_true (j := 2) (by omega) (by rw [← h3]; exact h)
  · exact turnB_true (j := 0) (by omega) (by rw [← h1]; exact h)
  · exact turnB_true (j := 1) (by omega) (by rw [← h2]; exact h)
theorem no_turn_of_rc {W H x y : Int} {bl : Nat → Bool} (h : ∀ i j, i < 2 → j < 2 → rcB W H bl x y i j = false) : turnB W H bl x y = false := by
  obtain ⟨h1, h2, h3, h4⟩ := rcB_cr W H bl x y
  refine turnB_false fun j hj => ?_
  have : j = 0 ∨ j = 1 ∨ j = 2 ∨ j = 3 := by omega
  rcases this with rfl | rfl | rfl | rfl
  · rw [← h1]; exact h 1 0 (by omega) (by omega)
  · rw [← h2]; exact h 1 1 (by omega) (by omega)
  · rw [← h3]; exact h 0 1 (by omega) (by omega)
  · rw [← h4]; exact h 0 0 (by omega) (by omega)

set_option maxHeartbeats 1600000 in
set_option maxRecDepth 1000000 in
theorem rcorner' {b : Nat} {W H V c x y : Int} {bl : Nat → Bool} {r : Bool} (w : World) (g : RefAt w b W H V bl) (hx : Int.tmod c W = x) (hy : Int.tdiv c W = y) (hr : (openB W H bl x y && turnB W H bl x y) = r) (x1 : 0 ≤ x) (x2 : x < 16) (y1 : 0 ≤ y) (y2 : y < 16) :
    Calls Tryd.prog 31 #[.pointer (some ⟨b, 0, none⟩), .int .i64 c] w fun e w' => e = .returned (.bool r) ∧ ∃ m, w' = w.drewN m := by
  have c0 := g.c0
  have gw1 := g.w1
  have hne : W ≠ 0 := by omega
  have hwy : IntKind.i64.wrap y = y := by unfold IntKind.wrap; simp [IntKind.bits, IntKind.signed]; omega
  cases hA : openB W H bl x y with
  | false =>
    rw [hA] at hr
    simp only [Bool.false_and] at hr
    subst hr
    go_enter Tryd.func31, Tryd.ntmps31
    go_wp2_with (go_at_call 66; refine (ropen_v (by assumption) _ g).mono ?_; rintro e w' ⟨rfl, m, rfl⟩)
    go_ret
    exact ⟨rfl, _, rfl⟩
  | true =>
    rw [hA] at hr
    simp only [Bool.true_and] at hr
    have HR : Hid (turnB W H bl x y = r) := hr
    clear hr
    go_enter Tryd.func31, Tryd.ntmps31
    go_wp2_with (go_at_call 66; refine (ropen_v (by assumption) _ g).mono ?_; rintro e w' ⟨rfl, m, rfl⟩)
    go_loopg [7] (2 : Nat) (fun gk dv wr => ∃ i : Nat, i ≤ 2 ∧ gk = 2 - i ∧ dv = .int .i64 (2 * (i : Int) - 1) ∧ Hid (∀ i' j', i' < i → j' < 2 → rcB W H bl x y i' j' = false) ∧ ∃ m, wr = w.drewN m)
    case atStart => exact ⟨0, Nat.zero_le _, rfl, rfl, fun i' _ hj => absurd hj (by omega), m, rfl⟩
    case round =>
      obtain ⟨i, hi, hgk, rfl, hall, m, rfl⟩ := hrel
      by_cases hlt : i < 2
      · have hlt2 : 2 * (i : Int) - 1 < 2 := by omega
        go_wp2
        go_loopg [8] (2 : Nat) (fun gk dv wr => ∃ j : Nat, j ≤ 2 ∧ gk = 2 - j ∧ dv = .int .i64 (2 * (j : Int) - 1) ∧ Hid (∀ j', j' < j → rcB W H bl x y i j' = false) ∧ ∃ m, wr = w.drewN m)
        case atStart => exact ⟨0, Nat.zero_le _, rfl, rfl, fun j' hj => absurd hj (by omega), m, rfl⟩
        case round =>
          obtain ⟨j, hj, hgj, rfl, hin, m2, rfl⟩ := hrel
          by_cases hlj : j < 2
          · have hlj2 : 2 * (j : Int) - 1 < 2 := by omega
            have hrc : rcB W H bl x y i j = (!openB W H bl (x + (2 * (i : Int) - 1)) (y + (2 * (j : Int) - 1)) && (openB W H bl (x + (2 * (i : Int) - 1)) y && openB W H bl x (y + (2 * (j : Int) - 1)))) := rfl
            have go_on : rcB W H bl x y i j = false → Hid (∀ j', j' < j + 1 → rcB W H bl x y i j' = false) := fun h j' hj' => by
              by_cases e : j' = j
              · rw [e]; exact h
              · exact hin.out j' (by omega)
            cases hP : openB W H bl (x + (2 * (i : Int) - 1)) (y + (2 * (j : Int) - 1)) with
            | true =>
              rw [hP] at hrc
              have HN := go_on (by rw [hrc]; rfl)
              clear hrc go_on
              cases hQ : openB W H bl (x + (2 * (i : Int) - 1)) y <;> cases hS : openB W H bl x (y + (2 * (j : Int) - 1))
              all_goals
                go_wp2_with (go_at_call 66; refine (ropen_v (by assumption) _ (g.drewN _)).mono ?_; rintro e w' ⟨rfl, m3, rfl⟩)
                go_roundg (2 - (j + 1))
              all_goals first | omega | exact ⟨j + 1, by omega, rfl, by go_num, HN, _, rfl⟩
            | false =>
              cases hQ : openB W H bl (x + (2 * (i : Int) - 1)) y <;> cases hS : openB W H bl x (y + (2 * (j : Int) - 1))
              case true.true =>
                rw [hP, hQ, hS] at hrc
                have HT : Hid (turnB W H bl x y = true) := turn_of_rc hlt hlj hrc
                clear hrc go_on
                go_wp2_with (go_at_call 66; refine (ropen_v (by assumption) _ (g.drewN _)).mono ?_; rintro e w' ⟨rfl, m3, rfl⟩)
                go_ret
                exact ⟨by rw [← HR.out, HT.out]; rfl, _, rfl⟩
              all_goals
                rw [hP, hQ, hS] at hrc
                have HN := go_on (by rw [hrc]; rfl)
                clear hrc go_on
                go_wp2_with (go_at_call 66; refine (ropen_v (by assumption) _ (g.drewN _)).mono ?_; rintro e w' ⟨rfl, m3, rfl⟩)
                go_roundg (2 - (j + 1))
              all_goals first | omega | exact ⟨j + 1, by omega, rfl, by go_num, HN, _, rfl⟩
          · have e : j = 2 := by omega
            subst e
            go_wp2
            go_roundg (2 - (i + 1))
            case measure => omega
            case rel =>
              refine ⟨i + 1, by omega, rfl, by go_num, fun i' j' hi' hj' => ?_, _, rfl⟩
              by_cases e : i' = i
              · rw [e]; exact hin.out j' hj'
              · exact hall.out i' j' (by omega) hj'
      · have e : i = 2 := by omega
        subst e
        have HT : Hid (turnB W H bl x y = false) := no_turn_of_rc hall.out
        go_wp2
        go_ret
        exact ⟨by rw [← HR.out, HT.out]; rfl, _, rfl⟩

theorem rcorner_v {b : Nat} {W H V : Int} {bl : Nat → Bool} {c : Int} {r : Bool} (hc : cornB W H bl c = r) (w : World) (g : RefAt w b W H V bl) (hr : inB W H c = true) :
    Calls Tryd.prog 31 #[.pointer (some ⟨b, 0, none⟩), .int .i64 c] w fun e w' => e = .returned (.bool r) ∧ ∃ m, w' = w.drewN m := by
  obtain ⟨x1, x2, y1, y2⟩ := place_bd g.w1 hr
  have hq : 0 ≤ c ∧ c < W * H := of_decide_eq_true hr
  have gw := g.w2
  have gh := g.h2
  exact rcorner' w g (Int.tmod_eq_emod_of_nonneg hq.1) (Int.tdiv_eq_ediv_of_nonneg hq.1) hc x1 (by omega) y1 (by omega)

set_option maxHeartbeats 1600000 in
set_option maxRecDepth 1000000 in
theorem rcorners_any {b : Nat} {W H V : Int} {bl : Nat → Bool} (w : World) (g : RefAt w b W H V bl) (hb : b < w.heap.size) :
    Calls Tryd.prog 34 #[.pointer (some ⟨b, 0, none⟩)] w fun e w' => ∃ v, e = .returned v ∧
      w'.ownsRow w.heap.size 3 1 v (crs W H bl (W * H).toNat).length (vals (crs W H bl (W * H).toNat)) ∧ Below w.heap.size w w' := by
  obtain ⟨i0, hi, hz0, hz1, hz2⟩ := info_parts Tryd.info3
  obtain ⟨k1, k2⟩ := wh_bd g.w1 g.w2 g.h1 g.h2
  go_enter Tryd.func34, Tryd.ntmps34
  go_wp2
  go_loopw [3, 4] (fun v i wr => ∃ k : Nat, (k : Int) ≤ W * H ∧ i = .int .i64 k ∧ wr.ownsRow w.heap.size 3 1 v (crs W H bl k).length (vals (crs W H bl k)) ∧ Below w.heap.size w wr)
    (fun _ i _ => 1000 - (intOf i).toNat)
  case atStart => exact ⟨0, by omega, rfl, World.ownsRow_nil _ _ _ _, Below.refl _ _⟩
  case round =>
    obtain ⟨k, hk, rfl, hown, hnx⟩ := hrel
    have hl := crs_len W H bl k
    have gr := g.below hnx hb
    have c0 := gr.c0
    have c1 := gr.c1
    have hsz := hnx.size
    by_cases hlt : (k : Int) < W * H
    · have hms := crs_succ W H bl k
      have hin : inB W H (k : Nat) = true := decide_eq_true ⟨by omega, hlt⟩
      cases hM : cornB W H bl (k : Nat) with
      | false =>
        rw [hM] at hms
        have h0 : crs W H bl (k + 1) = crs W H bl k := by simpa using hms
        have HS : Hid (crs W H bl (k + 1) = crs W H bl k) := h0
        clear h0 hms
        go_wp2
        go_quiet (fail)
        go_wp2_with (go_at_call 31; refine (rcorner_v hM _ (gr.drewN _) hin).mono ?_; rintro e w' ⟨rfl, m, rfl⟩)
        go_roundw
        case rel => exact ⟨k + 1, by omega, by go_num, by rw [HS.out]; exact hown, below_drewN hnx _⟩
        case measure => simp [intOf]; omega
      | true =>
        rw [hM] at hms
        have h0 : crs W H bl (k + 1) = crs W H bl k ++ [k] := by simpa using hms
        have HS : Hid (crs W H bl (k + 1) = crs W H bl k ++ [k]) := h0
        clear h0 hms
        go_wp2
        go_quiet (fail)
        go_wp2_with (first | (go_at_call 31; refine (rcorner_v hM _ (gr.drewN _) hin).mono ?_; rintro e w' ⟨rfl, m, hm'⟩; rw [drewN_two] at hm'; subst hm') | (at_builtin; refine wpList_append_own _ rfl _ _ 22 rfl w.heap.size 3 i0 (.int .i64 0) 1 8 Tryd.underlying22 hi hz0 hz1 hz2 rfl (by decide) _ _ _ rfl (World.ownsRow.alloc hown _) ⟨wr.heap.size, 0, none⟩ 1 1 [.int .i64 k] rfl rfl ?c1 ?c2 ?c3 ?c4 ?c5 ?_))
        case c1 =>
          intro j u hj
          match j, hj with
          | 0, hj =>
            simp at hj; subst hj; simp only [Addr.add]
            exact World.cell?_alloc_at (w := wr.drewN (nq + m)) #[.int .i64 k] 3 wr.heap.size 0 rfl
        case c2 => intro u hu; simp at hu; subst hu; rfl
        case c3 => unfold maxLen; omega
        case c4 => omega
        case c5 => simp; omega
        intro v' w1 hown' hgrow _
        have hbase := fun q hq => (hown.lt q hq).1
        have B1 : Below w.heap.size w w1 := ((below_drewN hnx (nq + m)).alloc hsz _).grown hgrow (by simp; omega) hbase
        have O1 : w1.ownsRow w.heap.size 3 1 v' (crs W H bl (k + 1)).length (vals (crs W H bl (k + 1))) := by
          rw [HS.out]
          simpa [vals] using hown'
        clear hown' hgrow hown hnx gr c0 c1
        go_wp2
        go_roundw
        case rel => exact ⟨k + 1, by omega, by go_num, O1, B1⟩
        case measure => simp [intOf]; omega
    · have e : (W * H).toNat = k := by omega
      have HE : Hid ((W * H).toNat = k) := e
      clear e
      go_wp2
      go_quiet (fail)
      go_wp2
      go_ret
      exact ⟨_, rfl, by rw [HE.out]; exact hown, below_drewN hnx _⟩
end Go.Proofs.YtfhicijgpdpfpaaDoor
/-
  The walk of 'CornerSays'.
-/
namespace Go.Proofs.YtfhicijgpdpfpaaDoor
open Go.RowKit

theorem StepsAt.pos' {w : World} (s : StepsAt w) : 0 < w.heap.size := World.block_lt_of_cell? w _ (s 0 (by decide)).1
theorem all_v {b : Nat} {W H V : Int} {bl : Nat → Bool} {l : List Nat} (hl : crs W H bl (W * H).toNat = l) (w : World) (g : GridAt w b W H V bl) (s : StepsAt w) (hb : b < w.heap.size) :
    Calls Tryd.prog 33 #[.pointer (some ⟨b, 0, none⟩)] w fun e w' => ∃ A cap, e = .returned (.slice A l.length cap) ∧ OldRow w' A l.length (fun i => (l.getD i 0 : Nat)) ∧ Below w.heap.size w w' :=
  (all_any w g s hb).mono fun e w' ⟨v, he, hown, hbl⟩ => by
    rw [hl] at hown
    obtain ⟨A, cap, rfl, hrow⟩ := row_of hown
    exact ⟨A, cap, he, hrow, hbl⟩
theorem rcorners_v {b : Nat} {W H V : Int} {bl : Nat → Bool} {l : List Nat} (hl : crs W H bl (W * H).toNat = l) (w : World) (g : RefAt w b W H V bl) (hb : b < w.heap.size) :
    Calls Tryd.prog 34 #[.pointer (some ⟨b, 0, none⟩)] w fun e w' => ∃ A cap, e = .returned (.slice A l.length cap) ∧ OldRow w' A l.length (fun i => (l.getD i 0 : Nat)) ∧ Below w.heap.size w w' :=
  (rcorners_any w g hb).mono fun e w' ⟨v, he, hown, hbl⟩ => by
    rw [hl] at hown
    obtain ⟨A, cap, rfl, hrow⟩ := row_of hown
    exact ⟨A, cap, he, hrow, hbl⟩

theorem four_row (w : World) : OldRow (w.alloc (.cells #[.int .i64 0, .int .i64 2, .int .i64 6, .int .i64 8] 3)) (some ⟨w.heap.size, 0, none⟩) 4 (fun i => (([0, 2, 6, 8] : List Nat).getD i 0 : Nat)) := fun i hi => by
  refine ⟨w.heap.size, 0, rfl, by simp, ?_⟩
  rw [Nat.zero_add]
  have hk : i = 0 ∨ i = 1 ∨ i = 2 ∨ i = 3 := by omega
  rcases hk with rfl | rfl | rfl | rfl <;> exact World.cell?_alloc_at #[.int .i64 0, .int .i64 2, .int .i64 6, .int .i64 8] 3 w.heap.size _ rfl

set_option maxHeartbeats 1000000 in
set_option maxRecDepth 1000000 in
theorem cturns_any (w : World) (s : StepsAt w) : Calls Tryd.prog 29 #[] w fun e w' => e = .returned (.bool true) ∧ Below w.heap.size w w' := by
  have hs3 : sideB 3 = true := by decide
  have hG := gridAt_new 3 3 w hs3 hs3
  have hF : Free (w.alloc (.cells (gridC 3 3) 90)) w.heap.size := free_alloc w _ _ _ (Nat.le_refl _)
  have hb : Below w.heap.size w (w.alloc (.cells (gridC 3 3) 90)) := (Below.refl _ _).alloc (Nat.le_refl _) _
  have hsz : (w.alloc (.cells (gridC 3 3) 90)).heap.size = w.heap.size + 1 := by simp
  have hset := set_new 4 true _ hG hF (by decide) rfl (by decide) (by decide)
  go_enter Tryd.func29, Tryd.ntmps29
  go_wp2_with (go_at_call 22; refine (new_ok _ _ _ hs3 hs3).mono ?_; rintro e w' ⟨rfl, rfl⟩)
  refine hset.mono ?_
  rintro e w1 ⟨rfl, T1, G1, F1⟩
  have B1 : Below w.heap.size w w1 := T1.below hb (Nat.le_refl _)
  have s1 : StepsAt w1 := s.below B1 s.pos'
  have z1 : w.heap.size < w1.heap.size := by rw [T1.size, hsz]; omega
  clear hG hF hb hsz hset F1 T1
  have hI := is_v (r := true) (by decide) _ G1 s1 (c := 0) (by decide)
  go_wp2_with fail
  refine hI.mono ?_
  rintro e w2 ⟨rfl, m, rfl⟩
  have hA := all_v (l := [0, 2, 6, 8]) (by decide) _ (G1.drewN m) (s1.drewN m) z1
  clear hI
  go_wp2_with (go_at_call 13; refine (same_nil _).mono ?_; rintro e w' ⟨rfl, rfl⟩)
  refine hA.mono ?_
  rintro e w3 ⟨A, cap, rfl, hrow, hb3⟩
  have B3 : Below w.heap.size w w3 := (below_drewN B1 m).trans (hb3.mono (Nat.le_of_lt z1))
  have hr2 := hrow.below ((Below.refl w3.heap.size w3).alloc (Nat.le_refl _) (.cells #[.int .i64 0, .int .i64 2, .int .i64 6, .int .i64 8] 3))
  have hS := sameRows (n := 4) (ca := cap) (cb := 4) (by decide) hr2 (four_row w3)
  clear hA hrow hr2 G1 s1 hb3
  go_wp2_with fail
  refine hS.mono ?_
  rintro e w4 ⟨rfl, m4, rfl⟩
  clear hS
  go_wp2
  go_ret
  exact ⟨rfl, below_drewN (B3.alloc B3.size _) m4⟩

theorem boxedC (w : World) (W H : Int) (A : Option Addr) (n cap : Nat) {wa : World}
    (hb : Below (w.alloc (.cells #[.int .i64 W, .int .i64 H, .slice A n cap] 24)).heap.size (w.alloc (.cells #[.int .i64 W, .int .i64 H, .slice A n cap] 24)) wa) :
    wa.cell? ⟨w.heap.size, 0, none⟩ = some (.int .i64 W) ∧ wa.cell? ⟨w.heap.size, 1, none⟩ = some (.int .i64 H) ∧ wa.cell? ⟨w.heap.size, 2, none⟩ = some (.slice A n cap) := by
  have h : ∀ o, wa.cell? ⟨w.heap.size, o, none⟩ = #[Value.int .i64 W, .int .i64 H, .slice A n cap][o]? := fun o => by
    rw [hb.cell (p := ⟨w.heap.size, o, none⟩) (by simp), World.cell?_alloc_new]
  exact ⟨h 0, h 1, h 2⟩

set_option maxHeartbeats 1000000 in
set_option maxRecDepth 1000000 in
theorem cornerSays_none (W H : Int) (A : Option Addr) (n cap : Nat) (c : Int) (w : World) (s : StepsAt w) (h0 : 0 < w.heap.size)
    (hL : ∀ w' : World, Calls Tryd.prog 10 #[.agg #[.int .i64 W, .int .i64 H, .slice A n cap]] w' fun e w'' => e = .returned (.tuple #[.pointer none, .pointer none, .bool false]) ∧ Below w'.heap.size w' w'') :
    Calls Tryd.prog 5 #[.agg #[.int .i64 W, .int .i64 H, .slice A n cap], .int .i64 c] w fun e w' => e = .returned (.bool true) ∧ Below w.heap.size w w' := by
  have hb : Below w.heap.size w (w.alloc (.cells #[.int .i64 W, .int .i64 H, .slice A n cap] 24)) := (Below.refl _ _).alloc (Nat.le_refl _) _
  have hs := s.below hb h0
  go_enter Tryd.func5, Tryd.ntmps5
  go_wp2_with (first | (go_at_call 29; refine (cturns_any _ hs).mono ?_; rintro e w1 ⟨rfl, hb1⟩; obtain ⟨p0, p1, p2⟩ := boxedC w W H A n cap hb1) | (go_at_call 10; refine (hL _).mono ?_; rintro e w2 ⟨rfl, hb2⟩))
  go_ret
  exact ⟨rfl, (hb.trans (hb1.mono (by simp))).trans (hb2.mono (hb.trans (hb1.mono (by simp))).size)⟩

set_option maxHeartbeats 2000000 in
set_option maxRecDepth 1000000 in
theorem cornerSays_ok (W H : Int) (A : Option Addr) (n cap : Nat) (xs : Nat → Int) (c : Int) (w : World) (s : StepsAt w) (h0 : 0 < w.heap.size) (hn : ¬ 300 < (n : Int)) (hW : sideB W = true) (hH : sideB H = true) (hx : OldRow w A n xs) :
    Calls Tryd.prog 5 #[.agg #[.int .i64 W, .int .i64 H, .slice A n cap], .int .i64 c] w fun e w' => e = .returned (.bool true) ∧ Below w.heap.size w w' := by
  have hb : Below w.heap.size w (w.alloc (.cells #[.int .i64 W, .int .i64 H, .slice A n cap] 24)) := (Below.refl _ _).alloc (Nat.le_refl _) _
  have hs := s.below hb h0
  go_enter Tryd.func5, Tryd.ntmps5
  go_wp2_with (go_at_call 29; refine (cturns_any _ hs).mono ?_; rintro e w1 ⟨rfl, hb1⟩; obtain ⟨p0, p1, p2⟩ := boxedC w W H A n cap hb1)
  have B1 : Below w.heap.size w w1 := hb.trans (hb1.mono (by simp))
  have hx1 : OldRow w1 A n xs := hx.below B1
  have s1 := s.below B1 h0
  have hLd := laid_ok W H A n cap xs w1 (by omega) hW hH hx1
  refine hLd.mono ?_
  rintro e w2 ⟨rfl, hb2, hsz2, V, bl, hV, hB⟩
  have B2 : Below w.heap.size w w2 := B1.trans (hb2.mono B1.size)
  have s2 := s1.below hb2 s1.pos'
  have gl : w1.heap.size + 1 < w2.heap.size := by omega
  have ml : w1.heap.size + 1 + 1 < w2.heap.size := by omega
  have hga := hB.ga
  have hra := hB.ra
  obtain ⟨l, hl⟩ : ∃ l, crs W H bl (W * H).toNat = l := ⟨_, rfl⟩
  have hll : l.length ≤ 1000000 := by
    have h1 := crs_len W H bl (W * H).toNat
    have h2 := (wh_bd hga.w1 hga.w2 hga.h1 hga.h2).2
    rw [hl] at h1
    omega
  have HL : Hid (crs W H bl (W * H).toNat = l) := hl
  clear hl hLd hB hx1 hx hsz2 hb2 p0 p1 p2 hb hs s1 hb1
  generalize w1.heap.size + 1 + 1 = mb at *
  generalize w1.heap.size + 1 = gb at *
  cases hin : inB W H c with
  | false =>
    go_wp2_with (first | (go_at_call 30; refine (is_out _ _ hga hin).mono ?_; rintro e w' ⟨rfl, m1, rfl⟩) | (go_at_call 20; refine (ris_out _ _ (hra.drewN _) hin).mono ?_; rintro e w' ⟨rfl, m2, rfl⟩) | (go_at_call 13; refine (same_err _ _ (by decide)).mono ?_; rintro e w' ⟨rfl, rfl⟩))
    refine (all_v HL.out _ (hga.drewN _) (s2.drewN _) gl).mono ?_
    rintro e w3 ⟨A1, cap1, rfl, hrow1, hb3⟩
    have hra3 := (hra.drewN (m1 + m2)).below hb3 ml
    have ml3 := Nat.lt_of_lt_of_le ml hb3.size
    have B3 := (below_drewN B2 (m1 + m2)).trans (hb3.mono B2.size)
    clear hb3
    go_wp2_with fail
    refine (rcorners_v HL.out _ hra3 ml3).mono ?_
    rintro e w4 ⟨A2, cap2, rfl, hrow2, hb4⟩
    have hrow1' := hrow1.below hb4
    have B4 := B3.trans (hb4.mono B3.size)
    clear hb4 hra3 ml3 hrow1
    go_wp2_with fail
    refine (sameRows hll hrow1' hrow2).mono ?_
    rintro e w5 ⟨rfl, m5, rfl⟩
    go_wp2
    go_ret
    exact ⟨rfl, below_drewN B4 m5⟩
  | true =>
    cases hC : cornB W H bl c
    all_goals
      go_wp2_with (first | (go_at_call 30; refine (is_v hC _ hga s2 hin).mono ?_; rintro e w' ⟨rfl, m1, rfl⟩) | (go_at_call 20; refine (ris_in _ _ (hra.drewN _) hin).mono ?_; rintro e w' ⟨rfl, m2, rfl⟩) | (go_at_call 13; refine (same_nil _).mono ?_; rintro e w' ⟨rfl, rfl⟩) | (go_at_call 31; refine (rcorner_v hC _ (hra.drewN _) hin).mono ?_; rintro e w' ⟨rfl, m3, rfl⟩))
      refine (all_v HL.out _ (hga.drewN _) (s2.drewN _) gl).mono ?_
      rintro e w3 ⟨A1, cap1, rfl, hrow1, hb3⟩
      have hra3 := (hra.drewN (m1 + m2 + m3)).below hb3 ml
      have ml3 := Nat.lt_of_lt_of_le ml hb3.size
      have B3 := (below_drewN B2 (m1 + m2 + m3)).trans (hb3.mono B2.size)
      clear hb3
      go_wp2_with fail
      refine (rcorners_v HL.out _ hra3 ml3).mono ?_
      rintro e w4 ⟨A2, cap2, rfl, hrow2, hb4⟩
      have hrow1' := hrow1.below hb4
      have B4 := B3.trans (hb4.mono B3.size)
      clear hb4 hra3 ml3 hrow1
      go_wp2_with fail
      refine (sameRows hll hrow1' hrow2).mono ?_
      rintro e w5 ⟨rfl, m5, rfl⟩
      go_wp2
      go_ret
      exact ⟨rfl, below_drewN B4 m5⟩
end Go.Proofs.YtfhicijgpdpfpaaDoor
