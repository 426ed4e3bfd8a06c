/-
  The walk of 'CornerSays'.
-/
import Derived.Test.YtfhicijgpdpfpaaDoorRCorner
import Derived.Test.YtfhicijgpdpfpaaDoorAsAid
import Derived.Test.YtfhicijgpdpfpaaDoorSet
import Derived.Deep.RegionHeld3
namespace Go.Proofs.YtfhicijgpdpfpaaDoor
open Go.RowKit

theorem StepsAt.pos' {w : World} (s : StepsAt w) : 0 < w.heap.size := World.block_lt_of_cell? w _ (s 0 (by decide)).1
theorem all_v {b : Nat} {W H V : Int} {bl : Nat → Bool} {l : List Nat} (hl : crs W H bl (W * H).toNat = l) (w : World) (g : GridAt w b W H V bl) (s : StepsAt w) (hb : b < w.heap.size) :
    Calls Tryd.prog 33 #[.pointer (some ⟨b, 0, none⟩)] w fun e w' => ∃ A cap, e = .returned (.slice A l.length cap) ∧ OldRow w' A l.length (fun i => (l.getD i 0 : Nat)) ∧ Below w.heap.size w w' :=
  (all_any w g s hb).mono fun e w' ⟨v, he, hown, hbl⟩ => by
    rw [hl] at hown
    obtain ⟨A, cap, rfl, hrow⟩ := row_of hown
    exact ⟨A, cap, he, hrow, hbl⟩
theorem rcorners_v {b : Nat} {W H V : Int} {bl : Nat → Bool} {l : List Nat} (hl : crs W H bl (W * H).toNat = l) (w : World) (g : RefAt w b W H V bl) (hb : b < w.heap.size) :
    Calls Tryd.prog 34 #[.pointer (some ⟨b, 0, none⟩)] w fun e w' => ∃ A cap, e = .returned (.slice A l.length cap) ∧ OldRow w' A l.length (fun i => (l.getD i 0 : Nat)) ∧ Below w.heap.size w w' :=
  (rcorners_any w g hb).mono fun e w' ⟨v, he, hown, hbl⟩ => by
    rw [hl] at hown
    obtain ⟨A, cap, rfl, hrow⟩ := row_of hown
    exact ⟨A, cap, he, hrow, hbl⟩

theorem four_row (w : World) : OldRow (w.alloc (.cells #[.int .i64 0, .int .i64 2, .int .i64 6, .int .i64 8] 3)) (some ⟨w.heap.size, 0, none⟩) 4 (fun i => (([0, 2, 6, 8] : List Nat).getD i 0 : Nat)) := fun i hi => by
  refine ⟨w.heap.size, 0, rfl, by simp, ?_⟩
  rw [Nat.zero_add]
  have hk : i = 0 ∨ i = 1 ∨ i = 2 ∨ i = 3 := by omega
  rcases hk with rfl | rfl | rfl | rfl <;> exact World.cell?_alloc_at #[.int .i64 0, .int .i64 2, .int .i64 6, .int .i64 8] 3 w.heap.size _ rfl

set_option maxHeartbeats 1000000 in
set_option maxRecDepth 1000000 in
theorem cturns_any (w : World) (s : StepsAt w) : Calls Tryd.prog 29 #[] w fun e w' => e = .returned (.bool true) ∧ Below w.heap.size w w' := by
  have hs3 : sideB 3 = true := by decide
  have hG := gridAt_new 3 3 w hs3 hs3
  have hF : Free (w.alloc (.cells (gridC 3 3) 90)) w.heap.size := free_alloc w _ _ _ (Nat.le_refl _)
  have hb : Below w.heap.size w (w.alloc (.cells (gridC 3 3) 90)) := (Below.refl _ _).alloc (Nat.le_refl _) _
  have hsz : (w.alloc (.cells (gridC 3 3) 90)).heap.size = w.heap.size + 1 := by simp
  have hset := set_new 4 true _ hG hF (by decide) rfl (by decide) (by decide)
  go_enter Tryd.func29, Tryd.ntmps29
  go_wp2_with (go_at_call 22; refine (new_ok _ _ _ hs3 hs3).mono ?_; rintro e w' ⟨rfl, rfl⟩)
  refine hset.mono ?_
  rintro e w1 ⟨rfl, T1, G1, F1⟩
  have B1 : Below w.heap.size w w1 := T1.below hb (Nat.le_refl _)
  have s1 : StepsAt w1 := s.below B1 s.pos'
  have z1 : w.heap.size < w1.heap.size := by rw [T1.size, hsz]; omega
  clear hG hF hb hsz hset F1 T1
  have hI := is_v (r := true) (by decide) _ G1 s1 (c := 0) (by decide)
  go_wp2_with fail
  refine hI.mono ?_
  rintro e w2 ⟨rfl, m, rfl⟩
  have hA := all_v (l := [0, 2, 6, 8]) (by decide) _ (G1.drewN m) (s1.drewN m) z1
  clear hI
  go_wp2_with (go_at_call 13; refine (same_nil _).mono ?_; rintro e w' ⟨rfl, rfl⟩)
  refine hA.mono ?_
  rintro e w3 ⟨A, cap, rfl, hrow, hb3⟩
  have B3 : Below w.heap.size w w3 := (below_drewN B1 m).trans (hb3.mono (Nat.le_of_lt z1))
  have hr2 := hrow.below ((Below.refl w3.heap.size w3).alloc (Nat.le_refl _) (.cells #[.int .i64 0, .int .i64 2, .int .i64 6, .int .i64 8] 3))
  have hS := sameRows (n := 4) (ca := cap) (cb := 4) (by decide) hr2 (four_row w3)
  clear hA hrow hr2 G1 s1 hb3
  go_wp2_with fail
  refine hS.mono ?_
  rintro e w4 ⟨rfl, m4, rfl⟩
  clear hS
  go_wp2
  go_ret
  exact ⟨rfl, below_drewN (B3.alloc B3.size _) m4⟩

theorem boxedC (w : World) (W H : Int) (A : Option Addr) (n cap : Nat) {wa : World}
    (hb : Below (w.alloc (.cells #[.int .i64 W, .int .i64 H, .slice A n cap] 24)).heap.size (w.alloc (.cells #[.int .i64 W, .int .i64 H, .slice A n cap] 24)) wa) :
    wa.cell? ⟨w.heap.size, 0, none⟩ = some (.int .i64 W) ∧ wa.cell? ⟨w.heap.size, 1, none⟩ = some (.int .i64 H) ∧ wa.cell? ⟨w.heap.size, 2, none⟩ = some (.slice A n cap) := by
  have h : ∀ o, wa.cell? ⟨w.heap.size, o, none⟩ = #[Value.int .i64 W, .int .i64 H, .slice A n cap][o]? := fun o => by
    rw [hb.cell (p := ⟨w.heap.size, o, none⟩) (by simp), World.cell?_alloc_new]
  exact ⟨h 0, h 1, h 2⟩

set_option maxHeartbeats 1000000 in
set_option maxRecDepth 1000000 in
theorem cornerSays_none (W H : Int) (A : Option Addr) (n cap : Nat) (c : Int) (w : World) (s : StepsAt w) (h0 : 0 < w.heap.size)
    (hL : ∀ w' : World, Calls Tryd.prog 10 #[.agg #[.int .i64 W, .int .i64 H, .slice A n cap]] w' fun e w'' => e = .returned (.tuple #[.pointer none, .pointer none, .bool false]) ∧ Below w'.heap.size w' w'') :
    Calls Tryd.prog 5 #[.agg #[.int .i64 W, .int .i64 H, .slice A n cap], .int .i64 c] w fun e w' => e = .returned (.bool true) ∧ Below w.heap.size w w' := by
  have hb : Below w.heap.size w (w.alloc (.cells #[.int .i64 W, .int .i64 H, .slice A n cap] 24)) := (Below.refl _ _).alloc (Nat.le_refl _) _
  have hs := s.below hb h0
  go_enter Tryd.func5, Tryd.ntmps5
  go_wp2_with (first | (go_at_call 29; refine (cturns_any _ hs).mono ?_; rintro e w1 ⟨rfl, hb1⟩; obtain ⟨p0, p1, p2⟩ := boxedC w W H A n cap hb1) | (go_at_call 10; refine (hL _).mono ?_; rintro e w2 ⟨rfl, hb2⟩))
  go_ret
  exact ⟨rfl, (hb.trans (hb1.mono (by simp))).trans (hb2.mono (hb.trans (hb1.mono (by simp))).size)⟩

set_option maxHeartbeats 2000000 in
set_option maxRecDepth 1000000 in
theorem cornerSays_ok (W H : Int) (A : Option Addr) (n cap : Nat) (xs : Nat → Int) (c : Int) (w : World) (s : StepsAt w) (h0 : 0 < w.heap.size) (hn : ¬ 300 < (n : Int)) (hW : sideB W = true) (hH : sideB H = true) (hx : OldRow w A n xs) :
    Calls Tryd.prog 5 #[.agg #[.int .i64 W, .int .i64 H, .slice A n cap], .int .i64 c] w fun e w' => e = .returned (.bool true) ∧ Below w.heap.size w w' := by
  have hb : Below w.heap.size w (w.alloc (.cells #[.int .i64 W, .int .i64 H, .slice A n cap] 24)) := (Below.refl _ _).alloc (Nat.le_refl _) _
  have hs := s.below hb h0
  go_enter Tryd.func5, Tryd.ntmps5
  go_wp2_with (go_at_call 29; refine (cturns_any _ hs).mono ?_; rintro e w1 ⟨rfl, hb1⟩; obtain ⟨p0, p1, p2⟩ := boxedC w W H A n cap hb1)
  have B1 : Below w.heap.size w w1 := hb.trans (hb1.mono (by simp))
  have hx1 : OldRow w1 A n xs := hx.below B1
  have s1 := s.below B1 h0
  have hLd := laid_ok W H A n cap xs w1 (by omega) hW hH hx1
  refine hLd.mono ?_
  rintro e w2 ⟨rfl, hb2, hsz2, V, bl, hV, hB⟩
  have B2 : Below w.heap.size w w2 := B1.trans (hb2.mono B1.size)
  have s2 := s1.below hb2 s1.pos'
  have gl : w1.heap.size + 1 < w2.heap.size := by omega
  have ml : w1.heap.size + 1 + 1 < w2.heap.size := by omega
  have hga := hB.ga
  have hra := hB.ra
  obtain ⟨l, hl⟩ : ∃ l, crs W H bl (W * H).toNat = l := ⟨_, rfl⟩
  have hll : l.length ≤ 1000000 := by
    have h1 := crs_len W H bl (W * H).toNat
    have h2 := (wh_bd hga.w1 hga.w2 hga.h1 hga.h2).2
    rw [hl] at h1
    omega
  have HL : Hid (crs W H bl (W * H).toNat = l) := hl
  clear hl hLd hB hx1 hx hsz2 hb2 p0 p1 p2 hb hs s1 hb1
  generalize w1.heap.size + 1 + 1 = mb at *
  generalize w1.heap.size + 1 = gb at *
  cases hin : inB W H c with
  | false =>
    go_wp2_with (first | (go_at_call 30; refine (is_out _ _ hga hin).mono ?_; rintro e w' ⟨rfl, m1, rfl⟩) | (go_at_call 20; refine (ris_out _ _ (hra.drewN _) hin).mono ?_; rintro e w' ⟨rfl, m2, rfl⟩) | (go_at_call 13; refine (same_err _ _ (by decide)).mono ?_; rintro e w' ⟨rfl, rfl⟩))
    refine (all_v HL.out _ (hga.drewN _) (s2.drewN _) gl).mono ?_
    rintro e w3 ⟨A1, cap1, rfl, hrow1, hb3⟩
    have hra3 := (hra.drewN (m1 + m2)).below hb3 ml
    have ml3 := Nat.lt_of_lt_of_le ml hb3.size
    have B3 := (below_drewN B2 (m1 + m2)).trans (hb3.mono B2.size)
    clear hb3
    go_wp2_with fail
    refine (rcorners_v HL.out _ hra3 ml3).mono ?_
    rintro e w4 ⟨A2, cap2, rfl, hrow2, hb4⟩
    have hrow1' := hrow1.below hb4
    have B4 := B3.trans (hb4.mono B3.size)
    clear hb4 hra3 ml3 hrow1
    go_wp2_with fail
    refine (sameRows hll hrow1' hrow2).mono ?_
    rintro e w5 ⟨rfl, m5, rfl⟩
    go_wp2
    go_ret
    exact ⟨rfl, below_drewN B4 m5⟩
  | true =>
    cases hC : cornB W H bl c
    all_goals
      go_wp2_with (first | (go_at_call 30; refine (is_v hC _ hga s2 hin).mono ?_; rintro e w' ⟨rfl, m1, rfl⟩) | (go_at_call 20; refine (ris_in _ _ (hra.drewN _) hin).mono ?_; rintro e w' ⟨rfl, m2, rfl⟩) | (go_at_call 13; refine (same_nil _).mono ?_; rintro e w' ⟨rfl, rfl⟩) | (go_at_call 31; refine (rcorner_v hC _ (hra.drewN _) hin).mono ?_; rintro e w' ⟨rfl, m3, rfl⟩))
      refine (all_v HL.out _ (hga.drewN _) (s2.drewN _) gl).mono ?_
      rintro e w3 ⟨A1, cap1, rfl, hrow1, hb3⟩
      have hra3 := (hra.drewN (m1 + m2 + m3)).below hb3 ml
      have ml3 := Nat.lt_of_lt_of_le ml hb3.size
      have B3 := (below_drewN B2 (m1 + m2 + m3)).trans (hb3.mono B2.size)
      clear hb3
      go_wp2_with fail
      refine (rcorners_v HL.out _ hra3 ml3).mono ?_
      rintro e w4 ⟨A2, cap2, rfl, hrow2, hb4⟩
      have hrow1' := hrow1.below hb4
      have B4 := B3.trans (hb4.mono B3.size)
      clear hb4 hra3 ml3 hrow1
      go_wp2_with fail
      refine (sameRows hll hrow1' hrow2).mono ?_
      rintro e w5 ⟨rfl, m5, rfl⟩
      go_wp2
      go_ret
      exact ⟨rfl, below_drewN B4 m5⟩
end Go.Proofs.YtfhicijgpdpfpaaDoor
