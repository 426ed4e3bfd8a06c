/-
  Texts laid together: CornerW, RDir, ReachW, ReachOk.
-/
import Derived.Test.YtfhicijgpdpfpaaDoorP18
import Derived.Deep.RegionHeld3
/-
  The walk of 'CornerSays'.
-/
namespace Go.Proofs.YtfhicijgpdpfpaaDoor
open Go.RowKit

theorem StepsAt.pos' {w : World} (s : StepsAt w) : 0 < w.heap.size := World.block_lt_of_cell? w _ (s 0 (by decide)).1
theorem all_v {b : Nat} {W H V : Int} {bl : Nat → Bool} {l : List Nat} (hl : crs W H bl (W * H).toNat = l) (w : World) (g : GridAt w b W H V bl) (s : StepsAt w) (hb : b < w.heap.size) :
    Calls Tryd.prog 33 #[.pointer (some ⟨b, 0, none⟩)] w fun e w' => ∃ A cap, e = .returned (.slice A l.length cap) ∧ OldRow w' A l.length (fun i => (l.getD i 0 : Nat)) ∧ Below w.heap.size w w' :=
  (all_any w g s hb).mono fun e w' ⟨v, he, hown, hbl⟩ => by
    rw [hl] at hown
    obtain ⟨A, cap, rfl, hrow⟩ := row_of hown
    exact ⟨A, cap, he, hrow, hbl⟩
theorem rcorners_v {b : Nat} {W H V : Int} {bl : Nat → Bool} {l : List Nat} (hl : crs W H bl (W * H).toNat = l) (w : World) (g : RefAt w b W H V bl) (hb : b < w.heap.size) :
    Calls Tryd.prog 34 #[.pointer (some ⟨b, 0, none⟩)] w fun e w' => ∃ A cap, e = .returned (.slice A l.length cap) ∧ OldRow w' A l.length (fun i => (l.getD i 0 : Nat)) ∧ Below w.heap.size w w' :=
  (rcorners_any w g hb).mono fun e w' ⟨v, he, hown, hbl⟩ => by
    rw [hl] at hown
    obtain ⟨A, cap, rfl, hrow⟩ := row_of hown
    exact ⟨A, cap, he, hrow, hbl⟩

theorem four_row (w : World) : OldRow (w.alloc (.cells #[.int .i64 0, .int .i64 2, .int .i64 6, .int .i64 8] 3)) (some ⟨w.heap.size, 0, none⟩) 4 (fun i => (([0, 2, 6, 8] : List Nat).getD i 0 : Nat)) := fun i hi => by
  refine ⟨w.heap.size, 0, rfl, by simp, ?_⟩
  rw [Nat.zero_add]
  have hk : i = 0 ∨ i = 1 ∨ i = 2 ∨ i = 3 := by omega
  rcases hk with rfl | rfl | rfl | rfl <;> exact World.cell?_alloc_at #[.int .i64 0, .int .i64 2, .int .i64 6, .int .i64 8] 3 w.heap.size _ rfl

set_option maxHeartbeats 1000000 in
set_option maxRecDepth 1000000 in
theorem cturns_any (w : World) (s : StepsAt w) : Calls Tryd.prog 29 #[] w fun e w' => e = .returned (.bool true) ∧ Below w.heap.size w w' := by
  have hs3 : sideB 3 = true := by decide
  have hG := gridAt_new 3 3 w hs3 hs3
  have hF : Free (w.alloc (.cells (gridC 3 3) 90)) w.heap.size := free_alloc w _ _ _ (Nat.le_refl _)
  have hb : Below w.heap.size w (w.alloc (.cells (gridC 3 3) 90)) := (Below.refl _ _).alloc (Nat.le_refl _) _
  have hsz : (w.alloc (.cells (gridC 3 3) 90)).heap.size = w.heap.size + 1 := by simp
  have hset := set_new 4 true _ hG hF (by decide) rfl (by decide) (by decide)
  go_enter Tryd.func29, Tryd.ntmps29
  go_wp2_with (go_at_call 22; refine (new_ok _ _ _ hs3 hs3).mono ?_; rintro e w' ⟨rfl, rfl⟩)
  refine hset.mono ?_
  rintro e w1 ⟨rfl, T1, G1, F1⟩
  have B1 : Below w.heap.size w w1 := T1.below hb (Nat.le_refl _)
  have s1 : StepsAt w1 := s.below B1 s.pos'
  have z1 : w.heap.size < w1.heap.size := by rw [T1.size, hsz]; omega
  clear hG hF hb hsz hset F1 T1
  have hI := is_v (r := true) (by decide) _ G1 s1 (c := 0) (by decide)
  go_wp2_with fail
  refine hI.mono ?_
  rintro e w2 ⟨rfl, m, rfl⟩
  have hA := all_v (l := [0, 2, 6, 8]) (by decide) _ (G1.drewN m) (s1.drewN m) z1
  clear hI
  go_wp2_with (go_at_call 13; refine (same_nil _).mono ?_; rintro e w' ⟨rfl, rfl⟩)
  refine hA.mono ?_
  rintro e w3 ⟨A, cap, rfl, hrow, hb3⟩
  have B3 : Below w.heap.size w w3 := (below_drewN B1 m).trans (hb3.mono (Nat.le_of_lt z1))
  have hr2 := hrow.below ((Below.refl w3.heap.size w3).alloc (Nat.le_refl _) (.cells #[.int .i64 0, .int .i64 2, .int .i64 6, .int .i64 8] 3))
  have hS := sameRows (n := 4) (ca := cap) (cb := 4) (by decide) hr2 (four_row w3)
  clear hA hrow hr2 G1 s1 hb3
  go_wp2_with fail
  refine hS.mono ?_
  rintro e w4 ⟨rfl, m4, rfl⟩
  clear hS
  go_wp2
  go_ret
  exact ⟨rfl, below_drewN (B3.alloc B3.size _) m4⟩

theorem boxedC (w : World) (W H : Int) (A : Option Addr) (n cap : Nat) {wa : World}
    (hb : Below (w.alloc (.cells #[.int .i64 W, .int .i64 H, .slice A n cap] 24)).heap.size (w.alloc (.cells #[.int .i64 W, .int .i64 H, .slice A n cap] 24)) wa) :
    wa.cell? ⟨w.heap.size, 0, none⟩ = some (.int .i64 W) ∧ wa.cell? ⟨w.heap.size, 1, none⟩ = some (.int .i64 H) ∧ wa.cell? ⟨w.heap.size, 2, none⟩ = some (.slice A n cap) := by
  have h : ∀ o, wa.cell? ⟨w.heap.size, o, none⟩ = #[Value.int .i64 W, .int .i64 H, .slice A n cap][o]? := fun o => by
    rw [hb.cell (p := ⟨w.heap.size, o, none⟩) (by simp), World.cell?_alloc_new]
  exact ⟨h 0, h 1, h 2⟩

set_option maxHeartbeats 1000000 in
set_option maxRecDepth 1000000 in
theorem cornerSays_none (W H : Int) (A : Option Addr) (n cap : Nat) (c : Int) (w : World) (s : StepsAt w) (h0 : 0 < w.heap.size)
    (hL : ∀ w' : World, Calls Tryd.prog 10 #[.agg #[.int .i64 W, .int .i64 H, .slice A n cap]] w' fun e w'' => e = .returned (.tuple #[.pointer none, .pointer none, .bool false]) ∧ Below w'.heap.size w' w'') :
    Calls Tryd.prog 5 #[.agg #[.int .i64 W, .int .i64 H, .slice A n cap], .int .i64 c] w fun e w' => e = .returned (.bool true) ∧ Below w.heap.size w w' := by
  have hb : Below w.heap.size w (w.alloc (.cells #[.int .i64 W, .int .i64 H, .slice A n cap] 24)) := (Below.refl _ _).alloc (Nat.le_refl _) _
  have hs := s.below hb h0
  go_enter Tryd.func5, Tryd.ntmps5
  go_wp2_with (first | (go_at_call 29; refine (cturns_any _ hs).mono ?_; rintro e w1 ⟨rfl, hb1⟩; obtain ⟨p0, p1, p2⟩ := boxedC w W H A n cap hb1) | (go_at_call 10; refine (hL _).mono ?_; rintro e w2 ⟨rfl, hb2⟩))
  go_ret
  exact ⟨rfl, (hb.trans (hb1.mono (by simp))).trans (hb2.mono (hb.trans (hb1.mono (by simp))).size)⟩

set_option maxHeartbeats 2000000 in
set_option maxRecDepth 1000000 in
theorem cornerSays_ok (W H : Int) (A : Option Addr) (n cap : Nat) (xs : Nat → Int) (c : Int) (w : World) (s : StepsAt w) (h0 : 0 < w.heap.size) (hn : ¬ 300 < (n : Int)) (hW : sideB W = true) (hH : sideB H = true) (hx : OldRow w A n xs) :
    Calls Tryd.prog 5 #[.agg #[.int .i64 W, .int .i64 H, .slice A n cap], .int .i64 c] w fun e w' => e = .returned (.bool true) ∧ Below w.heap.size w w' := by
  have hb : Below w.heap.size w (w.alloc (.cells #[.int .i64 W, .int .i64 H, .slice A n cap] 24)) := (Below.refl _ _).alloc (Nat.le_refl _) _
  have hs := s.below hb h0
  go_enter Tryd.func5, Tryd.ntmps5
  go_wp2_with (go_at_call 29; refine (cturns_any _ hs).mono ?_; rintro e w1 ⟨rfl, hb1⟩; obtain ⟨p0, p1, p2⟩ := boxedC w W H A n cap hb1)
  have B1 : Below w.heap.size w w1 := hb.trans (hb1.mono (by simp))
  have hx1 : OldRow w1 A n xs := hx.below B1
  have s1 := s.below B1 h0
  have hLd := laid_ok W H A n cap xs w1 (by omega) hW hH hx1
  refine hLd.mono ?_
  rintro e w2 ⟨rfl, hb2, hsz2, V, bl, hV, hB⟩
  have B2 : Below w.heap.size w w2 := B1.trans (hb2.mono B1.size)
  have s2 := s1.below hb2 s1.pos'
  have gl : w1.heap.size + 1 < w2.heap.size := by omega
  have ml : w1.heap.size + 1 + 1 < w2.heap.size := by omega
  have hga := hB.ga
  have hra := hB.ra
  obtain ⟨l, hl⟩ : ∃ l, crs W H bl (W * H).toNat = l := ⟨_, rfl⟩
  have hll : l.length ≤ 1000000 := by
    have h1 := crs_len W H bl (W * H).toNat
    have h2 := (wh_bd hga.w1 hga.w2 hga.h1 hga.h2).2
    rw [hl] at h1
    omega
  have HL : Hid (crs W H bl (W * H).toNat = l) := hl
  clear hl hLd hB hx1 hx hsz2 hb2 p0 p1 p2 hb hs s1 hb1
  generalize w1.heap.size + 1 + 1 = mb at *
  generalize w1.heap.size + 1 = gb at *
  cases hin : inB W H c with
  | false =>
    go_wp2_with (first | (go_at_call 30; refine (is_out _ _ hga hin).mono ?_; rintro e w' ⟨rfl, m1, rfl⟩) | (go_at_call 20; refine (ris_out _ _ (hra.drewN _) hin).mono ?_; rintro e w' ⟨rfl, m2, rfl⟩) | (go_at_call 13; refine (same_err _ _ (by decide)).mono ?_; rintro e w' ⟨rfl, rfl⟩))
    refine (all_v HL.out _ (hga.drewN _) (s2.drewN _) gl).mono ?_
    rintro e w3 ⟨A1, cap1, rfl, hrow1, hb3⟩
    have hra3 := (hra.drewN (m1 + m2)).below hb3 ml
    have ml3 := Nat.lt_of_lt_of_le ml hb3.size
    have B3 := (below_drewN B2 (m1 + m2)).trans (hb3.mono B2.size)
    clear hb3
    go_wp2_with fail
    refine (rcorners_v HL.out _ hra3 ml3).mono ?_
    rintro e w4 ⟨A2, cap2, rfl, hrow2, hb4⟩
    have hrow1' := hrow1.below hb4
    have B4 := B3.trans (hb4.mono B3.size)
    clear hb4 hra3 ml3 hrow1
    go_wp2_with fail
    refine (sameRows hll hrow1' hrow2).mono ?_
    rintro e w5 ⟨rfl, m5, rfl⟩
    go_wp2
    go_ret
    exact ⟨rfl, below_drewN B4 m5⟩
  | true =>
    cases hC : cornB W H bl c
    all_goals
      go_wp2_with (first | (go_at_call 30; refine (is_v hC _ hga s2 hin).mono ?_; rintro e w' ⟨rfl, m1, rfl⟩) | (go_at_call 20; refine (ris_in _ _ (hra.drewN _) hin).mono ?_; rintro e w' ⟨rfl, m2, rfl⟩) | (go_at_call 13; refine (same_nil _).mono ?_; rintro e w' ⟨rfl, rfl⟩) | (go_at_call 31; refine (rcorner_v hC _ (hra.drewN _) hin).mono ?_; rintro e w' ⟨rfl, m3, rfl⟩))
      refine (all_v HL.out _ (hga.drewN _) (s2.drewN _) gl).mono ?_
      rintro e w3 ⟨A1, cap1, rfl, hrow1, hb3⟩
      have hra3 := (hra.drewN (m1 + m2 + m3)).below hb3 ml
      have ml3 := Nat.lt_of_lt_of_le ml hb3.size
      have B3 := (below_drewN B2 (m1 + m2 + m3)).trans (hb3.mono B2.size)
      clear hb3
      go_wp2_with fail
      refine (rcorners_v HL.out _ hra3 ml3).mono ?_
      rintro e w4 ⟨A2, cap2, rfl, hrow2, hb4⟩
      have hrow1' := hrow1.below hb4
      have B4 := B3.trans (hb4.mono B3.size)
      clear hb4 hra3 ml3 hrow1
      go_wp2_with fail
      refine (sameRows hll hrow1' hrow2).mono ?_
      rintro e w5 ⟨rfl, m5, rfl⟩
      go_wp2
      go_ret
      exact ⟨rfl, below_drewN B4 m5⟩
end Go.Proofs.YtfhicijgpdpfpaaDoor
/-
  The reference's 'Direct'.
-/
namespace Go.Proofs.YtfhicijgpdpfpaaDoor
open Go.RowKit

theorem range_new (w : World) (l : List Value) (t : TypeId) : (w.alloc (.cells l.toArray t)).rangeAt w.heap.size 0 l := fun j v hj => by
  rw [Nat.zero_add, World.cell?_alloc_new, List.getElem?_toArray]
  exact hj
theorem range_below {w w' : World} {b o : Nat} {l : List Value} (h : w.rangeAt b o l) (hb : Below w.heap.size w w') : w'.rangeAt b o l := fun j v hj => by
  have := h j v hj
  exact (hb.cell (World.block_lt_of_cell? w _ this)).trans this
theorem ray_new (a : Nat) (F : Int → Option (Int × Int)) (w : World) : RayAt (w.alloc (.cells (rayL a F).toArray 112)) w.heap.size a F := rayAt_range (range_new w _ 112)

/-- two rays in memory -/
def TwoR (w : World) (X Y : Nat) (RA RB : List Value) : Prop := w.rangeAt X 0 RA ∧ w.rangeAt Y 0 RB
theorem TwoR.below {w w' : World} {X Y : Nat} {RA RB : List Value} (h : TwoR w X Y RA RB) (hb : Below w.heap.size w w') : TwoR w' X Y RA RB := ⟨range_below h.1 hb, range_below h.2 hb⟩

set_option maxHeartbeats 2000000 in
set_option maxRecDepth 1000000 in
theorem rdirect' {M : Nat} {W H V : Int} {bl : Nat → Bool} {z0 : List Value} (a b : Nat) (w : World) (g : RefAt w M W H V bl) (hml : M < w.heap.size) (ha : inB W H a = true) (hb : inB W H b = true)
    (hal : ∀ w : World, (Instr.alloc 112 true (.tuple #[])).run Tryd.prog w = .ok (.pointer (some ⟨w.heap.size, 0, none⟩)) (w.alloc (.cells z0.toArray 112))) (l0 : z0.length = 769) :
    Calls Tryd.prog 40 #[.pointer (some ⟨M, 0, none⟩), .int .i64 a, .int .i64 b] w fun e w' => ∃ r, e = .returned (.bool r) ∧ (r = true ↔ (∃ z, On W H bl a b z) ∧ ¬ ∃ c, On W H bl a b c ∧ cornB W H bl c = true ∧ c ≠ a ∧ c ≠ b) ∧ Below w.heap.size w w' := by
  have gw1 := g.w1
  have hwh := wh_bd g.w1 g.w2 g.h1 g.h2
  have qb : 0 ≤ (b : Int) ∧ (b : Int) < W * H := of_decide_eq_true hb
  have q6 : b < 256 := by omega
  have hsm := oct_small g.w1 g.w2 g.h1 g.h2 ha hb
  have hf1 := from_any a w g hml ha
  go_enter Tryd.func40, Tryd.ntmps40
  go_wp2_with fail
  refine hf1.mono ?_
  rintro e w1 ⟨F, rfl, BF, hb1⟩
  have th := new_there w1 z0 112 769 l0
  have oR := rayL_one (a : Int) F
  have lR := rayL_len (a : Int) F
  have hst := stored lR th oR
  have rA := World.rangeAt_setCells_same (w1.alloc (.cells z0.toArray 112)) w1.heap.size 0 (rayL (a : Int) F) (by rw [lR]; exact th)
  have B2 : Below w.heap.size w ((w1.alloc (.cells z0.toArray 112)).setCells w1.heap.size 0 (rayL (a : Int) F)) := below_setCells _ hb1.size _ _ (hb1.alloc hb1.size _)
  have hnA := ray_new a F
  clear hf1 oR th hb1
  generalize rayL (a : Int) F = RA at *
  go_wp2_with (refine wpList_alloc_by hal rfl rfl ?_)
  clear hst
  generalize (w1.alloc (.cells z0.toArray 112)).setCells w1.heap.size 0 RA = w2 at *
  generalize w1.heap.size = X at *
  have hf2 := from_any b w2 (g.below B2 hml) (Nat.lt_of_lt_of_le hml B2.size) hb
  refine hf2.mono ?_
  rintro e w3 ⟨G, rfl, BG, hb3⟩
  have rA := range_below rA hb3
  have B3 := B2.trans (hb3.mono B2.size)
  have th := new_there w3 z0 112 769 l0
  have oR := rayL_one (b : Int) G
  have lR2 := rayL_len (b : Int) G
  have hst := stored lR2 th oR
  have rB := World.rangeAt_setCells_same (w3.alloc (.cells z0.toArray 112)) w3.heap.size 0 (rayL (b : Int) G) (by rw [lR2]; exact th)
  have bb : Below w3.heap.size w3 ((w3.alloc (.cells z0.toArray 112)).setCells w3.heap.size 0 (rayL (b : Int) G)) := below_setCells _ (Nat.le_refl _) _ _ ((Below.refl _ _).alloc (Nat.le_refl _) _)
  have rA := range_below rA bb
  have B4 := B3.trans (bb.mono B3.size)
  have hnB := ray_new b G
  clear hf2 oR th hb3 B2 B3 bb
  generalize rayL (b : Int) G = RB at *
  go_wp2_with (refine wpList_alloc_by hal rfl rfl ?_)
  clear hst hal l0
  generalize (w3.alloc (.cells z0.toArray 112)).setCells w3.heap.size 0 RB = w4 at *
  generalize w3.heap.size = Y at *
  obtain ⟨l, hl⟩ : ∃ l, crs W H bl (W * H).toNat = l := ⟨_, rfl⟩
  have hll : l.length ≤ 256 := by
    rw [← hl]
    have h1 := crs_len W H bl (W * H).toNat
    omega
  have hlz : ∀ j, j < l.length → l.getD j 0 < 256 := fun j hj => by
    have hm : l.getD j 0 ∈ l := by rw [getD_at _ _ hj]; exact List.getElem_mem hj
    generalize l.getD j 0 = z at *
    rw [← hl] at hm
    have := (crs_mem.1 hm).1
    omega
  have HMem : Hid (∀ c : Int, (∃ j, j < l.length ∧ ((l.getD j 0 : Nat) : Int) = c) ↔ inB W H c = true ∧ cornB W H bl c = true) := fun c => by
    constructor
    · rintro ⟨j, hj, rfl⟩
      have hm : l.getD j 0 ∈ l := by rw [getD_at _ _ hj]; exact List.getElem_mem hj
      generalize l.getD j 0 = z at *
      rw [← hl] at hm
      obtain ⟨h1, h2⟩ := crs_mem.1 hm
      exact ⟨decide_eq_true ⟨by omega, by omega⟩, h2⟩
    · rintro ⟨h1, h2⟩
      have hq : 0 ≤ c ∧ c < W * H := of_decide_eq_true h1
      have hm : c.toNat ∈ crs W H bl (W * H).toNat := crs_mem.2 ⟨by omega, by rw [Int.toNat_of_nonneg hq.1]; exact h2⟩
      rw [hl] at hm
      obtain ⟨j, hj, h⟩ := List.getElem_of_mem hm
      exact ⟨j, hj, by rw [getD_at _ _ hj, h]; omega⟩
  have bD : Below w4.heap.size w4 w4.drew := ⟨rfl, rfl, rfl, Nat.le_refl _, fun _ _ => rfl⟩
  have CC : TwoR w4.drew X Y RA RB := ⟨range_below rA bD, range_below rB bD⟩
  have BD := B4.trans (bD.mono B4.size)
  have gD := g.below BD hml
  have mD := Nat.lt_of_lt_of_le hml BD.size
  have hu := Tryd.underlying112
  have hiA : (Tryd.prog.info? 112).map (·.size) = some RA.length := by rw [info112, lR]
  have hiB : (Tryd.prog.info? 112).map (·.size) = some RB.length := by rw [info112, lR2]
  have hoc : ∀ w' : World, RefAt w' M W H V bl → Calls Tryd.prog 71 #[.pointer (some ⟨M, 0, none⟩), .int .i64 a, .int .i64 b] w' fun e w'' => e = .returned (.agg #[.int .i64 (octS W a b), .int .i64 (octD W a b)]) ∧ Below w'.heap.size w' w'' := fun w' g' => roct_any (a : Int) b w' g' ha hb
  have hco := rcorners_v hl w4.drew gD mD
  have hdi := fun (w5 : World) (A : Option Addr) (cap : Nat) (g5 : RefAt w5 M W H V bl) (m5 : M < w5.heap.size) (hrow : OldRow w5 A l.length (fun i => (l.getD i 0 : Nat))) => direct' (cap := cap) (A := A) w5 g5 m5 hnA hnB hoc (lab_ok BF) (lab_ok BG) q6 rfl hll hlz hrow
  clear rA rB bD B4
  refine wp_region_held_drew (S := fun w' => w'.rangeAt X 0 RA ∧ w'.rangeAt Y 0 RB) (by kernel_rfl) CC (fun hHeld => ?_)
  refine wpAnyH_take (i := 0) (v := .pointer (some ⟨M, 0, none⟩)) rfl (by kernel_rfl) (by kernel_rfl) (by kernel_rfl) (fun _ _ _ h => h) (Or.inl ⟨by rfl, fun w' _ => by go_simp⟩) hHeld ?_
  simp only [Act.put, List.setIfInBounds_toArray]
  refine wpAnyH_take (i := 1) (v := .agg RA.toArray) rfl (by kernel_rfl) (by kernel_rfl) (by kernel_rfl) (fun _ _ _ h => h) (yieldsIf_load_mid (by rfl) 112 (.tmp 7) rfl X 0 rfl RA _ (fun _ h => h.1) hu rfl hiA) hHeld ?_
  simp only [Act.put]
  refine wpAnyH_take (i := 2) (v := .agg RB.toArray) rfl (by kernel_rfl) (by kernel_rfl) (by kernel_rfl) (fun _ _ _ h => h) (yieldsIf_load_mid (by rfl) 112 (.tmp 8) rfl Y 0 rfl RB _ (fun _ h => h.2) hu rfl hiB) hHeld ?_
  simp only [Act.put]
  refine wpAnyH_take (i := 3) (v := .pointer (some ⟨M, 0, none⟩)) rfl (by kernel_rfl) (by kernel_rfl) (by kernel_rfl) (fun _ _ _ h => h) (Or.inl ⟨by rfl, fun w' _ => by go_simp⟩) hHeld ?_
  simp only [Act.put]
  refine wpAnyH_ready (rs := [4]) (by kernel_rfl) (by simp) ?_
  refine AllReadyH.cons rfl (fun K hK => ?_) AllReadyH.nil
  go_simp
  go_at_call 34
  refine hco.mono ?_
  rintro e w5 ⟨A5, cap5, rfl, hrow5, hb5⟩
  have CC := CC.below hb5
  have BD := BD.trans (hb5.mono BD.size)
  have gD := gD.below hb5 mD
  have mD := Nat.lt_of_lt_of_le mD hb5.size
  go_wp2_with fail
  refine hK.out _ _ CC (fun hHeld2 => ?_)
  clear hHeld hK K
  refine wpAnyH_ready (rs := [5]) (by kernel_rfl) (by simp) ?_
  refine AllReadyH.cons rfl (fun K hK => ?_) AllReadyH.nil
  go_simp
  go_at_call 73
  refine (hdi _ _ _ gD mD hrow5).mono ?_
  rintro e w6 ⟨r6, rfl, hr6, hb6⟩
  have CC := CC.below hb6
  have BD := BD.trans (hb6.mono BD.size)
  go_wp2_with fail
  refine hK.out _ _ CC (fun hHeld3 => ?_)
  clear hHeld2 hK K
  refine wpAnyH_ready (rs := [6]) (by kernel_rfl) (by simp) ?_
  refine AllReadyH.cons rfl (fun K hK => ?_) AllReadyH.nil
  go_simp
  refine hK.out _ _ CC (fun hHeld4 => ?_)
  refine wpAnyH_done (by kernel_rfl) ?_ _
  clear hK K
  go_wp2
  go_ret
  refine ⟨r6, rfl, hr6.trans ?_, BD⟩
  have hni := near_iff (b := b) gw1 (by omega) (by omega) BF
  rw [hni]
  refine and_congr_right fun _ => ?_
  have hon := on_iff (a := (a : Int)) (b := (b : Int)) gw1 (by omega) (by omega) BF BG
  constructor
  · rintro h ⟨c, c1, c2, c3, c4⟩
    have hcin := c1.1.in gw1 ha
    obtain ⟨j, hj, e⟩ := (HMem.out c).2 ⟨hcin, c2⟩
    have := h j hj (by omega) (by omega)
    rw [e] at this
    exact this ((hon c).1 c1)
  · intro h j hj h1 h2 h3
    obtain ⟨g1, g2⟩ := (HMem.out ((l.getD j 0 : Nat) : Int)).1 ⟨j, hj, rfl⟩
    exact h ⟨_, (hon _).2 h3, g2, by omega, by omega⟩

theorem rdirect_any {M : Nat} {W H V : Int} {bl : Nat → Bool} (a b : Nat) (w : World) (g : RefAt w M W H V bl) (hml : M < w.heap.size) (ha : inB W H a = true) (hb : inB W H b = true) :
    Calls Tryd.prog 40 #[.pointer (some ⟨M, 0, none⟩), .int .i64 a, .int .i64 b] w fun e w' => ∃ r, e = .returned (.bool r) ∧ (r = true ↔ (∃ z, On W H bl a b z) ∧ ¬ ∃ c, On W H bl a b c ∧ cornB W H bl c = true ∧ c ≠ a ∧ c ≠ b) ∧ Below w.heap.size w w' :=
  rdirect' a b w g hml ha hb run_alloc112 (zR_len 0)
end Go.Proofs.YtfhicijgpdpfpaaDoor
/-
  The walk of 'ReachSays'.
-/
namespace Go.Proofs.YtfhicijgpdpfpaaDoor
open Go.RowKit

theorem same_fault (n : Int) (w : World) (h : 0 ≤ n) :
    Calls Tryd.prog 13 #[errV n, .int .i64 n] w fun e w' => e = .returned (.bool true) ∧ w' = w := by
  by_cases q : n = 0
  · subst q; rw [errV_nil]; exact same_nil w
  · rw [errV_some q]; exact same_err n w (by omega)
theorem ints_inj {l l' : List Nat} (h : ints l = ints l') : l = l' := by
  unfold ints at h
  exact List.map_inj_right (fun x y e => by omega) |>.1 h

/-- the small grid: a way of three cells -/
theorem e04 : Edge 3 2 (fun _ => false) 0 3 4 := ⟨by decide, by decide, by decide, by decide⟩
theorem e45 : Edge 3 2 (fun _ => false) 4 2 5 := ⟨by decide, by decide, by decide, by decide⟩
theorem e54 : Edge 3 2 (fun _ => false) 5 6 4 := ⟨by decide, by decide, by decide, by decide⟩
theorem walk05 : Wk (Edge 3 2 (fun _ => false)) 0 5 1 1 := (wk_edge e04).step e45
theorem on05 : On 3 2 (fun _ => false) 0 5 5 := On.of_near (by decide) (by decide) (by decide) walk05
theorem on04 : On 3 2 (fun _ => false) 0 5 4 := On.of_walks (by decide) (by decide) (by decide) (wk_edge e04) (wk_edge e54) (by decide) (by decide)
theorem way05 : Chn (WSt 3 2 (fun _ => false) 0 5) 0 (ints [4, 5]) 5 := by
  refine ⟨⟨3, ⟨e04, goodB_iff.1 (by decide), on04⟩, fun h => absurd h (by decide)⟩, ⟨2, ⟨e45, goodB_iff.1 (by decide), on05⟩, fun _ j q hj hc => ?_⟩, rfl⟩
  have h1 := (good_dir hc.1.1 hc.2.1).1 hj
  have h2 := h1.2
  rcases h2 with ⟨_, h⟩ | ⟨_, h⟩ <;> exact absurd h (by decide)

theorem three_row (w : World) : OldRow (w.alloc (.cells #[.int .i64 0, .int .i64 4, .int .i64 5] 3)) (some ⟨w.heap.size, 0, none⟩) 3 (fun i => (([0, 4, 5] : List Nat).getD i 0 : Nat)) := fun i hi => by
  refine ⟨w.heap.size, 0, rfl, by simp, ?_⟩
  rw [Nat.zero_add]
  have hk : i = 0 ∨ i = 1 ∨ i = 2 := by omega
  rcases hk with rfl | rfl | rfl <;> exact World.cell?_alloc_at #[.int .i64 0, .int .i64 4, .int .i64 5] 3 w.heap.size _ rfl

set_option maxHeartbeats 1000000 in
set_option maxRecDepth 1000000 in
theorem nears_any (w : World) (s : StepsAt w) (d : DiagAt w) : Calls Tryd.prog 35 #[] w fun e w' => e = .returned (.bool true) ∧ Below w.heap.size w w' := by
  have hs3 : sideB 3 = true := by decide
  have hs2 : sideB 2 = true := by decide
  have hG := gridAt_new 3 2 w hs3 hs2
  have hb : Below w.heap.size w (w.alloc (.cells (gridC 3 2) 90)) := (Below.refl _ _).alloc (Nat.le_refl _) _
  have s1 := s.below hb s.pos
  have d1 := d.below hb
  have hl : w.heap.size < (w.alloc (.cells (gridC 3 2) 90)).heap.size := by simp
  have hff : ff2 3 2 (fun _ => false) 0 5 = 0 := by decide
  have h1 := near_ok 0 5 _ hG s1 d1 hl hff
  go_enter Tryd.func35, Tryd.ntmps35
  go_wp2_with (go_at_call 22; refine (new_ok _ _ _ hs3 hs2).mono ?_; rintro e w' ⟨rfl, rfl⟩)
  refine h1.mono ?_
  rintro e w1 ⟨r, rfl, hr, hb1⟩
  obtain rfl : r = true := hr.2 ⟨5, on05⟩
  have G1 := hG.below hb1 hl
  have s1 := s1.below hb1 s1.pos
  have d1 := d1.below hb1
  have hl1 := Nat.lt_of_lt_of_le hl hb1.size
  have B1 := hb.trans (hb1.mono hb.size)
  have h2 := rway_ok 0 5 w1 G1 s1 d1 hl1 hff ⟨5, on05⟩
  clear h1 hG hb hb1 hl hr
  go_wp2_with fail
  refine h2.mono ?_
  rintro e w2 ⟨v, l, rfl, hown, hch, _, hb2⟩
  obtain rfl : l = [4, 5] := ints_inj (way_one hch way05)
  obtain ⟨A, cap, rfl, hrow⟩ := row_of hown
  have B2 := B1.trans (hb2.mono B1.size)
  have hr2 := hrow.below ((Below.refl w2.heap.size w2).alloc (Nat.le_refl _) (.cells #[.int .i64 0, .int .i64 4, .int .i64 5] 3))
  have hS := sameRows (n := 3) (ca := cap) (cb := 3) (by decide) hr2 (three_row w2)
  clear h2 G1 s1 d1 hb2 hown hch hrow hr2
  go_wp2_with (go_at_call 13; refine (same_nil _).mono ?_; rintro e w' ⟨rfl, hw'⟩; have hw' := hw'.symm; subst hw')
  refine hS.mono ?_
  rintro e w3 ⟨rfl, m3, rfl⟩
  clear hS
  go_wp2
  go_ret
  exact ⟨rfl, below_drewN (B2.alloc B2.size _) m3⟩

/-- both grids alike, and both tables -/
structure PairR (w : World) (g m : Nat) (W H V : Int) (bl : Nat → Bool) : Prop where
  pr : Pair w g m W H V bl
  dg : DiagAt w
theorem PairR.below {w w' : World} {g m : Nat} {W H V : Int} {bl : Nat → Bool} (h : PairR w g m W H V bl) {B : Nat} (hb : Below B w w') (hB : B = w.heap.size := by rfl) : PairR w' g m W H V bl := by
  subst hB
  exact ⟨h.pr.below hb, h.dg.below hb⟩

set_option maxHeartbeats 1000000 in
set_option maxRecDepth 1000000 in
theorem reachSays_none (W H : Int) (A : Option Addr) (n cap : Nat) (a b : Int) (w : World) (s : StepsAt w) (d : DiagAt w)
    (hL : ∀ w' : World, Calls Tryd.prog 10 #[.agg #[.int .i64 W, .int .i64 H, .slice A n cap]] w' fun e w'' => e = .returned (.tuple #[.pointer none, .pointer none, .bool false]) ∧ Below w'.heap.size w' w'') :
    Calls Tryd.prog 6 #[.agg #[.int .i64 W, .int .i64 H, .slice A n cap], .int .i64 a, .int .i64 b] w fun e w' => e = .returned (.bool true) ∧ Below w.heap.size w w' := by
  have hb : Below w.heap.size w (w.alloc (.cells #[.int .i64 W, .int .i64 H, .slice A n cap] 24)) := (Below.refl _ _).alloc (Nat.le_refl _) _
  have hs := s.below hb s.pos
  have hd := d.below hb
  go_enter Tryd.func6, Tryd.ntmps6
  go_wp2_with (first | (go_at_call 35; refine (nears_any _ hs hd).mono ?_; rintro e w1 ⟨rfl, hb1⟩; obtain ⟨p0, p1, p2⟩ := boxedC w W H A n cap hb1) | (go_at_call 10; refine (hL _).mono ?_; rintro e w2 ⟨rfl, hb2⟩))
  go_ret
  exact ⟨rfl, (hb.trans (hb1.mono (by simp))).trans (hb2.mono (hb.trans (hb1.mono (by simp))).size)⟩
theorem ffv_geR (W H : Int) (bl : Nat → Bool) (c : Int) : 0 ≤ ffv W H bl c := by
  unfold ffv; split
  · split <;> omega
  · omega
end Go.Proofs.YtfhicijgpdpfpaaDoor
/-
  The walk of 'ReachSays' where the plot can be laid.
-/
namespace Go.Proofs.YtfhicijgpdpfpaaDoor
open Go.RowKit

theorem bool_same {r1 r2 : Bool} {P : Prop} (h1 : r1 = true ↔ P) (h2 : r2 = true ↔ P) : r2 = r1 := by
  cases r1 <;> cases r2 <;> simp_all

set_option maxHeartbeats 4000000 in
set_option maxRecDepth 1000000 in
theorem reachSays_ok (W H : Int) (A : Option Addr) (n cap : Nat) (xs : Nat → Int) (a b : Int) (w : World) (s : StepsAt w) (d : DiagAt w) (hn : ¬ 300 < (n : Int)) (hW : sideB W = true) (hH : sideB H = true) (hx : OldRow w A n xs) :
    Calls Tryd.prog 6 #[.agg #[.int .i64 W, .int .i64 H, .slice A n cap], .int .i64 a, .int .i64 b] w fun e w' => e = .returned (.bool true) ∧ Below w.heap.size w w' := by
  have hb : Below w.heap.size w (w.alloc (.cells #[.int .i64 W, .int .i64 H, .slice A n cap] 24)) := (Below.refl _ _).alloc (Nat.le_refl _) _
  have hs := s.below hb s.pos
  have hd := d.below hb
  go_enter Tryd.func6, Tryd.ntmps6
  go_wp2_with (go_at_call 35; refine (nears_any _ hs hd).mono ?_; rintro e w1 ⟨rfl, hb1⟩; obtain ⟨p0, p1, p2⟩ := boxedC w W H A n cap hb1)
  have B1 : Below w.heap.size w w1 := hb.trans (hb1.mono (by simp))
  have s1 := s.below B1 s.pos
  have d1 := d.below B1
  have hLd := laid_ok W H A n cap xs w1 (by omega) hW hH (hx.below B1)
  refine hLd.mono ?_
  rintro e w2 ⟨rfl, hb2, hsz2, V, bl, hV, hB⟩
  have B2 : Below w.heap.size w w2 := B1.trans (hb2.mono B1.size)
  have P2 : PairR w2 (w1.heap.size + 1) (w1.heap.size + 1 + 1) W H V bl := ⟨⟨hB.ga, hB.ra, by omega, by omega, s1.below hb2 s1.pos, Nat.lt_of_lt_of_le s1.pos hb2.size⟩, d1.below hb2⟩
  clear hLd hB hsz2 hb2 p0 p1 p2 B1 hx s1 d1 hb hb1 hs hd
  generalize w1.heap.size + 1 + 1 = M at *
  generalize w1.heap.size + 1 = G at *
  have hff : ∀ c w', PairR w' G M W H V bl → Calls Tryd.prog 15 #[.pointer (some ⟨M, 0, none⟩), .int .i64 c] w' fun e w'' => e = .returned (.int .i64 (ffv W H bl c)) ∧ Below w'.heap.size w' w'' := fun c w' P => ff_any c w' P.pr.ra
  have hfa := ffv_geR W H bl a
  have hfb := ffv_geR W H bl b
  by_cases hf : ff2 W H bl a b = 0
  · have qa : ffv W H bl a = 0 := by
      unfold ff2 at hf
      split at hf
      · assumption
      · rename_i h; exact absurd hf h
    have qb : ffv W H bl b = 0 := by unfold ff2 at hf; rw [if_pos qa] at hf; exact hf
    obtain ⟨⟨ha, hfa'⟩, ⟨hbi, hfb'⟩⟩ := ff2_ok hf
    have hqa : 0 ≤ a ∧ a < W * H := of_decide_eq_true ha
    have hqb : 0 ≤ b ∧ b < W * H := of_decide_eq_true hbi
    obtain ⟨an, rfl⟩ : ∃ an : Nat, a = an := ⟨a.toNat, by omega⟩
    obtain ⟨bn, rfl⟩ : ∃ bn : Nat, b = bn := ⟨b.toNat, by omega⟩
    have h1 := near_ok an bn w2 P2.pr.ga P2.pr.st P2.dg P2.pr.gl hf
    go_wp2_with fail
    refine h1.mono ?_
    rintro e w3 ⟨r1, rfl, hr1', hb3⟩
    have hr1 : Hid (r1 = true ↔ ∃ z, On W H bl an bn z) := hr1'
    clear hr1'
    have P3 := P2.below hb3
    have B3 := B2.trans (hb3.mono B2.size)
    have h2 := direct_ok an bn w3 P3.pr.ga P3.pr.st P3.dg P3.pr.gl hf
    clear h1 P2 B2 hb3
    go_wp2_with fail
    refine h2.mono ?_
    rintro e w4 ⟨r2, rfl, hr2', hb4⟩
    have hr2 : Hid (r2 = true ↔ (∃ z, On W H bl an bn z) ∧ ¬ ∃ c, On W H bl an bn c ∧ cornB W H bl c = true ∧ c ≠ an ∧ c ≠ bn) := hr2'
    clear hr2'
    have P4 := P3.below hb4
    have B4 := B3.trans (hb4.mono B3.size)
    clear h2 P3 B3 hb4
    by_cases hY : ∃ z, On W H bl an bn z
    · obtain rfl : r1 = true := hr1.out.2 hY
      have HYY : Hid (∃ z, On W H bl an bn z) := hY
      have h3 := rway_ok an bn w4 P4.pr.ga P4.pr.st P4.dg P4.pr.gl hf hY
      go_wp2_with fail
      refine h3.mono ?_
      rintro e w5 ⟨v, l, rfl, hown, hch, hl64, hb5⟩
      obtain ⟨A5, cap5, rfl, hrow⟩ := row_of hown
      have P5 := P4.below hb5
      have B5 := B4.trans (hb5.mono B4.size)
      have g1 := hff an w5 P5
      rw [qa] at g1
      clear h3 P4 B4 hb5 hown
      go_wp2_with fail
      refine g1.mono ?_
      rintro e w6 ⟨rfl, hb6⟩
      have P6 := P5.below hb6
      have B6 := B5.trans (hb6.mono B5.size)
      have hrow := hrow.below hb6
      have g2 := hff bn w6 P6
      rw [qb] at g2
      clear g1 P5 B5 hb6
      go_wp2_with fail
      refine g2.mono ?_
      rintro e w7 ⟨rfl, hb7⟩
      have P7 := P6.below hb7
      have B7 := B6.trans (hb7.mono B6.size)
      have hrow := hrow.below hb7
      have h7 := rnear_any an bn w7 P7.pr.ra P7.pr.ml ha hbi
      clear g2 P6 B6 hb7 hff
      go_wp2_with fail
      refine h7.mono ?_
      rintro e w8 ⟨r8, rfl, hr8, hb8⟩
      obtain rfl : r8 = true := hr8.2 hY
      have P8 := P7.below hb8
      have B8 := B7.trans (hb8.mono B7.size)
      have hrow := hrow.below hb8
      have h8 := rdirect_any an bn w8 P8.pr.ra P8.pr.ml ha hbi
      clear h7 P7 B7 hb8 hr8
      go_wp2_with fail
      refine h8.mono ?_
      rintro e w9 ⟨r9, rfl, hr9, hb9⟩
      obtain rfl : r9 = r2 := bool_same hr2.out hr9
      have P9 := P8.below hb9
      have B9 := B8.trans (hb9.mono B8.size)
      have hrow := hrow.below hb9
      have h9 := rrway_ok an bn w9 P9.pr.ra P9.pr.ml ha hbi hY
      clear h8 P8 B8 hb9 hr9 hr2 hr1
      have hle : (an :: l).length ≤ 1000000 := by simp; omega
      have HCH : Hid (Chn (WSt W H bl an bn) an (ints l) bn) := hch
      clear hch
      cases r9
      all_goals
        go_wp2_with fail
        refine h9.mono ?_
        rintro e w10 ⟨v10, l10, rfl, hown10, hch10, hb10⟩
        obtain rfl : l10 = l := ints_inj (way_one hch10 HCH.out)
        obtain ⟨A10, cap10, rfl, hrow10⟩ := row_of hown10
        have hrow := hrow.below hb10
        have B10 := B9.trans (hb10.mono B9.size)
        have hS := sameRows (ca := cap5) (cb := cap10) hle hrow hrow10
        clear h9 P9 B9 hb10 hown10 hch10 hrow hrow10
        go_wp2_with fail
        refine hS.mono ?_
        rintro e w11 ⟨rfl, m11, rfl⟩
        clear hS
        go_wp2
        go_ret
        exact ⟨rfl, below_drewN B10 m11⟩
    · obtain rfl : r1 = false := by
        cases r1 with
        | false => rfl
        | true => exact absurd (hr1.out.1 rfl) hY
      obtain rfl : r2 = false := by
        cases r2 with
        | false => rfl
        | true => exact absurd (hr2.out.1 rfl).1 hY
      have h3 := rway_none an bn w4 P4.pr.ga P4.pr.st P4.dg P4.pr.gl hf hY
      go_wp2_with fail
      refine h3.mono ?_
      rintro e w5 ⟨rfl, hb5⟩
      have P5 := P4.below hb5
      have B5 := B4.trans (hb5.mono B4.size)
      have g1 := hff an w5 P5
      rw [qa] at g1
      clear h3 P4 B4 hb5
      go_wp2_with fail
      refine g1.mono ?_
      rintro e w6 ⟨rfl, hb6⟩
      have P6 := P5.below hb6
      have B6 := B5.trans (hb6.mono B5.size)
      have g2 := hff bn w6 P6
      rw [qb] at g2
      clear g1 P5 B5 hb6
      go_wp2_with fail
      refine g2.mono ?_
      rintro e w7 ⟨rfl, hb7⟩
      have P7 := P6.below hb7
      have B7 := B6.trans (hb7.mono B6.size)
      have h7 := rnear_any an bn w7 P7.pr.ra P7.pr.ml ha hbi
      clear g2 P6 B6 hb7 hff
      go_wp2_with fail
      refine h7.mono ?_
      rintro e w8 ⟨r8, rfl, hr8, hb8⟩
      obtain rfl : r8 = false := by
        cases r8 with
        | false => rfl
        | true => exact absurd (hr8.1 rfl) hY
      have P8 := P7.below hb8
      have B8 := B7.trans (hb8.mono B7.size)
      have h8 := rdirect_any an bn w8 P8.pr.ra P8.pr.ml ha hbi
      clear h7 P7 B7 hb8 hr8
      go_wp2_with fail
      refine h8.mono ?_
      rintro e w9 ⟨r9, rfl, hr9, hb9⟩
      obtain rfl : r9 = false := by
        cases r9 with
        | false => rfl
        | true => exact absurd (hr9.1 rfl).1 hY
      have B9 := B8.trans (hb9.mono B8.size)
      clear h8 P8 B8 hb9 hr9 hr2 hr1
      go_wp2_with (go_at_call 13; refine (same_err 5 _ (by decide)).mono ?_; rintro e w' ⟨rfl, hw'⟩; have hw' := hw'.symm; subst hw')
      go_ret
      exact ⟨rfl, B9⟩
  · have h1 := near_err a b w2 P2.pr.ga P2.pr.gl hf
    have hev := errV_some hf
    rw [hev] at h1
    have hpos : 0 ≤ ff2 W H bl a b := by unfold ff2; split <;> assumption
    have hpos' : 0 < ff2 W H bl a b := by omega
    go_wp2_with fail
    refine h1.mono ?_
    rintro e w3 ⟨rfl, hb3⟩
    have P3 := P2.below hb3
    have B3 := B2.trans (hb3.mono B2.size)
    have h2 := direct_err a b w3 P3.pr.ga P3.pr.gl hf
    rw [hev] at h2
    clear h1 P2 B2 hb3
    go_wp2_with fail
    refine h2.mono ?_
    rintro e w4 ⟨rfl, hb4⟩
    have P4 := P3.below hb4
    have B4 := B3.trans (hb4.mono B3.size)
    have h3 := rway_err a b w4 P4.pr.ga P4.pr.gl hf
    rw [hev] at h3
    clear h2 P3 B3 hb4
    go_wp2_with fail
    refine h3.mono ?_
    rintro e w5 ⟨rfl, hb5⟩
    have P5 := P4.below hb5
    have B5 := B4.trans (hb5.mono B4.size)
    have g1 := hff a w5 P5
    have hsf := fun w => same_err (ff2 W H bl a b) w hpos'
    clear hev
    clear h3 P4 B4 hb5
    by_cases qa : ffv W H bl a = 0
    · have e2 : ff2 W H bl a b = ffv W H bl b := by unfold ff2; rw [if_pos qa]
      rw [qa] at g1
      go_wp2_with fail
      refine g1.mono ?_
      rintro e w6 ⟨rfl, hb6⟩
      have P6 := P5.below hb6
      have B6 := B5.trans (hb6.mono B5.size)
      have g2 := hff b w6 P6
      rw [e2] at hsf hpos'
      clear g1 P5 B5 hb6 hff hfa hfb hf hpos
      go_wp2_with fail
      refine g2.mono ?_
      rintro e w7 ⟨rfl, hb7⟩
      have B7 := B6.trans (hb7.mono B6.size)
      clear g2 P6 B6 hb7
      go_wp2_with (go_at_call 13; refine (hsf _).mono ?_; rintro e w' ⟨rfl, hw'⟩; have hw' := hw'.symm; subst hw')
      go_ret
      exact ⟨rfl, B7⟩
    · have e2 : ff2 W H bl a b = ffv W H bl a := by unfold ff2; rw [if_neg qa]
      rw [e2] at hsf hpos'
      clear hff hfa hfb hf hpos
      go_wp2_with fail
      refine g1.mono ?_
      rintro e w6 ⟨rfl, hb6⟩
      have B6 := B5.trans (hb6.mono B5.size)
      clear g1 P5 B5 hb6
      go_wp2_with (go_at_call 13; refine (hsf _).mono ?_; rintro e w' ⟨rfl, hw'⟩; have hw' := hw'.symm; subst hw')
      go_ret
      exact ⟨rfl, B6⟩
end Go.Proofs.YtfhicijgpdpfpaaDoor
