/-
  Texts laid together: TopCornerW, TopCornerOk, Steps, Frame.
-/
import Derived.Test.YtfhicijgpdpfpaaDoorP17
import Derived.Deep.RegionHeld3
import Derived.ProofKit
import Derived.LaidMore
import Derived.OpenShut
import Derived.Stop.Joined
import Derived.Lib.LaidTab
import Derived.Test.YtfhicijgpdpfpaaDoorTie
import Derived.Test.YtfhicijgpdpfpaaDoorCards
import Derived.ChangeMaps5
import Derived.SevenTiedAt
import Derived.Lib.SmallJoins
/-
  The walk of 'TopCorner': it returns true for every plot and every two numbers.
-/
namespace Go.Proofs.YtfhicijgpdpfpaaDoor
open Go.RowKit

/-- both grids alike, and both tables -/
structure Pair3 (w : World) (g m : Nat) (W H V : Int) (bl : Nat → Bool) : Prop where
  pr : Pair w g m W H V bl
  dg : DiagAt w
theorem Pair3.below {w w' : World} {g m : Nat} {W H V : Int} {bl : Nat → Bool} (h : Pair3 w g m W H V bl) {B : Nat} (hb : Below B w w') (hB : B = w.heap.size := by rfl) : Pair3 w' g m W H V bl := by
  subst hB
  exact ⟨h.pr.below hb, h.dg.below hb⟩

/-- the small grid: four corners -/
structure Four (w w' : World) (b : Nat) : Prop where
  bel : Below w.heap.size w w'
  g : GridAt w' b 3 3 1 (upd (fun _ => false) 4 true)
  lt : b < w'.heap.size

theorem boxedK {w wa : World} {W H : Int} {A : Option Addr} {n cap : Nat} {B : Nat} (hB : B = (w.alloc (.cells #[.int .i64 W, .int .i64 H, .slice A n cap] 24)).heap.size) (hb : Below B (w.alloc (.cells #[.int .i64 W, .int .i64 H, .slice A n cap] 24)) wa) :
    wa.cell? ⟨w.heap.size, 0, none⟩ = some (.int .i64 W) ∧ wa.cell? ⟨w.heap.size, 1, none⟩ = some (.int .i64 H) ∧ wa.cell? ⟨w.heap.size, 2, none⟩ = some (.slice A n cap) := by
  have h : ∀ o, wa.cell? ⟨w.heap.size, o, none⟩ = #[Value.int .i64 W, .int .i64 H, .slice A n cap][o]? := fun o => by
    rw [hb.cell (p := ⟨w.heap.size, o, none⟩) (by rw [hB]; simp), World.cell?_alloc_new]
  exact ⟨h 0, h 1, h 2⟩

theorem corn_ge (W H : Int) (bl : Nat → Bool) (c : Int) : 0 ≤ ffv W H bl c := by
  unfold ffv; split
  · split <;> omega
  · omega

set_option maxHeartbeats 1000000 in
set_option maxRecDepth 1000000 in
theorem topCorner_none (W H : Int) (A : Option Addr) (n cap : Nat) (a b : Int) (w : World) (s : StepsAt w) (_d : DiagAt w)
    (hL : ∀ w' : World, Calls Tryd.prog 10 #[.agg #[.int .i64 W, .int .i64 H, .slice A n cap]] w' fun e w'' => e = .returned (.tuple #[.pointer none, .pointer none, .bool false]) ∧ Below w'.heap.size w' w'') :
    Calls Tryd.prog 7 #[.agg #[.int .i64 W, .int .i64 H, .slice A n cap], .int .i64 a, .int .i64 b] w fun e w' => e = .returned (.bool true) ∧ Below w.heap.size w w' := by
  have hs3 : sideB 3 = true := by decide
  have b0 : Below w.heap.size w (w.alloc (.cells #[.int .i64 W, .int .i64 H, .slice A n cap] 24)) := (Below.refl _ _).alloc (Nat.le_refl _) _
  have e1 : (w.alloc (.cells #[.int .i64 W, .int .i64 H, .slice A n cap] 24)).heap.size = w.heap.size + 1 := by simp
  have hG := gridAt_new 3 3 (w.alloc (.cells #[.int .i64 W, .int .i64 H, .slice A n cap] 24)) hs3 hs3
  have hF : Free ((w.alloc (.cells #[.int .i64 W, .int .i64 H, .slice A n cap] 24)).alloc (.cells (gridC 3 3) 90)) (w.alloc (.cells #[.int .i64 W, .int .i64 H, .slice A n cap] 24)).heap.size := free_alloc _ _ _ _ (Nat.le_refl _)
  have b1 : Below (w.alloc (.cells #[.int .i64 W, .int .i64 H, .slice A n cap] 24)).heap.size (w.alloc (.cells #[.int .i64 W, .int .i64 H, .slice A n cap] 24)) ((w.alloc (.cells #[.int .i64 W, .int .i64 H, .slice A n cap] 24)).alloc (.cells (gridC 3 3) 90)) := (Below.refl _ _).alloc (Nat.le_refl _) _
  have hset := set_new 4 true _ hG hF (by decide) rfl (by decide) (by decide)
  rw [e1] at hset
  go_enter Tryd.func7, Tryd.ntmps7
  go_wp2_with (go_at_call 22; refine (new_ok _ _ _ hs3 hs3).mono ?_; rintro e w' ⟨rfl, rfl⟩)
  refine hset.mono ?_
  rintro e w1 ⟨rfl, T1, G1, _⟩
  have b2 := T1.below b1 (by rw [e1]; exact Nat.le_refl _)
  have B1 : Below w.heap.size w w1 := b0.trans (b2.mono (by rw [e1]; omega))
  have s1 := s.below B1 s.pos
  have hl1 : w.heap.size + 1 < w1.heap.size := by rw [T1.size]; simp
  have hA := all_v (l := [0, 2, 6, 8]) (by decide) _ G1 s1 hl1
  clear hset hG hF b1 T1
  go_wp2_with fail
  refine hA.mono ?_
  rintro e w2 ⟨A', cap', rfl, _, hb2⟩
  have b3 := b2.trans (hb2.mono (by rw [e1]; omega))
  obtain ⟨p0, p1, p2⟩ := boxedK (w := w) (wa := w2) rfl b3
  have B2 : Below w.heap.size w w2 := B1.trans (hb2.mono B1.size)
  clear hA G1 s1 b2 b3 hb2 b0 B1
  go_wp2_with (go_at_call 10; refine (hL _).mono ?_; rintro e w3 ⟨rfl, hb3⟩)
  go_ret
  exact ⟨rfl, B2.trans (hb3.mono B2.size)⟩

/-- what lies in memory while the corners are gone over -/
structure Labs2 (w : World) (C1 I1 C2 I2 : Nat) (F G : Int → Option (Int × Int)) : Prop where
  la : LabAt w C1 I1 F
  lb : LabAt w C2 I2 G
theorem Labs2.below {w w' : World} {C1 I1 C2 I2 : Nat} {F G : Int → Option (Int × Int)} (h : Labs2 w C1 I1 C2 I2 F G) {B : Nat} (hb : Below B w w') (hB : B = w.heap.size := by rfl) : Labs2 w' C1 I1 C2 I2 F G := by
  subst hB
  exact ⟨h.la.below hb, h.lb.below hb⟩
def Eight (w : World) (R C1 I1 C2 o p q : Nat) (b : Bool) (s d t u x y : Int) : Prop :=
  w.cell? ⟨R, o, none⟩ = some (.int .i64 p) ∧ w.cell? ⟨I1, p, none⟩ = some (.bool b) ∧ w.cell? ⟨C1, p * 2, none⟩ = some (.int .i64 s) ∧ w.cell? ⟨C1, p * 2 + 1, none⟩ = some (.int .i64 d) ∧ w.cell? ⟨C2, p * 2, none⟩ = some (.int .i64 t) ∧ w.cell? ⟨C2, p * 2 + 1, none⟩ = some (.int .i64 u) ∧ w.cell? ⟨C1, q * 2, none⟩ = some (.int .i64 x) ∧ w.cell? ⟨C1, q * 2 + 1, none⟩ = some (.int .i64 y)
theorem Eight.below {w w' : World} {R C1 I1 C2 o p q : Nat} {b : Bool} {s d t u x y : Int} (h : Eight w R C1 I1 C2 o p q b s d t u x y) (hb : Below w.heap.size w w') : Eight w' R C1 I1 C2 o p q b s d t u x y := by
  obtain ⟨h1, h2, h3, h4, h5, h6, h7, h8⟩ := h
  have k : ∀ {a : Addr} {v : Value}, w.cell? a = some v → w'.cell? a = some v := fun {a v} h => (hb.cell (World.block_lt_of_cell? w a h)).trans h
  exact ⟨k h1, k h2, k h3, k h4, k h5, k h6, k h7, k h8⟩
end Go.Proofs.YtfhicijgpdpfpaaDoor
/-
  The walk of 'TopCorner' where the plot can be laid.
-/
namespace Go.Proofs.YtfhicijgpdpfpaaDoor
open Go.RowKit

set_option maxHeartbeats 8000000 in
set_option maxRecDepth 1000000 in
theorem topCorner_ok (W H : Int) (A : Option Addr) (n cap : Nat) (xs : Nat → Int) (a b : Int) (w : World) (s : StepsAt w) (d : DiagAt w) (hn : ¬ 300 < (n : Int)) (hW : sideB W = true) (hH : sideB H = true) (hx : OldRow w A n xs) :
    Calls Tryd.prog 7 #[.agg #[.int .i64 W, .int .i64 H, .slice A n cap], .int .i64 a, .int .i64 b] w fun e w' => e = .returned (.bool true) ∧ Below w.heap.size w w' := by
  have hs3 : sideB 3 = true := by decide
  have b0 : Below w.heap.size w (w.alloc (.cells #[.int .i64 W, .int .i64 H, .slice A n cap] 24)) := (Below.refl _ _).alloc (Nat.le_refl _) _
  have e1 : (w.alloc (.cells #[.int .i64 W, .int .i64 H, .slice A n cap] 24)).heap.size = w.heap.size + 1 := by simp
  have hG := gridAt_new 3 3 (w.alloc (.cells #[.int .i64 W, .int .i64 H, .slice A n cap] 24)) hs3 hs3
  have hF : Free ((w.alloc (.cells #[.int .i64 W, .int .i64 H, .slice A n cap] 24)).alloc (.cells (gridC 3 3) 90)) (w.alloc (.cells #[.int .i64 W, .int .i64 H, .slice A n cap] 24)).heap.size := free_alloc _ _ _ _ (Nat.le_refl _)
  have b1 : Below (w.alloc (.cells #[.int .i64 W, .int .i64 H, .slice A n cap] 24)).heap.size (w.alloc (.cells #[.int .i64 W, .int .i64 H, .slice A n cap] 24)) ((w.alloc (.cells #[.int .i64 W, .int .i64 H, .slice A n cap] 24)).alloc (.cells (gridC 3 3) 90)) := (Below.refl _ _).alloc (Nat.le_refl _) _
  have hset := set_new 4 true _ hG hF (by decide) rfl (by decide) (by decide)
  rw [e1] at hset
  go_enter Tryd.func7, Tryd.ntmps7
  go_wp2_with (go_at_call 22; refine (new_ok _ _ _ hs3 hs3).mono ?_; rintro e w' ⟨rfl, rfl⟩)
  refine hset.mono ?_
  rintro e w1 ⟨rfl, T1, G1, _⟩
  have b2 := T1.below b1 (by rw [e1]; exact Nat.le_refl _)
  have B1 : Below w.heap.size w w1 := b0.trans (b2.mono (by rw [e1]; omega))
  have s1 := s.below B1 s.pos
  have hl1 : w.heap.size + 1 < w1.heap.size := by rw [T1.size]; simp
  have hA := all_v (l := [0, 2, 6, 8]) (by decide) _ G1 s1 hl1
  clear hset hG hF b1 T1
  go_wp2_with fail
  refine hA.mono ?_
  rintro e w2 ⟨A', cap', rfl, _, hb2⟩
  have b3 := b2.trans (hb2.mono (by rw [e1]; omega))
  obtain ⟨p0, p1, p2⟩ := boxedK (w := w) (wa := w2) rfl b3
  have B2 : Below w.heap.size w w2 := B1.trans (hb2.mono B1.size)
  have s2 := s.below B2 s.pos
  have d2 := d.below B2
  have hLd := laid_ok W H A n cap xs w2 (by omega) hW hH (hx.below B2)
  clear hA G1 s1 b2 b3 hb2 b0 B1 hx
  go_wp2_with fail
  refine hLd.mono ?_
  rintro e w3 ⟨rfl, hb3, hsz3, V, bl, hV, hB⟩
  have B3 : Below w.heap.size w w3 := B2.trans (hb3.mono B2.size)
  have P3 : Pair3 w3 (w2.heap.size + 1) (w2.heap.size + 1 + 1) W H V bl := ⟨⟨hB.ga, hB.ra, by omega, by omega, s2.below hb3 s2.pos, Nat.lt_of_lt_of_le s2.pos hb3.size⟩, d2.below hb3⟩
  clear hLd hB hsz3 hb3 p0 p1 p2 B2 s2 d2
  generalize w2.heap.size + 1 + 1 = M at *
  generalize w2.heap.size + 1 = G at *
  have hfa := corn_ge W H bl a
  have hfb := corn_ge W H bl b
  have hff : ∀ c w', Pair3 w' G M W H V bl → Calls Tryd.prog 15 #[.pointer (some ⟨M, 0, none⟩), .int .i64 c] w' fun e w'' => e = .returned (.int .i64 (ffv W H bl c)) ∧ Below w'.heap.size w' w'' := fun c w' P => ff_any c w' P.pr.ra
  by_cases qa : ffv W H bl a = 0
  · by_cases qb : ffv W H bl b = 0
    · have hf2 : ff2 W H bl a b = 0 := by unfold ff2; rw [if_pos qa]; exact qb
      obtain ⟨⟨ha, hfa'⟩, ⟨hbi, hfb'⟩⟩ := ff2_ok hf2
      have g1 := hff a w3 P3
      rw [qa] at g1
      go_wp2_with fail
      refine g1.mono ?_
      rintro e w4 ⟨rfl, hb4⟩
      have P4 := P3.below hb4
      have B4 := B3.trans (hb4.mono B3.size)
      have g2 := hff b w4 P4
      rw [qb] at g2
      clear g1 P3 B3 hb4 hff hfa hfb
      go_wp2_with fail
      refine g2.mono ?_
      rintro e w5 ⟨rfl, hb5⟩
      have P5 := P4.below hb5
      have B5 := B4.trans (hb5.mono B4.size)
      have hqa : 0 ≤ a ∧ a < W * H := of_decide_eq_true ha
      have hqb : 0 ≤ b ∧ b < W * H := of_decide_eq_true hbi
      have hwh := wh_bd P5.pr.ga.w1 P5.pr.ga.w2 P5.pr.ga.h1 P5.pr.ga.h2
      have gw1 := P5.pr.ga.w1
      have hsm := oct_small P5.pr.ga.w1 P5.pr.ga.w2 P5.pr.ga.h1 P5.pr.ga.h2 ha hbi
      obtain ⟨an, rfl⟩ : ∃ an : Nat, a = an := ⟨a.toNat, by omega⟩
      obtain ⟨bn, rfl⟩ : ∃ bn : Nat, b = bn := ⟨b.toNat, by omega⟩
      have hfl1 := rflood_any an w5 P5.pr.ra P5.pr.ml ha
      clear g2 P4 B4 hb5
      obtain ⟨q3, q4⟩ := hqb
      have q5 : (bn : Int) < 256 := by omega
      have q6 : bn < 256 := by omega
      go_wp2_with fail
      refine hfl1.mono ?_
      rintro e w10 ⟨F, rfl, BF, hb10⟩
      have P10 := P5.below hb10
      have B10 := B5.trans (hb10.mono B5.size)
      obtain ⟨t54, t55, LA, hbL⟩ := lab_laid w10 F
      have o1 := costL_one F
      have o2 := isL_one F
      have hcl := costL_len F
      have hil := isL_len F
      have P11 := P10.below hbL
      have B11 := B10.trans (hbL.mono B10.size)
      clear hfl1 P5 B5 hb10 P10 B10 hbL
      generalize costL F = cs at *
      generalize isL F = is' at *
      have hsc := run_storeCells_cells (P := Tryd.prog) (w10.heap.size + 1) 0 is' 0 (((w10.alloc (.cells zC 45)).alloc (.cells zB 46)).setCells w10.heap.size 0 cs) (fun j hj => by simpa using (t55 j (by omega)).1) (fun j hj => by simpa using (t55 j (by omega)).2) o2
      simp only [Nat.add_zero] at hsc
      go_wp2_with (first | (refine wpList_alloc54 rfl rfl ?_) | (refine wpList_alloc55 rfl rfl ?_) | (refine wpList_store_mid rfl 45 _ _ rfl _ _ cs.toArray rfl rfl (th_of hcl t54) (in_of hcl info54) (all_oneCell_toArray o1) ?_) | (refine wpList_store_mid rfl 46 _ _ rfl _ _ is'.toArray rfl rfl (th_of hil t55) (in_of hil info55) (all_oneCell_toArray o2) ?_))
      clear hsc o1 o2 hcl hil t54 t55
      generalize (((w10.alloc (.cells zC 45)).alloc (.cells zB 46)).setCells w10.heap.size 0 cs).setCells (w10.heap.size + 1) 0 is' = w11 at *
      generalize w10.heap.size = C1 at *
      generalize C1 + 1 = I1 at *
      have hfl2 := rflood_any bn w11 P11.pr.ra P11.pr.ml hbi
      refine hfl2.mono ?_
      rintro e w12 ⟨F2, rfl, BF2, hb12⟩
      have P12 := P11.below hb12
      have B12 := B11.trans (hb12.mono B11.size)
      have LA := LA.below hb12
      obtain ⟨t54, t55, LB, hbL⟩ := lab_laid w12 F2
      have o1 := costL_one F2
      have o2 := isL_one F2
      have hcl := costL_len F2
      have hil := isL_len F2
      have P13 := P12.below hbL
      have B13 := B12.trans (hbL.mono B12.size)
      have LL : Labs2 ((((w12.alloc (.cells zC 45)).alloc (.cells zB 46)).setCells w12.heap.size 0 (costL F2)).setCells (w12.heap.size + 1) 0 (isL F2)) C1 I1 w12.heap.size (w12.heap.size + 1) F F2 := ⟨LA.below hbL, LB⟩
      clear hfl2 P11 B11 hb12 P12 B12 hbL LA LB
      generalize costL F2 = cs2 at *
      generalize isL F2 = is2 at *
      have hsc := run_storeCells_cells (P := Tryd.prog) (w12.heap.size + 1) 0 is2 0 (((w12.alloc (.cells zC 45)).alloc (.cells zB 46)).setCells w12.heap.size 0 cs2) (fun j hj => by simpa using (t55 j (by omega)).1) (fun j hj => by simpa using (t55 j (by omega)).2) o2
      simp only [Nat.add_zero] at hsc
      go_wp2_with (first | (refine wpList_alloc54 rfl rfl ?_) | (refine wpList_alloc55 rfl rfl ?_) | (refine wpList_store_mid rfl 45 _ _ rfl _ _ cs2.toArray rfl rfl (th_of hcl t54) (in_of hcl info54) (all_oneCell_toArray o1) ?_) | (refine wpList_store_mid rfl 46 _ _ rfl _ _ is2.toArray rfl rfl (th_of hil t55) (in_of hil info55) (all_oneCell_toArray o2) ?_))
      clear hsc o1 o2 hcl hil t54 t55
      generalize (((w12.alloc (.cells zC 45)).alloc (.cells zB 46)).setCells w12.heap.size 0 cs2).setCells (w12.heap.size + 1) 0 is2 = w13 at *
      generalize w12.heap.size = C2 at *
      generalize C2 + 1 = I2 at *
      have hnr := near_ok an bn w13 P13.pr.ga P13.pr.st P13.dg P13.pr.gl hf2
      refine hnr.mono ?_
      rintro e w14 ⟨r, rfl, hr, hb14⟩
      have P14 := P13.below hb14
      have B14 := B13.trans (hb14.mono B13.size)
      have LL := LL.below hb14
      have hni := near_iff (b := bn) gw1 (by omega) (by omega) BF
      rw [hni] at hr
      clear hnr P13 B13 hb14 hni
      have x0 := LL.la.i0 bn q6
      cases hFb : F (bn : Int) with
      | none =>
        rw [hFb] at x0
        have x0 : w14.cell? ⟨I1, bn, none⟩ = some (.bool false) := x0
        go_wp2
        go_ret
        exact ⟨rfl, B14⟩
      | some c =>
        obtain ⟨s0, d0⟩ := c
        rw [hFb] at x0
        have x0 : w14.cell? ⟨I1, bn, none⟩ = some (.bool true) := x0
        cases r with
        | true =>
          clear hr hFb
          go_wp2
          go_ret
          exact ⟨rfl, B14⟩
        | false =>
          have hne : val s0 d0 ≠ val (octS W an bn) (octD W an bn) := fun e => by
            obtain ⟨n1, n2, n3⟩ := BF.small hFb
            have sm := val_small n1 n2 n3
            have hh := pair_eq n2 n1 (octD_nonneg W an bn) (by omega) e (by omega)
            have := hr.2 (by rw [hFb, hh.1, hh.2])
            cases this
          obtain ⟨p, s1, d1, t1, u1, c1, c2, c3, c4, _, _, c7⟩ := corner_on gw1 BF BF2 hFb hne
          have hpc : CornC W H bl p := c7
          have hpin := cornC_in gw1 hpc
          have hpb : 0 ≤ p ∧ p < W * H := of_decide_eq_true hpin
          obtain ⟨pn, rfl⟩ : ∃ pn : Nat, p = pn := ⟨p.toNat, by omega⟩
          obtain ⟨l, hl⟩ : ∃ l, crs W H bl (W * H).toNat = l := ⟨_, rfl⟩
          have hpm : pn ∈ l := by rw [← hl]; exact crs_mem.2 ⟨by omega, cornB_iff.2 hpc⟩
          have HLB : Hid (∀ j, j < l.length → l.getD j 0 < 256) := fun j hj => by
            have hm : l.getD j 0 ∈ l := by rw [getD_at _ _ hj]; exact List.getElem_mem hj
            generalize l.getD j 0 = z at *
            rw [← hl] at hm
            have := (crs_mem.1 hm).1
            omega
          have hll : l.length ≤ 256 := by
            rw [← hl]
            have h1 := crs_len W H bl (W * H).toNat
            omega
          have hal := all_v hl w14 P14.pr.ga P14.pr.st P14.pr.gl
          have HPM : Hid (pn ∈ l) := hpm
          have HC : Hid (F (pn : Int) = some (s1, d1) ∧ F2 (pn : Int) = some (t1, u1) ∧ s1 + t1 = s0 ∧ d1 + u1 = d0) := ⟨c1, c2, c3, c4⟩
          clear hl hpm hpb hpin hpc c7 c1 c2 c3 c4 hne hr
          go_wp2_with fail
          refine hal.mono ?_
          rintro e w15 ⟨A2, cap2, rfl, hrow, hb15⟩
          have LL := LL.below hb15
          have B15 := B14.trans (hb15.mono B14.size)
          clear hal P14 B14 hb15 x0
          go_wp2
          go_loopg [18] l.length (fun gk iv wr => ∃ i : Nat, gk = l.length - i ∧ iv = .int .i64 i ∧ i ≤ l.length ∧ Hid (∀ j, j < i → ¬ (l.getD j 0 = pn)) ∧ Labs2 wr C1 I1 C2 I2 F F2 ∧ OldRow wr A2 l.length (fun i => (l.getD i 0 : Nat)) ∧ Below w.heap.size w wr)
          case atStart => exact ⟨0, rfl, rfl, Nat.zero_le _, fun j hj => absurd hj (by omega), LL, hrow, B15⟩
          case round =>
            obtain ⟨i, hgk, rfl, hi, hno, Lr, hrr, Br⟩ := hrel
            clear LL hrow B15
            by_cases hlt : i < l.length
            · obtain ⟨ba, oa, rfl, hba, hcell⟩ := hrr i hlt
              have hz := HLB.out i hlt
              obtain ⟨z, hzz⟩ : ∃ z, l.getD i 0 = z := ⟨_, rfl⟩
              have hcell' : wr.cell? ⟨ba, oa + i, none⟩ = some (.int .i64 (z : Int)) := by rw [← hzz]; exact hcell
              rw [hzz] at hz
              have HZ : Hid (l.getD i 0 = z) := hzz
              clear hzz hcell
              have z3 : (z : Int) < 256 := by omega
              have i1 : (0 : Int) ≤ (i : Int) := by omega
              have i2 : (i : Int) < (l.length : Int) := by omega
              have x1 := Lr.la.i0 z hz
              have nxt : z ≠ pn → Hid (∀ j, j < i + 1 → ¬ (l.getD j 0 = pn)) := fun h j hj => by
                by_cases e : j = i
                · rw [e, HZ.out]; exact h
                · exact hno.out j (by omega)
              cases hFz : F (z : Int) with
              | none =>
                rw [hFz] at x1
                have x1 : wr.cell? ⟨I1, z, none⟩ = some (.bool false) := x1
                have HN := nxt (fun e => by rw [e, HC.out.1] at hFz; cases hFz)
                clear nxt
                go_wp2
                go_quiet (fail)
                go_wp2
                go_roundg (l.length - (i + 1))
                case measure => omega
                case rel => exact ⟨i + 1, rfl, by go_num, by omega, HN, Lr.below (below_drewN (Below.refl _ _) _), hrr.below (below_drewN (Below.refl _ _) _), below_drewN Br _⟩
              | some cz =>
                obtain ⟨sz, dz⟩ := cz
                rw [hFz] at x1
                have x1 : wr.cell? ⟨I1, z, none⟩ = some (.bool true) := x1
                have y0 := Lr.la.c0 z hz
                have y1 := Lr.la.c1 z hz
                have y2 := Lr.lb.c0 z hz
                have y3 := Lr.lb.c1 z hz
                have y4 := Lr.la.c0 bn q6
                have y5 := Lr.la.c1 bn q6
                rw [(lab_some hFz).1] at y0
                rw [(lab_some hFz).2] at y1
                rw [(lab_some hFb).1] at y4
                rw [(lab_some hFb).2] at y5
                have okA : okC sz dz := by have := lab_ok BF (z : Int); rw [(lab_some hFz).1, (lab_some hFz).2] at this; exact this
                have okB := lab_ok BF2 (z : Int)
                have HQ : Hid (z = pn → sz + labS F2 (z : Int) = s0 ∧ dz + labD F2 (z : Int) = d0) := fun e => by
                  subst e
                  obtain ⟨k1, k2, k3, k4⟩ := HC.out
                  rw [hFz] at k1
                  cases k1
                  rw [(lab_some k2).1, (lab_some k2).2]
                  exact ⟨k3, k4⟩
                generalize labS F2 (z : Int) = tz at *
                generalize labD F2 (z : Int) = uz at *
                have hpl := fun w => plus_any sz dz tz uz w okA okB
                have bD : Below wr.heap.size wr wr.drew := ⟨rfl, rfl, rfl, Nat.le_refl _, fun _ _ => rfl⟩
                have CC : Eight wr.drew ba C1 I1 C2 (oa + i) z bn true sz dz tz uz s0 d0 := ⟨hcell', x1, y0, y1, y2, y3, y4, y5⟩
                have Lr := Lr.below bD
                have hrr := hrr.below bD
                have Br := Br.trans (bD.mono Br.size)
                clear bD y0 y1 y2 y3 y4 y5 x1 hcell' okA okB
                by_cases e1 : sz + tz = s0
                · by_cases e2 : dz + uz = d0
                  · clear nxt
                    go_wp2
                    go_region_held3 (fun w' => w'.cell? ⟨ba, oa + i, none⟩ = some (.int .i64 (z : Int)) ∧ w'.cell? ⟨I1, z, none⟩ = some (.bool true) ∧ w'.cell? ⟨C1, z * 2, none⟩ = some (.int .i64 sz) ∧ w'.cell? ⟨C1, z * 2 + 1, none⟩ = some (.int .i64 dz) ∧ w'.cell? ⟨C2, z * 2, none⟩ = some (.int .i64 tz) ∧ w'.cell? ⟨C2, z * 2 + 1, none⟩ = some (.int .i64 uz) ∧ w'.cell? ⟨C1, bn * 2, none⟩ = some (.int .i64 s0) ∧ w'.cell? ⟨C1, bn * 2 + 1, none⟩ = some (.int .i64 d0)) (first | (exact CC)) (first | (go_at_call 42; refine (hpl _).mono ?_; rintro e wx ⟨rfl, hbx⟩; have CC := CC.below hbx; have Lr := Lr.below hbx; have hrr := hrr.below hbx; have Br := Br.trans (hbx.mono Br.size)))
                    all_goals
                      go_wp2
                      go_ret
                      exact ⟨rfl, Br⟩
                  · have HN := nxt (fun e => e2 (HQ.out e).2)
                    clear nxt
                    go_wp2
                    go_region_held3 (fun w' => w'.cell? ⟨ba, oa + i, none⟩ = some (.int .i64 (z : Int)) ∧ w'.cell? ⟨I1, z, none⟩ = some (.bool true) ∧ w'.cell? ⟨C1, z * 2, none⟩ = some (.int .i64 sz) ∧ w'.cell? ⟨C1, z * 2 + 1, none⟩ = some (.int .i64 dz) ∧ w'.cell? ⟨C2, z * 2, none⟩ = some (.int .i64 tz) ∧ w'.cell? ⟨C2, z * 2 + 1, none⟩ = some (.int .i64 uz) ∧ w'.cell? ⟨C1, bn * 2, none⟩ = some (.int .i64 s0) ∧ w'.cell? ⟨C1, bn * 2 + 1, none⟩ = some (.int .i64 d0)) (first | (exact CC)) (first | (go_at_call 42; refine (hpl _).mono ?_; rintro e wx ⟨rfl, hbx⟩; have CC := CC.below hbx; have Lr := Lr.below hbx; have hrr := hrr.below hbx; have Br := Br.trans (hbx.mono Br.size)))
                    all_goals
                      go_wp2
                      go_roundg (l.length - (i + 1))
                    all_goals first | omega | exact ⟨i + 1, rfl, by go_num, by omega, HN, Lr, hrr, Br⟩
                · have HN := nxt (fun e => e1 (HQ.out e).1)
                  clear nxt
                  go_wp2
                  go_region_held3 (fun w' => w'.cell? ⟨ba, oa + i, none⟩ = some (.int .i64 (z : Int)) ∧ w'.cell? ⟨I1, z, none⟩ = some (.bool true) ∧ w'.cell? ⟨C1, z * 2, none⟩ = some (.int .i64 sz) ∧ w'.cell? ⟨C1, z * 2 + 1, none⟩ = some (.int .i64 dz) ∧ w'.cell? ⟨C2, z * 2, none⟩ = some (.int .i64 tz) ∧ w'.cell? ⟨C2, z * 2 + 1, none⟩ = some (.int .i64 uz) ∧ w'.cell? ⟨C1, bn * 2, none⟩ = some (.int .i64 s0) ∧ w'.cell? ⟨C1, bn * 2 + 1, none⟩ = some (.int .i64 d0)) (first | (exact CC)) (first | (go_at_call 42; refine (hpl _).mono ?_; rintro e wx ⟨rfl, hbx⟩; have CC := CC.below hbx; have Lr := Lr.below hbx; have hrr := hrr.below hbx; have Br := Br.trans (hbx.mono Br.size)))
                  all_goals
                    go_wp2
                    go_roundg (l.length - (i + 1))
                  all_goals first | omega | exact ⟨i + 1, rfl, by go_num, by omega, HN, Lr, hrr, Br⟩
            · have e : i = l.length := by omega
              subst e
              exfalso
              obtain ⟨j, hj, h⟩ := List.getElem_of_mem HPM.out
              exact hno.out j hj (by rw [getD_at _ _ hj]; exact h)
    · have g1 := hff a w3 P3
      rw [qa] at g1
      go_wp2_with fail
      refine g1.mono ?_
      rintro e w4 ⟨rfl, hb4⟩
      have P4 := P3.below hb4
      have B4 := B3.trans (hb4.mono B3.size)
      have g2 := hff b w4 P4
      have hpos : 0 < ffv W H bl b := by omega
      clear g1 P3 B3 hb4 hff hfa hfb qb
      generalize ffv W H bl b = fb at *
      go_wp2_with fail
      refine g2.mono ?_
      rintro e w5 ⟨rfl, hb5⟩
      clear g2
      go_wp2
      go_ret
      exact ⟨rfl, B4.trans (hb5.mono B4.size)⟩
  · have g1 := hff a w3 P3
    have hpos : 0 < ffv W H bl a := by omega
    clear hff hfa hfb qa
    generalize ffv W H bl a = fa at *
    go_wp2_with fail
    refine g1.mono ?_
    rintro e w4 ⟨rfl, hb4⟩
    clear g1
    go_wp2
    go_ret
    exact ⟨rfl, B3.trans (hb4.mono B3.size)⟩
end Go.Proofs.YtfhicijgpdpfpaaDoor
/-
  The table of steps, read off the row's listed variable.
-/
namespace Go.Proofs.YtfhicijgpdpfpaaDoor
open Go.ChangeShapes Go.WideShapes Go.ChangeAt Go.RowKit

theorem gSteps : Tryd.prog.globalNamed "fellrunner/grid.steps" = some 0 := by kernel_rfl
theorem tSteps : (Tryd.prog.globals[0]?).map (·.type) = some 124 := by kernel_rfl
theorem c60 : Tryd.prog.cellsOf 123 = 2 := by kernel_rfl
theorem c3' : Tryd.prog.cellsOf 3 = 1 := by kernel_rfl
abbrev stepsLaid : List (String × DataW Unit) := [("fellrunner/grid.steps", Rows.laid_fellrunner_grid_steps)]

theorem lt_of_cell {w : World} {b o : Nat} {v : Value} (h : w.cell? ⟨b, o, none⟩ = some v) : b < w.heap.size := by
  by_cases hb : b < w.heap.size
  · exact hb
  · unfold World.cell? at h
    rw [Array.getElem?_eq_none (by simpa using hb)] at h
    simp at h

theorem steps_of {W : World} (h : laidMetH Tryd.prog stepsLaid W) : StepsAt W ∧ 0 < W.heap.size := by
  rw [MakeChecks.laidMetH_plain _ _ _ (by kernel_rfl)] at h
  obtain ⟨ps, ⟨g0, t0, cs0, f0, p0, q0, hg0, ht0, hv0, hd0, _, _⟩, _, _⟩ := h
  obtain rfl := Option.some.inj (gSteps.symm.trans hg0)
  obtain rfl := Option.some.inj (tSteps.symm.trans ht0)
  obtain ⟨xs, m, _, hx1, hlen, hn, hel⟩ := DataW.trod_array Tryd.underlying124 hd0
  simp only [Prod.mk.injEq] at hx1
  have hxa := hx1.1
  have key : ∀ i, i < 8 → cs0.toList[2 * i]? = some (.int .i64 (stepX i)) ∧ cs0.toList[2 * i + 1]? = some (.int .i64 (stepY i)) := by
    intro i hi
    have h1 := hel i hi
    rw [c60] at h1
    have hxi : ∃ p, xs[i]? = some (Lib.tabData .i64 [stepX i, stepY i], p) := by
      have hlt : i < xs.length := by omega
      refine ⟨xs[i].2, ?_⟩
      rw [List.getElem?_eq_getElem hlt]
      have e2 : (xs.map (·.1))[i]? = some xs[i].1 := by rw [List.getElem?_map, List.getElem?_eq_getElem hlt]; rfl
      simp only [Rows.laid_fellrunner_grid_steps, DataW.agg.injEq] at hxa
      rw [← hxa] at e2
      have hks : i = 0 ∨ i = 1 ∨ i = 2 ∨ i = 3 ∨ i = 4 ∨ i = 5 ∨ i = 6 ∨ i = 7 := by omega
      rcases hks with rfl | rfl | rfl | rfl | rfl | rfl | rfl | rfl <;>
        (simp at e2; exact congrArg some (Prod.ext e2.symm rfl))
    obtain ⟨p, hp⟩ := hxi
    rw [hp] at h1
    have h2 := Lib.cells_of_tab Tryd.underlying123 Tryd.underlying3 c3' c60 h1
    have a0 : ((cs0.toList.drop (i * 2)).take 2)[0]? = cs0.toList[2 * i]? := by
      rw [List.getElem?_take_of_lt (by decide), List.getElem?_drop]; congr 1; omega
    have a1 : ((cs0.toList.drop (i * 2)).take 2)[1]? = cs0.toList[2 * i + 1]? := by
      rw [List.getElem?_take_of_lt (by decide), List.getElem?_drop]; congr 1; omega
    rw [h2] at a0 a1
    exact ⟨a0.symm, a1.symm⟩
  have cell : ∀ i, W.cell? ⟨0, i, none⟩ = cs0.toList[i]? := fun i => by
    have := World.var?_cell hg0 hv0 i
    rw [this]; simp
  refine ⟨fun i hi => ⟨by rw [cell]; exact (key i hi).1, by rw [cell]; exact (key i hi).2⟩, ?_⟩
  exact lt_of_cell ((cell 0).trans (key 0 (by decide)).1)
end Go.Proofs.YtfhicijgpdpfpaaDoor
/-
  What the frames of this seat's laws have in common: how lists that come in lie in memory.
-/
namespace Go.Proofs.YtfhicijgpdpfpaaDoor
open Go.ChangeShapes Go.WideShapes Go.ChangeAt Go.RowKit Go.Joins

theorem Tryd.own : ownKnob Tryd.prog.godebug = none := by kernel_rfl
theorem Tryd.laidOut : laidOutB Tryd.prog = true := by kernel_rfl
theorem Tryd.cells24 : Tryd.prog.cellsOf 24 = 3 := by kernel_rfl

theorem law_met (os : Os) (args : Array Value) : laidMetH Tryd.prog stepsLaid ((World.doorLaid Tryd.prog 27 os).forCall (fun _ _ => 0) ⟨#[], args, []⟩).memory :=
  laidMetH_of_parts3 (fuel := 8) (laidMet_of_run' 8 (by kernel_rfl) (by kernel_rfl)) (by kernel_rfl) (by kernel_rfl)

/-- a slice of integers that came in, as a row of old memory -/
theorem row_in {H : Type} {enc : TypeId × Value → H} {W : World} {sp : Nat → Bool} {held : Bool} {fuel : Nat} {c : Value} {x : DataW H × List MemPlace} (h : DataW.trod enc Tryd.prog W 0 sp held fuel 22 [c] = some x) :
    ∃ A n cap xs, c = .slice A n cap ∧ n ≤ maxLen ∧ OldRow W A n xs := by
  rcases open_ints Tryd.underlying22 Tryd.underlying3 (by kernel_rfl) h with ⟨hcs, _⟩ | ⟨a, l, cap, zs, hcs, _, hl, hm, hz, _, hcell, _⟩
  · simp at hcs
    exact ⟨none, 0, 0, fun _ => 0, hcs, by unfold maxLen; omega, fun i hi => absurd hi (Nat.not_lt_zero i)⟩
  · simp at hcs
    refine ⟨some a, l, cap, fun i => zs.getD i 0, hcs, Nat.le_trans hl hm, fun i hi => ?_⟩
    have hzl : i < zs.length := by rw [hz]; split <;> omega
    obtain ⟨b, off, rfl, hc⟩ := ints_at hcell (by omega)
    exact ⟨b, off, rfl, lt_of_cell (hc i hzl), hc i hzl⟩

end Go.Proofs.YtfhicijgpdpfpaaDoor
