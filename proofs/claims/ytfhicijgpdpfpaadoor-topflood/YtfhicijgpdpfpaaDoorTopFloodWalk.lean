/-
  The walk of 'TopFlood': it returns true for every plot and every number.
-/
import Derived.Test.YtfhicijgpdpfpaaDoorTopFloodM
namespace Go.Proofs.YtfhicijgpdpfpaaDoor
open Go.RowKit

theorem boxed (w : World) (W H : Int) (A : Option Addr) (n cap : Nat) {wa : World}
    (hb : Below ((w.alloc (.cells #[.int .i64 W, .int .i64 H, .slice A n cap] 24)).alloc (.cells (gridC 2 1) 90)).heap.size ((w.alloc (.cells #[.int .i64 W, .int .i64 H, .slice A n cap] 24)).alloc (.cells (gridC 2 1) 90)) wa) :
    wa.cell? ⟨w.heap.size, 0, none⟩ = some (.int .i64 W) ∧ wa.cell? ⟨w.heap.size, 1, none⟩ = some (.int .i64 H) ∧ wa.cell? ⟨w.heap.size, 2, none⟩ = some (.slice A n cap) := by
  have h : ∀ o, wa.cell? ⟨w.heap.size, o, none⟩ = #[Value.int .i64 W, .int .i64 H, .slice A n cap][o]? := fun o => by
    rw [hb.cell (p := ⟨w.heap.size, o, none⟩) (by simp; omega), World.cell?_alloc_old _ _ _ (by simp), World.cell?_alloc_new]
  exact ⟨h 0, h 1, h 2⟩

structure Two (w : World) (G M fb gb cb : Nat) (W H V : Int) (bl : Nat → Bool) (F : Int → Option (Int × Int)) : Prop where
  pr : Pair w G M W H V bl
  fl : FloodAt w fb gb cb W H V bl F (cnt F (W * H).toNat)
theorem Two.below {w w' : World} {G M fb gb cb : Nat} {W H V : Int} {bl : Nat → Bool} {F : Int → Option (Int × Int)} (t : Two w G M fb gb cb W H V bl F) {B : Nat} (hb : Below B w w') (hB : B = w.heap.size := by rfl) : Two w' G M fb gb cb W H V bl F := by
  subst hB
  exact ⟨t.pr.below hb, t.fl.below hb⟩

/-- three costs in memory -/
def Six (w : World) (x y z : Nat) (s d t u p q : Int) : Prop :=
  w.cell? ⟨x, 0, none⟩ = some (.int .i64 s) ∧ w.cell? ⟨x, 1, none⟩ = some (.int .i64 d) ∧ w.cell? ⟨y, 0, none⟩ = some (.int .i64 t) ∧ w.cell? ⟨y, 1, none⟩ = some (.int .i64 u) ∧ w.cell? ⟨z, 0, none⟩ = some (.int .i64 p) ∧ w.cell? ⟨z, 1, none⟩ = some (.int .i64 q)
theorem Six.below {w w' : World} {x y z : Nat} {s d t u p q : Int} (h : Six w x y z s d t u p q) (hb : Below w.heap.size w w') : Six w' x y z s d t u p q := by
  obtain ⟨h1, h2, h3, h4, h5, h6⟩ := h
  have k : ∀ {a : Addr} {v : Value}, w.cell? a = some v → w'.cell? a = some v := fun {a v} h => (hb.cell (World.block_lt_of_cell? w a h)).trans h
  exact ⟨k h1, k h2, k h3, k h4, k h5, k h6⟩

/-- two costs and a number in memory -/
def Five (w : World) (x y z : Nat) (s d t u p : Int) : Prop :=
  w.cell? ⟨x, 0, none⟩ = some (.int .i64 s) ∧ w.cell? ⟨x, 1, none⟩ = some (.int .i64 d) ∧ w.cell? ⟨y, 0, none⟩ = some (.int .i64 t) ∧ w.cell? ⟨y, 1, none⟩ = some (.int .i64 u) ∧ w.cell? ⟨z, 0, none⟩ = some (.int .i64 p)
theorem Five.below {w w' : World} {x y z : Nat} {s d t u p : Int} (h : Five w x y z s d t u p) (hb : Below w.heap.size w w') : Five w' x y z s d t u p := by
  obtain ⟨h1, h2, h3, h4, h5⟩ := h
  have k : ∀ {a : Addr} {v : Value}, w.cell? a = some v → w'.cell? a = some v := fun {a v} h => (hb.cell (World.block_lt_of_cell? w a h)).trans h
  exact ⟨k h1, k h2, k h3, k h4, k h5⟩
theorem dst_nonneg (a b : Int) : 0 ≤ dst a b := by unfold dst; split <;> omega
theorem les_nonneg {a b : Int} (h : 0 ≤ a) (k : 0 ≤ b) : 0 ≤ les a b := by unfold les; split <;> omega

set_option maxHeartbeats 1000000 in
set_option maxRecDepth 1000000 in
theorem topFlood_none (W H : Int) (A : Option Addr) (n cap : Nat) (from' : Int) (w : World) (s : StepsAt w) (h0 : 0 < w.heap.size)
    (hL : ∀ w' : World, Calls Tryd.prog 10 #[.agg #[.int .i64 W, .int .i64 H, .slice A n cap]] w' fun e w'' => e = .returned (.tuple #[.pointer none, .pointer none, .bool false]) ∧ Below w'.heap.size w' w'') :
    Calls Tryd.prog 4 #[.agg #[.int .i64 W, .int .i64 H, .slice A n cap], .int .i64 from'] w fun e w' => e = .returned (.bool true) ∧ Below w.heap.size w w' := by
  have hs2 : sideB 2 = true := by decide
  have hs1 : sideB 1 = true := by decide
  have hG := gridAt_new 2 1 (w.alloc (.cells #[.int .i64 W, .int .i64 H, .slice A n cap] 24)) hs2 hs1
  have hb : Below w.heap.size w ((w.alloc (.cells #[.int .i64 W, .int .i64 H, .slice A n cap] 24)).alloc (.cells (gridC 2 1) 90)) := ((Below.refl _ _).alloc (Nat.le_refl _) _).alloc (by simp) _
  have hs := s.below hb h0
  have e1 : (w.alloc (.cells #[.int .i64 W, .int .i64 H, .slice A n cap] 24)).heap.size = w.heap.size + 1 := by simp
  rw [e1] at hG
  clear e1
  go_enter Tryd.func4, Tryd.ntmps4
  go_wp2_with (go_at_call 22; refine (new_ok _ _ _ hs2 hs1).mono ?_; rintro e w' ⟨rfl, rfl⟩)
  have hf := from_ok 0 _ hG hs (by decide) rfl
  refine hf.mono ?_
  clear hf
  rintro e wa ⟨fb1, gb1, cb1, F1, rfl, FA1, BA1, _, _, _, hba⟩
  rw [one_two BA1] at FA1
  have HBA : Below w.heap.size w wa := hb.trans (hba.mono (by simp; omega))
  obtain ⟨p0, p1, p2⟩ := boxed w W H A n cap hba
  have hza : w.heap.size < wa.heap.size := World.block_lt_of_cell? wa _ p0
  clear hG hs hb hba BA1
  go_wp2_with (first | (go_at_call 21; refine (reached_any _ FA1).mono ?_; rintro e w' ⟨rfl, rfl⟩) | (go_at_call 10; refine (hL _).mono ?_; rintro e w2 ⟨rfl, hb2⟩))
  go_ret
  exact ⟨rfl, HBA.trans (hb2.mono HBA.size)⟩

set_option maxHeartbeats 4000000 in
set_option maxRecDepth 1000000 in
theorem topFlood_ok (W H : Int) (A : Option Addr) (n cap : Nat) (xs : Nat → Int) (from' : Int) (w : World) (s : StepsAt w) (h0 : 0 < w.heap.size) (hn : ¬ 300 < (n : Int)) (h : sideB W = true) (k : sideB H = true) (hx : OldRow w A n xs) :
    Calls Tryd.prog 4 #[.agg #[.int .i64 W, .int .i64 H, .slice A n cap], .int .i64 from'] w fun e w' => e = .returned (.bool true) ∧ Below w.heap.size w w' := by
  have hs2 : sideB 2 = true := by decide
  have hs1 : sideB 1 = true := by decide
  have hG := gridAt_new 2 1 (w.alloc (.cells #[.int .i64 W, .int .i64 H, .slice A n cap] 24)) hs2 hs1
  have hb : Below w.heap.size w ((w.alloc (.cells #[.int .i64 W, .int .i64 H, .slice A n cap] 24)).alloc (.cells (gridC 2 1) 90)) := ((Below.refl _ _).alloc (Nat.le_refl _) _).alloc (by simp) _
  have hs := s.below hb h0
  have e1 : (w.alloc (.cells #[.int .i64 W, .int .i64 H, .slice A n cap] 24)).heap.size = w.heap.size + 1 := by simp
  rw [e1] at hG
  clear e1
  go_enter Tryd.func4, Tryd.ntmps4
  go_wp2_with (go_at_call 22; refine (new_ok _ _ _ hs2 hs1).mono ?_; rintro e w' ⟨rfl, rfl⟩)
  have hf := from_ok 0 _ hG hs (by decide) rfl
  refine hf.mono ?_
  clear hf
  rintro e wa ⟨fb1, gb1, cb1, F1, rfl, FA1, BA1, _, _, _, hba⟩
  rw [one_two BA1] at FA1
  have HBA : Below w.heap.size w wa := hb.trans (hba.mono (by simp; omega))
  obtain ⟨p0, p1, p2⟩ := boxed w W H A n cap hba
  have hza : w.heap.size < wa.heap.size := World.block_lt_of_cell? wa _ p0
  clear hG hs hb hba BA1
  have hxa := hx.below HBA
  go_wp2_with (go_at_call 21; refine (reached_any _ FA1).mono ?_; rintro e w' ⟨rfl, rfl⟩)
  have hl := laid_ok W H A n cap xs w' (by omega) h k hxa
  refine hl.mono ?_
  clear hl
  rintro e w2 ⟨rfl, hb2, hz2, V, bl, hV, hB⟩
  have HB : Below w.heap.size w w2 := HBA.trans (hb2.mono HBA.size)
  have s2 := s.below HB h0
  have P2 : Pair w2 (w'.heap.size + 1) (w'.heap.size + 1 + 1) W H V bl := ⟨hB.ga, hB.ra, by omega, by omega, s2, s2.pos⟩
  have hle := HBA.size
  clear FA1 p0 p1 p2 hxa hB hb2 HBA hx hn h k s hV hs2 hs1
  generalize hGe : w'.heap.size + 1 = G at *
  generalize hMe : G + 1 = M at *
  have w1 := P2.ga.w1
  have w2' := P2.ga.w2
  have h1 := P2.ga.h1
  have h2 := P2.ga.h2
  obtain ⟨k1, k2⟩ := wh_bd w1 w2' h1 h2
  cases hin : inB W H from' with
  | false =>
    go_wp2_with fail
    refine (from_out from' _ P2.ga hin).mono ?_
    rintro e w3 ⟨rfl, m, rfl⟩
    go_wp2
    go_ret
    exact ⟨rfl, below_drewN HB _⟩
  | true =>
    have hc : 0 ≤ from' ∧ from' < W * H := of_decide_eq_true hin
    obtain ⟨o, rfl⟩ : ∃ o : Nat, from' = o := ⟨from'.toNat, by omega⟩
    cases hbo : bl o with
    | true =>
      go_wp2_with fail
      refine (from_bl o _ P2.ga hin hbo).mono ?_
      rintro e w3 ⟨rfl, m, rfl⟩
      go_wp2
      go_ret
      exact ⟨rfl, below_drewN HB _⟩
    | false =>
      go_wp2_with fail
      refine (from_ok o _ P2.ga P2.st hin hbo).mono ?_
      rintro e w3 ⟨fb, gb, cb, F, rfl, FA, BF, _, _, _, hb3⟩
      have HB3 : Below w.heap.size w w3 := HB.trans (hb3.mono HB.size)
      have P3 := P2.below hb3
      have hle3 := HB3.size
      clear HB P2 hb3 hz2 s2 hza
      obtain ⟨N, hN⟩ : ∃ N : Nat, W * H = N := ⟨(W * H).toNat, by omega⟩
      have T3 : Two w3 G M fb gb cb W H V bl F := ⟨P3, FA⟩
      clear P3 FA
      go_wp2
      go_loopg [11] N (fun g c wr => ∃ j : Nat, j ≤ N ∧ g = N - j ∧ c = .int .i64 j ∧ Below w3.heap.size w3 wr)
      case atStart => exact ⟨0, Nat.zero_le _, rfl, rfl, Below.refl _ _⟩
      case round =>
        obtain ⟨j, hj, hgj, rfl, hnx⟩ := hrel
        have HGj : Hid (gk = N - j) := hgj
        clear hgj
        have T := T3.below hnx
        have hsz := hnx.size
        have HR : Below w.heap.size w wr := HB3.trans (hnx.mono hle3)
        by_cases hlt : j < N
        · have hjlt : (j : Int) < W * H := by omega
          have hinj : inB W H j = true := decide_eq_true ⟨by omega, by omega⟩
          go_wp2_with (go_at_call 23; refine (cells_b _ T.pr.ga).mono ?_; rintro e w4 ⟨rfl, hb4⟩; have T4 := T.below hb4)
          have hn4 : Below w3.heap.size w3 w4 := hnx.trans (hb4.mono hsz)
          clear hnx hb4 T HR
          cases hFj : F j with
          | none =>
            refine (fcost_none j _ T4.fl hinj hFj).mono ?_
            rintro e w5 ⟨rfl, hb5⟩
            have hn5 : Below w3.heap.size w3 w5 := hn4.trans (hb5.mono hn4.size)
            go_wp2
            go_roundg (N - (j + 1))
            case measure => have := HGj.out; omega
            case rel => exact ⟨j + 1, by omega, rfl, by go_num, hn5.alloc hn5.size _⟩
          | some sd =>
            obtain ⟨s, d⟩ := sd
            refine (fcost_some j _ T4.fl hinj hFj).mono ?_
            rintro e w5 ⟨rfl, hb5⟩
            go_wp2_with fail
            obtain ⟨l, hl⟩ := dirsOf (W := W) (H := H) bl (j : Int) w1
            have hn5 : Below w3.heap.size w3 (w5.alloc (.cells #[.int .i64 s, .int .i64 d] 31)) := (hn4.trans (hb5.mono hn4.size)).alloc (hn4.trans (hb5.mono hn4.size)).size _
            have T5 := T3.below hn5
            have q0 : (w5.alloc (.cells #[.int .i64 s, .int .i64 d] 31)).cell? ⟨w5.heap.size, 0, none⟩ = some (.int .i64 s) := World.cell?_alloc_at (w := w5) #[.int .i64 s, .int .i64 d] 31 w5.heap.size 0 rfl
            have q1 : (w5.alloc (.cells #[.int .i64 s, .int .i64 d] 31)).cell? ⟨w5.heap.size, 1, none⟩ = some (.int .i64 d) := World.cell?_alloc_at (w := w5) #[.int .i64 s, .int .i64 d] 31 w5.heap.size 1 rfl
            have hz5 : w5.heap.size < (w5.alloc (.cells #[.int .i64 s, .int .i64 d] 31)).heap.size := by simp
            generalize hB12 : w5.heap.size = B12 at *
            clear hb5 T4 hn4
            generalize w5.alloc (.cells #[.int .i64 s, .int .i64 d] 31) = W5 at *
            have hsd := (BF.sound hFj).nonneg
            have hsm := val_small hsd.1 hsd.2 (BF.small hFj).2.2
            have hokA : okC s d := by unfold okC; omega
            refine (rmoves_v hl _ T5.pr.ra hinj T5.pr.ml).mono ?_
            rintro e w6 ⟨A1, cap1, rfl, hrow, hb6⟩
            have hn6 : Below w3.heap.size w3 w6 := hn5.trans (hb6.mono hn5.size)
            have T6 := T3.below hn6
            have q0 := (hb6.cell (p := ⟨B12, 0, none⟩) hz5).trans q0
            have q1 := (hb6.cell (p := ⟨B12, 1, none⟩) hz5).trans q1
            have hz6 : B12 < w6.heap.size := Nat.lt_of_lt_of_le hz5 hb6.size
            clear T5 hb6 hz5 hn5
            obtain ⟨L, hL⟩ : ∃ L, l.length = L := ⟨_, rfl⟩
            have HL : Hid (l.length = L) := hL
            have hl8 := hl.len
            rw [hL] at hrow hl8 ⊢
            clear hL
            go_wp2
            go_loopg [15] L (fun g i wr => ∃ q : Nat, q ≤ L ∧ g = L - q ∧ i = .int .i64 q ∧ Below w6.heap.size w6 wr)
            case atStart => exact ⟨0, Nat.zero_le _, rfl, rfl, Below.refl _ _⟩
            case round =>
              obtain ⟨q, hq, hgq, rfl, hnq⟩ := hrel
              have HGq : Hid (gk = L - q) := hgq
              clear hgq
              have Tq := T6.below hnq
              have hzq := hnq.size
              have c0 := (hnq.cell (p := ⟨B12, 0, none⟩) hz6).trans q0
              have c1 := (hnq.cell (p := ⟨B12, 1, none⟩) hz6).trans q1
              by_cases hqlt : q < L
              · have hqlt' : (q : Int) < (L : Int) := by omega
                obtain ⟨bs, os, rfl, hbs, hcell⟩ := hrow q hqlt
                have hcw : wr.cell? ⟨bs, os + q, none⟩ = some (.int .i64 ((l.getD q 0 : Nat) : Int)) := (hnq.cell (p := ⟨bs, os + q, none⟩) hbs).trans hcell
                clear hcell hrow
                have hd8 := hl.lt q (by rw [HL.out]; exact hqlt)
                have hmay : mayB W H bl ((j : Int) % W) ((j : Int) / W) (l.getD q 0) = true := by
                  have h0 : q < (mvs W H bl ((j : Int) % W) ((j : Int) / W) 8).length := by rw [hl.eq, HL.out]; exact hqlt
                  have := (mvs_at h0).2
                  rw [hl.eq] at this
                  exact this
                have hed : Edge W H bl j (l.getD q 0) ((j : Int) + (stepY (l.getD q 0) * W + stepX (l.getD q 0))) := ⟨hd8, hinj, hmay, rfl⟩
                have hti := hed.in' w1
                obtain ⟨s', d', hFt, hle'⟩ := BF.edge hFj hed
                have hsd' := BF.small hFt
                have hsm' := val_small hsd'.1 hsd'.2.1 hsd'.2.2
                have hti2 : 0 ≤ (j : Int) + (stepY (l.getD q 0) * W + stepX (l.getD q 0)) ∧ (j : Int) + (stepY (l.getD q 0) * W + stepX (l.getD q 0)) < W * H := of_decide_eq_true hti
                obtain ⟨tn, htn⟩ : ∃ tn : Nat, (j : Int) + (stepY (l.getD q 0) * W + stepX (l.getD q 0)) = tn := ⟨((j : Int) + (stepY (l.getD q 0) * W + stepX (l.getD q 0))).toNat, by omega⟩
                rw [htn] at hti hFt
                clear hed hmay hti2
                generalize l.getD q 0 = dk at *
                have hst := st_bd dk
                have hokS : okC (stS dk) (stD dk) := by unfold okC; omega
                have hokB : okC s' d' := by unfold okC; omega
                have hokT : okC (s + stS dk) (d + stD dk) := by unfold okC; omega
                have hcmp : cmpC s' d' (s + stS dk) (d + stD dk) ≤ 0 := by
                  rw [cmpC_val _ _ _ _ (by omega) (by omega), val_add]
                  unfold cmpI
                  split
                  · omega
                  · rw [if_neg (by omega)]; omega
                go_wp2_with (first | (go_at_call 25; refine (to_b htn _ Tq.pr.ga Tq.pr.st hd8 (by omega) (by omega)).mono ?_; rintro e w7 ⟨rfl, hb7⟩; have T7 := Tq.below hb7) | (go_at_call 18; refine (fcost_some tn _ T7.fl hti hFt).mono ?_; rintro e w8 ⟨rfl, hb8⟩))
                have hn8 : Below w6.heap.size w6 (w8.alloc (.cells #[.int .i64 s', .int .i64 d'] 31)) := ((hnq.trans (hb7.mono hzq)).trans (hb8.mono (hnq.trans (hb7.mono hzq)).size)).alloc ((hnq.trans (hb7.mono hzq)).trans (hb8.mono (hnq.trans (hb7.mono hzq)).size)).size _
                have hbx : Below wr.heap.size wr (w8.alloc (.cells #[.int .i64 s', .int .i64 d'] 31)) := (hb7.trans (hb8.mono hb7.size)).alloc (hb7.trans (hb8.mono hb7.size)).size _
                have b0 : (w8.alloc (.cells #[.int .i64 s', .int .i64 d'] 31)).cell? ⟨w8.heap.size, 0, none⟩ = some (.int .i64 s') := World.cell?_alloc_at (w := w8) #[.int .i64 s', .int .i64 d'] 31 w8.heap.size 0 rfl
                have b1 : (w8.alloc (.cells #[.int .i64 s', .int .i64 d'] 31)).cell? ⟨w8.heap.size, 1, none⟩ = some (.int .i64 d') := World.cell?_alloc_at (w := w8) #[.int .i64 s', .int .i64 d'] 31 w8.heap.size 1 rfl
                have hz8 : w8.heap.size < (w8.alloc (.cells #[.int .i64 s', .int .i64 d'] 31)).heap.size := by simp
                have c0 := (hbx.cell (p := ⟨B12, 0, none⟩) (Nat.lt_of_lt_of_le hz6 hzq)).trans c0
                have c1 := (hbx.cell (p := ⟨B12, 1, none⟩) (Nat.lt_of_lt_of_le hz6 hzq)).trans c1
                have hcw := (hbx.cell (p := ⟨bs, os + q, none⟩) (Nat.lt_of_lt_of_le hbs hzq)).trans hcw
                have hl12 : B12 < (w8.alloc (.cells #[.int .i64 s', .int .i64 d'] 31)).heap.size := Nat.lt_of_lt_of_le hz6 hn8.size
                have hlbs : bs < (w8.alloc (.cells #[.int .i64 s', .int .i64 d'] 31)).heap.size := Nat.lt_of_lt_of_le hbs hn8.size
                generalize hB16 : w8.heap.size = B16 at *
                clear hb7 hb8 hnq Tq T7 hbx hzq
                generalize w8.alloc (.cells #[.int .i64 s', .int .i64 d'] 31) = W8 at *
                have hrem : Int.tmod (dk : Int) 2 = stD dk := by unfold stD; rw [Int.tmod_eq_emod_of_nonneg (by omega)]; omega
                have hsub : 1 - stD dk = stS dk := by unfold stS stD; omega
                have i1 : (0 : Int) ≤ (q : Int) := by omega
                go_region
                have HBB : Below W8.heap.size W8 (W8.alloc (.cells #[.int .i64 (stS dk), .int .i64 (stD dk)] 31)).drew := by
                  have := (Below.refl W8.heap.size W8).alloc (Nat.le_refl _) (.cells #[.int .i64 (stS dk), .int .i64 (stD dk)] 31)
                  exact ⟨this.os, this.tape, this.output, this.size, this.block⟩
                have hn9 := hn8.trans (HBB.mono hn8.size)
                have e0 : ((W8.alloc (.cells #[.int .i64 (stS dk), .int .i64 (stD dk)] 31)).drew).cell? ⟨W8.heap.size, 0, none⟩ = some (.int .i64 (stS dk)) := World.cell?_alloc_at (w := W8) #[.int .i64 (stS dk), .int .i64 (stD dk)] 31 W8.heap.size 0 rfl
                have e1 : ((W8.alloc (.cells #[.int .i64 (stS dk), .int .i64 (stD dk)] 31)).drew).cell? ⟨W8.heap.size, 1, none⟩ = some (.int .i64 (stD dk)) := World.cell?_alloc_at (w := W8) #[.int .i64 (stS dk), .int .i64 (stD dk)] 31 W8.heap.size 1 rfl
                have CC : Six ((W8.alloc (.cells #[.int .i64 (stS dk), .int .i64 (stD dk)] 31)).drew) B12 B16 W8.heap.size s d s' d' (stS dk) (stD dk) :=
                  ⟨(HBB.cell (p := ⟨B12, 0, none⟩) hl12).trans c0, (HBB.cell (p := ⟨B12, 1, none⟩) hl12).trans c1, (HBB.cell (p := ⟨B16, 0, none⟩) hz8).trans b0, (HBB.cell (p := ⟨B16, 1, none⟩) hz8).trans b1, e0, e1⟩
                clear e0 e1 c0 c1 b0 b1 HBB hn8 hcw
                generalize hB18 : W8.heap.size = B18 at *
                generalize (W8.alloc (.cells #[.int .i64 (stS dk), .int .i64 (stD dk)] 31)).drew = W9 at *
                have hcmp' : ¬ (0 : Int) < cmpC s' d' (s + stS dk) (d + stD dk) := by omega
                have hcv := fun w => compare_v (s := s') (d := d') (t := s + stS dk) (u := d + stD dk) rfl w hokB hokT
                generalize cmpC s' d' (s + stS dk) (d + stD dk) = cr at *
                have CC : Six W9.drew B12 B16 B18 s d s' d' (stS dk) (stD dk) := CC
                have hn9 : Below w6.heap.size w6 W9.drew := ⟨hn9.os, hn9.tape, hn9.output, hn9.size, hn9.block⟩
                go_wp2
                go_region_held3 (fun w' => w'.cell? ⟨B12, 0, none⟩ = some (.int .i64 s) ∧ w'.cell? ⟨B12, 1, none⟩ = some (.int .i64 d) ∧ w'.cell? ⟨B16, 0, none⟩ = some (.int .i64 s') ∧ w'.cell? ⟨B16, 1, none⟩ = some (.int .i64 d') ∧ w'.cell? ⟨B18, 0, none⟩ = some (.int .i64 (stS dk)) ∧ w'.cell? ⟨B18, 1, none⟩ = some (.int .i64 (stD dk))) (first | (exact CC)) (first | (go_at_call 27; refine (add_any s d (stS dk) (stD dk) _ hokA hokS).mono ?_; rintro e wx ⟨rfl, hbx⟩; have CC := CC.below hbx; have hn9 := hn9.trans (hbx.mono hn9.size)) | (go_at_call 26; refine (hcv _).mono ?_; rintro e wx ⟨rfl, hbx⟩; have CC := CC.below hbx; have hn9 := hn9.trans (hbx.mono hn9.size)))
                clear CC hcv
                go_wp2
                go_roundg (L - (q + 1))
                case measure => have := HGq.out; omega
                case rel => exact ⟨q + 1, by omega, rfl, by go_num, hn9⟩
              · have : q = L := by omega
                subst this
                have hbj : bl j = false := by
                  have := wk_free (bl := bl) (o := (o : Int)) (by simpa using hbo) (BF.sound hFj)
                  simpa using this
                clear hrow hl HL hokA
                go_wp2_with fail
                refine (from_ok j _ Tq.pr.ga Tq.pr.st hinj hbj).mono ?_
                rintro e w7 ⟨fb2, gb2, cb2, F2, rfl, FA2, BF2, _, _, _, hb7⟩
                have hsym := BF.sym w1 BF2 hFj
                have hn7 := hnq.trans (hb7.mono hzq)
                have c0 := (hb7.cell (p := ⟨B12, 0, none⟩) (Nat.lt_of_lt_of_le hz6 hzq)).trans c0
                have c1 := (hb7.cell (p := ⟨B12, 1, none⟩) (Nat.lt_of_lt_of_le hz6 hzq)).trans c1
                have r0 := (Tq.below hb7).pr.ra.c0
                clear Tq hnq hb7 BF2
                go_wp2_with (go_at_call 18; refine (fcost_some o _ FA2 hin hsym).mono ?_; rintro e w8 ⟨rfl, hb8⟩)
                have hn8 : Below w6.heap.size w6 (w8.alloc (.cells #[.int .i64 s, .int .i64 d] 31)) := (hn7.trans (hb8.mono hn7.size)).alloc (hn7.trans (hb8.mono hn7.size)).size _
                have hbx : Below w7.heap.size w7 (w8.alloc (.cells #[.int .i64 s, .int .i64 d] 31)) := hb8.alloc hb8.size _
                have CC : Five (w8.alloc (.cells #[.int .i64 s, .int .i64 d] 31)) B12 w8.heap.size M s d s d W := by
                  have k : ∀ {a : Addr} {v : Value}, w7.cell? a = some v → (w8.alloc (.cells #[.int .i64 s, .int .i64 d] 31)).cell? a = some v := fun {a v} h => (hbx.cell (World.block_lt_of_cell? w7 a h)).trans h
                  exact ⟨k c0, k c1, World.cell?_alloc_at (w := w8) #[.int .i64 s, .int .i64 d] 31 w8.heap.size 0 rfl, World.cell?_alloc_at (w := w8) #[.int .i64 s, .int .i64 d] 31 w8.heap.size 1 rfl, k r0⟩
                clear hb8 FA2 hbx c0 c1 r0 hn7 hzq
                generalize hB20 : w8.heap.size = B20 at *
                generalize w8.alloc (.cells #[.int .i64 s, .int .i64 d] 31) = W8 at *
                have hlow := oct_low w1 (BF.sound hFj)
                have hoc := fun w => topOct W o j w w1 w2' (by omega) (by omega)
                have hdn := dst_nonneg (dst ((o : Int) % W) ((j : Int) % W)) (dst ((o : Int) / W) ((j : Int) / W))
                have hln := les_nonneg (dst_nonneg ((o : Int) % W) ((j : Int) % W)) (dst_nonneg ((o : Int) / W) ((j : Int) / W))
                generalize dst (dst ((o : Int) % W) ((j : Int) % W)) (dst ((o : Int) / W) ((j : Int) / W)) = qs at *
                generalize les (dst ((o : Int) % W) ((j : Int) % W)) (dst ((o : Int) / W) ((j : Int) / W)) = qd at *
                have hqm := val_small hdn hln (by have := (BF.small hFj).2.2; omega)
                have hokA : okC s d := by unfold okC; omega
                have hokQ : okC qs qd := by unfold okC; omega
                have hcmp : ¬ cmpC s d qs qd < 0 := by
                  rw [cmpC_val _ _ _ _ (by omega) (by omega), cmpI_neg]
                  omega
                have hcv := fun w => compare_v (s := s) (d := d) (t := qs) (u := qd) rfl w hokA hokQ
                generalize cmpC s d qs qd = cr at *
                have CC : Five W8.drew B12 B20 M s d s d W := CC
                have hn8 : Below w6.heap.size w6 W8.drew := ⟨hn8.os, hn8.tape, hn8.output, hn8.size, hn8.block⟩
                go_region_held3 (fun w' => w'.cell? ⟨B12, 0, none⟩ = some (.int .i64 s) ∧ w'.cell? ⟨B12, 1, none⟩ = some (.int .i64 d) ∧ w'.cell? ⟨B20, 0, none⟩ = some (.int .i64 s) ∧ w'.cell? ⟨B20, 1, none⟩ = some (.int .i64 d) ∧ w'.cell? ⟨M, 0, none⟩ = some (.int .i64 W)) (first | (exact CC)) (first | (go_at_call 28; refine (hoc _).mono ?_; rintro e wx ⟨rfl, hbx⟩; have CC := CC.below hbx; have hn8 := hn8.trans (hbx.mono hn8.size)) | (go_at_call 26; refine (hcv _).mono ?_; rintro e wx ⟨rfl, hbx⟩; have CC := CC.below hbx; have hn8 := hn8.trans (hbx.mono hn8.size)))
                clear CC hcv hoc
                have Tx := T6.below hn8
                have hnx : Below w3.heap.size w3 wx := hn6.trans (hn8.mono hn6.size)
                by_cases hbig : (64 : Int) < W * H
                · by_cases hj20 : (20 : Int) < (j : Int)
                  · go_wp2_with (go_at_call 23; refine (cells_b _ Tx.pr.ga).mono ?_; rintro e wz ⟨rfl, hbz⟩; have hnz := hnx.trans (hbz.mono hnx.size))
                    go_ret
                    exact ⟨rfl, HB3.trans (hnz.mono hle3)⟩
                  · go_wp2_with (go_at_call 23; refine (cells_b _ Tx.pr.ga).mono ?_; rintro e wz ⟨rfl, hbz⟩; have hnz := hnx.trans (hbz.mono hnx.size))
                    go_roundg (N - (j + 1))
                    case measure => have := HGj.out; omega
                    case rel => exact ⟨j + 1, by omega, rfl, by go_num, hnz⟩
                · go_wp2_with (go_at_call 23; refine (cells_b _ Tx.pr.ga).mono ?_; rintro e wz ⟨rfl, hbz⟩; have hnz := hnx.trans (hbz.mono hnx.size))
                  go_roundg (N - (j + 1))
                  case measure => have := HGj.out; omega
                  case rel => exact ⟨j + 1, by omega, rfl, by go_num, hnz⟩
        · have : j = N := by omega
          subst this
          have hjn : ¬ (j : Int) < W * H := by omega
          go_wp2_with (go_at_call 23; refine (cells_b _ T.pr.ga).mono ?_; rintro e w4 ⟨rfl, hb4⟩)
          go_ret
          exact ⟨rfl, HR.trans (hb4.mono HR.size)⟩
end Go.Proofs.YtfhicijgpdpfpaaDoor
