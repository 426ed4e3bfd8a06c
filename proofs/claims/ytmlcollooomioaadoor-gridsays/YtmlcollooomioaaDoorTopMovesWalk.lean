/-
  The walk of 'TopMoves': it returns true for every plot.
-/
import Derived.Test.YtmlcollooomioaaDoorLaid
import Derived.Test.YtmlcollooomioaaDoorBack
import Derived.Deep.LoopGhost
import Derived.Deep.Light
namespace Go.Proofs.YtmlcollooomioaaDoor
open Go.RowKit

theorem OldRow.below {w w' : World} {A : Option Addr} {n : Nat} {xs : Nat → Int} (h : OldRow w A n xs) (hb : Below w.heap.size w w') : OldRow w' A n xs := fun i hi => by
  obtain ⟨b, o, e, hlt, hc⟩ := h i hi
  exact ⟨b, o, e, Nat.lt_of_lt_of_le hlt hb.size, (hb.cell (p := ⟨b, o + i, none⟩) hlt).trans hc⟩

theorem OldRow.drewN {w : World} {A : Option Addr} {n : Nat} {xs : Nat → Int} (h : OldRow w A n xs) (m : Nat) : OldRow (w.drewN m) A n xs := h

/-- a list of directions as a row -/
theorem row_of {w : World} {base : Nat} {v : Value} {l : List Nat} (h : w.ownsRow base 3 1 v l.length (vals l)) : ∃ A cap, v = .slice A l.length cap ∧ OldRow w A l.length (fun i => (l.getD i 0 : Nat)) := by
  rcases h.2 with ⟨hv, h0⟩ | ⟨g, cap, cur, hv, hb, hg, _, _, hsz, htk⟩
  · refine ⟨none, 0, by rw [h0]; exact hv, fun i hi => absurd hi (by omega)⟩
  · refine ⟨_, cap, hv, fun i hi => ⟨g, 0, rfl, (Array.getElem?_eq_some_iff.1 hg).1, ?_⟩⟩
    subst hv
    have := h.cellAt i (by omega)
    rw [Nat.zero_add, this]
    rw [List.getElem?_map, List.getElem?_eq_getElem hi]
    show _ = some (Value.int .i64 ((l.getD i 0 : Nat) : Int))
    rw [getD_at _ _ hi]
    rfl

set_option maxHeartbeats 1000000 in
theorem topMoves_none (W H : Int) (A : Option Addr) (n cap : Nat) (w : World) (s : StepsAt w) (h0 : 0 < w.heap.size)
    (hL : ∀ w' : World, Calls Tryd.prog 20 #[.agg #[.int .i64 W, .int .i64 H, .slice A n cap]] w' fun e w'' => e = .returned (.tuple #[.pointer none, .pointer none, .bool false]) ∧ Below w'.heap.size w' w'') :
    Calls Tryd.prog 5 #[.agg #[.int .i64 W, .int .i64 H, .slice A n cap]] w fun e w' => e = .returned (.bool true) ∧ Below w.heap.size w w' := by
  have hs2 : sideB 2 = true := by decide
  have hs1 : sideB 1 = true := by decide
  have hG := gridAt_new 2 1 (w.alloc (.cells #[.int .i64 W, .int .i64 H, .slice A n cap] 49)) hs2 hs1
  have hm : mayB 2 1 (fun _ => false) 0 0 2 = true := by decide
  have hb : Below w.heap.size w ((w.alloc (.cells #[.int .i64 W, .int .i64 H, .slice A n cap] 49)).alloc (.cells (gridC 2 1) 65)) := ((Below.refl _ _).alloc (Nat.le_refl _) _).alloc (by simp) _
  have hs := s.below hb h0
  have e1 : (w.alloc (.cells #[.int .i64 W, .int .i64 H, .slice A n cap] 49)).heap.size = w.heap.size + 1 := by simp
  rw [e1] at hG
  clear e1
  go_enter Tryd.func5, Tryd.ntmps5
  go_wp2_with (first | (go_at_call 12; refine (new_ok _ _ _ hs2 hs1).mono ?_; rintro e w' ⟨rfl, rfl⟩) | (go_at_call 19; refine (may_v (d := 2) hm _ hG hs (by decide) (by decide) (by decide) (by decide) (by decide)).mono ?_; rintro e w' ⟨rfl, m, rfl⟩) | (go_at_call 20; refine (hL _).mono ?_; rintro e w2 ⟨rfl, hb2⟩))
  go_ret
  exact ⟨rfl, (below_drewN hb _).trans (hb2.mono (by simp; omega))⟩

theorem Calls.quiet_off {P : Program} {f : FuncId} {args : Array Value} {w : World} {a n : Nat} {v : Value}
    (h : Calls P f args (w.drewN (a + n)) fun e w' => e = .returned v ∧ ∃ m, w' = (w.drewN (a + n)).drewN m) : Calls P f args (w.drewN (a + n)) fun e w'' => e = .returned v ∧ ∃ m, w'' = w.drewN (a + m) :=
  h.mono fun _ _ ⟨he, m, hm⟩ => ⟨he, n + m, by rw [hm, World.drewN_drewN, Nat.add_assoc]⟩

/-- the directions from a cell: a short rising list, each below 8, each with a way back -/
structure DirsOf (W H : Int) (bl : Nat → Bool) (c : Int) (l : List Nat) : Prop where
  eq : mvs W H bl (c % W) (c / W) 8 = l
  len : l.length ≤ 8
  lt : ∀ i, i < l.length → l.getD i 0 < 8
  rise : ∀ i, 0 < i → i < l.length → l.getD (i - 1) 0 < l.getD i 0
  back : ∀ i, i < l.length → inB W H (c + (stepY (l.getD i 0) * W + stepX (l.getD i 0))) = true ∧
    ∀ l', mvs W H bl ((c + (stepY (l.getD i 0) * W + stepX (l.getD i 0))) % W) ((c + (stepY (l.getD i 0) * W + stepX (l.getD i 0))) / W) 8 = l' → ∃ j, j < l'.length ∧ l'.getD j 0 = opp (l.getD i 0)

theorem dirsOf {W H : Int} (bl : Nat → Bool) (c : Int) (w1 : 1 ≤ W) : ∃ l, DirsOf W H bl c l :=
  ⟨_, rfl, mvs_len _ _ _ _ _ _, fun _ hi => (mvs_at hi).1, fun _ h0 hi => mvs_rise h0 hi, fun _ hi => ⟨(back_facts w1 (mvs_at hi).1 (mvs_at hi).2).1, fun _ e => e ▸ (back_facts w1 (mvs_at hi).1 (mvs_at hi).2).2⟩⟩

theorem moves_v {b : Nat} {W H V c : Int} {bl : Nat → Bool} {l : List Nat} (hl : DirsOf W H bl c l) (w : World) (g : GridAt w b W H V bl) (s : StepsAt w) (hr : inB W H c = true) (hb : b < w.heap.size) :
    Calls Tryd.prog 22 #[.pointer (some ⟨b, 0, none⟩), .int .i64 c] w fun e w' => ∃ A cap, e = .returned (.tuple #[.slice A l.length cap, .nilIface]) ∧ OldRow w' A l.length (fun i => (l.getD i 0 : Nat)) ∧ Below w.heap.size w w' :=
  (moves_in c w g s hr hb).mono fun e w' ⟨v, he, hown, hbl⟩ => by
    rw [hl.eq] at hown
    obtain ⟨A, cap, rfl, hrow⟩ := row_of hown
    exact ⟨A, cap, he, hrow, hbl⟩

set_option maxHeartbeats 4000000 in
set_option maxRecDepth 1000000 in
theorem topMoves_ok (W H : Int) (A : Option Addr) (n cap : Nat) (xs : Nat → Int) (w : World) (s : StepsAt w) (h0 : 0 < w.heap.size) (hn : ¬ 300 < (n : Int)) (h : sideB W = true) (k : sideB H = true) (hx : OldRow w A n xs) :
    Calls Tryd.prog 5 #[.agg #[.int .i64 W, .int .i64 H, .slice A n cap]] w fun e w' => e = .returned (.bool true) ∧ Below w.heap.size w w' := by
  have hs2 : sideB 2 = true := by decide
  have hs1 : sideB 1 = true := by decide
  have hG := gridAt_new 2 1 (w.alloc (.cells #[.int .i64 W, .int .i64 H, .slice A n cap] 49)) hs2 hs1
  have hm : mayB 2 1 (fun _ => false) 0 0 2 = true := by decide
  have hb : Below w.heap.size w ((w.alloc (.cells #[.int .i64 W, .int .i64 H, .slice A n cap] 49)).alloc (.cells (gridC 2 1) 65)) := ((Below.refl _ _).alloc (Nat.le_refl _) _).alloc (by simp) _
  have hs := s.below hb h0
  have hxb := hx.below hb
  have e1 : (w.alloc (.cells #[.int .i64 W, .int .i64 H, .slice A n cap] 49)).heap.size = w.heap.size + 1 := by simp
  rw [e1] at hG
  clear e1
  go_enter Tryd.func5, Tryd.ntmps5
  go_wp2_with (first | (go_at_call 12; refine (new_ok _ _ _ hs2 hs1).mono ?_; rintro e w' ⟨rfl, rfl⟩) | (go_at_call 19; refine (may_v (d := 2) hm _ hG hs (by decide) (by decide) (by decide) (by decide) (by decide)).mono ?_; rintro e w' ⟨rfl, m, rfl⟩) | (go_at_call 20; refine (laid_ok _ _ _ _ _ xs _ (by omega) h k (hxb.drewN _)).mono ?_; rintro e w2 ⟨rfl, hb2, hz2, V, bl, hV, hB⟩))
  have sz2 : w.heap.size + 5 = w2.heap.size := by rw [hz2]; simp
  have HB : Below w.heap.size w w2 := (below_drewN hb _).trans (hb2.mono (by simp; omega))
  have s2 : StepsAt w2 := s.below HB h0
  have g2 := hB.ga
  have w1 := g2.w1
  obtain ⟨k1, k2⟩ := wh_bd g2.w1 g2.w2 g2.h1 g2.h2
  have eG : ((((w.alloc (.cells #[.int .i64 W, .int .i64 H, .slice A n cap] 49)).alloc (.cells (gridC 2 1) 65))).drewN m).heap.size + 1 = w.heap.size + 1 + 1 + 1 := by simp
  rw [eG] at g2
  clear eG hB hb2 hz2 hb hs hG hx hxb s hm hs1 hs2 hn h k
  generalize hGN : w.heap.size + 1 + 1 + 1 = G at *
  have hGlt : G < w2.heap.size := by omega
  have hle2 : w.heap.size ≤ w2.heap.size := by omega
  clear hGN sz2
  have hc256 : W * H ≤ 256 := k2
  obtain ⟨N, hN⟩ : ∃ N : Nat, W * H = N := ⟨(W * H).toNat, by omega⟩
  go_loopg [8] N (fun g c wr => ∃ j : Nat, j ≤ N ∧ g = N - j ∧ c = .int .i64 j ∧ Below w2.heap.size w2 wr)
  case atStart => exact ⟨0, Nat.zero_le _, rfl, rfl, Below.refl _ _⟩
  case round =>
    obtain ⟨j, hj, hgj, rfl, hnx⟩ := hrel
    have gr := g2.below hnx hGlt
    have sr := s2.below hnx (by omega)
    have hsz := hnx.size
    by_cases hlt : j < N
    · obtain ⟨l, hl⟩ := dirsOf (W := W) (H := H) bl (j : Int) w1
      have hin : inB W H j = true := decide_eq_true ⟨by omega, by omega⟩
      have HGj : Hid (gk = N - j) := hgj
      clear hgj
      have hl8 := hl.len
      go_wp2_with (first | (go_at_call 21; refine (cells_any _ gr).mono ?_; rintro e w' ⟨rfl, m1, rfl⟩) | (go_at_call 22; refine (moves_v hl _ (gr.drewN _) (sr.drewN _) hin (by simp; omega)).mono ?_; rintro e w3 ⟨A1, cap1, rfl, hrow, hb3⟩))
      have hsz3 := hb3.size
      simp only [World.heap_drewN] at hsz3
      have hbx : Below w2.heap.size w2 w3 := (below_drewN hnx m1).trans ((hb3.mono (by simp; omega)))
      have hsz23 := hbx.size
      have g3 := g2.below hbx hGlt
      have s3 := s2.below hbx (by omega)
      obtain ⟨L, hL⟩ : ∃ L, l.length = L := ⟨_, rfl⟩
      have HL : Hid (l.length = L) := hL
      rw [hL] at hrow hl8 ⊢
      clear hL gr sr hb3 hnx hsz
      go_loopg [11] L (fun g i wr => ∃ q : Nat, q ≤ L ∧ g = L - q ∧ i = .int .i64 q ∧ Below w3.heap.size w3 wr)
      case atStart => exact ⟨0, Nat.zero_le _, rfl, rfl, Below.refl _ _⟩
      case round =>
        obtain ⟨q, hq, hgq, rfl, hn4⟩ := hrel
        have HGq : Hid (gk = L - q) := hgq
        clear hgq
        have gr := g3.below hn4 (by omega)
        have sr := s3.below hn4 (by omega)
        have hsz4 := hn4.size
        by_cases hqlt : q < L
        · obtain ⟨ba, oa, rfl, hba, hcell⟩ := hrow q hqlt
          have hd8 := hl.lt q (by rw [HL.out]; exact hqlt)
          obtain ⟨hto, hbk⟩ := hl.back q (by rw [HL.out]; exact hqlt)
          have hri := fun h0 => hl.rise q h0 (by rw [HL.out]; exact hqlt)
          have hprev : 0 < q → wr.cell? ⟨ba, oa + (q - 1), none⟩ = some (.int .i64 ((l.getD (q - 1) 0 : Nat) : Int)) := fun h0 => by
            obtain ⟨b', o', e, hlt', hc'⟩ := hrow (q - 1) (by omega)
            cases e
            exact (hn4.cell (p := ⟨ba, oa + (q - 1), none⟩) hlt').trans hc'
          have hcw : wr.cell? ⟨ba, oa + q, none⟩ = some (.int .i64 ((l.getD q 0 : Nat) : Int)) := (hn4.cell (p := ⟨ba, oa + q, none⟩) hba).trans hcell
          have hrw : OldRow wr (some ⟨ba, oa, none⟩) L (fun i => (l.getD i 0 : Nat)) := hrow.below hn4
          clear hcell hrow
          generalize l.getD q 0 = d at *
          generalize l.getD (q - 1) 0 = d0 at *
          have i1 : (0 : Int) ≤ (q : Int) := by omega
          have i2 : (q : Int) < (L : Int) := by omega
          obtain ⟨l', hl'⟩ := dirsOf (W := W) (H := H) bl (j + (stepY d * W + stepX d)) w1
          obtain ⟨jx, hjx, hjo⟩ := hbk l' hl'.eq
          have hto2 : 0 ≤ j + (stepY d * W + stepX d) ∧ j + (stepY d * W + stepX d) < W * H := of_decide_eq_true hto
          have hh := back_home (W := W) (c := (j : Int)) hd8
          have ho4 := opp_four d hd8
          rw [← hjo] at hh ho4
          have hl8' := hl'.len
          have hlt' := hl'.lt
          have hT := fun w g s => to_any (b := G) (W := W) (H := H) (V := V) (bl := bl) (j : Int) d w g s hd8 (by omega) (by omega)
          generalize hto3 : (j : Int) + (stepY d * W + stepX d) = to at *
          have HX : Hid (to + (stepY (l'.getD jx 0) * W + stepX (l'.getD jx 0)) = (j : Int)) := hh
          have HY : Hid (((l'.getD jx 0 : Nat) - (d : Int)).tmod 4 = 0) := ho4
          clear hto3 hbk hjo hh ho4
          go_wp2_with (first | (go_at_call 23; refine (hT _ gr sr).mono ?_; rintro e w' ⟨rfl, m2, rfl⟩) | (go_at_call 22; refine (moves_v hl' _ (gr.drewN _) (sr.drewN _) hto (by simp; omega)).mono ?_; rintro e w4 ⟨A2, cap2, rfl, hrow2, hb4⟩))
          have hsz44 := hb4.size
          simp only [World.heap_drewN] at hsz44
          have hb34 : Below w3.heap.size w3 w4 := (below_drewN hn4 m2).trans (hb4.mono (by simp; omega))
          have g4 := g3.below hb34 (by omega)
          have s4 := s3.below hb34 (by omega)
          have c4q : w4.cell? ⟨ba, oa + q, none⟩ = some (.int .i64 (d : Int)) := (hb4.cell (p := ⟨ba, oa + q, none⟩) (by simp; omega)).trans hcw
          have c4p : 0 < q → w4.cell? ⟨ba, oa + (q - 1), none⟩ = some (.int .i64 (d0 : Int)) := fun h0 => (hb4.cell (p := ⟨ba, oa + (q - 1), none⟩) (by simp; omega)).trans (hprev h0)
          have HP : Hid (0 < q → w4.cell? ⟨ba, oa + (q - 1), none⟩ = some (.int .i64 (d0 : Int))) := c4p
          have HR : Hid (0 < q → d0 < d) := hri
          obtain ⟨L', hL'⟩ : ∃ L', l'.length = L' := ⟨_, rfl⟩
          have HL' : Hid (l'.length = L') := hL'
          rw [hL'] at hrow2 hl8' hjx ⊢
          clear hL' c4p hri hprev hcw hb4 hrw hT hto hsz4 gr sr hn4
          go_loopg [15, 16] L' (fun g f k wr => ∃ (p : Nat) (fb : Bool), p ≤ L' ∧ g = L' - p ∧ k = .int .i64 p ∧ f = .bool fb ∧ (jx < p → fb = true) ∧ ∃ m, wr = w4.drewN m)
          case atStart => exact ⟨0, false, Nat.zero_le _, rfl, rfl, rfl, fun h => absurd h (Nat.not_lt_zero _), 0, rfl⟩
          case round =>
            obtain ⟨p, fb, hp, hgp, rfl, rfl, hfb, m4, rfl⟩ := hrel
            have HGp : Hid (gk = L' - p) := hgp
            have HF : Hid (jx < p → fb = true) := hfb
            clear hgp hfb
            by_cases hplt : p < L'
            · obtain ⟨b2, o2, rfl, hlt2, hc2⟩ := hrow2 p hplt
              have hd8' := hlt' p (by rw [HL'.out]; exact hplt)
              have hc3 : w4.cell? ⟨b2, o2 + p, none⟩ = some (.int .i64 ((l'.getD p 0 : Nat) : Int)) := hc2
              clear hc2
              have p1 : (0 : Int) ≤ (p : Int) := by omega
              have p2 : (p : Int) < (L' : Int) := by omega
              cases fb with
              | true =>
                go_wp2
                go_quiet (fail)
                go_wp2
                go_roundg (L' - (p + 1))
                case measure => have := HGp.out; omega
                case rel => exact ⟨p + 1, true, by omega, rfl, by go_num, rfl, fun _ => rfl, _, rfl⟩
              | false =>
                have hT2 := fun w g s => to_any (b := G) (W := W) (H := H) (V := V) (bl := bl) to (l'.getD p 0) w g s hd8' (by omega) (by omega)
                have hxx : p = jx → to + (stepY (l'.getD p 0) * W + stepX (l'.getD p 0)) = (j : Int) := fun e => by rw [e]; exact HX.out
                have hyy : p = jx → ((l'.getD p 0 : Nat) - (d : Int)).tmod 4 = 0 := fun e => by rw [e]; exact HY.out
                generalize to + (stepY (l'.getD p 0) * W + stepX (l'.getD p 0)) = r at *
                generalize l'.getD p 0 = d' at *
                have hx1 : Hid (p = jx → r = (j : Int)) := hxx
                have hy1 : Hid (p = jx → ((d' : Int) - (d : Int)).tmod 4 = 0) := hyy
                clear hxx hyy HX HY
                by_cases hrj : r = (j : Int)
                · subst hrj
                  go_wp2
                  go_quiet ((go_at_call 23; exact Calls.quiet_off (hT2 _ (g4.drewN _) (s4.drewN _))))
                  go_wp2
                  go_roundg (L' - (p + 1))
                  case measure => have := HGp.out; omega
                  case rel =>
                    refine ⟨p + 1, _, by omega, rfl, by go_num, rfl, fun hj => ?_, _, rfl⟩
                    rcases Nat.lt_succ_iff_lt_or_eq.mp hj with h | h
                    · exact absurd (HF.out h) (by simp)
                    · have := hy1.out h.symm
                      simp [this]
                · have hrb : (r == (j : Int)) = false := by simpa using hrj
                  go_wp2
                  go_quiet ((go_at_call 23; exact Calls.quiet_off (hT2 _ (g4.drewN _) (s4.drewN _))))
                  go_wp2
                  go_roundg (L' - (p + 1))
                  case measure => have := HGp.out; omega
                  case rel =>
                    refine ⟨p + 1, false, by omega, rfl, by go_num, rfl, fun hj => ?_, _, rfl⟩
                    rcases Nat.lt_succ_iff_lt_or_eq.mp hj with h | h
                    · exact HF.out h
                    · exact absurd (hx1.out h.symm) hrj
            · have : p = L' := by omega
              subst this
              obtain rfl : fb = true := HF.out hjx
              have hri := HR.out
              have hpc := HP.out
              by_cases hq0 : q = 0
              · subst hq0
                clear hri hpc
                go_wp2
                go_quiet (fail)
                go_wp2
                go_roundg (L - (0 + 1))
                case measure => have := HGq.out; omega
                case rel => exact ⟨0 + 1, by omega, rfl, by go_num, below_drewN hb34 _⟩
              · have hlt := hri (by omega)
                have hpp := hpc (by omega)
                have hdd : (d0 : Int) < (d : Int) := by omega
                have hz1 : decide ((0 : Int) < (q : Int)) = true := decide_eq_true (by omega)
                have hz2 : decide (0 < q) = true := decide_eq_true (by omega)
                have hti : ((q : Int) - 1).toNat = q - 1 := by omega
                have j1 : (0 : Int) ≤ (q : Int) - 1 := by omega
                have j2 : (q : Int) - 1 < (L : Int) := by omega
                clear hri hpc
                go_wp2
                go_quiet (fail)
                go_wp2
                go_roundg (L - (q + 1))
                case measure => have := HGq.out; omega
                case rel => exact ⟨q + 1, by omega, rfl, by go_num, below_drewN hb34 _⟩
        · have : q = L := by omega
          subst this
          go_wp2
          go_roundg (N - (j + 1))
          case measure => have := HGj.out; omega
          case rel => exact ⟨j + 1, by omega, rfl, by go_num, hbx.trans (hn4.mono (by omega))⟩
    · have : j = N := by omega
      subst this
      go_wp2_with (go_at_call 21; refine (cells_any _ gr).mono ?_; rintro e w' ⟨rfl, m1, rfl⟩)
      go_ret
      exact ⟨rfl, below_drewN (HB.trans (hnx.mono (by omega))) _⟩
end Go.Proofs.YtmlcollooomioaaDoor
