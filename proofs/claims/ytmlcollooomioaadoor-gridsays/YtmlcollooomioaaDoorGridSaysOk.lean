/-
  The walk of 'GridSays' where the size may be so.
-/
import Derived.Test.YtmlcollooomioaaDoorGridSaysWalk
namespace Go.Proofs.YtmlcollooomioaaDoor
open Go.RowKit

theorem both_new2 (W H : Int) (h : sideB W = true) (k : sideB H = true) (w : World) :
    Both ((w.alloc (.cells (gridC W H) 65)).alloc (.cells (refC W H) 67)) w.heap.size (w.heap.size + 1) W H 0 (fun _ => false) := by
  have e2 : w.heap.size + 1 = (w.alloc (.cells (gridC W H) 65)).heap.size := by simp
  refine ⟨?_, ?_, ?_, ?_, by omega, by omega⟩
  · exact (gridAt_new W H w h k).below ((Below.refl _ _).alloc (Nat.le_refl _) _) (by simp)
  · intro o
    rw [frozen?_alloc_cells]
    exact free_alloc w _ _ _ (Nat.le_refl _) o
  · rw [e2]; exact refAt_new W H _ h k
  · exact free_alloc _ _ _ _ (by simp)

theorem OldBools.below {w w' : World} {A : Option Addr} {n : Nat} {xs : Nat → Bool} (h : OldBools w A n xs) (hb : Below w.heap.size w w') : OldBools w' A n xs := fun i hi => by
  obtain ⟨b, o, e, hlt, hc⟩ := h i hi
  exact ⟨b, o, e, Nat.lt_of_lt_of_le hlt hb.size, (hb.cell (p := ⟨b, o + i, none⟩) hlt).trans hc⟩
theorem Free.below {w w' : World} {b B : Nat} (f : Free w b) (hb : Below B w w') (h : b < B) : Free w' b := fun o => (hb.frozen (p := ⟨b, o, none⟩) h).trans (f o)
theorem Both.below {w w' : World} {g m B : Nat} {W H V : Int} {bl : Nat → Bool} (h : Both w g m W H V bl) (hb : Below B w w') (hg : g < B) (hm : m < B) : Both w' g m W H V bl :=
  ⟨h.ga.below hb hg, h.gf.below hb hg, h.ra.below hb hm, h.rf.below hb hm, h.v1, h.ne⟩

theorem Pair.touch {w w' : World} {g m c : Nat} {W H V : Int} {bl : Nat → Bool} (h : Pair w g m W H V bl) (T : Touch c w w') (hg : g ≠ c) (hm : m ≠ c) (h0 : 0 ≠ c) : Pair w' g m W H V bl :=
  ⟨h.ga.touch T hg, h.ra.touch T hm, by rw [T.size]; exact h.gl, by rw [T.size]; exact h.ml, fun i hi => ⟨(T.cell (p := ⟨0, 2 * i, none⟩) h0).trans (h.st i hi).1, (T.cell (p := ⟨0, 2 * i + 1, none⟩) h0).trans (h.st i hi).2⟩, by rw [T.size]; exact h.z⟩

set_option maxHeartbeats 8000000 in
set_option maxRecDepth 1000000 in
theorem gridSays_ok (W H : Int) (A B : Option Addr) (n ca k cb : Nat) (xs : Nat → Int) (ys : Nat → Bool) (w : World) (s : StepsAt w) (h0 : 0 < w.heap.size) (h1 : ¬ 200 < (n : Int)) (h2 : ¬ 200 < (k : Int)) (hW : sideB W = true) (hH : sideB H = true) (hx : OldRow w A n xs) (hy : OldBools w B k ys) :
    Calls Tryd.prog 4 #[.int .i64 W, .int .i64 H, .slice A n ca, .slice B k cb] w fun e w' => e = .returned (.bool true) ∧ Below w.heap.size w w' := by
  have a : 1 ≤ W ∧ W ≤ 16 := of_decide_eq_true hW
  have b : 1 ≤ H ∧ H ≤ 16 := of_decide_eq_true hH
  go_enter Tryd.func4, Tryd.ntmps4
  go_wp2_with (go_at_call 9; refine (grounds_any _ s h0).mono ?_; rintro e w1 ⟨rfl, hb1⟩)
  have s1 := s.below hb1 h0
  go_loopg [10] 8 (fun q i wr => ∃ j : Nat, j ≤ 8 ∧ q = 8 - j ∧ i = .int .i64 j ∧ ∃ m, wr = w1.drewN m)
  case atStart => exact ⟨0, by omega, rfl, rfl, 0, rfl⟩
  case round =>
    obtain ⟨j, hj, hgj, rfl, m, rfl⟩ := hrel
    have HG : Hid (gk = 8 - j) := hgj
    clear hgj
    by_cases hlt : j < 8
    · go_wp2_with (first | (go_at_call 10; refine (step_any _ _ (s1.drewN _) hlt).mono ?_; rintro e w' ⟨rfl, m1, rfl⟩) | (go_at_call 11; refine (rstep_d _ _ hlt).mono ?_; rintro e w' ⟨rfl, m1, rfl⟩))
      go_roundg (8 - (j + 1))
      case measure => have := HG.out; omega
      case rel => exact ⟨j + 1, by omega, rfl, by go_num, _, rfl⟩
    · have hBn := both_new2 W H hW hH (w1.drewN m)
      have hz1 := hb1.size
      have hBel : Below w.heap.size w (((w1.drewN m).alloc (.cells (gridC W H) 65)).alloc (.cells (refC W H) 67)) := ((below_drewN hb1 m).alloc (by simp; omega) _).alloc (by simp; omega) _
      go_wp2_with (first | (go_at_call 12; refine (new_ok _ _ _ hW hH).mono ?_; rintro e w' ⟨rfl, rfl⟩) | (go_at_call 13; refine (rnew_ok _ _ _ a.1 a.2 b.1 b.2).mono ?_; rintro e w' ⟨rfl, rfl⟩))
      have hBn2 : Both (((w1.drewN m).alloc (.cells (gridC W H) 65)).alloc (.cells (refC W H) 67)) w1.heap.size (w1.heap.size + 1) W H 0 (fun _ => false) := hBn
      clear hBn HG hj hlt
      go_loopg [19] 200 (fun q i wr => ∃ (p : Nat) (V : Int) (bl : Nat → Bool), p ≤ 200 ∧ q = 200 - p ∧ i = .int .i64 p ∧ V ≤ p ∧ Both wr w1.heap.size (w1.heap.size + 1) W H V bl ∧ Below w.heap.size w wr ∧ wr.heap.size = w1.heap.size + 2)
      case atStart => exact ⟨0, 0, fun _ => false, by omega, rfl, rfl, by omega, hBn2, hBel, by simp⟩
      case round =>
        obtain ⟨p, V, bl, hp, hgp, rfl, hV, hB, hnx, hsz⟩ := hrel
        have HGp : Hid (gk = 200 - p) := hgp
        have HSZ : Hid (wr.heap.size = w1.heap.size + 2) := hsz
        have hGl : w1.heap.size < wr.heap.size := by omega
        have hMl : w1.heap.size + 1 < wr.heap.size := by omega
        clear hgp hsz
        have hv0 := hB.v1
        by_cases hpn : p < n
        · by_cases hpk : p < k
          · obtain ⟨ba, oa, rfl, hba, hca⟩ := hx p hpn
            obtain ⟨bb, ob, rfl, hbb, hcb⟩ := hy p hpk
            have fa : wr.cell? ⟨ba, oa + p, none⟩ = some (.int .i64 (xs p)) := (hnx.cell (p := ⟨ba, oa + p, none⟩) hba).trans hca
            have fb : wr.cell? ⟨bb, ob + p, none⟩ = some (.bool (ys p)) := (hnx.cell (p := ⟨bb, ob + p, none⟩) hbb).trans hcb
            clear hca hcb
            generalize xs p = c at fa
            generalize ys p = v at fb
            have p1 : (0 : Int) ≤ (p : Int) := by omega
            have p2 : (p : Int) < (n : Int) := by omega
            have p3 : (p : Int) < (k : Int) := by omega
            have hBd : Both wr.drew w1.heap.size (w1.heap.size + 1) W H V bl := hB.below ((Below.refl wr.heap.size wr).drew) hGl hMl
            cases hin : inB W H c with
            | false =>
              go_wp2
              go_region_held3 (fun w' => w'.cell? ⟨ba, oa + p, none⟩ = some (.int .i64 c) ∧ w'.cell? ⟨bb, ob + p, none⟩ = some (.bool v)) (go_keep) ((go_at_call 14; refine (set_out _ _ _ hBd.ga hin).mono ?_; rintro e w' ⟨rfl, m1, rfl⟩))
              go_wp2
              go_region_held3 (fun w' => w'.cell? ⟨ba, oa + p, none⟩ = some (.int .i64 c) ∧ w'.cell? ⟨bb, ob + p, none⟩ = some (.bool v)) (go_keep) ((go_at_call 15; refine (rset_out _ _ _ (hB.drewN _).ra hin).mono ?_; rintro e w' ⟨rfl, m2, rfl⟩))
              go_wp2_with (go_at_call 6; refine (same_err 1 _ (by decide)).mono ?_; rintro e w' ⟨rfl, rfl⟩)
              go_roundg (200 - (p + 1))
              case measure => have := HGp.out; omega
              case rel => exact ⟨p + 1, V, bl, by omega, rfl, by go_num, by omega, hB.drewN _, below_drewN hnx _, HSZ.out⟩
            | true =>
              have hcc : 0 ≤ c ∧ c < W * H := of_decide_eq_true hin
              obtain ⟨cN, rfl⟩ : ∃ cN : Nat, c = cN := ⟨c.toNat, by omega⟩
              by_cases hbv : bl cN = v
              · have HV : Hid (bl cN = v) := hbv
                clear hbv hcc
                go_wp2
                go_region_held3 (fun w' => w'.cell? ⟨ba, oa + p, none⟩ = some (.int .i64 (cN : Int)) ∧ w'.cell? ⟨bb, ob + p, none⟩ = some (.bool v)) (go_keep) ((go_at_call 14; refine (set_same _ _ _ hBd.ga hin HV.out).mono ?_; rintro e w' ⟨rfl, m1, rfl⟩))
                go_wp2
                go_region_held3 (fun w' => w'.cell? ⟨ba, oa + p, none⟩ = some (.int .i64 (cN : Int)) ∧ w'.cell? ⟨bb, ob + p, none⟩ = some (.bool v)) (go_keep) ((go_at_call 15; refine (rset_same _ _ _ (hB.drewN _).ra hin HV.out).mono ?_; rintro e w' ⟨rfl, m2, rfl⟩))
                go_wp2_with (go_at_call 6; refine (same_nil _).mono ?_; rintro e w' ⟨rfl, rfl⟩)
                go_roundg (200 - (p + 1))
                case measure => have := HGp.out; omega
                case rel => exact ⟨p + 1, V, bl, by omega, rfl, by go_num, by omega, hB.drewN _, below_drewN hnx _, HSZ.out⟩
              · have HV : Hid (bl cN = !v) := by
                  have : bl cN = !v := by revert hbv; cases bl cN <;> cases v <;> simp
                  exact this
                clear hbv hcc
                have na1 : ba ≠ w1.heap.size := by omega
                have nb1 : bb ≠ w1.heap.size := by omega
                have na2 : ba ≠ w1.heap.size + 1 := by omega
                have nb2 : bb ≠ w1.heap.size + 1 := by omega
                go_wp2
                go_region_held3 (fun w' => w'.cell? ⟨ba, oa + p, none⟩ = some (.int .i64 (cN : Int)) ∧ w'.cell? ⟨bb, ob + p, none⟩ = some (.bool v)) (go_keep) ((go_at_call 14; refine (set_new _ _ _ hBd.ga hBd.gf hin HV.out hv0 (by omega)).mono ?_; rintro e w2 ⟨rfl, T1, G1, F1⟩; have ca2 : w2.cell? ⟨ba, oa + p, none⟩ = some (.int .i64 (cN : Int)) := (T1.cell (p := ⟨ba, oa + p, none⟩) na1).trans fa; have cb2 : w2.cell? ⟨bb, ob + p, none⟩ = some (.bool v) := (T1.cell (p := ⟨bb, ob + p, none⟩) nb1).trans fb))
                have hsz2 : w2.heap.size = wr.heap.size := T1.size
                have hR2 : RefAt w2.drew (w1.heap.size + 1) W H V bl := (hBd.ra.touch T1 hB.ne.symm).below ((Below.refl w2.heap.size w2).drew) (by omega)
                have hF2 : Free w2.drew (w1.heap.size + 1) := fun o => (T1.frozen (p := ⟨w1.heap.size + 1, o, none⟩) hB.ne.symm).trans (hBd.rf o)
                have HS2 : Hid (w2.heap.size = wr.heap.size) := hsz2
                clear hsz2
                go_wp2
                go_region_held3 (fun w' => w'.cell? ⟨ba, oa + p, none⟩ = some (.int .i64 (cN : Int)) ∧ w'.cell? ⟨bb, ob + p, none⟩ = some (.bool v)) (go_keep) ((go_at_call 15; refine (rset_new _ _ _ hR2 hF2 hin HV.out hv0 (by omega)).mono ?_; rintro e w3 ⟨rfl, T2, R3, F3⟩; have ca3 : w3.cell? ⟨ba, oa + p, none⟩ = some (.int .i64 (cN : Int)) := (T2.cell (p := ⟨ba, oa + p, none⟩) na2).trans ca2; have cb3 : w3.cell? ⟨bb, ob + p, none⟩ = some (.bool v) := (T2.cell (p := ⟨bb, ob + p, none⟩) nb2).trans cb2))
                go_wp2_with (go_at_call 6; refine (same_nil _).mono ?_; rintro e w' ⟨rfl, rfl⟩)
                go_roundg (200 - (p + 1))
                case measure => have := HGp.out; omega
                case rel =>
                  have hd2 : Below w2.heap.size w2 w2.drew := (Below.refl w2.heap.size w2).drew
                  refine ⟨p + 1, V + 1, upd bl cN v, by omega, rfl, by go_num, by omega, ⟨(G1.below hd2 (by have := HS2.out; omega)).touch T2 hB.ne, fun o => (T2.frozen (p := ⟨w1.heap.size, o, none⟩) hB.ne).trans (F1 o), R3, F3, by omega, hB.ne⟩, T2.below ((T1.below hnx.drew (by omega)).drew) (by omega), ?_⟩
                  exact (T2.size.trans HS2.out).trans HSZ.out
          · have hd1 : decide ((p : Int) < (n : Int)) = true := decide_eq_true (by omega)
            have i0 : inB W H ((0 : Nat) : Int) = true := decide_eq_true ⟨by omega, by have := wh_bd a.1 a.2 b.1 b.2; omega⟩
            have sr : StepsAt wr := s.below hnx h0
            have hPr : Pair wr w1.heap.size (w1.heap.size + 1) W H V bl := ⟨hB.ga, hB.ra, hGl, hMl, sr, by omega⟩
            have hG0 := hB.ga
            have hneC : w1.heap.size ≠ wr.heap.size := by omega
            have hneM : w1.heap.size + 1 ≠ wr.heap.size := by omega
            have hne0 : 0 ≠ wr.heap.size := by omega
            have hwr : w.heap.size ≤ wr.heap.size := hnx.size
            clear hB hBn2 hBel hx hy s1 HSZ HGp
            go_wp2_with (first | (go_at_call 16; refine (copy_any _ hG0).mono ?_; rintro e w6 ⟨rfl, hb6, hz6, gC, fC⟩; have hP6 := hPr.below hb6; have hPc : Pair w6 wr.heap.size (w1.heap.size + 1) W H V bl := ⟨gC, hP6.ra, hz6, hP6.ml, hP6.st, hP6.z⟩) | (go_at_call 17; (fail_if_success have := mk1); refine (asGrid_any _ _ _ _ _ _ _ hP6).mono ?_; rintro e w7 ⟨rfl, hb7⟩; have mk1 := trivial; have hP7 := hPc.below hb7; have hQ7 := hP6.below hb7) | (go_at_call 17; (fail_if_success have := mk2); refine (asGrid_any _ _ _ _ _ _ _ hP7).mono ?_; rintro e w8 ⟨rfl, hb8⟩; have mk2 := trivial; have hP8 := hP7.below hb8; have hQ8 := hQ7.below hb8; have f8 := (fC.below hb7 hPc.gl).below hb8 hP7.gl) | (go_at_call 18; refine (free_in 0 _ hP8.ga i0).mono ?_; rintro e w' ⟨rfl, m3, rfl⟩) | (go_at_call 14; refine (set_new 0 (!bl 0) _ (hP8.ga.drewN _) f8 i0 (Bool.not_not _).symm hv0 (by omega)).mono ?_; rintro e w9 ⟨rfl, T9, G9, F9⟩; have hQ9 := (hQ8.drewN _).touch T9 hneC hneM hne0) | (go_at_call 17; refine (asGrid_any _ _ _ _ _ _ _ hQ9).mono ?_; rintro e w10 ⟨rfl, hb10⟩))
            go_ret
            exact ⟨rfl, ((T9.below (below_drewN (((hnx.trans (hb6.mono hwr)).trans (hb7.mono (by have := hb6.size; omega))).trans (hb8.mono (by have := hb6.size; have := hb7.size; omega))) _) hwr)).trans (hb10.mono (by have := T9.size; have := hb6.size; have := hb7.size; have := hb8.size; simp at *; omega))⟩
        · have hd1 : decide ((p : Int) < (n : Int)) = false := decide_eq_false (by omega)
          have i0 : inB W H ((0 : Nat) : Int) = true := decide_eq_true ⟨by omega, by have := wh_bd a.1 a.2 b.1 b.2; omega⟩
          have sr : StepsAt wr := s.below hnx h0
          have hPr : Pair wr w1.heap.size (w1.heap.size + 1) W H V bl := ⟨hB.ga, hB.ra, hGl, hMl, sr, by omega⟩
          have hG0 := hB.ga
          have hneC : w1.heap.size ≠ wr.heap.size := by omega
          have hneM : w1.heap.size + 1 ≠ wr.heap.size := by omega
          have hne0 : 0 ≠ wr.heap.size := by omega
          have hwr : w.heap.size ≤ wr.heap.size := hnx.size
          clear hB hBn2 hBel hx hy s1 HSZ HGp
          go_wp2_with (first | (go_at_call 16; refine (copy_any _ hG0).mono ?_; rintro e w6 ⟨rfl, hb6, hz6, gC, fC⟩; have hP6 := hPr.below hb6; have hPc : Pair w6 wr.heap.size (w1.heap.size + 1) W H V bl := ⟨gC, hP6.ra, hz6, hP6.ml, hP6.st, hP6.z⟩) | (go_at_call 17; (fail_if_success have := mk1); refine (asGrid_any _ _ _ _ _ _ _ hP6).mono ?_; rintro e w7 ⟨rfl, hb7⟩; have mk1 := trivial; have hP7 := hPc.below hb7; have hQ7 := hP6.below hb7) | (go_at_call 17; (fail_if_success have := mk2); refine (asGrid_any _ _ _ _ _ _ _ hP7).mono ?_; rintro e w8 ⟨rfl, hb8⟩; have mk2 := trivial; have hP8 := hP7.below hb8; have hQ8 := hQ7.below hb8; have f8 := (fC.below hb7 hPc.gl).below hb8 hP7.gl) | (go_at_call 18; refine (free_in 0 _ hP8.ga i0).mono ?_; rintro e w' ⟨rfl, m3, rfl⟩) | (go_at_call 14; refine (set_new 0 (!bl 0) _ (hP8.ga.drewN _) f8 i0 (Bool.not_not _).symm hv0 (by omega)).mono ?_; rintro e w9 ⟨rfl, T9, G9, F9⟩; have hQ9 := (hQ8.drewN _).touch T9 hneC hneM hne0) | (go_at_call 17; refine (asGrid_any _ _ _ _ _ _ _ hQ9).mono ?_; rintro e w10 ⟨rfl, hb10⟩))
          go_ret
          exact ⟨rfl, ((T9.below (below_drewN (((hnx.trans (hb6.mono hwr)).trans (hb7.mono (by have := hb6.size; omega))).trans (hb8.mono (by have := hb6.size; have := hb7.size; omega))) _) hwr)).trans (hb10.mono (by have := T9.size; have := hb6.size; have := hb7.size; have := hb8.size; simp at *; omega))⟩
end Go.Proofs.YtmlcollooomioaaDoor
