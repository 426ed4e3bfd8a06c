/-
  The walk of 'asGrid': of two grids that are alike it returns true.
-/
import Derived.Test.YtkhofbpgdkoonabDoorAsAid
namespace Go.Proofs.YtkhofbpgdkoonabDoor
open Go.RowKit

set_option maxHeartbeats 8000000 in
set_option maxRecDepth 1000000 in
theorem asGrid_any (g m : Nat) (W H V : Int) (bl : Nat → Bool) (w : World) (hP : Pair w g m W H V bl) :
    Calls Tryd.prog 12 #[.pointer (some ⟨g, 0, none⟩), .pointer (some ⟨m, 0, none⟩)] w fun e w' => e = .returned (.bool true) ∧ Below w.heap.size w w' := by
  obtain ⟨k1, k2⟩ := wh_bd hP.ga.w1 hP.ga.w2 hP.ga.h1 hP.ga.h2
  have w1 := hP.ga.w1
  have w2 := hP.ga.w2
  have h1 := hP.ga.h1
  have h2 := hP.ga.h2
  have r0 := hP.ra.c0
  have r1 := hP.ra.c1
  have r2 := hP.ra.c2
  go_enter Tryd.func12, Tryd.ntmps12
  go_wp2_with (go_at_call 20; refine (size_any _ hP.ga).mono ?_; rintro e w' ⟨rfl, m0, rfl⟩)
  go_quiet (first | (go_at_call 33; exact Calls.quiet_off (cells_any _ (hP.ga.drewN _))) | (go_at_call 34; exact Calls.quiet_off_same (version_any _ (hP.ga.drewN _))))
  go_wp2
  clear r0 r1 r2
  go_loopg [7] (W * H + 2).toNat (fun q c wr => ∃ j : Int, -1 ≤ j ∧ j ≤ W * H + 1 ∧ q = (W * H + 1 - j).toNat ∧ c = .int .i64 j ∧ Below w.heap.size w wr)
  case atStart => exact ⟨-1, by omega, by omega, by omega, rfl, below_drewN (below_drewN (Below.refl _ _) _) _⟩
  case round =>
    obtain ⟨c, hc1, hc2, hgk, rfl, hnx⟩ := hrel
    have HG : Hid (gk = (W * H + 1 - c).toNat) := hgk
    clear hgk
    have hPr := hP.below hnx
    have hsz := hnx.size
    by_cases hle : c ≤ W * H
    · cases hin : inB W H c with
      | false =>
        go_wp2_with (first | (go_at_call 17; refine (ris_out _ _ hPr.ra hin).mono ?_; rintro e w' ⟨rfl, m1, rfl⟩) | (go_at_call 35; refine (place_out _ _ (hPr.ga.drewN _) hin).mono ?_; rintro e w' ⟨rfl, m1, rfl⟩) | (go_at_call 36; refine (free_out _ _ (hPr.ga.drewN _) hin).mono ?_; rintro e w' ⟨rfl, m1, rfl⟩) | (go_at_call 37; refine (moves_out _ _ (hPr.ga.drewN _) hin).mono ?_; rintro e w' ⟨rfl, m1, rfl⟩) | (go_at_call 11; refine (same_err 1 _ (by decide)).mono ?_; rintro e w' ⟨rfl, rfl⟩))
        go_roundg ((W * H + 1 - (c + 1)).toNat)
        case measure => have := HG.out; omega
        case rel => exact ⟨c + 1, by omega, by omega, rfl, rfl, below_drewN hnx _⟩
      | true =>
        have hcc : 0 ≤ c ∧ c < W * H := of_decide_eq_true hin
        obtain ⟨cN, rfl⟩ : ∃ cN : Nat, c = cN := ⟨c.toNat, by omega⟩
        obtain ⟨q1, q2⟩ := hcc
        have q3 : (cN : Int) < 256 := by omega
        obtain ⟨l, hl⟩ := dirsOf (W := W) (H := H) bl (cN : Int) w1
        have hl8 := hl.len
        have y1 : 0 ≤ (cN : Int) / W := Int.ediv_nonneg q1 (by omega)
        have y2 : (cN : Int) / W ≤ 256 := by
          have := Int.ediv_le_self W q1
          omega
        have hbb : ((!bl cN) == bl cN) = false := by cases bl cN <;> rfl
        go_wp2_with (first | (go_at_call 17; refine (ris_in _ _ hPr.ra hin).mono ?_; rintro e w' ⟨rfl, m1, rfl⟩) | (go_at_call 35; refine (place_in _ _ (hPr.ga.drewN _) hin).mono ?_; rintro e w' ⟨rfl, m1, rfl⟩) | (go_at_call 36; refine (free_in _ _ (hPr.ga.drewN _) hin).mono ?_; rintro e w' ⟨rfl, m1, rfl⟩) | (go_at_call 37; refine (moves_v hl _ (hPr.ga.drewN _) (hPr.st.drewN _) hin (hPr.drewN _).gl).mono ?_; rintro e w3 ⟨A1, cap1, rfl, hrow, hb3⟩; have hP3 := (hPr.drewN _).below hb3; have hcs := hP3.ra.cs cN (by omega)) | (go_at_call 11; refine (same_nil _).mono ?_; rintro e w' ⟨rfl, rfl⟩) | (go_at_call 39; refine (rmoves_v hl _ hP3.ra hin hP3.ml).mono ?_; rintro e w4 ⟨A2, cap2, rfl, hrow2, hb4⟩; have hP4 := hP3.below hb4; have hrow4 := hrow.below hb4) | (go_at_call 38; refine (sameRows (by omega) hrow4 hrow2).mono ?_; rintro e w' ⟨rfl, m5, rfl⟩))
        have HB4 : Below w.heap.size w w4 := ((below_drewN hnx _).trans (hb3.mono (by simp; omega))).trans (hb4.mono (by have := hb3.size; simp at this; omega))
        obtain ⟨L, hL⟩ : ∃ L, l.length = L := ⟨_, rfl⟩
        have HL : Hid (l.length = L) := hL
        rw [hL] at hrow4 hl8 ⊢
        have HR : Hid (OldRow w4 A1 L (fun i => (l.getD i 0 : Nat))) := hrow4
        clear hL hrow4 hrow2 hrow hcs hP3 hPr hb3 hb4 hnx hsz hbb y1 y2
        go_loopg [16] L (fun q i wr => ∃ p : Nat, p ≤ L ∧ q = L - p ∧ i = .int .i64 p ∧ ∃ k, wr = w4.drewN k)
        case atStart => exact ⟨0, Nat.zero_le _, rfl, rfl, _, rfl⟩
        case round =>
          obtain ⟨p, hp, hgp, rfl, mk, rfl⟩ := hrel
          have HGp : Hid (gk = L - p) := hgp
          clear hgp
          by_cases hplt : p < L
          · obtain ⟨ba, oa, rfl, hba, hc⟩ := HR.out p hplt
            have hc3 : w4.cell? ⟨ba, oa + p, none⟩ = some (.int .i64 ((l.getD p 0 : Nat) : Int)) := hc
            have hd8 := hl.lt p (by rw [HL.out]; exact hplt)
            clear hc hba
            generalize l.getD p 0 = d at *
            obtain ⟨r, hr⟩ : ∃ r, (cN : Int) + (stepY d * W + stepX d) = r := ⟨_, rfl⟩
            have HRr : Hid ((cN : Int) + (stepY d * W + stepX d) = r) := hr
            clear hr
            have p1 : (0 : Int) ≤ (p : Int) := by omega
            have p2 : (p : Int) < (L : Int) := by omega
            go_wp2
            go_quiet (first | (go_at_call 40; exact Calls.quiet_off (to_v HRr.out _ (hP4.ga.drewN _) (hP4.st.drewN _) hd8 (by omega) (by omega))) | (go_at_call 41; exact Calls.quiet_off_same (rto_v HRr.out _ (hP4.ra.drewN _) hd8 (by omega) (by omega))))
            go_wp2
            go_roundg (L - (p + 1))
            case measure => have := HGp.out; omega
            case rel => exact ⟨p + 1, by omega, rfl, by go_num, _, rfl⟩
          · have : p = L := by omega
            subst this
            go_wp2
            go_roundg ((W * H + 1 - ((cN : Int) + 1)).toNat)
            case measure => have := HG.out; omega
            case rel => exact ⟨(cN : Int) + 1, by omega, by omega, rfl, rfl, below_drewN HB4 _⟩
    · go_wp2
      obtain ⟨w5, rfl⟩ : ∃ w5 : World, w5 = wr := ⟨_, rfl⟩
      have HB5 := hnx
      have hP5 := hPr
      clear hnx hPr hsz HG hc1 hc2
      go_loopg [17] (W + 2).toNat (fun q x wr => ∃ j : Int, -1 ≤ j ∧ j ≤ W + 1 ∧ q = (W + 1 - j).toNat ∧ x = .int .i64 j ∧ ∃ k, wr = w5.drewN k)
      case atStart => exact ⟨-1, by omega, by omega, by omega, rfl, 0, rfl⟩
      case round =>
        obtain ⟨x, hx1, hx2, hgx, rfl, kx, rfl⟩ := hrel
        have HGx : Hid (gk = (W + 1 - x).toNat) := hgx
        clear hgx
        by_cases hxW : x ≤ W
        · go_wp2
          go_loopg [18] (H + 2).toNat (fun q y wr => ∃ j : Int, -1 ≤ j ∧ j ≤ H + 1 ∧ q = (H + 1 - j).toNat ∧ y = .int .i64 j ∧ ∃ k, wr = w5.drewN k)
          case atStart => exact ⟨-1, by omega, by omega, by omega, rfl, _, rfl⟩
          case round =>
            obtain ⟨y, hy1, hy2, hgy, rfl, ky, rfl⟩ := hrel
            have HGy : Hid (gk = (H + 1 - y).toNat) := hgy
            clear hgy
            by_cases hyH : y ≤ H
            · obtain ⟨o, ho⟩ : ∃ o, openB W H bl x y = o := ⟨_, rfl⟩
              have HO : Hid (openB W H bl x y = o) := ho
              clear ho
              obtain ⟨e1, e2⟩ := yw_bd (y := y) w1 w2 (by omega) (by omega)
              have hoo : (o != o) = false := by cases o <;> rfl
              have hcs : (0 ≤ x ∧ x < W ∧ 0 ≤ y ∧ y < H) ∨ (¬ 0 ≤ x) ∨ (0 ≤ x ∧ ¬ x < W) ∨ (0 ≤ x ∧ x < W ∧ ¬ 0 ≤ y) ∨ (0 ≤ x ∧ x < W ∧ 0 ≤ y ∧ ¬ y < H) := by omega
              rcases hcs with ⟨g1, g2, g3, g4⟩ | g1 | ⟨g1, g2⟩ | ⟨g1, g2, g3⟩ | ⟨g1, g2, g3, g4⟩
              · have hat : atB W H x y = true := decide_eq_true ⟨g1, g2, g3, g4⟩
                go_wp2_with (first | (go_at_call 42; refine (cell_in _ _ _ (hP5.ga.drewN _) hat).mono ?_; rintro e w' ⟨rfl, rfl⟩) | (go_at_call 14; refine (open_v HO.out _ (hP5.ga.drewN _)).mono ?_; rintro e w' ⟨rfl, m1, rfl⟩) | (go_at_call 43; refine (ropen_v HO.out _ (hP5.ra.drewN _)).mono ?_; rintro e w' ⟨rfl, m1, rfl⟩))
                go_loopg [22] 8 (fun q d wr => ∃ n : Nat, n ≤ 8 ∧ q = 8 - n ∧ d = .int .i64 n ∧ ∃ k, wr = w5.drewN k)
                case atStart => exact ⟨0, by omega, rfl, rfl, _, rfl⟩
                case round =>
                  obtain ⟨n, hn, hgn, rfl, kn, rfl⟩ := hrel
                  have HGn : Hid (gk = 8 - n) := hgn
                  clear hgn
                  by_cases hn8 : n < 8
                  · obtain ⟨b, hb⟩ : ∃ b, mayB W H bl x y n = b := ⟨_, rfl⟩
                    have HM : Hid (mayB W H bl x y n = b) := hb
                    have hbb : (b != b) = false := by cases b <;> rfl
                    clear hb
                    go_wp2_with (first | (go_at_call 44; refine (may_v HM.out _ (hP5.ga.drewN _) (hP5.st.drewN _) hn8 (by omega) (by omega) (by omega) (by omega)).mono ?_; rintro e w' ⟨rfl, m1, rfl⟩) | (go_at_call 45; refine (rmay_v HM.out _ (hP5.ra.drewN _) hn8 (by omega) (by omega) (by omega) (by omega)).mono ?_; rintro e w' ⟨rfl, m1, rfl⟩))
                    go_roundg (8 - (n + 1))
                    case measure => have := HGn.out; omega
                    case rel => exact ⟨n + 1, by omega, rfl, by go_num, _, rfl⟩
                  · go_wp2
                    go_roundg ((H + 1 - (y + 1)).toNat)
                    case measure => have := HGy.out; omega
                    case rel => exact ⟨y + 1, by omega, by omega, rfl, rfl, _, rfl⟩
              all_goals
                have hat : atB W H x y = false := decide_eq_false (by omega)
                go_wp2_with (first | (go_at_call 42; refine (cell_out _ _ _ (hP5.ga.drewN _) hat).mono ?_; rintro e w' ⟨rfl, rfl⟩) | (go_at_call 14; refine (open_v HO.out _ (hP5.ga.drewN _)).mono ?_; rintro e w' ⟨rfl, m1, rfl⟩) | (go_at_call 43; refine (ropen_v HO.out _ (hP5.ra.drewN _)).mono ?_; rintro e w' ⟨rfl, m1, rfl⟩) | (go_at_call 11; refine (same_err 1 _ (by decide)).mono ?_; rintro e w' ⟨rfl, rfl⟩))
                go_loopg [22] 8 (fun q d wr => ∃ n : Nat, n ≤ 8 ∧ q = 8 - n ∧ d = .int .i64 n ∧ ∃ k, wr = w5.drewN k)
                case atStart => exact ⟨0, by omega, rfl, rfl, _, rfl⟩
                case round =>
                  obtain ⟨n, hn, hgn, rfl, kn, rfl⟩ := hrel
                  have HGn : Hid (gk = 8 - n) := hgn
                  clear hgn
                  by_cases hn8 : n < 8
                  · obtain ⟨b, hb⟩ : ∃ b, mayB W H bl x y n = b := ⟨_, rfl⟩
                    have HM : Hid (mayB W H bl x y n = b) := hb
                    have hbb : (b != b) = false := by cases b <;> rfl
                    clear hb
                    go_wp2_with (first | (go_at_call 44; refine (may_v HM.out _ (hP5.ga.drewN _) (hP5.st.drewN _) hn8 (by omega) (by omega) (by omega) (by omega)).mono ?_; rintro e w' ⟨rfl, m1, rfl⟩) | (go_at_call 45; refine (rmay_v HM.out _ (hP5.ra.drewN _) hn8 (by omega) (by omega) (by omega) (by omega)).mono ?_; rintro e w' ⟨rfl, m1, rfl⟩))
                    go_roundg (8 - (n + 1))
                    case measure => have := HGn.out; omega
                    case rel => exact ⟨n + 1, by omega, rfl, by go_num, _, rfl⟩
                  · go_wp2
                    go_roundg ((H + 1 - (y + 1)).toNat)
                    case measure => have := HGy.out; omega
                    case rel => exact ⟨y + 1, by omega, by omega, rfl, rfl, _, rfl⟩
            · go_wp2
              go_roundg ((W + 1 - (x + 1)).toNat)
              case measure => have := HGx.out; omega
              case rel => exact ⟨x + 1, by omega, by omega, rfl, rfl, _, rfl⟩
        · go_wp2
          go_ret
          exact ⟨rfl, below_drewN HB5 _⟩
end Go.Proofs.YtkhofbpgdkoonabDoor
