/-
  The walk of 'ClearSays' where there is a grid and the lists are short.
-/
import Derived.Test.YtddbmkgmmhppnacDoorClearSaysWalk
namespace Go.Proofs.YtddbmkgmmhppnacDoor
open Go.RowKit

theorem Trio.drew {w : World} {N m tb pb : Nat} {W H V : Int} {bl : Nat → Bool} (t : Trio w N m tb pb W H V bl) : Trio w.drew N m tb pb W H V bl := t.drewN 1

theorem steps_dir_i {tb pb : Nat} {W H V : Int} {bl : Nat → Bool} (c d : Int) (w : World) (t : TabOk w tb pb W H V bl) (hr : inB W H c = true) (hd : d < 0 ∨ 8 ≤ d) :
    Calls Tryd.prog 11 #[.pointer (some ⟨tb, 0, none⟩), .int .i64 c, .int .i64 d] w fun e w' => e = .returned (.tuple #[.int .i64 0, .iface 63 (.int .i64 1)]) ∧ ∃ m, w' = w.drewN m := by
  have hcc : 0 ≤ c ∧ c < W * H := of_decide_eq_true hr
  obtain ⟨cN, rfl⟩ : ∃ cN : Nat, c = cN := ⟨c.toNat, by omega⟩
  exact steps_dir cN d w t hr hd
theorem rclear_i {b : Nat} {W H V : Int} {bl : Nat → Bool} (c : Int) (d : Nat) (w : World) (g : RefAt w b W H V bl) (hr : inB W H c = true) (hd : d < 8) :
    Calls Tryd.prog 13 #[.pointer (some ⟨b, 0, none⟩), .int .i64 c, .int .i64 d] w fun e w' => e = .returned (.int .i64 (clr W H bl (c % W) (c / W) d : Nat)) ∧ ∃ m, w' = w.drewN m := by
  have hcc : 0 ≤ c ∧ c < W * H := of_decide_eq_true hr
  obtain ⟨cN, rfl⟩ : ∃ cN : Nat, c = cN := ⟨c.toNat, by omega⟩
  exact rclear_any cN d w g hr hd

set_option maxHeartbeats 8000000 in
set_option maxRecDepth 1000000 in
theorem clearSays_ok (W H : Int) (A B C : Option Addr) (n cap k cb l cc : Nat) (xs ys : Nat → Int) (zs : Nat → Bool) (w : World) (s : StepsAt w) (h0 : 0 < w.heap.size) (hn : ¬ 300 < (n : Int)) (h : sideB W = true) (hh : sideB H = true) (hx : OldRow w A n xs) (hk : ¬ 40 < (k : Int)) (hl : ¬ 40 < (l : Int)) (hy : OldRow w B k ys) (hz : OldBools w C l zs) :
    Calls Tryd.prog 3 #[.agg #[.int .i64 W, .int .i64 H, .slice A n cap], .slice B k cb, .slice C l cc] w fun e w' => e = .returned (.bool true) ∧ Below w.heap.size w w' := by
  have hb : Below w.heap.size w (w.alloc (.cells #[.int .i64 W, .int .i64 H, .slice A n cap] 24)) := (Below.refl _ _).alloc (Nat.le_refl _) _
  have hs := s.below hb h0
  go_enter Tryd.func3, Tryd.ntmps3
  go_wp2_with (first | (go_at_call 5; refine (clears_any _ hs).mono ?_; rintro e w1 ⟨rfl, hb1⟩; obtain ⟨p0, p1, p2⟩ := boxed1 w W H A n cap hb1))
  have HB1 : Below w.heap.size w w1 := hb.trans (hb1.mono (by simp))
  have hza : w.heap.size < w1.heap.size := World.block_lt_of_cell? w1 _ p0
  refine (laid_ok W H A n cap xs w1 (by omega) h hh (hx.below' HB1)).mono ?_
  rintro e w2 ⟨rfl, hb2, hz2, V, bl, hV, hB⟩
  have HB : Below w.heap.size w w2 := HB1.trans (hb2.mono HB1.size)
  have s2 := s.below HB h0
  have hle := HB1.size
  clear p0 p1 p2 hb2 HB1 hx hn h hh hb hs hb1
  generalize hGe : w1.heap.size + 1 = G at *
  generalize hMe : G + 1 = M at *
  go_wp2_with fail
  refine (tnew_any _ hB.ga s2).mono ?_
  rintro e w3 ⟨tb, pb, rfl, tk, q1, q2, hb3⟩
  have T3 : Trio w3 w.heap.size M tb pb W H V bl := ⟨hB.ra.below hb3 (by omega), fun o => (hb3.frozen (p := ⟨M, o, none⟩) (by show M < _; omega)).trans (hB.rf o), tk, hB.v1, by omega, by omega, by omega, by omega, by omega, h0⟩
  have HB3 := HB.trans (hb3.mono HB.size)
  have w1' := hB.ra.w1
  have w2' := hB.ra.w2
  have h1' := hB.ra.h1
  have h2' := hB.ra.h2
  clear hB tk q1 q2 hb3 HB s2 hz2 hle hGe hMe hza s
  obtain ⟨k1, k2⟩ := wh_bd w1' w2' h1' h2'
  go_wp2
  go_loopg [12] 40 (fun gk iv wr => ∃ (i : Nat) (V : Int) (bl : Nat → Bool), i ≤ 40 ∧ gk = 40 - i ∧ iv = .int .i64 i ∧ V ≤ 300 + i ∧ Trio wr w.heap.size M tb pb W H V bl ∧ Below w.heap.size w wr)
  case atStart => exact ⟨0, V, bl, by omega, rfl, rfl, by omega, T3, HB3⟩
  case round =>
    clear T3 HB3 hV V bl
    obtain ⟨i, V, bl, hi, hgk, rfl, hV, T, HB⟩ := hrel
    have HG : Hid (gk = 40 - i) := hgk
    clear hgk
    have hv0 := T.v1
    have l2 := T.l2
    have l3 := T.l3
    have l1 := T.l1
    by_cases hik : i < k ∧ i < l
    · obtain ⟨hpn, hpk⟩ := hik
      have hi40 : i < 40 := by omega
      have i1 : (0 : Int) ≤ (i : Int) := by omega
      have i2 : (i : Int) < (k : Int) := by omega
      have i3 : (i : Int) < (l : Int) := by omega
      obtain ⟨ba, oa, rfl, hba, hca⟩ := hy i hpn
      obtain ⟨bb, ob, rfl, hbb, hcb⟩ := hz i hpk
      have fa : wr.cell? ⟨ba, oa + i, none⟩ = some (.int .i64 (ys i)) := (HB.cell (p := ⟨ba, oa + i, none⟩) hba).trans hca
      have fb : wr.cell? ⟨bb, ob + i, none⟩ = some (.bool (zs i)) := (HB.cell (p := ⟨bb, ob + i, none⟩) hbb).trans hcb
      clear hca hcb
      generalize ys i = c at fa
      generalize zs i = v at fb
      have Td := T.drew
      cases hin : inB W H c with
      | false =>
        go_wp2
        go_region_held3 (fun w' => w'.cell? ⟨ba, oa + i, none⟩ = some (.int .i64 c) ∧ w'.cell? ⟨bb, ob + i, none⟩ = some (.bool v)) (go_keep) ((go_at_call 8; refine (tset_out c v _ Td.tk hin).mono ?_; rintro e w' ⟨rfl, m1, rfl⟩))
        go_wp2
        go_region_held3 (fun w' => w'.cell? ⟨ba, oa + i, none⟩ = some (.int .i64 c) ∧ w'.cell? ⟨bb, ob + i, none⟩ = some (.bool v)) (go_keep) ((go_at_call 9; refine (rset_out _ _ _ (T.drewN _).ra hin).mono ?_; rintro e w' ⟨rfl, m2, rfl⟩))
        go_wp2_with (go_at_call 10; refine (same_err 1 _ (by decide)).mono ?_; rintro e w' ⟨rfl, rfl⟩)
        go_roundg (40 - (i + 1))
        case measure => have := HG.out; omega
        case rel => exact ⟨i + 1, V, bl, by omega, rfl, by go_num, by omega, T.drewN _, below_drewN HB _⟩
      | true =>
        have hcc : 0 ≤ c ∧ c < W * H := of_decide_eq_true hin
        obtain ⟨cN, rfl⟩ : ∃ cN : Nat, c = cN := ⟨c.toNat, by omega⟩
        by_cases hbv : bl cN = v
        · have HV : Hid (bl cN = v) := hbv
          clear hbv hcc
          go_wp2
          go_region_held3 (fun w' => w'.cell? ⟨ba, oa + i, none⟩ = some (.int .i64 (cN : Int)) ∧ w'.cell? ⟨bb, ob + i, none⟩ = some (.bool v)) (go_keep) ((go_at_call 8; refine (tset_same cN v _ Td.tk hin HV.out).mono ?_; rintro e w' ⟨rfl, m1, rfl⟩))
          go_wp2
          go_region_held3 (fun w' => w'.cell? ⟨ba, oa + i, none⟩ = some (.int .i64 (cN : Int)) ∧ w'.cell? ⟨bb, ob + i, none⟩ = some (.bool v)) (go_keep) ((go_at_call 9; refine (rset_same _ _ _ (T.drewN _).ra hin HV.out).mono ?_; rintro e w' ⟨rfl, m2, rfl⟩))
          go_wp2_with (go_at_call 10; refine (same_nil _).mono ?_; rintro e w' ⟨rfl, rfl⟩)
          go_roundg (40 - (i + 1))
          case measure => have := HG.out; omega
          case rel => exact ⟨i + 1, V, bl, by omega, rfl, by go_num, by omega, T.drewN _, below_drewN HB _⟩
        · have HV : Hid (bl cN = !v) := by
            have : bl cN = !v := by revert hbv; cases bl cN <;> cases v <;> simp
            exact this
          clear hbv hcc
          have na : ¬ (ba = tb ∨ ba = pb) := by omega
          have nb : ¬ (bb = tb ∨ bb = pb) := by omega
          have nm : ¬ (M = tb ∨ M = pb) := by have := T.ne1; have := T.ne2; omega
          have na2 : ba ≠ M := by omega
          have nb2 : bb ≠ M := by omega
          have fa1 : wr.drew.cell? ⟨ba, oa + i, none⟩ = some (.int .i64 (cN : Int)) := fa
          have fb1 : wr.drew.cell? ⟨bb, ob + i, none⟩ = some (.bool v) := fb
          have hBd : Below w.heap.size w wr.drew := HB.drew
          go_wp2
          go_region_held3 (fun w' => w'.cell? ⟨ba, oa + i, none⟩ = some (.int .i64 (cN : Int)) ∧ w'.cell? ⟨bb, ob + i, none⟩ = some (.bool v)) (go_keep) ((go_at_call 8; refine (tset_new cN v _ Td.tk hin HV.out hv0 (by omega)).mono ?_; rintro e w4 ⟨rfl, t4, K4⟩; have ca2 : w4.cell? ⟨ba, oa + i, none⟩ = some (.int .i64 (cN : Int)) := K4.cellOf fa1 na; have cb2 : w4.cell? ⟨bb, ob + i, none⟩ = some (.bool v) := K4.cellOf fb1 nb))
          have R4 : RefAt w4.drew M W H V bl := (Td.ra.keep K4 nm).drewN 1
          have F4 : Free w4.drew M := fun o => (Td.rf.keep Td.lt K4 nm) o
          have t5 : TabOk w4.drew tb pb W H (V + 1) (upd bl cN v) := t4.drewN 1
          have K5 : Keep (fun k => k = tb ∨ k = pb) wr.drew w4.drew := K4.drew
          clear fa fb fa1 fb1 t4 K4
          go_wp2
          go_region_held3 (fun w' => w'.cell? ⟨ba, oa + i, none⟩ = some (.int .i64 (cN : Int)) ∧ w'.cell? ⟨bb, ob + i, none⟩ = some (.bool v)) (go_keep) ((go_at_call 9; refine (rset_new _ _ _ R4 F4 hin HV.out hv0 (by omega)).mono ?_; rintro e w6 ⟨rfl, T6, R6, F6⟩; have ca3 : w6.cell? ⟨ba, oa + i, none⟩ = some (.int .i64 (cN : Int)) := (T6.cell (p := ⟨ba, oa + i, none⟩) na2).trans ca2; have cb3 : w6.cell? ⟨bb, ob + i, none⟩ = some (.bool v) := (T6.cell (p := ⟨bb, ob + i, none⟩) nb2).trans cb2))
          obtain ⟨Tn, Hn⟩ := Td.set K5 t5 T6 R6 F6
          have HB7 := Hn hBd (Nat.le_refl _)
          clear Hn T6 R6 F6 t5 K5 R4 F4 Td T HB
          go_wp2_with (go_at_call 10; refine (same_nil _).mono ?_; rintro e w' ⟨rfl, rfl⟩)
          go_roundg (40 - (i + 1))
          case measure => have := HG.out; omega
          case rel => exact ⟨i + 1, V + 1, upd bl cN v, by omega, rfl, by go_num, by omega, Tn, HB7⟩
    · have hend : ¬ (i : Int) < (k : Int) ∨ ((i : Int) < (k : Int) ∧ ¬ (i : Int) < (l : Int)) := by omega
      obtain ⟨N, hN⟩ : ∃ N : Nat, W * H = N := ⟨(W * H).toNat, by omega⟩
      have HN : Hid (W * H = N) := hN
      clear hN hik hy hz hV HG hi l1 l2 l3
      rcases hend with e1 | ⟨e1, e2⟩
      all_goals
        go_wp2
        go_loopg [17] (N + 2) (fun gk iv wr => ∃ (a : Int), -1 ≤ a ∧ a ≤ W * H + 1 ∧ gk = N + 2 - (a + 1).toNat ∧ iv = .int .i64 a ∧ Trio wr w.heap.size M tb pb W H V bl ∧ Below w.heap.size w wr)
        case atStart => exact ⟨-1, by omega, by omega, rfl, rfl, T, HB⟩
        case round =>
          clear T HB e1
          obtain ⟨a, a1, a2, hgk, rfl, T, HB⟩ := hrel
          have HG : Hid (gk = N + 2 - (a + 1).toNat) := hgk
          clear hgk
          have c0 := T.ra.c0
          have c1 := T.ra.c1
          by_cases hlt : a ≤ W * H
          · go_wp2
            go_quiet (fail)
            go_wp2
            have T1 := T.drewN nq
            have HB1 := below_drewN HB nq
            clear T HB c0 c1
            generalize wr.drewN nq = w4 at *
            go_loopg [18] 10 (fun gk iv wr => ∃ (d : Int), -1 ≤ d ∧ d ≤ 9 ∧ gk = 10 - (d + 1).toNat ∧ iv = .int .i64 d ∧ Trio wr w.heap.size M tb pb W H V bl ∧ Below w.heap.size w wr)
            case atStart => exact ⟨-1, by omega, by omega, rfl, rfl, T1, HB1⟩
            case round =>
              clear T1 HB1
              obtain ⟨d, d1, d2, hgd, rfl, T, HB⟩ := hrel
              have HD : Hid (gk = 10 - (d + 1).toNat) := hgd
              clear hgd
              by_cases hd9 : d < 9
              · cases hin : inB W H a with
                | false =>
                  have hst := steps_out a d wr T.tk hin
                  go_wp2_with (first | (go_at_call 11; refine hst.mono ?_; rintro e w5 ⟨rfl, m5, rfl⟩) | (go_at_call 12; refine (ris_out _ _ (T.drewN _).ra hin).mono ?_; rintro e w6 ⟨rfl, m6, rfl⟩) | (go_at_call 10; refine (same_err 1 _ (by decide)).mono ?_; rintro e w7 ⟨rfl, rfl⟩))
                  go_roundg (10 - (d + 1 + 1).toNat)
                  case measure => have := HD.out; omega
                  case rel => exact ⟨d + 1, by omega, by omega, rfl, rfl, T.drewN _, below_drewN HB _⟩
                | true =>
                  by_cases hdn : d < 0
                  · have hst := steps_dir_i a d wr T.tk hin (Or.inl hdn)
                    go_wp2_with (first | (go_at_call 11; refine hst.mono ?_; rintro e w5 ⟨rfl, m5, rfl⟩) | (go_at_call 12; refine (ris_in _ _ (T.drewN _).ra hin).mono ?_; rintro e w6 ⟨rfl, m6, rfl⟩) | (go_at_call 10; refine (same_err 1 _ (by decide)).mono ?_; rintro e w7 ⟨rfl, rfl⟩))
                    go_roundg (10 - (d + 1 + 1).toNat)
                    case measure => have := HD.out; omega
                    case rel => exact ⟨d + 1, by omega, by omega, rfl, rfl, T.drewN _, below_drewN HB _⟩
                  · by_cases hd8 : 7 < d
                    · have hst := steps_dir_i a d wr T.tk hin (Or.inr (by omega))
                      go_wp2_with (first | (go_at_call 11; refine hst.mono ?_; rintro e w5 ⟨rfl, m5, rfl⟩) | (go_at_call 12; refine (ris_in _ _ (T.drewN _).ra hin).mono ?_; rintro e w6 ⟨rfl, m6, rfl⟩) | (go_at_call 10; refine (same_err 1 _ (by decide)).mono ?_; rintro e w7 ⟨rfl, rfl⟩))
                      go_roundg (10 - (d + 1 + 1).toNat)
                      case measure => have := HD.out; omega
                      case rel => exact ⟨d + 1, by omega, by omega, rfl, rfl, T.drewN _, below_drewN HB _⟩
                    · obtain ⟨dN, hdN⟩ : ∃ dN : Nat, d = dN := ⟨d.toNat, by omega⟩
                      have hst := steps_i a dN wr T.tk hin (by omega)
                      have hrc := fun w' g => rclear_i (b := M) (V := V) (bl := bl) a dN w' g hin (by omega)
                      rw [← hdN] at hst hrc
                      generalize clr W H bl (a % W) (a / W) dN = r at hst hrc
                      clear hdN
                      go_wp2_with (first | (go_at_call 11; refine hst.mono ?_; rintro e w5 ⟨rfl, m5, rfl⟩) | (go_at_call 12; refine (ris_in _ _ (T.drewN _).ra hin).mono ?_; rintro e w6 ⟨rfl, m6, rfl⟩) | (go_at_call 13; refine (hrc _ (T.drewN _).ra).mono ?_; rintro e w7 ⟨rfl, m7, rfl⟩))
                      go_roundg (10 - (d + 1 + 1).toNat)
                      case measure => have := HD.out; omega
                      case rel => exact ⟨d + 1, by omega, by omega, rfl, rfl, T.drewN _, below_drewN HB _⟩
              · have hd9' : d = 9 := by omega
                subst hd9'
                go_wp2
                go_roundg (N + 2 - (a + 1 + 1).toNat)
                case measure => have := HG.out; have := HN.out; omega
                case rel => exact ⟨a + 1, by omega, by omega, rfl, rfl, T, HB⟩
          · go_wp2
            go_quiet (fail)
            go_wp2
            go_ret
            exact ⟨rfl, below_drewN HB nq⟩
end Go.Proofs.YtddbmkgmmhppnacDoor
